/-
  slices.Backward at spans: the iterator.
  Parts that grow in a variable.
  A region in the body of a range over a function, walked as any other.
  What Put lays.
  Parts one behind the other, whatever memory they lie in.
  What lay lays.
  What lay lays.
  What lay lays.
-/
import Derived.Test.YtjjjomikgpnahaaDoorSo
import Derived.Test.YtjjjomikgpnahaaDoorBr
import Derived.RangeFuncCalls
import Derived.Deep.RegionHeld
import Derived.OrdersIn
import Derived.TacticsIn
import Derived.Sort.CutIn
import Derived.Test.YtjjjomikgpnahaaDoorPkF
import Derived.Test.YtjjjomikgpnahaaDoorFiLay
namespace Go.Proofs.YtjjjomikgpnahaaDoor
open Go.RowKit Go.Shelf
set_option maxRecDepth 100000

abbrev Bl := { y : Nat × Sp // y.1 ≤ 100000 ∧ Okk y.2 }
abbrev benc (y : Bl) : Array Value := #[.int .i64 (y.1.1 : Nat), .agg #[.int .i64 y.1.2.1, .int .i64 y.1.2.2]]
/-- What comes: the places and spans, from the last one on. -/
def bwl (l : List Sp) : List (Nat × Sp) := (List.range l.length).map fun k => (l.length - (k + 1), atS l (l.length - (k + 1)))
theorem bwl_len (l : List Sp) : (bwl l).length = l.length := by simp [bwl]
theorem bl_of : ∀ (L : List (Nat × Sp)), (∀ y ∈ L, y.1 ≤ 100000 ∧ Okk y.2) → ∃ c : List Bl, c.map (·.1) = L
  | [], _ => ⟨[], rfl⟩
  | x :: l, h => by
    obtain ⟨c, hc⟩ := bl_of l (fun y hy => h y (List.mem_cons_of_mem _ hy))
    exact ⟨⟨x, h x (List.mem_cons_self ..)⟩ :: c, by rw [List.map_cons, hc]⟩
set_option maxHeartbeats 400000 in
theorem backward_any (w : World) (a : Option Addr) (n c : Nat) : Calls Tryd.prog 50 #[.slice a n c] w fun e w' => e = .returned (.func (.func 64) #[] #[.pointer (some ⟨w.heap.size, 0, none⟩)]) ∧ w' = w.alloc (.cells #[.slice a n c] 28) := by
  go_enter Tryd.func50, Tryd.ntmps50
  go_wp2
  go_ret
  exact ⟨rfl, rfl⟩
set_option maxHeartbeats 4000000 in
theorem back_stops (w0 : World) (b : Nat) (v : Value) (l : List Sp) (X : Nat → Prop) (n : Nat) (hn : 1 ≤ n) (hb : w0.heap[b]? = some (.cells #[v] 28 (0, 0))) (hv : SSp w0 v l) (hok : ∀ x ∈ l, Okk x) (hl : l.length ≤ 100000)
    (hX : ¬ X b) (hXr : ∀ k, rowB v = some k → k < w0.heap.size ∧ ¬ X k) :
    SeqStopsK Fence.wide n Tryd.prog 64 #[.pointer (some ⟨b, 0, none⟩)] benc (Kt w0.heap.size X) (fun xs => xs.map (·.1) = bwl l) (fun _ => True) l.length w0 := by
  intro lp J Jx W hW hJ hJx hY h0
  show CallsIn Fence.wide n Tryd.prog 64 #[.func (.yield lp) #[] #[], .pointer (some ⟨b, 0, none⟩)] W _
  refine callsIn_wide.2 ?_
  obtain ⟨cl, hcl⟩ := bl_of (bwl l) (fun y hy => by
    obtain ⟨k, hk, rfl⟩ := List.mem_map.1 hy
    rw [List.mem_range] at hk
    exact ⟨by simp only; omega, hok _ (atS_mem l _ (by omega))⟩)
  have hcll : cl.length = l.length := by rw [← bwl_len l, ← hcl, List.length_map]
  have hel : ∀ k, k < l.length → ∀ y : Bl, cl[k]? = some y → y.1 = (l.length - (k + 1), atS l (l.length - (k + 1))) := fun k hk y hy => by
    have h1 : (bwl l)[k]? = some y.1 := by rw [← hcl, List.getElem?_map, hy]; rfl
    unfold bwl at h1
    rw [List.getElem?_map, List.getElem?_range hk] at h1
    exact (Option.some.inj h1).symm
  have KW : Kt w0.heap.size X w0 W := Kt.below hW
  obtain ⟨a, c, rfl, h2, h3, h4⟩ := id hv.shape
  have FF : Hid (∀ V : World, Kt w0.heap.size X w0 V → V.cell? ⟨b, 0, none⟩ = some (.slice a l.length c) ∧ SSp V (.slice a l.length c) l) := fun V hk => ⟨by have := hk.blk (blk_lt hb) hX hb; simp [World.cell?, this], hv.kt hk hXr⟩
  have HJ0 : Hid (J [] W) := h0
  have HJ : Hid (∀ s A B, J s A → Below A.heap.size A B → J s B) := fun s A B h hb => hJ s A B none h (below_grown hb) (fun r e => by cases e)
  have HY : Hid (∀ pre x W1, J pre W1 → pre.length < l.length → YieldAt Fence.wide (n - 1) Tryd.prog lp (benc x) W1 fun e W' => (e = .returned (.bool true) ∧ J (pre ++ [x]) W' ∧ Kt w0.heap.size X W1 W') ∨ (e = .returned (.bool false) ∧ Jx (pre ++ [x]) W')) := hY
  have HKW : Hid (Kt w0.heap.size X w0 W) := KW
  have HCL : Hid (cl.map (·.1) = bwl l) := hcl
  have HEL : Hid (∀ k, k < l.length → ∀ y : Bl, cl[k]? = some y → y.1 = (l.length - (k + 1), atS l (l.length - (k + 1)))) := hel
  have HLN : Hid (cl.length = l.length) := hcll
  have k0 := (FF.out W KW).1
  clear hY hJ hJx h0 hcl hcll hel hb hv hok hX hXr hW KW h2 h3 h4
  obtain ⟨N, hN⟩ : ∃ N, N = l.length := ⟨_, rfl⟩
  have HNL : Hid (N = l.length) := hN
  rw [← hN] at FF HY HEL HLN k0 hl
  clear hN
  have y1 : IntKind.i64.wrap ((N : Int) - 1) = (N : Int) - 1 := by rw [IntKind.wrap_i64]; omega
  go_enter Tryd.func64, Tryd.ntmps64
  go_wp2
  refine (wpIn_wide (n := n)).1 ?_
  gi_loopw [3] (fun i wr => ∃ (k : Nat) (z : Int), k ≤ N ∧ i = .int .i64 z ∧ Hid (z + k + 1 = N) ∧ J (cl.take k) wr ∧ Kt w0.heap.size X w0 wr) (fun i _ => (intOf i + 1).toNat)
  case atStart => exact ⟨0, _, Nat.zero_le _, rfl, by unfold Hid; omega, by rw [List.take_zero]; exact HJ0.out, HKW.out⟩
  case round =>
    obtain ⟨k, z, hk, rfl, hz, hJs, hKs⟩ := hrel
    have HJS : Hid (J (cl.take k) wr) := hJs
    have HKS : Hid (Kt w0.heap.size X w0 wr) := hKs
    clear hJs hKs HJ0 HKW
    by_cases hlt : k < N
    · obtain ⟨m, rfl⟩ : ∃ m : Nat, z = m := ⟨z.toNat, by have := hz.out; omega⟩
      have hm : N - (k + 1) = m := by have := hz.out; omega
      have lt2 : (0 : Int) ≤ (m : Int) := by omega
      have lt3 : (m : Int) < (N : Int) := by have := hz.out; omega
      have lt4 : m < N := by omega
      obtain ⟨q1, q3⟩ := FF.out wr HKS.out
      have q4 := q3
      rw [show N = l.length from HNL.out] at q4
      obtain ⟨bb, off, rfl, hr⟩ := q4.at m (by rw [← HNL.out]; exact lt4)
      obtain ⟨r0, r1⟩ := spC hr
      have hkc : k < cl.length := by rw [HLN.out]; exact hlt
      obtain ⟨y, hy⟩ : ∃ y : Bl, cl[k]? = some y := ⟨cl[k], List.getElem?_eq_getElem hkc⟩
      have ye := HEL.out k hlt y hy
      rw [hm] at ye
      have htk : cl.take (k + 1) = cl.take k ++ [y] := by rw [List.take_add_one, hy]; rfl
      have HTK : Hid (cl.take (k + 1) = cl.take k ++ [y]) := htk
      obtain ⟨fn, tmps, assign, body, hyy, hR⟩ := HY.out (cl.take k) y wr HJS.out (by rw [List.length_take]; omega)
      dsimp only [benc] at hyy
      rw [ye] at hyy
      obtain ⟨x, hx⟩ : ∃ x, x = atS l m := ⟨_, rfl⟩
      rw [← hx] at hyy r0 r1
      have HR : Hid (RoundIn Fence.wide (n - 1) Tryd.prog lp fn tmps assign body wr _) := hR
      have xw : IntKind.i64.wrap ((m : Int) - 1) = (m : Int) - 1 := by rw [IntKind.wrap_i64]; omega
      have HZ1 : Hid ((m : Int) - 1 + ((k + 1 : Nat) : Int) + 1 = N) := by unfold Hid; have := hz.out; omega
      clear hR ye hy htk hx hr q3 q4 hkc hm hz
      gi_wp2
      refine HR.out.mono ?_
      rintro e W4 (⟨rfl, hJ4, hk4⟩ | ⟨rfl, hJx4⟩)
      · have HJ4 : Hid (J (cl.take (k + 1)) W4) := by unfold Hid; rw [HTK.out]; exact hJ4
        have HK4 : Hid (Kt w0.heap.size X w0 W4) := HKS.out.trans hk4
        clear hJ4 hk4 hyy
        gi_wp2
        go_roundw
        case rel => exact ⟨k + 1, (m : Int) - 1, by omega, by go_num, HZ1, HJ4.out, HK4.out⟩
        case measure => simp [intOf]
      · have HX4 : Hid (Jx (cl.take k ++ [y]) W4) := hJx4
        clear hJx4 hyy
        gi_wp2
        refine bodyPost_ret (results_none rfl _ _ _) rfl ?_
        exact ⟨⟨_, rfl⟩, .inr ⟨_, trivial, HX4.out⟩⟩
    · obtain rfl : k = N := by omega
      obtain rfl : z = -1 := by have := hz.out; omega
      have HJE : Hid (J cl wr) := by unfold Hid; have := HJS.out; rwa [List.take_of_length_le (by rw [HLN.out]; exact Nat.le_refl _)] at this
      clear HJS
      gi_wp2
      go_end0
      exact ⟨⟨_, rfl⟩, .inl ⟨cl, HCL.out, HJE.out⟩⟩
end Go.Proofs.YtjjjomikgpnahaaDoor
namespace Go.Proofs.YtjjjomikgpnahaaDoor
open Go.RowKit Go.Shelf
set_option maxRecDepth 100000

theorem Ow.keep {W W' : World} {B : Nat} {v : Value} {X : List Int} (h : Ow W B v X) (hk : ∀ (k : Nat) (cs : Array Value), v.ownBlock = some k → W.heap[k]? = some (.cells cs 5 (0, 0)) → W'.heap[k]? = some (.cells cs 5 (0, 0))) : Ow W' B v X := ⟨rs_keep h.1 hk, h.2⟩
/-- Parts, by the values in their row. -/
def PV (w : World) (B : Nat) (v : Value) (V : List Value) (ZZ : List (List Int)) : Prop := w.ownsRow B 25 1 v ZZ.length V ∧ ∀ i, i < ZZ.length → ∃ u, V[i]? = some u ∧ Ow w B u (ZZ.getD i [])
theorem PV.lp {w : World} {B : Nat} {v : Value} {V : List Value} {ZZ : List (List Int)} (h : PV w B v V ZZ) : LP w B v ZZ := ⟨V, h.1, h.2⟩
theorem PV.keep {W W' : World} {B : Nat} {v : Value} {V : List Value} {ZZ : List (List Int)} (h : PV W B v V ZZ) (hk : ∀ (k : Nat) (cs : Array Value) (t : TypeId), (t = 25 ∨ t = 5) → W.heap[k]? = some (.cells cs t (0, 0)) → W'.heap[k]? = some (.cells cs t (0, 0))) : PV W' B v V ZZ :=
  ⟨rs_keep h.1 (fun k cs _ hh => hk k cs _ (.inl rfl) hh), fun i hi => by
    obtain ⟨u, h1, h2⟩ := h.2 i hi
    exact ⟨u, h1, h2.keep (fun k cs _ hh => hk k cs _ (.inr rfl) hh)⟩⟩
theorem PV.below {W W' : World} {B : Nat} {v : Value} {V : List Value} {ZZ : List (List Int)} (h : PV W B v V ZZ) (hb : Below W.heap.size W W') : PV W' B v V ZZ := h.keep fun _ _ _ _ hh => blk_kept hh hb (blk_lt hh)
theorem PV.two {w : World} {B : Nat} {u1 u2 : Value} {X1 X2 : List Int} (h1 : Ow w B u1 X1) (h2 : Ow w B u2 X2) (hB : B ≤ w.heap.size) : PV (w.alloc (.cells #[u1, u2] 25)) B (.slice (some ⟨w.heap.size, 0, none⟩) 2 2) [u1, u2] [X1, X2] := by
  refine ⟨⟨rfl, .inr ⟨w.heap.size, 2, #[u1, u2], rfl, hB, heap_alloc_new _ _, Nat.le_refl _, by unfold maxLen; omega, rfl, rfl⟩⟩, fun i hi => ?_⟩
  rcases (show i = 0 ∨ i = 1 by simp at hi; omega) with rfl | rfl
  · exact ⟨u1, rfl, h1.below (al_below _ _)⟩
  · exact ⟨u2, rfl, h2.below (al_below _ _)⟩
/-- A variable that holds parts. -/
def PB (W : World) (k N : Nat) (vv : Value) (V : List Value) (ZZ : List (List Int)) : Prop := W.heap[k]? = some (.cells #[vv] 87 (0, 0)) ∧ PV W N vv V ZZ
theorem PB.below {W W' : World} {k N : Nat} {vv : Value} {V : List Value} {ZZ : List (List Int)} (h : PB W k N vv V ZZ) (hb : Below W.heap.size W W') : PB W' k N vv V ZZ := ⟨blk_kept h.1 hb (blk_lt h.1), h.2.below hb⟩
theorem PB.cell {W : World} {k N : Nat} {vv : Value} {V : List Value} {ZZ : List (List Int)} (h : PB W k N vv V ZZ) : W.cell? ⟨k, 0, none⟩ = some vv := by have := h.1; simp [World.cell?, this]
/-- What a part that is laid behind keeps. -/
structure Kq (N k : Nat) (W W' : World) : Prop where
  oth : KeepsOthers W W'
  os : W'.os = W.os
  tape : W'.tape = W.tape
  output : W'.output = W.output
  low : ∀ j, j < N → W'.heap[j]? = W.heap[j]?
  cel : ∀ (j : Nat) (cs : Array Value) (t : TypeId) (fr : Nat × Nat), j ≠ k → t ≠ 25 → W.heap[j]? = some (.cells cs t fr) → W'.heap[j]? = some (.cells cs t fr)
theorem Kq.refl (N k : Nat) (W : World) : Kq N k W W := ⟨KeepsOthers.refl _, rfl, rfl, rfl, fun _ _ => rfl, fun _ _ _ _ _ _ h => h⟩
theorem Kq.trans {N k : Nat} {A B C : World} (h : Kq N k A B) (h' : Kq N k B C) : Kq N k A C := ⟨h.oth.trans h'.oth, h'.os.trans h.os, h'.tape.trans h.tape, h'.output.trans h.output, fun j hj => (h'.low j hj).trans (h.low j hj), fun j cs t fr a b c => h'.cel j cs t fr a b (h.cel j cs t fr a b c)⟩
theorem Kq.of {N k : Nat} {A B : World} (h : Below A.heap.size A B) (hN : N ≤ A.heap.size) : Kq N k A B := ⟨keeps_below h, h.os, h.tape, h.output, fun j hj => h.block j (by omega), fun j cs t fr _ _ hh => blk_kept hh h (blk_lt hh)⟩
theorem Kq.bel {N k n : Nat} {w A B : World} (h : Kq N k A B) (hn : n ≤ N) (hb : Below n w A) : Below n w B := hb.trans ⟨h.os, h.tape, h.output, h.oth.size, fun j hj => h.low j (by omega)⟩
theorem Kq.kt {N k n b : Nat} {A B : World} {X : Nat → Prop} (h : Kq N k A B) (hX : ∀ j, j < n → ¬ X j → j < N ∨ j = b) (hbk : b ≠ k) {cs : Array Value} {t : TypeId} {fr : Nat × Nat} (ht : t ≠ 25) (hb : A.heap[b]? = some (.cells cs t fr)) : Kt n X A B := fun j o hj hx ho _ => by
  rcases hX j hj hx with q | rfl
  · exact (h.low j q).trans ho
  · rw [hb] at ho
    cases ho
    exact h.cel _ _ _ _ hbk ht hb
theorem pb_step {W w4 : World} {k N : Nat} {vv v' u : Value} {V : List Value} {ZZ : List (List Int)} {X : List Int} (h : PB W k N vv V ZZ) (hx : Ow W N u X) (hN : N ≤ W.heap.size) (hk : N ≤ k)
    (ho : w4.ownsRow N 25 1 v' (ZZ.length + 1) (V ++ [u])) (hg : (W.alloc (.cells #[u] 25)).grownBy w4 vv.ownBlock) :
    (w4.cell? ⟨k, 0, none⟩ = some vv ∧ w4.frozen? ⟨k, 0, none⟩ = false) ∧ PB (w4.setCell ⟨k, 0, none⟩ v') k N v' (V ++ [u]) (ZZ ++ [X]) ∧ Kq N k W (w4.setCell ⟨k, 0, none⟩ v') ∧ Kq N k W w4 := by
  have hal := al_below W (.cells #[u] 25)
  have hge := own_base h.2.1
  have hrow : ∀ j o, vv.ownBlock = some j → W.heap[j]? = some o → ∃ cs, o = .cells cs 25 (0, 0) := fun j o e hj => by
    obtain ⟨q1, q2⟩ := h.2.1
    rcases q2 with ⟨rfl, _⟩ | ⟨g, cap, cur, rfl, _, hh, _⟩
    · cases e
    · cases e
      rw [hh] at hj
      cases hj
      exact ⟨_, rfl⟩
  have hcel : ∀ (j : Nat) (cs : Array Value) (t : TypeId) (fr : Nat × Nat), t ≠ 25 → W.heap[j]? = some (.cells cs t fr) → w4.heap[j]? = some (.cells cs t fr) := fun j cs t fr ht hj => (hg.block j (by have := hal.size; have := blk_lt hj; omega) (fun e => by
    obtain ⟨cs', e'⟩ := hrow j _ e.symm hj
    cases e'
    exact ht rfl)).trans ((hal.block j (blk_lt hj)).trans hj)
  have hb1 : w4.heap[k]? = some (.cells #[vv] 87 (0, 0)) := hcel _ _ _ _ (by decide) h.1
  have hke : KeepsOthers W w4 := ⟨Nat.le_trans hal.size hg.size, fun j o hj hc => by
    refine (hg.block j (by have := hal.size; have := blk_lt hj; omega) (fun e => ?_)).trans ((hal.block j (blk_lt hj)).trans hj)
    obtain ⟨cs, rfl⟩ := hrow j o e.symm hj
    cases hc⟩
  have hset : ∀ (j : Nat) (cs : Array Value) (t : TypeId), t ≠ 87 → w4.heap[j]? = some (.cells cs t (0, 0)) → (w4.setCell ⟨k, 0, none⟩ v').heap[j]? = some (.cells cs t (0, 0)) := fun j cs t ht hj => by
    rw [Below.heap_setCell _ _ _ _ (fun e => by
      have e' : j = k := e
      rw [e', hb1] at hj
      cases hj
      exact ht rfl)]
    exact hj
  have hVl : V.length = ZZ.length := by have := h.2.1.1; simpa using this
  have ap : ∀ {y : Value} {Y : List Int}, Ow W N y Y → Ow w4 N y Y := fun hy => ⟨own_apart (own_below h.2.1 hal) (own_below hy.1 hal) (by decide) hg, hy.2⟩
  have hpv : PV w4 N v' (V ++ [u]) (ZZ ++ [X]) := by
    refine ⟨by rw [List.length_append]; exact ho, fun i hi => ?_⟩
    rw [List.length_append, List.length_singleton] at hi
    rcases Nat.lt_or_ge i ZZ.length with h' | h'
    · obtain ⟨z, hz, oz⟩ := h.2.2 i h'
      refine ⟨z, by rw [List.getElem?_append_left (by omega)]; exact hz, ?_⟩
      have e : (ZZ ++ [X]).getD i [] = ZZ.getD i [] := by simp [List.getD, List.getElem?_append_left h']
      rw [e]
      exact ap oz
    · obtain rfl : i = ZZ.length := by omega
      refine ⟨u, by rw [List.getElem?_append_right (by omega), hVl]; simp, ?_⟩
      have e : (ZZ ++ [X]).getD ZZ.length [] = X := by simp [List.getD]
      rw [e]
      exact ap hx
  have hkq : Kq N k W w4 := ⟨hke, hg.os.trans hal.os, hg.tape.trans hal.tape, hg.output.trans hal.output, fun j hj => (hg.block j (by have := hal.size; omega) (fun e => by have := hge j e.symm; omega)).trans (hal.block j (by omega)), fun j cs t fr _ ht hh => hcel j cs t fr ht hh⟩
  refine ⟨⟨by simp [World.cell?, hb1], by simp [World.frozen?, hb1]⟩, ⟨set_one hb1, hpv.keep (fun j cs t ht hj => hset j cs t (by rcases ht with rfl | rfl <;> decide) hj)⟩, hkq.trans ?_, hkq⟩
  refine ⟨KeepsOthers.setCell _ _ _, rfl, rfl, rfl, fun j hj => Below.heap_setCell _ _ _ _ (show j ≠ k by omega), fun j cs t fr hj _ hh => ?_⟩
  rw [Below.heap_setCell _ _ _ _ hj]
  exact hh
/-- The parts behind what came. -/
def prtA (l : List Sp) (y : Nat × Sp) : List (List Int) := (if y.1 < l.length - 1 then [nB ((atS l (y.1 + 1)).1 - y.2.2 - 2)] else []) ++ [nB (y.2.2 - y.2.1)]
def prsA (l : List Sp) (L : List (Nat × Sp)) : List (List Int) := [nB (atS l (l.length - 1)).2, nB ((l.length - 1 : Nat) : Int)] ++ (L.map (prtA l)).flatten
theorem prsA_snoc (l : List Sp) (L : List (Nat × Sp)) (y : Nat × Sp) : prsA l (L ++ [y]) = prsA l L ++ prtA l y := by unfold prsA; rw [List.map_append, List.flatten_append]; simp
theorem prsA_bwl (l : List Sp) : prsA l (bwl l) = prs l l.length := by
  unfold bwl
  suffices H : ∀ k, prsA l ((List.range k).map fun k => (l.length - (k + 1), atS l (l.length - (k + 1)))) = prs l k from H _
  intro k
  induction k with
  | zero => rfl
  | succ k ih =>
    rw [List.range_succ, List.map_append, List.map_singleton, prsA_snoc, ih]
    rfl
theorem prsA_len (l : List Sp) (L : List (Nat × Sp)) : (prsA l L).length ≤ 2 + 2 * L.length := by
  unfold prsA
  rw [List.length_append]
  suffices H : (L.map (prtA l)).flatten.length ≤ 2 * L.length by simp only [List.length_cons, List.length_nil]; omega
  induction L with
  | nil => simp
  | cons y L ih =>
    have : (prtA l y).length ≤ 2 := by unfold prtA; rw [List.length_append]; split <;> simp
    rw [List.map_cons, List.flatten_cons, List.length_append, List.length_cons]
    omega
theorem wid_kq {N k : Nat} {A B : World} (h : Kq N k A B) (hN : 1 < N) (hw : Fi.Wid A) : Fi.Wid B := hw.below (B := N) ⟨h.os, h.tape, h.output, h.oth.size, h.low⟩ hN
theorem Kq.drew (N k : Nat) (W : World) : Kq N k W W.drew := ⟨KeepsOthers.drew W, rfl, rfl, rfl, fun _ _ => rfl, fun _ _ _ _ _ _ h => h⟩
theorem one_cell {W : World} {u : Value} {t : TypeId} : ∀ j y, [u][j]? = some y → (W.alloc (.cells #[u] t)).cell? ((⟨W.heap.size, 0, none⟩ : Addr).add j) = some y := fun j y hj => by
  rw [Addr.add_lit, Nat.zero_add, World.cell?_alloc_at _ _ _ _ rfl]
  cases j with
  | zero => simpa using hj
  | succ j => simp at hj
theorem own_keeps {W W' : World} {row : Option Nat} {B : Nat} (hg : W.grownBy W' row) (hr : ∀ k, row = some k → B ≤ k ∧ ∃ o, W.heap[k]? = some o ∧ o.isCells = false) {k : Nat} {cs : Array Value} {t : TypeId} {fr : Nat × Nat} (h : W.heap[k]? = some (.cells cs t fr)) : W'.heap[k]? = some (.cells cs t fr) :=
  (hg.block k (blk_lt h) (fun e => by
    obtain ⟨_, o, ho, hc⟩ := hr k e.symm
    rw [h] at ho
    cases ho
    cases hc)).trans h
end Go.Proofs.YtjjjomikgpnahaaDoor
namespace Go.Proofs.YtjjjomikgpnahaaDoor
open Go.RowKit Go.Shelf
set_option maxRecDepth 100000

theorem oper_round {P : Program} (lp n : Nat) {o : Oper} {a : Act} {w : World} {K : Act → World → Prop} {Q : Exit → Act → World → Prop} (hd : ∀ c, o.op ≠ .defer c) (h : o.wp P a w K Q) : o.wpIn (Fence.wide.inRound lp) n P a w K Q := by
  unfold Oper.wp at h
  unfold Oper.wpIn
  refine ⟨fun _ _ => trivial, ?_⟩
  have e : Oper.semAt (Fence.wide.inRound lp).round a.eval o = execOp a.eval o := Oper.semAt_some lp a.eval o hd
  rw [e]
  generalize (execOp a.eval o).run P w = r at *
  cases r with
  | ok x w' =>
    cases x <;> simp only [Oper.upon, Oper.uponIn] at h ⊢ <;>
      first
        | exact h
        | exact ⟨fun hh => (by cases hh), CallsIn.inRound lp (callsIn_wide.2 h)⟩
        | exact ⟨fun hh => (by cases hh), fun c cs _ => (by
            obtain ⟨v, w', q1, q2⟩ := h c cs
            exact ⟨v, w', q1, stepsIn_wide.2 q2⟩)⟩
  | halt x w' => cases x <;> simp only [Oper.upon, Oper.uponIn] at h ⊢ <;> exact h
def noDefer (ops : Array Oper) : Bool := ops.toList.all fun o => match o.op with
  | .defer _ => false
  | _ => true
theorem noDefer_spec {ops : Array Oper} (h : noDefer ops = true) (i : Nat) (o : Oper) (ho : ops[i]? = some o) : ∀ c, o.op ≠ .defer c := fun c e => by
  unfold noDefer at h
  rw [List.all_eq_true] at h
  have := h o (by
    obtain ⟨hi, e⟩ := Array.getElem?_eq_some_iff.1 ho
    rw [← e]
    simp)
  rw [e] at this
  cases this
theorem any_round {P : Program} (lp n : Nat) {ops : Array Oper} {Q : Exit → Act → World → Prop} {md : Region.Mode} (hd : noDefer ops = true) (hQ : ¬ LetsOut Q) : ∀ (fuel : Nat) (listed : Array Bool) (a : Act) (w : World), wpAny P md ops Q fuel listed a w → wpAnyIn (Fence.wide.inRound lp) n P md ops Q fuel listed a w
  | 0, _, _, _, h => h
  | fuel + 1, listed, a, w, h => ⟨h.1, fun i hi => by
      have h2 := h.2 i hi
      unfold wpOp at h2
      unfold wpOpIn
      cases ho : ops[i]? with
      | none =>
        rw [ho] at h2
        exact any_round lp n hd hQ fuel _ _ _ h2
      | some o =>
        rw [ho] at h2
        simp only at h2 ⊢
        by_cases hw : Region.wanted o (yielded ops a.tmps) = true
        · rw [if_pos hw] at h2 ⊢
          rcases h2 with h2 | h2
          · exact oper_round lp n (noDefer_spec hd i o ho) (Oper.wp_mono (fun a' w' q => any_round lp n hd hQ fuel _ _ _ q) h2)
          · exact absurd h2.2 hQ
        · rw [if_neg hw] at h2 ⊢
          exact ⟨fun _ _ => trivial, any_round lp n hd hQ fuel _ _ _ h2⟩⟩
/-- A region in a round, where what holds at each step is told. -/
theorem region_round {P : Program} (lp n : Nat) {S : World → Prop} {id : Nat} {ops : Array Oper} {Q : Exit → Act → World → Prop} {a : Act} {w : World} (hQ : ¬ LetsOut Q) (hd : noDefer ops = true) (hm : P.follows .mixedOrders = true) (hS : S w.drew)
    (h : S w.drew → wpAnyH P .any ops Q S ops.size (Array.replicate ops.size false) a w.drew) : (Code.region id ops true).wpIn (Fence.wide.inRound lp) n P Q a w :=
  wpIn_region_any hm (any_round lp n hd hQ _ _ _ _ (wpAny_of_held _ _ _ _ (h hS)))
end Go.Proofs.YtjjjomikgpnahaaDoor
namespace Go.Proofs.YtjjjomikgpnahaaDoor
open Go.RowKit Go.Shelf
set_option maxRecDepth 100000

attribute [local go_sem] Oper.semAt_some
/-- No panic. -/
def noP (Q : Exit → Act → World → Prop) : Exit → Act → World → Prop
  | .panic _, _, _ => False
  | e, a, w => Q e a w
theorem noP_le {Q : Exit → Act → World → Prop} : ∀ e a w, noP Q e a w → Q e a w := fun e a w h => by
  cases e <;> first | exact h | exact h.elim
def PB' (W : World) (k N : Nat) (u0 vv : Value) (V : List Value) (ZZ : List (List Int)) : Prop := W.heap[k]? = some (.cells #[u0] 87 (0, 0)) ∧ PV W N vv V ZZ
theorem PB'.cell {W : World} {k N : Nat} {u0 vv : Value} {V : List Value} {ZZ : List (List Int)} (h : PB' W k N u0 vv V ZZ) : W.cell? ⟨k, 0, none⟩ = some u0 := by have := h.1; simp [World.cell?, this]
theorem PB'.frz {W : World} {k N : Nat} {u0 vv : Value} {V : List Value} {ZZ : List (List Int)} (h : PB' W k N u0 vv V ZZ) : W.frozen? ⟨k, 0, none⟩ = false := by have := h.1; simp [World.frozen?, this]
theorem PB'.set {W : World} {k N : Nat} {u0 vv : Value} {V : List Value} {ZZ : List (List Int)} (h : PB' W k N u0 vv V ZZ) : PB (W.setCell ⟨k, 0, none⟩ vv) k N vv V ZZ :=
  ⟨set_one h.1, h.2.keep (fun j cs t ht hh => by
    rw [Below.heap_setCell _ _ _ _ (fun e => by
      have e' : j = k := e
      have := h.1
      rw [e'] at hh
      rw [hh] at this
      cases this
      rcases ht with ht | ht <;> revert ht <;> decide)]
    exact hh)⟩
set_option maxHeartbeats 8000000 in
theorem put_yes (w : World) (a : Option Addr) (c : Nat) (l : List Sp) (hw : Fi.Wid w) (hu : SSp w (.slice a l.length c) l) (hur : ∀ k, rowB (.slice a l.length c) = some k → k < w.heap.size) (hc : Canon l) (h0 : l ≠ []) (h64 : l.length ≤ 64) :
    Calls Tryd.prog 33 #[.slice a l.length c] w fun e w' => ∃ v', e = .returned (.tuple #[v', .int .i64 0]) ∧ Ow w' w.heap.size v' (putB l) ∧ Below w.heap.size w w' := by
  have b1 : Below w.heap.size w (w.alloc (.cells #[.slice a l.length c] 28)) := al_below _ _
  have cc := check_any _ _ l (hu.kept b1) (by omega)
  have hck : chkL l = 0 := by unfold chkL; rw [if_neg (by omega), setL_canon hc, if_neg (fun e => e.elim h0 (fun e => e rfl))]
  rw [hck] at cc
  have hlp := List.length_pos_iff.2 h0
  obtain ⟨bb, off, rfl, -⟩ := hu.at 0 hlp
  obtain ⟨m, hm⟩ : ∃ m, m = l.length - 1 := ⟨_, rfl⟩
  have HM : Hid (m = l.length - 1) := hm
  have g1 : (w.alloc (.cells #[.slice (some ⟨bb, off, none⟩) l.length c] 28)).heap[w.heap.size]? = some (.cells #[.slice (some ⟨bb, off, none⟩) l.length c] 28 (0, 0)) := heap_alloc_new _ _
  have HG1 : Hid ((w.alloc (.cells #[.slice (some ⟨bb, off, none⟩) l.length c] 28)).heap[w.heap.size]? = some (.cells #[.slice (some ⟨bb, off, none⟩) l.length c] 28 (0, 0))) := g1
  have HU : Hid (SSp w (.slice (some ⟨bb, off, none⟩) l.length c) l) := hu
  have HW : Hid (Fi.Wid w) := hw
  have HC : Hid (Canon l) := hc
  have HB1 : Hid (Below w.heap.size w (w.alloc (.cells #[.slice (some ⟨bb, off, none⟩) l.length c] 28))) := b1
  have hbw : bb < w.heap.size := hur bb rfl
  have H0 : Hid (l ≠ []) := h0
  have hsz1 : (w.alloc (.cells #[.slice (some ⟨bb, off, none⟩) l.length c] 28)).heap.size = w.heap.size + 1 := by simp
  have HSZ1 : Hid ((w.alloc (.cells #[.slice (some ⟨bb, off, none⟩) l.length c] 28)).heap.size = w.heap.size + 1) := hsz1
  clear g1 hu hw hc hck h0 hur b1 hsz1
  obtain ⟨n, hn⟩ : ∃ n, n = l.length := ⟨_, rfl⟩
  have HN : Hid (n = l.length) := hn
  rw [← hn] at cc HG1 HU HB1 HSZ1 h64 hlp hm ⊢
  have hm1 : (n : Int) - 1 = (m : Int) := by omega
  have hwr : IntKind.i64.wrap ((n : Int) - 1) = (m : Int) := by rw [IntKind.wrap_i64]; omega
  have hmn : (m : Int) < (n : Int) := by omega
  clear hn hm
  obtain ⟨w1, hw1⟩ : ∃ w1, w1 = w.alloc (.cells #[.slice (some ⟨bb, off, none⟩) n c] 28) := ⟨_, rfl⟩
  rw [← hw1] at cc HG1 HB1 HSZ1
  refine (callsIn_wide (n := 9)).1 ?_
  refine callsIn_of_wp_marks Tryd.func33 rfl trivial ?_ rfl
  simp only [Tryd.ntmps33, List.size_toArray, List.length_cons, List.length_nil, Nat.reduceAdd, Nat.reduceSub, Array.replicate_succ, Array.replicate_zero, List.push_toArray, List.append_toArray, List.nil_append, List.cons_append]
  refine wpIn_mono (Q := noP (bodyPostM Fence.wide 9 Tryd.prog Tryd.f33 _)) ?_ noP_le
  refine wpIn_wide.2 ?_
  have k1 : w1.cell? ⟨w.heap.size, 0, none⟩ = some (.slice (some ⟨bb, off, none⟩) n c) := by have := HG1.out; simp [World.cell?, this]
  go_wp2_with fail
  rw [← hw1]
  clear hw1
  go_wp2_with fail
  refine cc.mono ?_
  rintro e w2 ⟨rfl, b2⟩
  have HB2 : Hid (Below w.heap.size w w2) := HB1.out.trans (b2.mono HB1.out.size)
  have HG2 : Hid (w2.heap[w.heap.size]? = some (.cells #[.slice (some ⟨bb, off, none⟩) n c] 28 (0, 0))) := blk_kept HG1.out b2 (blk_lt HG1.out)
  have k2 : w2.cell? ⟨w.heap.size, 0, none⟩ = some (.slice (some ⟨bb, off, none⟩) n c) := by have := HG2.out; simp [World.cell?, this]
  have HS2 : Hid (w.heap.size + 1 ≤ w2.heap.size) := by have := HSZ1.out; have := b2.size; unfold Hid; omega
  clear cc b2 k1 HG1 HB1 HSZ1
  obtain ⟨w3, hw3⟩ : ∃ w3, w3 = w2.alloc (.cells #[.int .i64 (m : Int)] 3) := ⟨_, rfl⟩
  have b3 : Below w2.heap.size w2 w3 := by rw [hw3]; exact al_below _ _
  have HG3 : Hid (w3.heap[w2.heap.size]? = some (.cells #[.int .i64 (m : Int)] 3 (0, 0))) := by unfold Hid; rw [hw3]; exact heap_alloc_new _ _
  have HL3 : Hid (w3.heap[w.heap.size]? = some (.cells #[.slice (some ⟨bb, off, none⟩) n c] 28 (0, 0))) := blk_kept HG2.out b3 (blk_lt HG2.out)
  have HS3 : Hid (w3.heap.size = w2.heap.size + 1) := by unfold Hid; rw [hw3]; simp
  have HB3 : Hid (Below w.heap.size w w3) := HB2.out.trans (b3.mono HB2.out.size)
  clear b3 HG2 HB2
  go_upto_region 5 with fail
  rw [← hw3]
  clear hw3 k2
  generalize hT : (atS l m).2 = T
  have HT : Hid ((atS l m).2 = T) := hT
  have FL : Hid (∀ x, From w3 x → x.cell? ⟨w.heap.size, 0, none⟩ = some (.slice (some ⟨bb, off, none⟩) n c) ∧ x.cell? ⟨w2.heap.size, 0, none⟩ = some (.int .i64 (m : Int)) ∧ x.cell? ⟨bb, off + m * 2 + 1, none⟩ = some (.int .i64 T)) := fun x hx => by
    have e1 := blk_kept HL3.out hx (blk_lt HL3.out)
    have e2 := blk_kept HG3.out hx (blk_lt HG3.out)
    obtain ⟨b', off', e, hr⟩ := (HU.out.kept (HB3.out.trans (Below.mono hx HB3.out.size))).at m (by rw [← HN.out]; omega)
    cases e
    exact ⟨by simp [World.cell?, e1], by simp [World.cell?, e2], by rw [← hT]; exact (spC hr).2⟩
  have FW : Hid (∀ x, From w3 x → Fi.Wid x) := fun x hx => (HW.out.below HB3.out HW.out.pos).below hx (Nat.lt_of_lt_of_le HW.out.pos HB3.out.size)
  have CT : Hid (∀ x, Fi.Wid x → Calls Tryd.prog 30 #[.int .i64 T] x fun r w' => ∃ v, r = .returned v ∧ Ow w' x.heap.size v (nB T) ∧ Below x.heap.size x w') := fun x hx => fnum_own T x hx
  have CM : Hid (∀ x, Fi.Wid x → Calls Tryd.prog 30 #[.int .i64 (m : Int)] x fun r w' => ∃ v, r = .returned v ∧ Ow w' x.heap.size v (nB (m : Int)) ∧ Below x.heap.size x w') := fun x hx => fnum_own (m : Int) x hx
  have HPS : Hid (prsA l [] = [nB T, nB (m : Int)]) := by
    unfold Hid prsA
    rw [← HM.out, hT]
    rfl
  clear hT HT
  generalize nB T = X1 at *
  generalize nB (m : Int) = X2 at *
  have lt5 : (m : Int) < (n : Int) := hmn
  go_cut [6] from 17 to 25 (fun s6 wx => ∃ kP vv V, s6 = .pointer (some ⟨kP, 0, none⟩) ∧ PB wx kP w3.heap.size vv V [X1, X2] ∧ w3.heap.size ≤ kP ∧ From w3 wx)
  case first =>
    refine wp_region_held_drew (S := From w3) (by kernel_rfl) (Below.drew (Below.refl _ _)) (fun _ => ?_)
    refine wpAnyH_name (fun u0 hu0 => ?_)
    have bu0 : Below w3.heap.size w3 u0 := by rw [hu0.out]; exact Below.drew (Below.refl _ _)
    refine wpAnyH_take (i := 0) (oi := { dst := some 17, op := Op.load 28 (Operand.tmp 1), type := 28, pos := "ranges.go:148", after := #[], guard := none }) (v := .slice (some ⟨bb, off, none⟩) n c) rfl (by kernel_rfl) (by kernel_rfl) (by kernel_rfl) (fun _ _ _ h => h) (Or.inl ⟨by rfl, ?yr1⟩) bu0 ?rr1
    case yr1 => (intro w hSw; obtain ⟨t0, t1, t2⟩ := FL.out w hSw; go_simp; try with_reducible rfl)
    try simp only [Act.put, List.setIfInBounds_toArray, List.set_cons_zero, List.set_cons_succ]
    refine wpAnyH_take (i := 1) (oi := { dst := some 18, op := Op.load 3 (Operand.tmp 5), type := 3, pos := "ranges.go:148", after := #[], guard := none }) (v := .int .i64 (m : Int)) rfl (by kernel_rfl) (by kernel_rfl) (by kernel_rfl) (fun _ _ _ h => h) (Or.inl ⟨by rfl, ?yr2⟩) bu0 ?rr2
    case yr2 => (intro w hSw; obtain ⟨t0, t1, t2⟩ := FL.out w hSw; go_simp; try with_reducible rfl)
    try simp only [Act.put, List.setIfInBounds_toArray, List.set_cons_zero, List.set_cons_succ]
    refine wpAnyH_take (i := 2) (oi := { dst := some 19, op := Op.indexAddr 28 (Operand.tmp 17) (Operand.tmp 18), type := 0, pos := "ranges.go:148", after := #[{ on := 0, ground := Ground.data }, { on := 1, ground := Ground.data }], guard := none }) (v := ?vr3) rfl (by kernel_rfl) (by kernel_rfl) (by kernel_rfl) (fun _ _ _ h => h) (Or.inl ⟨by rfl, ?yr3⟩) bu0 ?rr3
    case yr3 => (intro w hSw; go_simp; try with_reducible rfl)
    try simp only [Act.put, List.setIfInBounds_toArray, List.set_cons_zero, List.set_cons_succ]
    refine wpAnyH_take (i := 3) (oi := { dst := some 20, op := Op.fieldAddr 109 (Operand.tmp 19) 1, type := 0, pos := "ranges.go:148", after := #[{ on := 2, ground := Ground.data }], guard := none }) (v := ?vr4) rfl (by kernel_rfl) (by kernel_rfl) (by kernel_rfl) (fun _ _ _ h => h) (Or.inl ⟨by rfl, ?yr4⟩) bu0 ?rr4
    case yr4 => (intro w hSw; go_simp; try with_reducible rfl)
    try simp only [Act.put, List.setIfInBounds_toArray, List.set_cons_zero, List.set_cons_succ]
    refine wpAnyH_take (i := 4) (oi := { dst := some 21, op := Op.load 3 (Operand.tmp 20), type := 3, pos := "ranges.go:148", after := #[{ on := 3, ground := Ground.data }], guard := none }) (v := .int .i64 T) rfl (by kernel_rfl) (by kernel_rfl) (by kernel_rfl) (fun _ _ _ h => h) (Or.inl ⟨by rfl, ?yr5⟩) bu0 ?rr5
    case yr5 => (intro w hSw; obtain ⟨t0, t1, t2⟩ := FL.out w hSw; go_simp; try with_reducible rfl)
    try simp only [Act.put, List.setIfInBounds_toArray, List.set_cons_zero, List.set_cons_succ]
    refine wpAnyH_take (i := 6) (oi := { dst := some 23, op := Op.load 3 (Operand.tmp 5), type := 3, pos := "ranges.go:148", after := #[], guard := none }) (v := .int .i64 (m : Int)) rfl (by kernel_rfl) (by kernel_rfl) (by kernel_rfl) (fun _ _ _ h => h) (Or.inl ⟨by rfl, ?yr6⟩) bu0 ?rr6
    case yr6 => (intro w hSw; obtain ⟨t0, t1, t2⟩ := FL.out w hSw; go_simp; try with_reducible rfl)
    try simp only [Act.put, List.setIfInBounds_toArray, List.set_cons_zero, List.set_cons_succ]
    refine wpAnyH_ready (rs := [5, 9]) (by kernel_rfl) (by simp) ?_
    refine AllReadyH.cons (o := { dst := some 22, op := Op.call { callee := Callee.value (Operand.func 30), args := #[Operand.tmp 21], argTypes := #[3] }, type := 25, pos := "ranges.go:148", after := #[{ on := 4, ground := Ground.data }], guard := none }) rfl (fun KK hKK => ?_) ?_
    · have wdu7 := (FW.out _ bu0)
      go_simp
      refine (CT.out _ wdu7).mono ?_
      rintro e u7' ⟨vu7, rfl, ou7, bu7'⟩
      have ou7 := Ow.mono ou7 (Below.size bu0)
      obtain ⟨ta, tc, rfl⟩ := Ow.shape ou7
      (try go_wp2_with fail)
      refine hKK.out _ _ (bu0.trans (Below.mono (bu7') bu0.size)) (fun _ => ?_)
      clear hKK KK
      try simp only [Act.put, List.setIfInBounds_toArray, List.set_cons_zero, List.set_cons_succ]
      refine wpAnyH_name (fun u7 hu7 => ?_)
      have bu7 : Below w3.heap.size w3 u7 := by rw [hu7.out]; exact (bu0.trans (Below.mono (bu7') bu0.size))
      have qu7 : Below u0.heap.size u0 u7 := by rw [hu7.out]; exact (bu7')
      have O5 : Hid (Ow u7 w3.heap.size (.slice ta X1.length tc) X1) := by unfold Hid; rw [hu7.out]; exact ou7
      refine wpAnyH_ready (rs := [7, 9]) (by kernel_rfl) (by simp) ?_
      refine AllReadyH.cons (o := { dst := some 24, op := Op.call { callee := Callee.value (Operand.func 30), args := #[Operand.tmp 23], argTypes := #[3] }, type := 25, pos := "ranges.go:148", after := #[{ on := 6, ground := Ground.data }, { on := 5, ground := Ground.chain }], guard := none }) rfl (fun KK hKK => ?_) ?_
      · have wdu8 := (FW.out _ bu7)
        go_simp
        refine (CM.out _ wdu8).mono ?_
        rintro e u8' ⟨vu8, rfl, ou8, bu8'⟩
        have ou8 := Ow.mono ou8 (Below.size bu7)
        obtain ⟨sa, sc, rfl⟩ := Ow.shape ou8
        (try go_wp2_with fail)
        refine hKK.out _ _ (bu7.trans (Below.mono (bu8') bu7.size)) (fun _ => ?_)
        clear hKK KK
        try simp only [Act.put, List.setIfInBounds_toArray, List.set_cons_zero, List.set_cons_succ]
        refine wpAnyH_name (fun u8 hu8 => ?_)
        have bu8 : Below w3.heap.size w3 u8 := by rw [hu8.out]; exact (bu7.trans (Below.mono (bu8') bu7.size))
        have qu8 : Below u7.heap.size u7 u8 := by rw [hu8.out]; exact (bu8')
        have O7 : Hid (Ow u8 w3.heap.size (.slice sa X2.length sc) X2) := by unfold Hid; rw [hu8.out]; exact ou8
        have O57 : Hid (Ow u8 w3.heap.size (.slice ta X1.length tc) X1) := by first | exact O5.out.below qu8 | exact (O5.out.below qnope).below qu8
        refine wpAnyH_ready (rs := [8, 9]) (by kernel_rfl) (by simp) ?_
        refine AllReadyH.cons (o := { dst := some 25, op := Op.buildSlice 87 2 #[(0, Operand.tmp 22), (1, Operand.tmp 24)], type := 87, pos := "ranges.go:148", after := #[{ on := 5, ground := Ground.data }, { on := 7, ground := Ground.data }], guard := none }) rfl (fun KK hKK => ?_) ?_
        · have pu9 := PV.two (w := u8) (B := w3.heap.size) (by first | exact O57.out | exact O57.out.below qnope) (by first | exact O7.out | exact O7.out.below qnope) (Below.size bu8)
          go_simp
          refine hKK.out _ _ (bu8.trans (Below.mono (al_below _ _) bu8.size)) (fun _ => ?_)
          clear hKK KK
          try simp only [Act.put, List.setIfInBounds_toArray, List.set_cons_zero, List.set_cons_succ]
          refine wpAnyH_name (fun u9 hu9 => ?_)
          have bu9 : Below w3.heap.size w3 u9 := by rw [hu9.out]; exact (bu8.trans (Below.mono (al_below _ _) bu8.size))
          have qu9 : Below u8.heap.size u8 u9 := by rw [hu9.out]; exact (al_below _ _)
          rw [← hu9.out] at pu9
          have P8 : Hid (PV u9 w3.heap.size (.slice (some ⟨u8.heap.size, 0, none⟩) 2 2) [.slice ta X1.length tc, .slice sa X2.length sc] [X1, X2]) := pu9
          clear pu9
          refine wpAnyH_ready (rs := [9]) (by kernel_rfl) (by simp) ?_
          refine AllReadyH.cons (o := { dst := some 6, op := Op.alloc 87, type := 0, pos := "ranges.go:148", after := #[], guard := none }) rfl (fun KK hKK => ?_) ?_
          · go_simp
            refine hKK.out _ _ (bu9.trans (Below.mono (al_below _ _) bu9.size)) (fun _ => ?_)
            clear hKK KK
            try simp only [Act.put, List.setIfInBounds_toArray, List.set_cons_zero, List.set_cons_succ]
            refine wpAnyH_name (fun u10 hu10 => ?_)
            have bu10 : Below w3.heap.size w3 u10 := by rw [hu10.out]; exact (bu9.trans (Below.mono (al_below _ _) bu9.size))
            have qu10 : Below u9.heap.size u9 u10 := by rw [hu10.out]; exact (al_below _ _)
            have G9 : Hid (u10.heap[u9.heap.size]? = some (.cells #[.slice none 0 0] 87 (0, 0))) := by unfold Hid; rw [hu10.out]; exact heap_alloc_new _ _
            have S9 : Hid (w3.heap.size ≤ u9.heap.size) := Below.size bu9
            refine wpAnyH_ready (rs := [10]) (by kernel_rfl) (by simp) ?_
            refine AllReadyH.cons (o := { dst := none, op := Op.store 87 (Operand.tmp 6) (Operand.tmp 25), type := 0, pos := "ranges.go:148", after := #[{ on := 9, ground := Ground.data }, { on := 8, ground := Ground.data }, { on := 7, ground := Ground.chain }, { on := 0, ground := Ground.phase }, { on := 1, ground := Ground.phase }, { on := 2, ground := Ground.phase }, { on := 3, ground := Ground.phase }, { on := 4, ground := Ground.phase }, { on := 5, ground := Ground.phase }, { on := 6, ground := Ground.phase }, { on := 7, ground := Ground.phase }, { on := 8, ground := Ground.phase }, { on := 9, ground := Ground.phase }], guard := none }) rfl (fun KK hKK => ?_) ?_
            · have P10 : Hid (PB' u10 u9.heap.size w3.heap.size (.slice none 0 0) (.slice (some ⟨u8.heap.size, 0, none⟩) 2 2) [.slice ta X1.length tc, .slice sa X2.length sc] [X1, X2]) := ⟨by first | exact G9.out | exact blk_kept G9.out qu9 (blk_lt G9.out) | exact blk_kept (blk_kept G9.out qu8 (blk_lt G9.out)) qu9 (Nat.lt_of_lt_of_le (blk_lt G9.out) (Below.size qu8)) | exact blk_kept (blk_kept (blk_kept G9.out qu7 (blk_lt G9.out)) qu8 (Nat.lt_of_lt_of_le (blk_lt G9.out) (Below.size qu7))) qu9 (Nat.lt_of_lt_of_le (blk_lt G9.out) (Nat.le_trans (Below.size qu7) (Below.size qu8))), by first | exact P8.out | exact P8.out.below qu10⟩
              have tu11 := P10.out.set
              have ccu11 : u10.cell? ⟨u9.heap.size, 0, none⟩ = some (.slice none 0 0) := P10.out.cell
              have cfu11 : u10.frozen? ⟨u9.heap.size, 0, none⟩ = false := P10.out.frz
              go_simp
              refine hKK.out _ _ (bu10.setCell S9.out _) (fun _ => ?_)
              clear hKK KK
              try simp only [Act.put]
              refine wpAnyH_name (fun u11 hu11 => ?_)
              have bu11 : Below w3.heap.size w3 u11 := by rw [hu11.out]; exact (bu10.setCell S9.out _)
              rw [← hu11.out] at tu11
              have HPB : Hid (PB u11 u9.heap.size w3.heap.size (.slice (some ⟨u8.heap.size, 0, none⟩) 2 2) [.slice ta X1.length tc, .slice sa X2.length sc] [X1, X2]) := tu11
              refine wpAnyH_done (by kernel_rfl) ?_ _
              have HZ : Hid (From w3 u11) := bu11
              clear FL FW CT CM
              go_wp2_with fail
              go_meet
              exact ⟨_, _, _, rfl, HPB.out, S9.out, HZ.out⟩
            exact AllReadyH.nil
          exact AllReadyH.nil
        refine AllReadyH.cons (o := { dst := some 6, op := Op.alloc 87, type := 0, pos := "ranges.go:148", after := #[], guard := none }) rfl (fun KK hKK => ?_) ?_
        · go_simp
          refine hKK.out _ _ (bu8.trans (Below.mono (al_below _ _) bu8.size)) (fun _ => ?_)
          clear hKK KK
          try simp only [Act.put, List.setIfInBounds_toArray, List.set_cons_zero, List.set_cons_succ]
          refine wpAnyH_name (fun u12 hu12 => ?_)
          have bu12 : Below w3.heap.size w3 u12 := by rw [hu12.out]; exact (bu8.trans (Below.mono (al_below _ _) bu8.size))
          have qu12 : Below u8.heap.size u8 u12 := by rw [hu12.out]; exact (al_below _ _)
          have G9 : Hid (u12.heap[u8.heap.size]? = some (.cells #[.slice none 0 0] 87 (0, 0))) := by unfold Hid; rw [hu12.out]; exact heap_alloc_new _ _
          have S9 : Hid (w3.heap.size ≤ u8.heap.size) := Below.size bu8
          refine wpAnyH_ready (rs := [8]) (by kernel_rfl) (by simp) ?_
          refine AllReadyH.cons (o := { dst := some 25, op := Op.buildSlice 87 2 #[(0, Operand.tmp 22), (1, Operand.tmp 24)], type := 87, pos := "ranges.go:148", after := #[{ on := 5, ground := Ground.data }, { on := 7, ground := Ground.data }], guard := none }) rfl (fun KK hKK => ?_) ?_
          · have pu13 := PV.two (w := u12) (B := w3.heap.size) (by first | exact O57.out | exact O57.out.below qu12) (by first | exact O7.out | exact O7.out.below qu12) (Below.size bu12)
            go_simp
            refine hKK.out _ _ (bu12.trans (Below.mono (al_below _ _) bu12.size)) (fun _ => ?_)
            clear hKK KK
            try simp only [Act.put, List.setIfInBounds_toArray, List.set_cons_zero, List.set_cons_succ]
            refine wpAnyH_name (fun u13 hu13 => ?_)
            have bu13 : Below w3.heap.size w3 u13 := by rw [hu13.out]; exact (bu12.trans (Below.mono (al_below _ _) bu12.size))
            have qu13 : Below u12.heap.size u12 u13 := by rw [hu13.out]; exact (al_below _ _)
            rw [← hu13.out] at pu13
            have P8 : Hid (PV u13 w3.heap.size (.slice (some ⟨u12.heap.size, 0, none⟩) 2 2) [.slice ta X1.length tc, .slice sa X2.length sc] [X1, X2]) := pu13
            clear pu13
            refine wpAnyH_ready (rs := [10]) (by kernel_rfl) (by simp) ?_
            refine AllReadyH.cons (o := { dst := none, op := Op.store 87 (Operand.tmp 6) (Operand.tmp 25), type := 0, pos := "ranges.go:148", after := #[{ on := 9, ground := Ground.data }, { on := 8, ground := Ground.data }, { on := 7, ground := Ground.chain }, { on := 0, ground := Ground.phase }, { on := 1, ground := Ground.phase }, { on := 2, ground := Ground.phase }, { on := 3, ground := Ground.phase }, { on := 4, ground := Ground.phase }, { on := 5, ground := Ground.phase }, { on := 6, ground := Ground.phase }, { on := 7, ground := Ground.phase }, { on := 8, ground := Ground.phase }, { on := 9, ground := Ground.phase }], guard := none }) rfl (fun KK hKK => ?_) ?_
            · have P10 : Hid (PB' u13 u8.heap.size w3.heap.size (.slice none 0 0) (.slice (some ⟨u12.heap.size, 0, none⟩) 2 2) [.slice ta X1.length tc, .slice sa X2.length sc] [X1, X2]) := ⟨by first | exact G9.out | exact blk_kept G9.out qu13 (blk_lt G9.out) | exact blk_kept (blk_kept G9.out qu8 (blk_lt G9.out)) qu13 (Nat.lt_of_lt_of_le (blk_lt G9.out) (Below.size qu8)) | exact blk_kept (blk_kept (blk_kept G9.out qu7 (blk_lt G9.out)) qu8 (Nat.lt_of_lt_of_le (blk_lt G9.out) (Below.size qu7))) qu13 (Nat.lt_of_lt_of_le (blk_lt G9.out) (Nat.le_trans (Below.size qu7) (Below.size qu8))), by first | exact P8.out | exact P8.out.below qu12⟩
              have tu14 := P10.out.set
              have ccu14 : u13.cell? ⟨u8.heap.size, 0, none⟩ = some (.slice none 0 0) := P10.out.cell
              have cfu14 : u13.frozen? ⟨u8.heap.size, 0, none⟩ = false := P10.out.frz
              go_simp
              refine hKK.out _ _ (bu13.setCell S9.out _) (fun _ => ?_)
              clear hKK KK
              try simp only [Act.put]
              refine wpAnyH_name (fun u14 hu14 => ?_)
              have bu14 : Below w3.heap.size w3 u14 := by rw [hu14.out]; exact (bu13.setCell S9.out _)
              rw [← hu14.out] at tu14
              have HPB : Hid (PB u14 u8.heap.size w3.heap.size (.slice (some ⟨u12.heap.size, 0, none⟩) 2 2) [.slice ta X1.length tc, .slice sa X2.length sc] [X1, X2]) := tu14
              refine wpAnyH_done (by kernel_rfl) ?_ _
              have HZ : Hid (From w3 u14) := bu14
              clear FL FW CT CM
              go_wp2_with fail
              go_meet
              exact ⟨_, _, _, rfl, HPB.out, S9.out, HZ.out⟩
            exact AllReadyH.nil
          exact AllReadyH.nil
        exact AllReadyH.nil
      refine AllReadyH.cons (o := { dst := some 6, op := Op.alloc 87, type := 0, pos := "ranges.go:148", after := #[], guard := none }) rfl (fun KK hKK => ?_) ?_
      · go_simp
        refine hKK.out _ _ (bu7.trans (Below.mono (al_below _ _) bu7.size)) (fun _ => ?_)
        clear hKK KK
        try simp only [Act.put, List.setIfInBounds_toArray, List.set_cons_zero, List.set_cons_succ]
        refine wpAnyH_name (fun u15 hu15 => ?_)
        have bu15 : Below w3.heap.size w3 u15 := by rw [hu15.out]; exact (bu7.trans (Below.mono (al_below _ _) bu7.size))
        have qu15 : Below u7.heap.size u7 u15 := by rw [hu15.out]; exact (al_below _ _)
        have G9 : Hid (u15.heap[u7.heap.size]? = some (.cells #[.slice none 0 0] 87 (0, 0))) := by unfold Hid; rw [hu15.out]; exact heap_alloc_new _ _
        have S9 : Hid (w3.heap.size ≤ u7.heap.size) := Below.size bu7
        refine wpAnyH_ready (rs := [7]) (by kernel_rfl) (by simp) ?_
        refine AllReadyH.cons (o := { dst := some 24, op := Op.call { callee := Callee.value (Operand.func 30), args := #[Operand.tmp 23], argTypes := #[3] }, type := 25, pos := "ranges.go:148", after := #[{ on := 6, ground := Ground.data }, { on := 5, ground := Ground.chain }], guard := none }) rfl (fun KK hKK => ?_) ?_
        · have wdu16 := (FW.out _ bu15)
          go_simp
          refine (CM.out _ wdu16).mono ?_
          rintro e u16' ⟨vu16, rfl, ou16, bu16'⟩
          have ou16 := Ow.mono ou16 (Below.size bu15)
          obtain ⟨sa, sc, rfl⟩ := Ow.shape ou16
          (try go_wp2_with fail)
          refine hKK.out _ _ (bu15.trans (Below.mono (bu16') bu15.size)) (fun _ => ?_)
          clear hKK KK
          try simp only [Act.put, List.setIfInBounds_toArray, List.set_cons_zero, List.set_cons_succ]
          refine wpAnyH_name (fun u16 hu16 => ?_)
          have bu16 : Below w3.heap.size w3 u16 := by rw [hu16.out]; exact (bu15.trans (Below.mono (bu16') bu15.size))
          have qu16 : Below u15.heap.size u15 u16 := by rw [hu16.out]; exact (bu16')
          have O7 : Hid (Ow u16 w3.heap.size (.slice sa X2.length sc) X2) := by unfold Hid; rw [hu16.out]; exact ou16
          have O57 : Hid (Ow u16 w3.heap.size (.slice ta X1.length tc) X1) := by first | exact O5.out.below qu16 | exact (O5.out.below qu15).below qu16
          refine wpAnyH_ready (rs := [8]) (by kernel_rfl) (by simp) ?_
          refine AllReadyH.cons (o := { dst := some 25, op := Op.buildSlice 87 2 #[(0, Operand.tmp 22), (1, Operand.tmp 24)], type := 87, pos := "ranges.go:148", after := #[{ on := 5, ground := Ground.data }, { on := 7, ground := Ground.data }], guard := none }) rfl (fun KK hKK => ?_) ?_
          · have pu17 := PV.two (w := u16) (B := w3.heap.size) (by first | exact O57.out | exact O57.out.below qu15) (by first | exact O7.out | exact O7.out.below qu15) (Below.size bu16)
            go_simp
            refine hKK.out _ _ (bu16.trans (Below.mono (al_below _ _) bu16.size)) (fun _ => ?_)
            clear hKK KK
            try simp only [Act.put, List.setIfInBounds_toArray, List.set_cons_zero, List.set_cons_succ]
            refine wpAnyH_name (fun u17 hu17 => ?_)
            have bu17 : Below w3.heap.size w3 u17 := by rw [hu17.out]; exact (bu16.trans (Below.mono (al_below _ _) bu16.size))
            have qu17 : Below u16.heap.size u16 u17 := by rw [hu17.out]; exact (al_below _ _)
            rw [← hu17.out] at pu17
            have P8 : Hid (PV u17 w3.heap.size (.slice (some ⟨u16.heap.size, 0, none⟩) 2 2) [.slice ta X1.length tc, .slice sa X2.length sc] [X1, X2]) := pu17
            clear pu17
            refine wpAnyH_ready (rs := [10]) (by kernel_rfl) (by simp) ?_
            refine AllReadyH.cons (o := { dst := none, op := Op.store 87 (Operand.tmp 6) (Operand.tmp 25), type := 0, pos := "ranges.go:148", after := #[{ on := 9, ground := Ground.data }, { on := 8, ground := Ground.data }, { on := 7, ground := Ground.chain }, { on := 0, ground := Ground.phase }, { on := 1, ground := Ground.phase }, { on := 2, ground := Ground.phase }, { on := 3, ground := Ground.phase }, { on := 4, ground := Ground.phase }, { on := 5, ground := Ground.phase }, { on := 6, ground := Ground.phase }, { on := 7, ground := Ground.phase }, { on := 8, ground := Ground.phase }, { on := 9, ground := Ground.phase }], guard := none }) rfl (fun KK hKK => ?_) ?_
            · have P10 : Hid (PB' u17 u7.heap.size w3.heap.size (.slice none 0 0) (.slice (some ⟨u16.heap.size, 0, none⟩) 2 2) [.slice ta X1.length tc, .slice sa X2.length sc] [X1, X2]) := ⟨by first | exact G9.out | exact blk_kept G9.out qu17 (blk_lt G9.out) | exact blk_kept (blk_kept G9.out qu16 (blk_lt G9.out)) qu17 (Nat.lt_of_lt_of_le (blk_lt G9.out) (Below.size qu16)) | exact blk_kept (blk_kept (blk_kept G9.out qu7 (blk_lt G9.out)) qu16 (Nat.lt_of_lt_of_le (blk_lt G9.out) (Below.size qu7))) qu17 (Nat.lt_of_lt_of_le (blk_lt G9.out) (Nat.le_trans (Below.size qu7) (Below.size qu16))), by first | exact P8.out | exact P8.out.below qu15⟩
              have tu18 := P10.out.set
              have ccu18 : u17.cell? ⟨u7.heap.size, 0, none⟩ = some (.slice none 0 0) := P10.out.cell
              have cfu18 : u17.frozen? ⟨u7.heap.size, 0, none⟩ = false := P10.out.frz
              go_simp
              refine hKK.out _ _ (bu17.setCell S9.out _) (fun _ => ?_)
              clear hKK KK
              try simp only [Act.put]
              refine wpAnyH_name (fun u18 hu18 => ?_)
              have bu18 : Below w3.heap.size w3 u18 := by rw [hu18.out]; exact (bu17.setCell S9.out _)
              rw [← hu18.out] at tu18
              have HPB : Hid (PB u18 u7.heap.size w3.heap.size (.slice (some ⟨u16.heap.size, 0, none⟩) 2 2) [.slice ta X1.length tc, .slice sa X2.length sc] [X1, X2]) := tu18
              refine wpAnyH_done (by kernel_rfl) ?_ _
              have HZ : Hid (From w3 u18) := bu18
              clear FL FW CT CM
              go_wp2_with fail
              go_meet
              exact ⟨_, _, _, rfl, HPB.out, S9.out, HZ.out⟩
            exact AllReadyH.nil
          exact AllReadyH.nil
        exact AllReadyH.nil
      exact AllReadyH.nil
    refine AllReadyH.cons (o := { dst := some 6, op := Op.alloc 87, type := 0, pos := "ranges.go:148", after := #[], guard := none }) rfl (fun KK hKK => ?_) ?_
    · go_simp
      refine hKK.out _ _ (bu0.trans (Below.mono (al_below _ _) bu0.size)) (fun _ => ?_)
      clear hKK KK
      try simp only [Act.put, List.setIfInBounds_toArray, List.set_cons_zero, List.set_cons_succ]
      refine wpAnyH_name (fun u19 hu19 => ?_)
      have bu19 : Below w3.heap.size w3 u19 := by rw [hu19.out]; exact (bu0.trans (Below.mono (al_below _ _) bu0.size))
      have qu19 : Below u0.heap.size u0 u19 := by rw [hu19.out]; exact (al_below _ _)
      have G9 : Hid (u19.heap[u0.heap.size]? = some (.cells #[.slice none 0 0] 87 (0, 0))) := by unfold Hid; rw [hu19.out]; exact heap_alloc_new _ _
      have S9 : Hid (w3.heap.size ≤ u0.heap.size) := Below.size bu0
      refine wpAnyH_ready (rs := [5]) (by kernel_rfl) (by simp) ?_
      refine AllReadyH.cons (o := { dst := some 22, op := Op.call { callee := Callee.value (Operand.func 30), args := #[Operand.tmp 21], argTypes := #[3] }, type := 25, pos := "ranges.go:148", after := #[{ on := 4, ground := Ground.data }], guard := none }) rfl (fun KK hKK => ?_) ?_
      · have wdu20 := (FW.out _ bu19)
        go_simp
        refine (CT.out _ wdu20).mono ?_
        rintro e u20' ⟨vu20, rfl, ou20, bu20'⟩
        have ou20 := Ow.mono ou20 (Below.size bu19)
        obtain ⟨ta, tc, rfl⟩ := Ow.shape ou20
        (try go_wp2_with fail)
        refine hKK.out _ _ (bu19.trans (Below.mono (bu20') bu19.size)) (fun _ => ?_)
        clear hKK KK
        try simp only [Act.put, List.setIfInBounds_toArray, List.set_cons_zero, List.set_cons_succ]
        refine wpAnyH_name (fun u20 hu20 => ?_)
        have bu20 : Below w3.heap.size w3 u20 := by rw [hu20.out]; exact (bu19.trans (Below.mono (bu20') bu19.size))
        have qu20 : Below u19.heap.size u19 u20 := by rw [hu20.out]; exact (bu20')
        have O5 : Hid (Ow u20 w3.heap.size (.slice ta X1.length tc) X1) := by unfold Hid; rw [hu20.out]; exact ou20
        refine wpAnyH_ready (rs := [7]) (by kernel_rfl) (by simp) ?_
        refine AllReadyH.cons (o := { dst := some 24, op := Op.call { callee := Callee.value (Operand.func 30), args := #[Operand.tmp 23], argTypes := #[3] }, type := 25, pos := "ranges.go:148", after := #[{ on := 6, ground := Ground.data }, { on := 5, ground := Ground.chain }], guard := none }) rfl (fun KK hKK => ?_) ?_
        · have wdu21 := (FW.out _ bu20)
          go_simp
          refine (CM.out _ wdu21).mono ?_
          rintro e u21' ⟨vu21, rfl, ou21, bu21'⟩
          have ou21 := Ow.mono ou21 (Below.size bu20)
          obtain ⟨sa, sc, rfl⟩ := Ow.shape ou21
          (try go_wp2_with fail)
          refine hKK.out _ _ (bu20.trans (Below.mono (bu21') bu20.size)) (fun _ => ?_)
          clear hKK KK
          try simp only [Act.put, List.setIfInBounds_toArray, List.set_cons_zero, List.set_cons_succ]
          refine wpAnyH_name (fun u21 hu21 => ?_)
          have bu21 : Below w3.heap.size w3 u21 := by rw [hu21.out]; exact (bu20.trans (Below.mono (bu21') bu20.size))
          have qu21 : Below u20.heap.size u20 u21 := by rw [hu21.out]; exact (bu21')
          have O7 : Hid (Ow u21 w3.heap.size (.slice sa X2.length sc) X2) := by unfold Hid; rw [hu21.out]; exact ou21
          have O57 : Hid (Ow u21 w3.heap.size (.slice ta X1.length tc) X1) := by first | exact O5.out.below qu21 | exact (O5.out.below qu19).below qu21
          refine wpAnyH_ready (rs := [8]) (by kernel_rfl) (by simp) ?_
          refine AllReadyH.cons (o := { dst := some 25, op := Op.buildSlice 87 2 #[(0, Operand.tmp 22), (1, Operand.tmp 24)], type := 87, pos := "ranges.go:148", after := #[{ on := 5, ground := Ground.data }, { on := 7, ground := Ground.data }], guard := none }) rfl (fun KK hKK => ?_) ?_
          · have pu22 := PV.two (w := u21) (B := w3.heap.size) (by first | exact O57.out | exact O57.out.below qu19) (by first | exact O7.out | exact O7.out.below qu19) (Below.size bu21)
            go_simp
            refine hKK.out _ _ (bu21.trans (Below.mono (al_below _ _) bu21.size)) (fun _ => ?_)
            clear hKK KK
            try simp only [Act.put, List.setIfInBounds_toArray, List.set_cons_zero, List.set_cons_succ]
            refine wpAnyH_name (fun u22 hu22 => ?_)
            have bu22 : Below w3.heap.size w3 u22 := by rw [hu22.out]; exact (bu21.trans (Below.mono (al_below _ _) bu21.size))
            have qu22 : Below u21.heap.size u21 u22 := by rw [hu22.out]; exact (al_below _ _)
            rw [← hu22.out] at pu22
            have P8 : Hid (PV u22 w3.heap.size (.slice (some ⟨u21.heap.size, 0, none⟩) 2 2) [.slice ta X1.length tc, .slice sa X2.length sc] [X1, X2]) := pu22
            clear pu22
            refine wpAnyH_ready (rs := [10]) (by kernel_rfl) (by simp) ?_
            refine AllReadyH.cons (o := { dst := none, op := Op.store 87 (Operand.tmp 6) (Operand.tmp 25), type := 0, pos := "ranges.go:148", after := #[{ on := 9, ground := Ground.data }, { on := 8, ground := Ground.data }, { on := 7, ground := Ground.chain }, { on := 0, ground := Ground.phase }, { on := 1, ground := Ground.phase }, { on := 2, ground := Ground.phase }, { on := 3, ground := Ground.phase }, { on := 4, ground := Ground.phase }, { on := 5, ground := Ground.phase }, { on := 6, ground := Ground.phase }, { on := 7, ground := Ground.phase }, { on := 8, ground := Ground.phase }, { on := 9, ground := Ground.phase }], guard := none }) rfl (fun KK hKK => ?_) ?_
            · have P10 : Hid (PB' u22 u0.heap.size w3.heap.size (.slice none 0 0) (.slice (some ⟨u21.heap.size, 0, none⟩) 2 2) [.slice ta X1.length tc, .slice sa X2.length sc] [X1, X2]) := ⟨by first | exact G9.out | exact blk_kept G9.out qu22 (blk_lt G9.out) | exact blk_kept (blk_kept G9.out qu21 (blk_lt G9.out)) qu22 (Nat.lt_of_lt_of_le (blk_lt G9.out) (Below.size qu21)) | exact blk_kept (blk_kept (blk_kept G9.out qu20 (blk_lt G9.out)) qu21 (Nat.lt_of_lt_of_le (blk_lt G9.out) (Below.size qu20))) qu22 (Nat.lt_of_lt_of_le (blk_lt G9.out) (Nat.le_trans (Below.size qu20) (Below.size qu21))), by first | exact P8.out | exact P8.out.below qu19⟩
              have tu23 := P10.out.set
              have ccu23 : u22.cell? ⟨u0.heap.size, 0, none⟩ = some (.slice none 0 0) := P10.out.cell
              have cfu23 : u22.frozen? ⟨u0.heap.size, 0, none⟩ = false := P10.out.frz
              go_simp
              refine hKK.out _ _ (bu22.setCell S9.out _) (fun _ => ?_)
              clear hKK KK
              try simp only [Act.put]
              refine wpAnyH_name (fun u23 hu23 => ?_)
              have bu23 : Below w3.heap.size w3 u23 := by rw [hu23.out]; exact (bu22.setCell S9.out _)
              rw [← hu23.out] at tu23
              have HPB : Hid (PB u23 u0.heap.size w3.heap.size (.slice (some ⟨u21.heap.size, 0, none⟩) 2 2) [.slice ta X1.length tc, .slice sa X2.length sc] [X1, X2]) := tu23
              refine wpAnyH_done (by kernel_rfl) ?_ _
              have HZ : Hid (From w3 u23) := bu23
              clear FL FW CT CM
              go_wp2_with fail
              go_meet
              exact ⟨_, _, _, rfl, HPB.out, S9.out, HZ.out⟩
            exact AllReadyH.nil
          exact AllReadyH.nil
        exact AllReadyH.nil
      exact AllReadyH.nil
    exact AllReadyH.nil
  case rest =>
    obtain ⟨w5, rfl⟩ : ∃ w5, w5 = wc := ⟨_, rfl⟩
    obtain ⟨kP, vv, V, rfl, hpb, hkp, hf⟩ := hcut
    have HPB : Hid (PB w5 kP w3.heap.size vv V [X1, X2]) := hpb
    have HKP : Hid (w3.heap.size ≤ kP) := hkp
    have HFC : Hid (From w3 w5) := hf
    have HBC : Hid (Below w.heap.size w w5) := HB3.out.trans (Below.mono hf HB3.out.size)
    obtain ⟨k3, k4, -⟩ := FL.out w5 hf
    have cb := backward_any w5 (some ⟨bb, off, none⟩) n c
    clear hpb hkp hf CT CM FL
    go_wp2_with fail
    refine cb.mono ?_
    rintro e W0 ⟨rfl, hW0⟩
    have HB0 : Hid (Below w5.heap.size w5 W0) := by unfold Hid; rw [hW0]; exact al_below _ _
    have HG0 : Hid (W0.heap[w5.heap.size]? = some (.cells #[.slice (some ⟨bb, off, none⟩) n c] 28 (0, 0))) := by unfold Hid; rw [hW0]; exact heap_alloc_new _ _
    have HS0 : Hid (W0.heap.size = w5.heap.size + 1) := by unfold Hid; rw [hW0]; simp
    clear cb hW0 k3 k4
    go_wp2
    refine (wpIn_wide (n := 9)).1 ?_
    obtain ⟨i0, hi0, hz0, hzs, hzb⟩ := info_parts infoB
    have hkb : kP < w5.heap.size := blk_lt HPB.out.1
    have hnw : w3.heap.size ≤ w5.heap.size := Below.size HFC.out
    have hww : w.heap.size ≤ w3.heap.size := HB3.out.size
    have HF0 : Hid (From w3 W0) := Below.trans HFC.out (HB0.out.mono hnw)
    have hsz := HS0.out
    have hP0 := HPB.out.below HB0.out
    have hstops := back_stops W0 w5.heap.size (.slice (some ⟨bb, off, none⟩) n c) l (fun k => w3.heap.size ≤ k ∧ k ≠ w5.heap.size) 8 (by omega) HG0.out (HU.out.kept (HB3.out.trans (Below.mono HF0.out hww))) (HC.out.1) (by rw [← HN.out]; omega) (fun e => e.2 rfl) (fun k hk => by
      have e : bb = k := by simpa [rowB] using hk
      have h1 := HF0.out.size
      exact ⟨by omega, fun e' => by have := e'.1; omega⟩)
    rw [← HN.out] at hstops
    have HPS0 : Hid (prsA l ([] : List (Nat × Sp)) = [X1, X2]) := HPS.out
    clear hsz HB0 HPS
    refine wpIn_rangeFunc_ownH (F := Fence.wide) rfl (by omega) (gf := 64) (lb := #[.pointer (some ⟨w5.heap.size, 0, none⟩)]) rfl trivial (enters_of Tryd.func64 (by kernel_rfl) rfl)
      hstops (fun h h' => h.trans h') (fun W l o o' _ h hc _ => Kt.put W l o o' h hc) (Below.refl _ _) (fun _ => rfl)
      (fun pre W => (∃ vv V, PB W kP w3.heap.size vv V (prsA l (pre.map (·.1)))) ∧ From w3 W ∧ W0.heap.size ≤ W.heap.size ∧ W.heap[w5.heap.size]? = some (.cells #[.slice (some ⟨bb, off, none⟩) n c] 28 (0, 0)))
      (fun _ _ _ => False)
      (OwnFrom.and (fun pre A B row hs hg hr => by
          obtain ⟨vv, V, h1, h2⟩ := hs
          exact ⟨vv, V, own_keeps hg hr h1, h2.keep (fun k cs t _ hh => own_keeps hg hr hh)⟩) (OwnFrom.and (ownFrom_below (Nat.le_refl _) HF0.out.size) (OwnFrom.and (fun _ _ _ _ h hg _ => Nat.le_trans h hg.size) (fun _ _ _ _ h hg hr => own_keeps hg hr h))))
      (fun _ _ _ _ _ hs _ _ => hs)
      ⟨⟨vv, V, by rw [List.map_nil, HPS0.out]; exact hP0⟩, HF0.out, Nat.le_refl _, HG0.out⟩
      (fun x a' W => ∃ Bx, W.heap[Bx]? = some (.cells #[.int .i64 x.1.2.1, .int .i64 x.1.2.2] 109 (0, 0)) ∧ a' = { tmps := #[.slice (some ⟨bb, off, none⟩) n c, .pointer (some ⟨w.heap.size, 0, none⟩), .slice none 0 0, .int .i64 0, .int .i64 0, .pointer (some ⟨w2.heap.size, 0, none⟩), .pointer (some ⟨kP, 0, none⟩), .int .i64 (x.1.1 : Nat), .pointer (some ⟨Bx, 0, none⟩), .slice (some ⟨bb, off, none⟩) n c, .int .i64 0, .int .i64 0, .bool false, undef, .slice (some ⟨bb, off, none⟩) n c, .int .i64 (n : Int), .int .i64 (m : Int), u17, u18, u19, u20, u21, u22, u23, u24, u25, .slice (some ⟨bb, off, none⟩) n c, .func (.func 64) #[] #[.pointer (some ⟨w5.heap.size, 0, none⟩)], .int .i64 (x.1.1 : Nat), .agg #[.int .i64 x.1.2.1, .int .i64 x.1.2.2], undef, undef, undef, undef, undef, undef, undef, undef, undef, undef, undef, undef, undef, undef, undef, undef, undef, undef, undef, undef, undef, undef, undef, undef, undef, undef, undef, undef], defers := [] })
      (fun x a' _ X Y row hs hg hr => by
        obtain ⟨Bx, h2, h3⟩ := hs
        exact ⟨Bx, own_keeps hg hr h2, h3⟩)
      ?assign ?body ?done ?stop
    case assign =>
      rintro lp pre x W K ⟨⟨vv, V, h1⟩, h2, h3, h4⟩ hK
      gi_wp2
      exact hK _ _ ((KeepsOthers.alloc _ _).from _) (Kt.from (al_below _ _)) ⟨⟨vv, V, h1.below (al_below _ _)⟩, Below.alloc h2 (Below.size h2) _, Nat.le_trans h3 (al_below _ _).size, blk_kept h4 (al_below _ _) (blk_lt h4)⟩ ⟨W.heap.size, heap_alloc_new _ _, by rfl⟩
    case body =>
      rintro lp pre x a' W _ _ ⟨⟨vv, V, hpb⟩, hF, hS, hbx⟩ ⟨Bx, bX, rfl⟩ hlt
      have hzl := prsA_len l (pre.map (·.1))
      rw [List.length_map] at hzl
      obtain ⟨i, hi⟩ : ∃ i, i = x.1.1 := ⟨_, rfl⟩
      obtain ⟨y, hy⟩ : ∃ y, y = x.1.2 := ⟨_, rfl⟩
      have HSN : Hid (prsA l ((pre ++ [x]).map (·.1)) = (prsA l (pre.map (·.1)) ++ (if i < l.length - 1 then [nB ((atS l (i + 1)).1 - y.2 - 2)] else [])) ++ [nB (y.2 - y.1)]) := by unfold Hid; rw [hi, hy, List.map_append, List.map_singleton, prsA_snoc]; unfold prtA; rw [List.append_assoc]
      rw [← HM.out] at HSN
      have hx := x.2
      generalize prsA l (pre.map (·.1)) = ZZ at *
      have hN : w3.heap.size ≤ W.heap.size := Below.size hF
      have HW1 : Hid (∀ V, Below W.heap.size W V → Fi.Wid V) := fun V hv => FW.out V (Below.trans hF (Below.mono hv hN))
      have e1 := blk_kept HL3.out hF (blk_lt HL3.out)
      have e2 := blk_kept HG3.out hF (blk_lt HG3.out)
      have k1 : W.cell? ⟨w.heap.size, 0, none⟩ = some (.slice (some ⟨bb, off, none⟩) n c) := by simp [World.cell?, e1]
      have k2 : W.cell? ⟨w2.heap.size, 0, none⟩ = some (.int .i64 (m : Int)) := by simp [World.cell?, e2]
      have x0 : W.cell? ⟨Bx, 0, none⟩ = some (.int .i64 x.1.2.1) := by simp [World.cell?, bX]
      have x1 : W.cell? ⟨Bx, 1, none⟩ = some (.int .i64 x.1.2.2) := by simp [World.cell?, bX]
      have k3 := hpb.cell
      have hBk : Bx ≠ kP := fun e => by have := hpb.1; rw [← e, bX] at this; cases this
      have HPW : Hid (PB W kP w3.heap.size vv V ZZ) := hpb
      have HFW : Hid (From w3 W) := hF
      have HAT : Hid (∀ i, i < m → W.cell? ⟨bb, off + (i + 1) * 2, none⟩ = some (.int .i64 (atS l (i + 1)).1) ∧ Okk (atS l (i + 1))) := fun i hi => by
        have hl' : i + 1 < l.length := by have := HM.out; omega
        obtain ⟨b', off', e, hr⟩ := (HU.out.kept (HB3.out.trans (Below.mono hF hww))).at (i + 1) hl'
        cases e
        exact ⟨(spC hr).1, HC.out.1 _ (atS_mem l _ hl')⟩
      have HBX : Hid (W.heap[Bx]? = some (.cells #[.int .i64 x.1.2.1, .int .i64 x.1.2.2] 109 (0, 0))) := bX
      have HBB : Hid (W.heap[w5.heap.size]? = some (.cells #[.slice (some ⟨bb, off, none⟩) n c] 28 (0, 0))) := hbx
      have HSW : Hid (W0.heap.size ≤ W.heap.size) := hS
      have HNB : Hid (kP < w5.heap.size ∧ W0.heap.size = w5.heap.size + 1) := ⟨hkb, HS0.out⟩
      obtain ⟨va, vc, rfl⟩ := own_shape hpb.2.1
      rw [← hi, ← hy] at hx ⊢
      rw [← hy] at x0 x1 HBX
      unfold Okk at hx
      clear hi hy hpb hF hS hbx bX e1 e2
      gi_upto_if 32 with fail
      have hkp6 := HKP.out
      have h1' : 1 ≤ 9 - 1 - 1 := by omega
      have mixed : Tryd.prog.follows Departure.mixedOrders = true := by kernel_rfl
      obtain ⟨L1, hL1⟩ : ∃ L1, L1 = if i < m then [nB ((atS l (i + 1)).1 - y.2 - 2)] else [] := ⟨_, rfl⟩
      have HL1 : Hid (L1 = if i < m then [nB ((atS l (i + 1)).1 - y.2 - 2)] else []) := hL1
      rw [← hL1] at HSN
      clear hL1
      gi_cut [] from 32 (fun wz => ∃ vv' V', PB wz kP w3.heap.size vv' V' (ZZ ++ L1) ∧ Kq w3.heap.size kP W wz)
      case first =>
        by_cases him : i < m
        · obtain ⟨k4, hz⟩ := HAT.out i him
          have HE : Hid (L1 = [nB ((atS l (i + 1)).1 - y.2 - 2)]) := by unfold Hid; rw [HL1.out, if_pos him]
          clear HL1
          unfold Okk at hz
          have lt1 : decide ((i : Int) < (m : Int)) = true := by simpa using him
          have lt1' : (i : Int) < (m : Int) := by omega
          have lt2 : (i : Int) + 1 < (n : Int) := by omega
          have lt3 : 0 ≤ (i : Int) + 1 := by omega
          have iw : IntKind.i64.wrap ((i : Int) + 1) = (i : Int) + 1 := by rw [IntKind.wrap_i64]; omega
          generalize (atS l (i + 1)).1 = za at *
          have sw1 : IntKind.i64.wrap (za - y.2) = za - y.2 := by rw [IntKind.wrap_i64]; omega
          have sw2 : IntKind.i64.wrap (za - y.2 - 2) = za - y.2 - 2 := by rw [IntKind.wrap_i64]; omega
          obtain ⟨XX, hXX⟩ : ∃ XX, XX = nB (za - y.2 - 2) := ⟨_, rfl⟩
          have HCC : Hid (∀ V, Fi.Wid V → Calls Tryd.prog 30 #[.int .i64 (za - y.2 - 2)] V fun e w' => ∃ v, e = .returned v ∧ Ow w' V.heap.size v XX ∧ Below V.heap.size V w') := fun V hv => by rw [hXX]; exact fnum_own _ V hv
          have HWS : Hid (Fi.Wid W) := HW1.out _ (Below.refl _ _)
          have HNS : Hid (w3.heap.size ≤ W.heap.size) := Below.size HFW.out
          have HNP : Hid (1 < w3.heap.size) := Nat.lt_of_lt_of_le HW.out.pos hww
          have FL2 : Hid (∀ x, Kq w3.heap.size kP W x → x.cell? ⟨w.heap.size, 0, none⟩ = some (.slice (some ⟨bb, off, none⟩) n c) ∧ x.cell? ⟨bb, off + (i + 1) * 2, none⟩ = some (.int .i64 za) ∧ x.cell? ⟨Bx, 1, none⟩ = some (.int .i64 y.2)) := fun x hx => by
            have h1 := hx.low w.heap.size (blk_lt HL3.out)
            have h2 := hx.low bb (by omega)
            have h3 := hx.cel Bx _ _ _ hBk (by decide) HBX.out
            exact ⟨(World.cell?_of_block (a := ⟨w.heap.size, 0, none⟩) h1).trans k1, (World.cell?_of_block (a := ⟨bb, _, none⟩) h2).trans k4, by simp [World.cell?, h3]⟩
          rw [← hXX] at HE
          clear hXX HAT HSN hz k1 k4 k3 x0 x1
          gi_upto_region 10 with fail
          refine region_round lp _ (by rintro ⟨_, _, h⟩; exact h) (by kernel_rfl) (S := Kq w3.heap.size kP W) (by kernel_rfl) (Kq.drew _ _ _) (fun _ => ?_)
          refine wpAnyH_name (fun u0 hu0 => ?_)
          have su0 : (Kq w3.heap.size kP W) u0 := by rw [hu0.out]; exact (Kq.drew _ _ _)
          have PXu0 : PB u0 kP w3.heap.size (.slice va ZZ.length vc) V ZZ := by rw [hu0.out]; exact HPW.out
          refine wpAnyH_take (i := 1) (oi := { dst := some 34, op := Op.load 28 (Operand.tmp 1), type := 28, pos := "ranges.go:151", after := #[], guard := none }) (v := .slice (some ⟨bb, off, none⟩) n c) rfl (by kernel_rfl) (by kernel_rfl) (by kernel_rfl) (fun _ _ _ h => h) (Or.inl ⟨by rfl, ?ys1⟩) su0 ?rs1
          case ys1 => (intro w hSw; obtain ⟨t0, t1, t2⟩ := FL2.out w hSw; go_simp; try with_reducible rfl)
          try simp only [Act.put, List.setIfInBounds_toArray, List.set_cons_zero, List.set_cons_succ]
          refine wpAnyH_take (i := 2) (oi := { dst := some 35, op := Op.move (Operand.tmp 7), type := 3, pos := "ranges.go:151", after := #[], guard := none }) (v := ?vs2) rfl (by kernel_rfl) (by kernel_rfl) (by kernel_rfl) (fun _ _ _ h => h) (Or.inl ⟨by rfl, ?ys2⟩) su0 ?rs2
          case ys2 => (intro w hSw; go_simp; try with_reducible rfl)
          try simp only [Act.put, List.setIfInBounds_toArray, List.set_cons_zero, List.set_cons_succ]
          refine wpAnyH_take (i := 3) (oi := { dst := some 36, op := Op.binOp BinOp.add 3 (Operand.tmp 35) (Operand.const (Value.int IntKind.i64 1)) 3, type := 3, pos := "ranges.go:151", after := #[{ on := 2, ground := Ground.data }], guard := none }) (v := ?vs3) rfl (by kernel_rfl) (by kernel_rfl) (by kernel_rfl) (fun _ _ _ h => h) (Or.inl ⟨by rfl, ?ys3⟩) su0 ?rs3
          case ys3 => (intro w hSw; go_simp; try with_reducible rfl)
          try simp only [Act.put, List.setIfInBounds_toArray, List.set_cons_zero, List.set_cons_succ]
          refine wpAnyH_take (i := 4) (oi := { dst := some 37, op := Op.indexAddr 28 (Operand.tmp 34) (Operand.tmp 36), type := 0, pos := "ranges.go:151", after := #[{ on := 1, ground := Ground.data }, { on := 3, ground := Ground.data }], guard := none }) (v := ?vs4) rfl (by kernel_rfl) (by kernel_rfl) (by kernel_rfl) (fun _ _ _ h => h) (Or.inl ⟨by rfl, ?ys4⟩) su0 ?rs4
          case ys4 => (intro w hSw; go_simp; try with_reducible rfl)
          try simp only [Act.put, List.setIfInBounds_toArray, List.set_cons_zero, List.set_cons_succ]
          refine wpAnyH_take (i := 5) (oi := { dst := some 38, op := Op.fieldAddr 109 (Operand.tmp 37) 0, type := 0, pos := "ranges.go:151", after := #[{ on := 4, ground := Ground.data }], guard := none }) (v := ?vs5) rfl (by kernel_rfl) (by kernel_rfl) (by kernel_rfl) (fun _ _ _ h => h) (Or.inl ⟨by rfl, ?ys5⟩) su0 ?rs5
          case ys5 => (intro w hSw; go_simp; try with_reducible rfl)
          try simp only [Act.put, List.setIfInBounds_toArray, List.set_cons_zero, List.set_cons_succ]
          refine wpAnyH_take (i := 6) (oi := { dst := some 39, op := Op.load 3 (Operand.tmp 38), type := 3, pos := "ranges.go:151", after := #[{ on := 5, ground := Ground.data }], guard := none }) (v := .int .i64 za) rfl (by kernel_rfl) (by kernel_rfl) (by kernel_rfl) (fun _ _ _ h => h) (Or.inl ⟨by rfl, ?ys6⟩) su0 ?rs6
          case ys6 => (intro w hSw; obtain ⟨t0, t1, t2⟩ := FL2.out w hSw; go_simp; try with_reducible rfl)
          try simp only [Act.put, List.setIfInBounds_toArray, List.set_cons_zero, List.set_cons_succ]
          refine wpAnyH_take (i := 7) (oi := { dst := some 40, op := Op.fieldAddr 109 (Operand.tmp 8) 1, type := 0, pos := "ranges.go:151", after := #[], guard := none }) (v := ?vs7) rfl (by kernel_rfl) (by kernel_rfl) (by kernel_rfl) (fun _ _ _ h => h) (Or.inl ⟨by rfl, ?ys7⟩) su0 ?rs7
          case ys7 => (intro w hSw; go_simp; try with_reducible rfl)
          try simp only [Act.put, List.setIfInBounds_toArray, List.set_cons_zero, List.set_cons_succ]
          refine wpAnyH_take (i := 8) (oi := { dst := some 41, op := Op.load 3 (Operand.tmp 40), type := 3, pos := "ranges.go:151", after := #[{ on := 7, ground := Ground.data }], guard := none }) (v := .int .i64 y.2) rfl (by kernel_rfl) (by kernel_rfl) (by kernel_rfl) (fun _ _ _ h => h) (Or.inl ⟨by rfl, ?ys8⟩) su0 ?rs8
          case ys8 => (intro w hSw; obtain ⟨t0, t1, t2⟩ := FL2.out w hSw; go_simp; try with_reducible rfl)
          try simp only [Act.put, List.setIfInBounds_toArray, List.set_cons_zero, List.set_cons_succ]
          refine wpAnyH_take (i := 9) (oi := { dst := some 42, op := Op.binOp BinOp.sub 3 (Operand.tmp 39) (Operand.tmp 41) 3, type := 3, pos := "ranges.go:151", after := #[{ on := 6, ground := Ground.data }, { on := 8, ground := Ground.data }], guard := none }) (v := ?vs9) rfl (by kernel_rfl) (by kernel_rfl) (by kernel_rfl) (fun _ _ _ h => h) (Or.inl ⟨by rfl, ?ys9⟩) su0 ?rs9
          case ys9 => (intro w hSw; go_simp; try with_reducible rfl)
          try simp only [Act.put, List.setIfInBounds_toArray, List.set_cons_zero, List.set_cons_succ]
          refine wpAnyH_take (i := 10) (oi := { dst := some 43, op := Op.binOp BinOp.sub 3 (Operand.tmp 42) (Operand.const (Value.int IntKind.i64 2)) 3, type := 3, pos := "ranges.go:151", after := #[{ on := 9, ground := Ground.data }], guard := none }) (v := ?vs10) rfl (by kernel_rfl) (by kernel_rfl) (by kernel_rfl) (fun _ _ _ h => h) (Or.inl ⟨by rfl, ?ys10⟩) su0 ?rs10
          case ys10 => (intro w hSw; go_simp; try with_reducible rfl)
          try simp only [Act.put, List.setIfInBounds_toArray, List.set_cons_zero, List.set_cons_succ]
          refine wpAnyH_ready (rs := [0, 11]) (by kernel_rfl) (by simp) ?_
          refine AllReadyH.cons (o := { dst := some 33, op := Op.load 87 (Operand.tmp 6), type := 87, pos := "ranges.go:151", after := #[], guard := none }) rfl (fun KK hKK => ?_) ?_
          · have ccu11 := PXu0.cell
            go_simp
            refine hKK.out _ _ (su0) (fun _ => ?_)
            clear hKK KK
            try simp only [Act.put, List.setIfInBounds_toArray, List.set_cons_zero, List.set_cons_succ]
            refine wpAnyH_name (fun u11 hu11 => ?_)
            have su11 : (Kq w3.heap.size kP W) u11 := by rw [hu11.out]; exact (su0)
            have PXu11 : PB u11 kP w3.heap.size (.slice va ZZ.length vc) V ZZ := by rw [hu11.out]; exact (PXu0)
            (try have Eu11 : Hid (u11 = nope.alloc (.cells #[.slice ua XX.length uc] 25)) := by unfold Hid; rw [hu11.out]; exact Eu0.out)
            refine wpAnyH_ready (rs := [11]) (by kernel_rfl) (by simp) ?_
            refine AllReadyH.cons (o := { dst := some 44, op := Op.call { callee := Callee.value (Operand.func 30), args := #[Operand.tmp 43], argTypes := #[3] }, type := 25, pos := "ranges.go:151", after := #[{ on := 10, ground := Ground.data }], guard := none }) rfl (fun KK hKK => ?_) ?_
            · have wdu12 := wid_kq su11 HNP.out HWS.out
              go_simp
              refine (HCC.out _ wdu12).mono ?_
              rintro e u12' ⟨vu12, rfl, ou12, bu12'⟩
              obtain ⟨ua, uc, rfl⟩ := Ow.shape ou12
              (try go_wp2_with fail)
              refine hKK.out _ _ (su11.trans (Kq.of bu12' (Nat.le_trans HNS.out su11.oth.size))) (fun _ => ?_)
              clear hKK KK
              try simp only [Act.put, List.setIfInBounds_toArray, List.set_cons_zero, List.set_cons_succ]
              refine wpAnyH_name (fun u12 hu12 => ?_)
              have su12 : (Kq w3.heap.size kP W) u12 := by rw [hu12.out]; exact (su11.trans (Kq.of bu12' (Nat.le_trans HNS.out su11.oth.size)))
              have PXu12 : PB u12 kP w3.heap.size (.slice va ZZ.length vc) V ZZ := by rw [hu12.out]; exact (PXu11.below bu12')
              have OWu12 : Hid (Ow u12 w3.heap.size (.slice ua XX.length uc) XX) := by unfold Hid; rw [hu12.out]; exact Ow.mono ou12 (Nat.le_trans HNS.out su11.oth.size)
              refine wpAnyH_ready (rs := [12]) (by kernel_rfl) (by simp) ?_
              refine AllReadyH.cons (o := { dst := some 45, op := Op.buildSlice 87 1 #[(0, Operand.tmp 44)], type := 87, pos := "ranges.go:151", after := #[{ on := 11, ground := Ground.data }], guard := none }) rfl (fun KK hKK => ?_) ?_
              · go_simp
                refine hKK.out _ _ (su12.trans (Kq.of (al_below _ _) (Nat.le_trans HNS.out su12.oth.size))) (fun _ => ?_)
                clear hKK KK
                try simp only [Act.put, List.setIfInBounds_toArray, List.set_cons_zero, List.set_cons_succ]
                refine wpAnyH_name (fun u13 hu13 => ?_)
                have su13 : (Kq w3.heap.size kP W) u13 := by rw [hu13.out]; exact (su12.trans (Kq.of (al_below _ _) (Nat.le_trans HNS.out su12.oth.size)))
                have PW : Hid (PB u12 kP w3.heap.size (.slice va ZZ.length vc) V ZZ) := PXu12
                have PXu13 : PB u13 kP w3.heap.size (.slice va ZZ.length vc) V ZZ := by rw [hu13.out]; exact (PXu12.below (al_below _ _))
                have OZ : Hid (Ow u12 w3.heap.size (.slice ua XX.length uc) XX) := by first | exact OWu12.out | exact OWu12.out | (have := OWu12.out; rw [← hu12.out] at this; exact this)
                have Eu13 : Hid (u13 = u12.alloc (.cells #[.slice ua XX.length uc] 25)) := hu13
                have SW : Hid (Kq w3.heap.size kP W u12) := su12
                refine wpAnyH_ready (rs := [13]) (by kernel_rfl) (by simp) ?_
                refine AllReadyH.cons (o := { dst := some 46, op := Op.call { callee := Callee.builtin Builtin.append, args := #[Operand.tmp 33, Operand.tmp 45], argTypes := #[87, 87] }, type := 87, pos := "ranges.go:151", after := #[{ on := 0, ground := Ground.data }, { on := 12, ground := Ground.data }, { on := 11, ground := Ground.chain }], guard := none }) rfl (fun KK hKK => ?_) ?_
                · refine wp_append_own _ _ _ 87 rfl w3.heap.size 25 i0 (.slice none 0 0) 1 24 Tryd.underlying87 hi0 hz0 hzs hzb rfl (by decide) _ ZZ.length _ rfl PXu13.2.1 ⟨u12.heap.size, 0, none⟩ 1 1 [.slice ua XX.length uc] rfl rfl (by rw [Eu13.out]; exact one_cell) (by simp [Value.oneCell']) (by unfold maxLen; omega) (by omega) (Nat.le_trans HNS.out su13.oth.size) (fun v7 u14' hou14 hgu14 _ => ?_)
                  rw [Eu13.out] at hgu14
                  obtain ⟨zu14, pu14, qu14, ru14⟩ := pb_step PW.out OZ.out (Nat.le_trans HNS.out SW.out.oth.size) HKP.out hou14 hgu14
                  obtain ⟨g7, cap7, rfl⟩ := ownsRow_succ hou14
                  refine hKK.out _ _ (SW.out.trans ru14) (fun _ => ?_)
                  clear hKK KK
                  try simp only [Act.put, List.setIfInBounds_toArray, List.set_cons_zero, List.set_cons_succ]
                  refine wpAnyH_name (fun u14 hu14 => ?_)
                  have su14 : (Kq w3.heap.size kP W) u14 := by rw [hu14.out]; exact (SW.out.trans ru14)
                  rw [← hu14.out] at zu14 pu14 qu14
                  clear hou14 hgu14 ru14
                  refine wpAnyH_ready (rs := [14]) (by kernel_rfl) (by simp) ?_
                  refine AllReadyH.cons (o := { dst := none, op := Op.store 87 (Operand.tmp 6) (Operand.tmp 46), type := 0, pos := "ranges.go:151", after := #[{ on := 13, ground := Ground.data }, { on := 13, ground := Ground.chain }, { on := 0, ground := Ground.phase }, { on := 1, ground := Ground.phase }, { on := 2, ground := Ground.phase }, { on := 3, ground := Ground.phase }, { on := 4, ground := Ground.phase }, { on := 5, ground := Ground.phase }, { on := 6, ground := Ground.phase }, { on := 7, ground := Ground.phase }, { on := 8, ground := Ground.phase }, { on := 9, ground := Ground.phase }, { on := 10, ground := Ground.phase }, { on := 11, ground := Ground.phase }, { on := 12, ground := Ground.phase }, { on := 13, ground := Ground.phase }], guard := none }) rfl (fun KK hKK => ?_) ?_
                  · have cau15 := zu14.1
                    have cbu15 := zu14.2
                    go_simp
                    refine hKK.out _ _ (SW.out.trans qu14) (fun _ => ?_)
                    clear hKK KK
                    try simp only [Act.put]
                    refine wpAnyH_name (fun u15 hu15 => ?_)
                    have su15 : (Kq w3.heap.size kP W) u15 := by rw [hu15.out]; exact (SW.out.trans qu14)
                    rw [← hu15.out] at pu14
                    refine wpAnyH_done (by kernel_rfl) ?_ _
                    have P1 : Hid (PB u15 kP w3.heap.size _ _ _) := pu14
                    have P2 : Hid (Kq w3.heap.size kP W u15) := su15
                    gi_wp2
                    gi_meet
                    exact ⟨_, _, by rw [HE.out]; exact P1.out, P2.out⟩
                  exact AllReadyH.nil
                exact AllReadyH.nil
              exact AllReadyH.nil
            exact AllReadyH.nil
          refine AllReadyH.cons (o := { dst := some 44, op := Op.call { callee := Callee.value (Operand.func 30), args := #[Operand.tmp 43], argTypes := #[3] }, type := 25, pos := "ranges.go:151", after := #[{ on := 10, ground := Ground.data }], guard := none }) rfl (fun KK hKK => ?_) ?_
          · have wdu16 := wid_kq su0 HNP.out HWS.out
            go_simp
            refine (HCC.out _ wdu16).mono ?_
            rintro e u16' ⟨vu16, rfl, ou16, bu16'⟩
            obtain ⟨ua, uc, rfl⟩ := Ow.shape ou16
            (try go_wp2_with fail)
            refine hKK.out _ _ (su0.trans (Kq.of bu16' (Nat.le_trans HNS.out su0.oth.size))) (fun _ => ?_)
            clear hKK KK
            try simp only [Act.put, List.setIfInBounds_toArray, List.set_cons_zero, List.set_cons_succ]
            refine wpAnyH_name (fun u16 hu16 => ?_)
            have su16 : (Kq w3.heap.size kP W) u16 := by rw [hu16.out]; exact (su0.trans (Kq.of bu16' (Nat.le_trans HNS.out su0.oth.size)))
            have PXu16 : PB u16 kP w3.heap.size (.slice va ZZ.length vc) V ZZ := by rw [hu16.out]; exact (PXu0.below bu16')
            have OWu16 : Hid (Ow u16 w3.heap.size (.slice ua XX.length uc) XX) := by unfold Hid; rw [hu16.out]; exact Ow.mono ou16 (Nat.le_trans HNS.out su0.oth.size)
            refine wpAnyH_ready (rs := [0, 12]) (by kernel_rfl) (by simp) ?_
            refine AllReadyH.cons (o := { dst := some 33, op := Op.load 87 (Operand.tmp 6), type := 87, pos := "ranges.go:151", after := #[], guard := none }) rfl (fun KK hKK => ?_) ?_
            · have ccu17 := PXu16.cell
              go_simp
              refine hKK.out _ _ (su16) (fun _ => ?_)
              clear hKK KK
              try simp only [Act.put, List.setIfInBounds_toArray, List.set_cons_zero, List.set_cons_succ]
              refine wpAnyH_name (fun u17 hu17 => ?_)
              have su17 : (Kq w3.heap.size kP W) u17 := by rw [hu17.out]; exact (su16)
              have PXu17 : PB u17 kP w3.heap.size (.slice va ZZ.length vc) V ZZ := by rw [hu17.out]; exact (PXu16)
              (try have Eu17 : Hid (u17 = nope.alloc (.cells #[.slice ua XX.length uc] 25)) := by unfold Hid; rw [hu17.out]; exact Eu16.out)
              refine wpAnyH_ready (rs := [12]) (by kernel_rfl) (by simp) ?_
              refine AllReadyH.cons (o := { dst := some 45, op := Op.buildSlice 87 1 #[(0, Operand.tmp 44)], type := 87, pos := "ranges.go:151", after := #[{ on := 11, ground := Ground.data }], guard := none }) rfl (fun KK hKK => ?_) ?_
              · go_simp
                refine hKK.out _ _ (su17.trans (Kq.of (al_below _ _) (Nat.le_trans HNS.out su17.oth.size))) (fun _ => ?_)
                clear hKK KK
                try simp only [Act.put, List.setIfInBounds_toArray, List.set_cons_zero, List.set_cons_succ]
                refine wpAnyH_name (fun u18 hu18 => ?_)
                have su18 : (Kq w3.heap.size kP W) u18 := by rw [hu18.out]; exact (su17.trans (Kq.of (al_below _ _) (Nat.le_trans HNS.out su17.oth.size)))
                have PW : Hid (PB u17 kP w3.heap.size (.slice va ZZ.length vc) V ZZ) := PXu17
                have PXu18 : PB u18 kP w3.heap.size (.slice va ZZ.length vc) V ZZ := by rw [hu18.out]; exact (PXu17.below (al_below _ _))
                have OZ : Hid (Ow u17 w3.heap.size (.slice ua XX.length uc) XX) := by first | exact OWu17.out | exact OWu16.out | (have := OWu16.out; rw [← hu17.out] at this; exact this)
                have Eu18 : Hid (u18 = u17.alloc (.cells #[.slice ua XX.length uc] 25)) := hu18
                have SW : Hid (Kq w3.heap.size kP W u17) := su17
                refine wpAnyH_ready (rs := [13]) (by kernel_rfl) (by simp) ?_
                refine AllReadyH.cons (o := { dst := some 46, op := Op.call { callee := Callee.builtin Builtin.append, args := #[Operand.tmp 33, Operand.tmp 45], argTypes := #[87, 87] }, type := 87, pos := "ranges.go:151", after := #[{ on := 0, ground := Ground.data }, { on := 12, ground := Ground.data }, { on := 11, ground := Ground.chain }], guard := none }) rfl (fun KK hKK => ?_) ?_
                · refine wp_append_own _ _ _ 87 rfl w3.heap.size 25 i0 (.slice none 0 0) 1 24 Tryd.underlying87 hi0 hz0 hzs hzb rfl (by decide) _ ZZ.length _ rfl PXu18.2.1 ⟨u17.heap.size, 0, none⟩ 1 1 [.slice ua XX.length uc] rfl rfl (by rw [Eu18.out]; exact one_cell) (by simp [Value.oneCell']) (by unfold maxLen; omega) (by omega) (Nat.le_trans HNS.out su18.oth.size) (fun v7 u19' hou19 hgu19 _ => ?_)
                  rw [Eu18.out] at hgu19
                  obtain ⟨zu19, pu19, qu19, ru19⟩ := pb_step PW.out OZ.out (Nat.le_trans HNS.out SW.out.oth.size) HKP.out hou19 hgu19
                  obtain ⟨g7, cap7, rfl⟩ := ownsRow_succ hou19
                  refine hKK.out _ _ (SW.out.trans ru19) (fun _ => ?_)
                  clear hKK KK
                  try simp only [Act.put, List.setIfInBounds_toArray, List.set_cons_zero, List.set_cons_succ]
                  refine wpAnyH_name (fun u19 hu19 => ?_)
                  have su19 : (Kq w3.heap.size kP W) u19 := by rw [hu19.out]; exact (SW.out.trans ru19)
                  rw [← hu19.out] at zu19 pu19 qu19
                  clear hou19 hgu19 ru19
                  refine wpAnyH_ready (rs := [14]) (by kernel_rfl) (by simp) ?_
                  refine AllReadyH.cons (o := { dst := none, op := Op.store 87 (Operand.tmp 6) (Operand.tmp 46), type := 0, pos := "ranges.go:151", after := #[{ on := 13, ground := Ground.data }, { on := 13, ground := Ground.chain }, { on := 0, ground := Ground.phase }, { on := 1, ground := Ground.phase }, { on := 2, ground := Ground.phase }, { on := 3, ground := Ground.phase }, { on := 4, ground := Ground.phase }, { on := 5, ground := Ground.phase }, { on := 6, ground := Ground.phase }, { on := 7, ground := Ground.phase }, { on := 8, ground := Ground.phase }, { on := 9, ground := Ground.phase }, { on := 10, ground := Ground.phase }, { on := 11, ground := Ground.phase }, { on := 12, ground := Ground.phase }, { on := 13, ground := Ground.phase }], guard := none }) rfl (fun KK hKK => ?_) ?_
                  · have cau20 := zu19.1
                    have cbu20 := zu19.2
                    go_simp
                    refine hKK.out _ _ (SW.out.trans qu19) (fun _ => ?_)
                    clear hKK KK
                    try simp only [Act.put]
                    refine wpAnyH_name (fun u20 hu20 => ?_)
                    have su20 : (Kq w3.heap.size kP W) u20 := by rw [hu20.out]; exact (SW.out.trans qu19)
                    rw [← hu20.out] at pu19
                    refine wpAnyH_done (by kernel_rfl) ?_ _
                    have P1 : Hid (PB u20 kP w3.heap.size _ _ _) := pu19
                    have P2 : Hid (Kq w3.heap.size kP W u20) := su20
                    gi_wp2
                    gi_meet
                    exact ⟨_, _, by rw [HE.out]; exact P1.out, P2.out⟩
                  exact AllReadyH.nil
                exact AllReadyH.nil
              exact AllReadyH.nil
            refine AllReadyH.cons (o := { dst := some 45, op := Op.buildSlice 87 1 #[(0, Operand.tmp 44)], type := 87, pos := "ranges.go:151", after := #[{ on := 11, ground := Ground.data }], guard := none }) rfl (fun KK hKK => ?_) ?_
            · go_simp
              refine hKK.out _ _ (su16.trans (Kq.of (al_below _ _) (Nat.le_trans HNS.out su16.oth.size))) (fun _ => ?_)
              clear hKK KK
              try simp only [Act.put, List.setIfInBounds_toArray, List.set_cons_zero, List.set_cons_succ]
              refine wpAnyH_name (fun u21 hu21 => ?_)
              have su21 : (Kq w3.heap.size kP W) u21 := by rw [hu21.out]; exact (su16.trans (Kq.of (al_below _ _) (Nat.le_trans HNS.out su16.oth.size)))
              have PW : Hid (PB u16 kP w3.heap.size (.slice va ZZ.length vc) V ZZ) := PXu16
              have PXu21 : PB u21 kP w3.heap.size (.slice va ZZ.length vc) V ZZ := by rw [hu21.out]; exact (PXu16.below (al_below _ _))
              have OZ : Hid (Ow u16 w3.heap.size (.slice ua XX.length uc) XX) := by first | exact OWu16.out | exact OWu16.out | (have := OWu16.out; rw [← hu16.out] at this; exact this)
              have Eu21 : Hid (u21 = u16.alloc (.cells #[.slice ua XX.length uc] 25)) := hu21
              have SW : Hid (Kq w3.heap.size kP W u16) := su16
              refine wpAnyH_ready (rs := [0]) (by kernel_rfl) (by simp) ?_
              refine AllReadyH.cons (o := { dst := some 33, op := Op.load 87 (Operand.tmp 6), type := 87, pos := "ranges.go:151", after := #[], guard := none }) rfl (fun KK hKK => ?_) ?_
              · have ccu22 := PXu21.cell
                go_simp
                refine hKK.out _ _ (su21) (fun _ => ?_)
                clear hKK KK
                try simp only [Act.put, List.setIfInBounds_toArray, List.set_cons_zero, List.set_cons_succ]
                refine wpAnyH_name (fun u22 hu22 => ?_)
                have su22 : (Kq w3.heap.size kP W) u22 := by rw [hu22.out]; exact (su21)
                have PXu22 : PB u22 kP w3.heap.size (.slice va ZZ.length vc) V ZZ := by rw [hu22.out]; exact (PXu21)
                (try have Eu22 : Hid (u22 = u16.alloc (.cells #[.slice ua XX.length uc] 25)) := by unfold Hid; rw [hu22.out]; exact Eu21.out)
                refine wpAnyH_ready (rs := [13]) (by kernel_rfl) (by simp) ?_
                refine AllReadyH.cons (o := { dst := some 46, op := Op.call { callee := Callee.builtin Builtin.append, args := #[Operand.tmp 33, Operand.tmp 45], argTypes := #[87, 87] }, type := 87, pos := "ranges.go:151", after := #[{ on := 0, ground := Ground.data }, { on := 12, ground := Ground.data }, { on := 11, ground := Ground.chain }], guard := none }) rfl (fun KK hKK => ?_) ?_
                · refine wp_append_own _ _ _ 87 rfl w3.heap.size 25 i0 (.slice none 0 0) 1 24 Tryd.underlying87 hi0 hz0 hzs hzb rfl (by decide) _ ZZ.length _ rfl PXu22.2.1 ⟨u16.heap.size, 0, none⟩ 1 1 [.slice ua XX.length uc] rfl rfl (by rw [Eu22.out]; exact one_cell) (by simp [Value.oneCell']) (by unfold maxLen; omega) (by omega) (Nat.le_trans HNS.out su22.oth.size) (fun v7 u23' hou23 hgu23 _ => ?_)
                  rw [Eu22.out] at hgu23
                  obtain ⟨zu23, pu23, qu23, ru23⟩ := pb_step PW.out OZ.out (Nat.le_trans HNS.out SW.out.oth.size) HKP.out hou23 hgu23
                  obtain ⟨g7, cap7, rfl⟩ := ownsRow_succ hou23
                  refine hKK.out _ _ (SW.out.trans ru23) (fun _ => ?_)
                  clear hKK KK
                  try simp only [Act.put, List.setIfInBounds_toArray, List.set_cons_zero, List.set_cons_succ]
                  refine wpAnyH_name (fun u23 hu23 => ?_)
                  have su23 : (Kq w3.heap.size kP W) u23 := by rw [hu23.out]; exact (SW.out.trans ru23)
                  rw [← hu23.out] at zu23 pu23 qu23
                  clear hou23 hgu23 ru23
                  refine wpAnyH_ready (rs := [14]) (by kernel_rfl) (by simp) ?_
                  refine AllReadyH.cons (o := { dst := none, op := Op.store 87 (Operand.tmp 6) (Operand.tmp 46), type := 0, pos := "ranges.go:151", after := #[{ on := 13, ground := Ground.data }, { on := 13, ground := Ground.chain }, { on := 0, ground := Ground.phase }, { on := 1, ground := Ground.phase }, { on := 2, ground := Ground.phase }, { on := 3, ground := Ground.phase }, { on := 4, ground := Ground.phase }, { on := 5, ground := Ground.phase }, { on := 6, ground := Ground.phase }, { on := 7, ground := Ground.phase }, { on := 8, ground := Ground.phase }, { on := 9, ground := Ground.phase }, { on := 10, ground := Ground.phase }, { on := 11, ground := Ground.phase }, { on := 12, ground := Ground.phase }, { on := 13, ground := Ground.phase }], guard := none }) rfl (fun KK hKK => ?_) ?_
                  · have cau24 := zu23.1
                    have cbu24 := zu23.2
                    go_simp
                    refine hKK.out _ _ (SW.out.trans qu23) (fun _ => ?_)
                    clear hKK KK
                    try simp only [Act.put]
                    refine wpAnyH_name (fun u24 hu24 => ?_)
                    have su24 : (Kq w3.heap.size kP W) u24 := by rw [hu24.out]; exact (SW.out.trans qu23)
                    rw [← hu24.out] at pu23
                    refine wpAnyH_done (by kernel_rfl) ?_ _
                    have P1 : Hid (PB u24 kP w3.heap.size _ _ _) := pu23
                    have P2 : Hid (Kq w3.heap.size kP W u24) := su24
                    gi_wp2
                    gi_meet
                    exact ⟨_, _, by rw [HE.out]; exact P1.out, P2.out⟩
                  exact AllReadyH.nil
                exact AllReadyH.nil
              exact AllReadyH.nil
            exact AllReadyH.nil
          exact AllReadyH.nil
        · have HE : Hid (L1 = []) := by unfold Hid; rw [HL1.out, if_neg him]
          clear HL1
          have lt1 : decide ((i : Int) < (m : Int)) = false := by simp; omega
          have lt1' : ¬ (i : Int) < (m : Int) := by omega
          clear HAT HSN
          gi_wp2
          gi_meet
          exact ⟨_, _, by rw [HE.out, List.append_nil]; exact HPW.out, Kq.refl _ _ _⟩
      case rest =>
        obtain ⟨wz, rfl⟩ : ∃ wz, wz = wc := ⟨_, rfl⟩
        obtain ⟨vz, Vz, hpz, hkz⟩ := hcut
        have HPZ : Hid (PB wz kP w3.heap.size vz Vz (ZZ ++ L1)) := hpz
        have HKZ : Hid (Kq w3.heap.size kP W wz) := hkz
        obtain ⟨ya, yc, rfl⟩ := own_shape hpz.2.1
        have hZ2 : (ZZ ++ L1).length ≤ 131 := by
          have := HL1.out
          have : L1.length ≤ 1 := by rw [this]; split <;> simp
          rw [List.length_append]
          omega
        have HEND : Hid (∀ v V4 W4, PB W4 kP w3.heap.size v V4 ((ZZ ++ L1) ++ [nB (y.2 - y.1)]) → Kq w3.heap.size kP wz W4 → KeepsFrom W0.heap.size W W4 ∧ Kt W0.heap.size (fun k => w3.heap.size ≤ k ∧ k ≠ w5.heap.size) W W4 ∧ (∃ vv V, PB W4 kP w3.heap.size vv V (prsA l ((pre ++ [x]).map (·.1)))) ∧ From w3 W4 ∧ W0.heap.size ≤ W4.heap.size ∧ W4.heap[w5.heap.size]? = some (.cells #[.slice (some ⟨bb, off, none⟩) n c] 28 (0, 0))) := fun v V4 W4 q1 q2 => by
          have q3 := HKZ.out.trans q2
          have hne : w5.heap.size ≠ kP := by have := HNB.out.1; omega
          refine ⟨q3.oth.from _, q3.kt (b := w5.heap.size) (fun j hj hx => ?_) hne (by decide) HBB.out, ⟨v, V4, by rw [HSN.out]; exact q1⟩, q3.bel (Nat.le_refl _) HFW.out, Nat.le_trans HSW.out q3.oth.size, q3.cel _ _ _ _ hne (by decide) HBB.out⟩
          have := HNB.out.2
          rcases Nat.lt_or_ge j w3.heap.size with h' | h'
          · exact .inl h'
          · exact .inr (Classical.byContradiction fun e => hx ⟨h', e⟩)
        have HCC : Hid (∀ V, Fi.Wid V → Calls Tryd.prog 30 #[.int .i64 (y.2 - y.1)] V fun e w' => ∃ v, e = .returned v ∧ Ow w' V.heap.size v (nB (y.2 - y.1)) ∧ Below V.heap.size V w') := fun V hv => fnum_own _ V hv
        have HNP : Hid (1 < w3.heap.size) := Nat.lt_of_lt_of_le HW.out.pos hww
        have HWS : Hid (Fi.Wid wz) := wid_kq hkz HNP.out (HW1.out _ (Below.refl _ _))
        have HNS : Hid (w3.heap.size ≤ wz.heap.size) := Nat.le_trans (Below.size HFW.out) hkz.oth.size
        have FL3 : Hid (∀ x, Kq w3.heap.size kP wz x → x.cell? ⟨Bx, 1, none⟩ = some (.int .i64 y.2) ∧ x.cell? ⟨Bx, 0, none⟩ = some (.int .i64 y.1)) := fun x hx => by
          have h3 := (HKZ.out.trans hx).cel Bx _ _ _ hBk (by decide) HBX.out
          exact ⟨by simp [World.cell?, h3], by simp [World.cell?, h3]⟩
        have sw3 : IntKind.i64.wrap (y.2 - y.1) = y.2 - y.1 := by rw [IntKind.wrap_i64]; omega
        clear hpz hkz HSN HAT HL1 k1 k2 k3 x0 x1 HPW
        generalize nB (y.2 - y.1) = XX at *
        generalize ZZ ++ L1 = Z2 at *
        gi_upto_region 11 with fail
        refine region_round lp _ (by rintro ⟨_, _, h⟩; exact h) (by kernel_rfl) (S := Kq w3.heap.size kP wz) (by kernel_rfl) (Kq.drew _ _ _) (fun _ => ?_)
        refine wpAnyH_name (fun u0 hu0 => ?_)
        have su0 : (Kq w3.heap.size kP wz) u0 := by rw [hu0.out]; exact (Kq.drew _ _ _)
        have PXu0 : PB u0 kP w3.heap.size (.slice ya Z2.length yc) Vz Z2 := by rw [hu0.out]; exact HPZ.out
        refine wpAnyH_take (i := 1) (oi := { dst := some 48, op := Op.fieldAddr 109 (Operand.tmp 8) 1, type := 0, pos := "ranges.go:153", after := #[], guard := none }) (v := ?vt1) rfl (by kernel_rfl) (by kernel_rfl) (by kernel_rfl) (fun _ _ _ h => h) (Or.inl ⟨by rfl, ?yt1⟩) su0 ?rt1
        case yt1 => (intro w hSw; go_simp; try with_reducible rfl)
        try simp only [Act.put, List.setIfInBounds_toArray, List.set_cons_zero, List.set_cons_succ]
        refine wpAnyH_take (i := 2) (oi := { dst := some 49, op := Op.load 3 (Operand.tmp 48), type := 3, pos := "ranges.go:153", after := #[{ on := 1, ground := Ground.data }], guard := none }) (v := .int .i64 y.2) rfl (by kernel_rfl) (by kernel_rfl) (by kernel_rfl) (fun _ _ _ h => h) (Or.inl ⟨by rfl, ?yt2⟩) su0 ?rt2
        case yt2 => (intro w hSw; obtain ⟨t0, t1⟩ := FL3.out w hSw; go_simp; try with_reducible rfl)
        try simp only [Act.put, List.setIfInBounds_toArray, List.set_cons_zero, List.set_cons_succ]
        refine wpAnyH_take (i := 3) (oi := { dst := some 50, op := Op.fieldAddr 109 (Operand.tmp 8) 0, type := 0, pos := "ranges.go:153", after := #[], guard := none }) (v := ?vt3) rfl (by kernel_rfl) (by kernel_rfl) (by kernel_rfl) (fun _ _ _ h => h) (Or.inl ⟨by rfl, ?yt3⟩) su0 ?rt3
        case yt3 => (intro w hSw; go_simp; try with_reducible rfl)
        try simp only [Act.put, List.setIfInBounds_toArray, List.set_cons_zero, List.set_cons_succ]
        refine wpAnyH_take (i := 4) (oi := { dst := some 51, op := Op.load 3 (Operand.tmp 50), type := 3, pos := "ranges.go:153", after := #[{ on := 3, ground := Ground.data }], guard := none }) (v := .int .i64 y.1) rfl (by kernel_rfl) (by kernel_rfl) (by kernel_rfl) (fun _ _ _ h => h) (Or.inl ⟨by rfl, ?yt4⟩) su0 ?rt4
        case yt4 => (intro w hSw; obtain ⟨t0, t1⟩ := FL3.out w hSw; go_simp; try with_reducible rfl)
        try simp only [Act.put, List.setIfInBounds_toArray, List.set_cons_zero, List.set_cons_succ]
        refine wpAnyH_take (i := 5) (oi := { dst := some 52, op := Op.binOp BinOp.sub 3 (Operand.tmp 49) (Operand.tmp 51) 3, type := 3, pos := "ranges.go:153", after := #[{ on := 2, ground := Ground.data }, { on := 4, ground := Ground.data }], guard := none }) (v := ?vt5) rfl (by kernel_rfl) (by kernel_rfl) (by kernel_rfl) (fun _ _ _ h => h) (Or.inl ⟨by rfl, ?yt5⟩) su0 ?rt5
        case yt5 => (intro w hSw; go_simp; try with_reducible rfl)
        try simp only [Act.put, List.setIfInBounds_toArray, List.set_cons_zero, List.set_cons_succ]
        refine wpAnyH_ready (rs := [0, 6]) (by kernel_rfl) (by simp) ?_
        refine AllReadyH.cons (o := { dst := some 47, op := Op.load 87 (Operand.tmp 6), type := 87, pos := "ranges.go:153", after := #[], guard := none }) rfl (fun KK hKK => ?_) ?_
        · have ccu6 := PXu0.cell
          go_simp
          refine hKK.out _ _ (su0) (fun _ => ?_)
          clear hKK KK
          try simp only [Act.put, List.setIfInBounds_toArray, List.set_cons_zero, List.set_cons_succ]
          refine wpAnyH_name (fun u6 hu6 => ?_)
          have su6 : (Kq w3.heap.size kP wz) u6 := by rw [hu6.out]; exact (su0)
          have PXu6 : PB u6 kP w3.heap.size (.slice ya Z2.length yc) Vz Z2 := by rw [hu6.out]; exact (PXu0)
          (try have Eu6 : Hid (u6 = nope.alloc (.cells #[.slice ua XX.length uc] 25)) := by unfold Hid; rw [hu6.out]; exact Eu0.out)
          refine wpAnyH_ready (rs := [6]) (by kernel_rfl) (by simp) ?_
          refine AllReadyH.cons (o := { dst := some 53, op := Op.call { callee := Callee.value (Operand.func 30), args := #[Operand.tmp 52], argTypes := #[3] }, type := 25, pos := "ranges.go:153", after := #[{ on := 5, ground := Ground.data }], guard := none }) rfl (fun KK hKK => ?_) ?_
          · have wdu7 := wid_kq su6 HNP.out HWS.out
            go_simp
            refine (HCC.out _ wdu7).mono ?_
            rintro e u7' ⟨vu7, rfl, ou7, bu7'⟩
            obtain ⟨ua, uc, rfl⟩ := Ow.shape ou7
            (try go_wp2_with fail)
            refine hKK.out _ _ (su6.trans (Kq.of bu7' (Nat.le_trans HNS.out su6.oth.size))) (fun _ => ?_)
            clear hKK KK
            try simp only [Act.put, List.setIfInBounds_toArray, List.set_cons_zero, List.set_cons_succ]
            refine wpAnyH_name (fun u7 hu7 => ?_)
            have su7 : (Kq w3.heap.size kP wz) u7 := by rw [hu7.out]; exact (su6.trans (Kq.of bu7' (Nat.le_trans HNS.out su6.oth.size)))
            have PXu7 : PB u7 kP w3.heap.size (.slice ya Z2.length yc) Vz Z2 := by rw [hu7.out]; exact (PXu6.below bu7')
            have OWu7 : Hid (Ow u7 w3.heap.size (.slice ua XX.length uc) XX) := by unfold Hid; rw [hu7.out]; exact Ow.mono ou7 (Nat.le_trans HNS.out su6.oth.size)
            refine wpAnyH_ready (rs := [7]) (by kernel_rfl) (by simp) ?_
            refine AllReadyH.cons (o := { dst := some 54, op := Op.buildSlice 87 1 #[(0, Operand.tmp 53)], type := 87, pos := "ranges.go:153", after := #[{ on := 6, ground := Ground.data }], guard := none }) rfl (fun KK hKK => ?_) ?_
            · go_simp
              refine hKK.out _ _ (su7.trans (Kq.of (al_below _ _) (Nat.le_trans HNS.out su7.oth.size))) (fun _ => ?_)
              clear hKK KK
              try simp only [Act.put, List.setIfInBounds_toArray, List.set_cons_zero, List.set_cons_succ]
              refine wpAnyH_name (fun u8 hu8 => ?_)
              have su8 : (Kq w3.heap.size kP wz) u8 := by rw [hu8.out]; exact (su7.trans (Kq.of (al_below _ _) (Nat.le_trans HNS.out su7.oth.size)))
              have PW : Hid (PB u7 kP w3.heap.size (.slice ya Z2.length yc) Vz Z2) := PXu7
              have PXu8 : PB u8 kP w3.heap.size (.slice ya Z2.length yc) Vz Z2 := by rw [hu8.out]; exact (PXu7.below (al_below _ _))
              have OZ : Hid (Ow u7 w3.heap.size (.slice ua XX.length uc) XX) := by first | exact OWu7.out | exact OWu7.out | (have := OWu7.out; rw [← hu7.out] at this; exact this)
              have Eu8 : Hid (u8 = u7.alloc (.cells #[.slice ua XX.length uc] 25)) := hu8
              have SW : Hid (Kq w3.heap.size kP wz u7) := su7
              refine wpAnyH_ready (rs := [8]) (by kernel_rfl) (by simp) ?_
              refine AllReadyH.cons (o := { dst := some 55, op := Op.call { callee := Callee.builtin Builtin.append, args := #[Operand.tmp 47, Operand.tmp 54], argTypes := #[87, 87] }, type := 87, pos := "ranges.go:153", after := #[{ on := 0, ground := Ground.data }, { on := 7, ground := Ground.data }, { on := 6, ground := Ground.chain }], guard := none }) rfl (fun KK hKK => ?_) ?_
              · refine wp_append_own _ _ _ 87 rfl w3.heap.size 25 i0 (.slice none 0 0) 1 24 Tryd.underlying87 hi0 hz0 hzs hzb rfl (by decide) _ Z2.length _ rfl PXu8.2.1 ⟨u7.heap.size, 0, none⟩ 1 1 [.slice ua XX.length uc] rfl rfl (by rw [Eu8.out]; exact one_cell) (by simp [Value.oneCell']) (by unfold maxLen; omega) (by omega) (Nat.le_trans HNS.out su8.oth.size) (fun v7 u9' hou9 hgu9 _ => ?_)
                rw [Eu8.out] at hgu9
                obtain ⟨zu9, pu9, qu9, ru9⟩ := pb_step PW.out OZ.out (Nat.le_trans HNS.out SW.out.oth.size) HKP.out hou9 hgu9
                obtain ⟨g7, cap7, rfl⟩ := ownsRow_succ hou9
                refine hKK.out _ _ (SW.out.trans ru9) (fun _ => ?_)
                clear hKK KK
                try simp only [Act.put, List.setIfInBounds_toArray, List.set_cons_zero, List.set_cons_succ]
                refine wpAnyH_name (fun u9 hu9 => ?_)
                have su9 : (Kq w3.heap.size kP wz) u9 := by rw [hu9.out]; exact (SW.out.trans ru9)
                rw [← hu9.out] at zu9 pu9 qu9
                clear hou9 hgu9 ru9
                refine wpAnyH_ready (rs := [9]) (by kernel_rfl) (by simp) ?_
                refine AllReadyH.cons (o := { dst := none, op := Op.store 87 (Operand.tmp 6) (Operand.tmp 55), type := 0, pos := "ranges.go:153", after := #[{ on := 8, ground := Ground.data }, { on := 8, ground := Ground.chain }, { on := 0, ground := Ground.phase }, { on := 1, ground := Ground.phase }, { on := 2, ground := Ground.phase }, { on := 3, ground := Ground.phase }, { on := 4, ground := Ground.phase }, { on := 5, ground := Ground.phase }, { on := 6, ground := Ground.phase }, { on := 7, ground := Ground.phase }, { on := 8, ground := Ground.phase }], guard := none }) rfl (fun KK hKK => ?_) ?_
                · have cau10 := zu9.1
                  have cbu10 := zu9.2
                  go_simp
                  refine hKK.out _ _ (SW.out.trans qu9) (fun _ => ?_)
                  clear hKK KK
                  try simp only [Act.put]
                  refine wpAnyH_name (fun u10 hu10 => ?_)
                  have su10 : (Kq w3.heap.size kP wz) u10 := by rw [hu10.out]; exact (SW.out.trans qu9)
                  rw [← hu10.out] at pu9
                  refine wpAnyH_done (by kernel_rfl) ?_ _
                  have P1 : Hid (PB u10 kP w3.heap.size _ _ _) := pu9
                  have P2 : Hid (Kq w3.heap.size kP wz u10) := su10
                  gi_wp2
                  exact HEND.out _ _ _ P1.out P2.out
                exact AllReadyH.nil
              exact AllReadyH.nil
            exact AllReadyH.nil
          exact AllReadyH.nil
        refine AllReadyH.cons (o := { dst := some 53, op := Op.call { callee := Callee.value (Operand.func 30), args := #[Operand.tmp 52], argTypes := #[3] }, type := 25, pos := "ranges.go:153", after := #[{ on := 5, ground := Ground.data }], guard := none }) rfl (fun KK hKK => ?_) ?_
        · have wdu11 := wid_kq su0 HNP.out HWS.out
          go_simp
          refine (HCC.out _ wdu11).mono ?_
          rintro e u11' ⟨vu11, rfl, ou11, bu11'⟩
          obtain ⟨ua, uc, rfl⟩ := Ow.shape ou11
          (try go_wp2_with fail)
          refine hKK.out _ _ (su0.trans (Kq.of bu11' (Nat.le_trans HNS.out su0.oth.size))) (fun _ => ?_)
          clear hKK KK
          try simp only [Act.put, List.setIfInBounds_toArray, List.set_cons_zero, List.set_cons_succ]
          refine wpAnyH_name (fun u11 hu11 => ?_)
          have su11 : (Kq w3.heap.size kP wz) u11 := by rw [hu11.out]; exact (su0.trans (Kq.of bu11' (Nat.le_trans HNS.out su0.oth.size)))
          have PXu11 : PB u11 kP w3.heap.size (.slice ya Z2.length yc) Vz Z2 := by rw [hu11.out]; exact (PXu0.below bu11')
          have OWu11 : Hid (Ow u11 w3.heap.size (.slice ua XX.length uc) XX) := by unfold Hid; rw [hu11.out]; exact Ow.mono ou11 (Nat.le_trans HNS.out su0.oth.size)
          refine wpAnyH_ready (rs := [0, 7]) (by kernel_rfl) (by simp) ?_
          refine AllReadyH.cons (o := { dst := some 47, op := Op.load 87 (Operand.tmp 6), type := 87, pos := "ranges.go:153", after := #[], guard := none }) rfl (fun KK hKK => ?_) ?_
          · have ccu12 := PXu11.cell
            go_simp
            refine hKK.out _ _ (su11) (fun _ => ?_)
            clear hKK KK
            try simp only [Act.put, List.setIfInBounds_toArray, List.set_cons_zero, List.set_cons_succ]
            refine wpAnyH_name (fun u12 hu12 => ?_)
            have su12 : (Kq w3.heap.size kP wz) u12 := by rw [hu12.out]; exact (su11)
            have PXu12 : PB u12 kP w3.heap.size (.slice ya Z2.length yc) Vz Z2 := by rw [hu12.out]; exact (PXu11)
            (try have Eu12 : Hid (u12 = nope.alloc (.cells #[.slice ua XX.length uc] 25)) := by unfold Hid; rw [hu12.out]; exact Eu11.out)
            refine wpAnyH_ready (rs := [7]) (by kernel_rfl) (by simp) ?_
            refine AllReadyH.cons (o := { dst := some 54, op := Op.buildSlice 87 1 #[(0, Operand.tmp 53)], type := 87, pos := "ranges.go:153", after := #[{ on := 6, ground := Ground.data }], guard := none }) rfl (fun KK hKK => ?_) ?_
            · go_simp
              refine hKK.out _ _ (su12.trans (Kq.of (al_below _ _) (Nat.le_trans HNS.out su12.oth.size))) (fun _ => ?_)
              clear hKK KK
              try simp only [Act.put, List.setIfInBounds_toArray, List.set_cons_zero, List.set_cons_succ]
              refine wpAnyH_name (fun u13 hu13 => ?_)
              have su13 : (Kq w3.heap.size kP wz) u13 := by rw [hu13.out]; exact (su12.trans (Kq.of (al_below _ _) (Nat.le_trans HNS.out su12.oth.size)))
              have PW : Hid (PB u12 kP w3.heap.size (.slice ya Z2.length yc) Vz Z2) := PXu12
              have PXu13 : PB u13 kP w3.heap.size (.slice ya Z2.length yc) Vz Z2 := by rw [hu13.out]; exact (PXu12.below (al_below _ _))
              have OZ : Hid (Ow u12 w3.heap.size (.slice ua XX.length uc) XX) := by first | exact OWu12.out | exact OWu11.out | (have := OWu11.out; rw [← hu12.out] at this; exact this)
              have Eu13 : Hid (u13 = u12.alloc (.cells #[.slice ua XX.length uc] 25)) := hu13
              have SW : Hid (Kq w3.heap.size kP wz u12) := su12
              refine wpAnyH_ready (rs := [8]) (by kernel_rfl) (by simp) ?_
              refine AllReadyH.cons (o := { dst := some 55, op := Op.call { callee := Callee.builtin Builtin.append, args := #[Operand.tmp 47, Operand.tmp 54], argTypes := #[87, 87] }, type := 87, pos := "ranges.go:153", after := #[{ on := 0, ground := Ground.data }, { on := 7, ground := Ground.data }, { on := 6, ground := Ground.chain }], guard := none }) rfl (fun KK hKK => ?_) ?_
              · refine wp_append_own _ _ _ 87 rfl w3.heap.size 25 i0 (.slice none 0 0) 1 24 Tryd.underlying87 hi0 hz0 hzs hzb rfl (by decide) _ Z2.length _ rfl PXu13.2.1 ⟨u12.heap.size, 0, none⟩ 1 1 [.slice ua XX.length uc] rfl rfl (by rw [Eu13.out]; exact one_cell) (by simp [Value.oneCell']) (by unfold maxLen; omega) (by omega) (Nat.le_trans HNS.out su13.oth.size) (fun v7 u14' hou14 hgu14 _ => ?_)
                rw [Eu13.out] at hgu14
                obtain ⟨zu14, pu14, qu14, ru14⟩ := pb_step PW.out OZ.out (Nat.le_trans HNS.out SW.out.oth.size) HKP.out hou14 hgu14
                obtain ⟨g7, cap7, rfl⟩ := ownsRow_succ hou14
                refine hKK.out _ _ (SW.out.trans ru14) (fun _ => ?_)
                clear hKK KK
                try simp only [Act.put, List.setIfInBounds_toArray, List.set_cons_zero, List.set_cons_succ]
                refine wpAnyH_name (fun u14 hu14 => ?_)
                have su14 : (Kq w3.heap.size kP wz) u14 := by rw [hu14.out]; exact (SW.out.trans ru14)
                rw [← hu14.out] at zu14 pu14 qu14
                clear hou14 hgu14 ru14
                refine wpAnyH_ready (rs := [9]) (by kernel_rfl) (by simp) ?_
                refine AllReadyH.cons (o := { dst := none, op := Op.store 87 (Operand.tmp 6) (Operand.tmp 55), type := 0, pos := "ranges.go:153", after := #[{ on := 8, ground := Ground.data }, { on := 8, ground := Ground.chain }, { on := 0, ground := Ground.phase }, { on := 1, ground := Ground.phase }, { on := 2, ground := Ground.phase }, { on := 3, ground := Ground.phase }, { on := 4, ground := Ground.phase }, { on := 5, ground := Ground.phase }, { on := 6, ground := Ground.phase }, { on := 7, ground := Ground.phase }, { on := 8, ground := Ground.phase }], guard := none }) rfl (fun KK hKK => ?_) ?_
                · have cau15 := zu14.1
                  have cbu15 := zu14.2
                  go_simp
                  refine hKK.out _ _ (SW.out.trans qu14) (fun _ => ?_)
                  clear hKK KK
                  try simp only [Act.put]
                  refine wpAnyH_name (fun u15 hu15 => ?_)
                  have su15 : (Kq w3.heap.size kP wz) u15 := by rw [hu15.out]; exact (SW.out.trans qu14)
                  rw [← hu15.out] at pu14
                  refine wpAnyH_done (by kernel_rfl) ?_ _
                  have P1 : Hid (PB u15 kP w3.heap.size _ _ _) := pu14
                  have P2 : Hid (Kq w3.heap.size kP wz u15) := su15
                  gi_wp2
                  exact HEND.out _ _ _ P1.out P2.out
                exact AllReadyH.nil
              exact AllReadyH.nil
            exact AllReadyH.nil
          refine AllReadyH.cons (o := { dst := some 54, op := Op.buildSlice 87 1 #[(0, Operand.tmp 53)], type := 87, pos := "ranges.go:153", after := #[{ on := 6, ground := Ground.data }], guard := none }) rfl (fun KK hKK => ?_) ?_
          · go_simp
            refine hKK.out _ _ (su11.trans (Kq.of (al_below _ _) (Nat.le_trans HNS.out su11.oth.size))) (fun _ => ?_)
            clear hKK KK
            try simp only [Act.put, List.setIfInBounds_toArray, List.set_cons_zero, List.set_cons_succ]
            refine wpAnyH_name (fun u16 hu16 => ?_)
            have su16 : (Kq w3.heap.size kP wz) u16 := by rw [hu16.out]; exact (su11.trans (Kq.of (al_below _ _) (Nat.le_trans HNS.out su11.oth.size)))
            have PW : Hid (PB u11 kP w3.heap.size (.slice ya Z2.length yc) Vz Z2) := PXu11
            have PXu16 : PB u16 kP w3.heap.size (.slice ya Z2.length yc) Vz Z2 := by rw [hu16.out]; exact (PXu11.below (al_below _ _))
            have OZ : Hid (Ow u11 w3.heap.size (.slice ua XX.length uc) XX) := by first | exact OWu11.out | exact OWu11.out | (have := OWu11.out; rw [← hu11.out] at this; exact this)
            have Eu16 : Hid (u16 = u11.alloc (.cells #[.slice ua XX.length uc] 25)) := hu16
            have SW : Hid (Kq w3.heap.size kP wz u11) := su11
            refine wpAnyH_ready (rs := [0]) (by kernel_rfl) (by simp) ?_
            refine AllReadyH.cons (o := { dst := some 47, op := Op.load 87 (Operand.tmp 6), type := 87, pos := "ranges.go:153", after := #[], guard := none }) rfl (fun KK hKK => ?_) ?_
            · have ccu17 := PXu16.cell
              go_simp
              refine hKK.out _ _ (su16) (fun _ => ?_)
              clear hKK KK
              try simp only [Act.put, List.setIfInBounds_toArray, List.set_cons_zero, List.set_cons_succ]
              refine wpAnyH_name (fun u17 hu17 => ?_)
              have su17 : (Kq w3.heap.size kP wz) u17 := by rw [hu17.out]; exact (su16)
              have PXu17 : PB u17 kP w3.heap.size (.slice ya Z2.length yc) Vz Z2 := by rw [hu17.out]; exact (PXu16)
              (try have Eu17 : Hid (u17 = u11.alloc (.cells #[.slice ua XX.length uc] 25)) := by unfold Hid; rw [hu17.out]; exact Eu16.out)
              refine wpAnyH_ready (rs := [8]) (by kernel_rfl) (by simp) ?_
              refine AllReadyH.cons (o := { dst := some 55, op := Op.call { callee := Callee.builtin Builtin.append, args := #[Operand.tmp 47, Operand.tmp 54], argTypes := #[87, 87] }, type := 87, pos := "ranges.go:153", after := #[{ on := 0, ground := Ground.data }, { on := 7, ground := Ground.data }, { on := 6, ground := Ground.chain }], guard := none }) rfl (fun KK hKK => ?_) ?_
              · refine wp_append_own _ _ _ 87 rfl w3.heap.size 25 i0 (.slice none 0 0) 1 24 Tryd.underlying87 hi0 hz0 hzs hzb rfl (by decide) _ Z2.length _ rfl PXu17.2.1 ⟨u11.heap.size, 0, none⟩ 1 1 [.slice ua XX.length uc] rfl rfl (by rw [Eu17.out]; exact one_cell) (by simp [Value.oneCell']) (by unfold maxLen; omega) (by omega) (Nat.le_trans HNS.out su17.oth.size) (fun v7 u18' hou18 hgu18 _ => ?_)
                rw [Eu17.out] at hgu18
                obtain ⟨zu18, pu18, qu18, ru18⟩ := pb_step PW.out OZ.out (Nat.le_trans HNS.out SW.out.oth.size) HKP.out hou18 hgu18
                obtain ⟨g7, cap7, rfl⟩ := ownsRow_succ hou18
                refine hKK.out _ _ (SW.out.trans ru18) (fun _ => ?_)
                clear hKK KK
                try simp only [Act.put, List.setIfInBounds_toArray, List.set_cons_zero, List.set_cons_succ]
                refine wpAnyH_name (fun u18 hu18 => ?_)
                have su18 : (Kq w3.heap.size kP wz) u18 := by rw [hu18.out]; exact (SW.out.trans ru18)
                rw [← hu18.out] at zu18 pu18 qu18
                clear hou18 hgu18 ru18
                refine wpAnyH_ready (rs := [9]) (by kernel_rfl) (by simp) ?_
                refine AllReadyH.cons (o := { dst := none, op := Op.store 87 (Operand.tmp 6) (Operand.tmp 55), type := 0, pos := "ranges.go:153", after := #[{ on := 8, ground := Ground.data }, { on := 8, ground := Ground.chain }, { on := 0, ground := Ground.phase }, { on := 1, ground := Ground.phase }, { on := 2, ground := Ground.phase }, { on := 3, ground := Ground.phase }, { on := 4, ground := Ground.phase }, { on := 5, ground := Ground.phase }, { on := 6, ground := Ground.phase }, { on := 7, ground := Ground.phase }, { on := 8, ground := Ground.phase }], guard := none }) rfl (fun KK hKK => ?_) ?_
                · have cau19 := zu18.1
                  have cbu19 := zu18.2
                  go_simp
                  refine hKK.out _ _ (SW.out.trans qu18) (fun _ => ?_)
                  clear hKK KK
                  try simp only [Act.put]
                  refine wpAnyH_name (fun u19 hu19 => ?_)
                  have su19 : (Kq w3.heap.size kP wz) u19 := by rw [hu19.out]; exact (SW.out.trans qu18)
                  rw [← hu19.out] at pu18
                  refine wpAnyH_done (by kernel_rfl) ?_ _
                  have P1 : Hid (PB u19 kP w3.heap.size _ _ _) := pu18
                  have P2 : Hid (Kq w3.heap.size kP wz u19) := su19
                  gi_wp2
                  exact HEND.out _ _ _ P1.out P2.out
                exact AllReadyH.nil
              exact AllReadyH.nil
            exact AllReadyH.nil
          exact AllReadyH.nil
        exact AllReadyH.nil
    case done =>
      rintro D xs W hD hS ⟨⟨vv, V, hpb⟩, hF, hS2, hbx⟩ hK
      rw [hS, prsA_bwl] at hpb
      have hPL := prs_len l l.length
      have HPA : Hid ((prs l l.length).flatten = putB l) := prs_all H0.out
      have HPU : Hid ((putB l).length ≤ 1032) := putB_len (by rw [← HN.out]; exact h64)
      rw [← HN.out] at hPL hpb HPA
      have k3 := hpb.cell
      obtain ⟨pp, pc, rfl, hP⟩ := LP.parts (PV.lp hpb.2) (by omega)
      have cj := fjoin_any pp pc (prs l n) W hP (by rw [HPA.out]; have := HPU.out; omega)
      have HBW : Hid (Below w.heap.size w W) := HB3.out.trans (Below.mono hF hww)
      have HDK : Hid (W.heap[D]? = some (.deferred (some []))) := hK
      have HDL : Hid (w.heap.size ≤ D) := Nat.le_trans (Nat.le_trans hww HF0.out.size) hD
      rw [HPA.out] at cj
      obtain ⟨PB0, hPB0⟩ : ∃ PB0, PB0 = putB l := ⟨_, rfl⟩
      have HPBE : Hid (PB0 = putB l) := hPB0
      rw [← hPB0] at cj
      clear hPB0
      clear hpb hF hS2 hbx hK hD hP hS HPA
      generalize (prs l n).length = np at *
      gi_wp2_with fail
      go_wp2_with fail
      refine cj.mono ?_
      rintro e w9 ⟨v9, rfl, o9, b9⟩
      obtain ⟨ja, jc, rfl⟩ := Ow.shape o9
      have HO9 : Hid (Ow w9 W.heap.size (.slice ja PB0.length jc) PB0) := o9
      have HB9 : Hid (Below W.heap.size W w9) := b9
      clear cj o9 b9
      go_wp2
      have hK9 : w9.heap[D]? = some (.deferred (some [])) := blk_kept HDK.out HB9.out (blk_lt HDK.out)
      refine ⟨by simp, .inl ⟨_, _, rfl, run_takeDeferred hK9, ?_⟩⟩
      refine ⟨_, results_tmp2 rfl _ _ _, .slice ja PB0.length jc, rfl, ?_, ?_⟩
      · rw [← HPBE.out]
        refine (Ow.mono HO9.out HBW.out.size).keep (fun k cs _ hh => ?_)
        rw [World.putObj_heap_other (fun e => by rw [e] at hh; rw [hh] at hK9; cases hK9)]
        exact hh
      · exact (HBW.out.trans (HB9.out.mono HBW.out.size)).trans (belowK_b (w := w) (Nat.le_refl _) w9 D _ _ HDL.out hK9 rfl rfl)
    case stop =>
      rintro D c pre W _ _ h _
      exact h.elim
set_option maxHeartbeats 1000000 in
theorem put_no (w : World) (u : Value) (l : List Sp) (hu : SSp w u l) (hl : l.length ≤ 100000) (hc : chkL l ≠ 0) :
    Calls Tryd.prog 33 #[u] w fun e w' => e = .returned (.tuple #[.slice none 0 0, .int .i64 (chkL l)]) ∧ Below w.heap.size w w' := by
  obtain ⟨a, c, rfl, -, -, -⟩ := id hu.shape
  obtain ⟨w1, hw1⟩ : ∃ w1, w1 = w.alloc (.cells #[.slice a l.length c] 28) := ⟨_, rfl⟩
  have b1 : Below w.heap.size w w1 := by rw [hw1]; exact al_below _ _
  have g1 : w1.heap[w.heap.size]? = some (.cells #[.slice a l.length c] 28 (0, 0)) := by rw [hw1]; exact heap_alloc_new _ _
  have cc := check_any w1 _ l (hu.kept b1) hl
  have k1 : w1.cell? ⟨w.heap.size, 0, none⟩ = some (.slice a l.length c) := by simp [World.cell?, g1]
  have HB1 : Hid (Below w.heap.size w w1) := b1
  have t0 : (chkL l != 0) = true := by simpa using hc
  clear hu b1 g1 hc
  generalize chkL l = r at *
  generalize l.length = n at *
  refine (callsIn_wide (n := 9)).1 ?_
  refine callsIn_of_wp_marks Tryd.func33 rfl trivial ?_ rfl
  simp only [Tryd.ntmps33, List.size_toArray, List.length_cons, List.length_nil, Nat.reduceAdd, Nat.reduceSub, Array.replicate_succ, Array.replicate_zero, List.push_toArray, List.append_toArray, List.nil_append, List.cons_append]
  refine wpIn_wide.2 ?_
  go_wp2_with fail
  rw [← hw1]
  clear hw1
  go_wp2_with fail
  refine cc.mono ?_
  rintro e w2 ⟨rfl, b2⟩
  have HB2 : Hid (Below w.heap.size w w2) := HB1.out.trans (b2.mono HB1.out.size)
  clear cc b2 k1
  go_wp2
  refine ⟨_, results_tmp2 rfl _ _ _, rfl, HB2.out⟩
end Go.Proofs.YtjjjomikgpnahaaDoor
namespace Go.Proofs.YtjjjomikgpnahaaDoor
open Go.RowKit Go.Shelf
set_option maxRecDepth 100000

/-- A part: a slice of bytes whose memory is no list of parts. -/
def Pt (w : World) (u : Value) (X : List Int) : Prop := Sl w u X ∧ ∀ k, rowB u = some k → ∃ cs t fr, w.heap[k]? = some (.cells cs t fr) ∧ t ≠ 25
theorem sl_heap {w w' : World} {u : Value} {X : List Int} (h : Sl w u X) (hk : ∀ k, rowB u = some k → w'.heap[k]? = w.heap[k]?) : Sl w' u X := by
  obtain ⟨a, c, rfl, h1, h2, h3, h4⟩ := h
  refine ⟨a, c, rfl, h1, h2, h3, ?_⟩
  rcases h4 with h4 | ⟨hp, b, off, rfl, q1, q2, q3, q4⟩
  · exact .inl h4
  · exact .inr ⟨hp, b, off, rfl, q1, q2, fun i hi => (World.cell?_of_block (a := ⟨b, off + i, none⟩) (hk b rfl)).trans (q3 i hi), q4⟩
theorem Pt.below {w w' : World} {u : Value} {X : List Int} (h : Pt w u X) (hb : Below w.heap.size w w') : Pt w' u X :=
  ⟨h.1.kept hb, fun k hk => by
    obtain ⟨cs, t, fr, h1, h2⟩ := h.2 k hk
    exact ⟨cs, t, fr, blk_kept h1 hb (blk_lt h1), h2⟩⟩
theorem Pt.ow {w : World} {B : Nat} {u : Value} {X : List Int} (h : Ow w B u X) : Pt w u X := by
  refine ⟨h.sl, fun k hk => ?_⟩
  rcases h.1.2 with ⟨rfl, _⟩ | ⟨g, cap, cur, rfl, _, hh, _⟩
  · cases hk
  · obtain rfl : g = k := by simpa [rowB] using hk
    exact ⟨_, _, _, hh, by decide⟩
/-- A list of parts in a row of the call's own. -/
def LQ (w : World) (B : Nat) (v : Value) (ZZ : List (List Int)) : Prop :=
  ∃ V : List Value, w.ownsRow B 25 1 v ZZ.length V ∧ ∀ i, i < ZZ.length → ∃ u, V[i]? = some u ∧ Pt w u (ZZ.getD i [])
theorem LQ.below {w w' : World} {B : Nat} {v : Value} {ZZ : List (List Int)} (h : LQ w B v ZZ) (hb : Below w.heap.size w w') : LQ w' B v ZZ := by
  obtain ⟨V, h1, h2⟩ := h
  refine ⟨V, own_below h1 hb, fun i hi => ?_⟩
  obtain ⟨u, h3, h4⟩ := h2 i hi
  exact ⟨u, h3, h4.below hb⟩
theorem LQ.parts {w : World} {B : Nat} {v : Value} {ZZ : List (List Int)} (h : LQ w B v ZZ) (hm : ZZ.length ≤ 100000) : ∃ p c, v = .slice p ZZ.length c ∧ Fi.Parts w p ZZ := by
  obtain ⟨V, ho, h⟩ := h
  have ho' := ho
  rcases ho.2 with ⟨rfl, h0⟩ | ⟨g, cap, cur, rfl, _⟩
  · exact ⟨none, 0, by rw [h0], by omega, .inl (List.length_eq_zero_iff.1 h0)⟩
  · refine ⟨_, cap, rfl, by omega, .inr ⟨g, 0, rfl, fun i hi => ?_⟩⟩
    obtain ⟨u, hu, sl⟩ := h i hi
    refine ⟨u, ?_, fsl sl.1⟩
    have := ho'.cells (g := g) rfl i u hu
    rwa [Addr.add_lit] at this
theorem LQ.one {w : World} {B : Nat} {u : Value} {X : List Int} (h : Pt w u X) (hB : B ≤ w.heap.size) : LQ (w.alloc (.cells #[u] 25)) B (.slice (some ⟨w.heap.size, 0, none⟩) 1 1) [X] := by
  refine ⟨[u], ⟨rfl, .inr ⟨w.heap.size, 1, #[u], rfl, hB, heap_alloc_new _ _, Nat.le_refl _, by unfold maxLen; omega, rfl, rfl⟩⟩, fun i hi => ?_⟩
  obtain rfl : i = 0 := by simpa using hi
  exact ⟨u, rfl, h.below (al_below _ _)⟩
/-- One byte, alone. -/
theorem Pt.byte (w : World) (b : Int) (h : 0 ≤ b ∧ b < 256) : Pt (w.alloc (.cells #[.int .u8 b] 5)) (.slice (some ⟨w.heap.size, 0, none⟩) 1 1) [b] := by
  refine ⟨⟨_, 1, rfl, Nat.le_refl _, by unfold maxLen; omega, fun e => (by cases e), .inr ⟨Nat.one_pos, w.heap.size, 0, rfl, Nat.le_refl _, by unfold maxLen; omega, fun i hi => ?_, fun i => ?_⟩⟩, fun k hk => ?_⟩
  · obtain rfl : i = 0 := by simpa using hi
    rw [World.cell?_alloc_at _ _ _ _ rfl]
    rfl
  · cases i with
    | zero => simpa using h
    | succ i => simp
  · obtain rfl : w.heap.size = k := by simpa [rowB] using hk
    exact ⟨_, _, _, heap_alloc_new _ _, by decide⟩
/-- Bytes in the midst of a plain form. -/
theorem Pt.nonce {w : World} {g : Nat} {p : Fm} {sv : Value} (h : PF w g 36 p sv) (hn : p.nc.length = 16) (hb : ∀ i, 0 ≤ p.nc.getD i 0 ∧ p.nc.getD i 0 < 256) : Pt w (.slice (some ⟨g, 6, none⟩) 16 16) p.nc := by
  refine ⟨sl_range (h.pc hn).nc hb hn.symm (Nat.le_refl _) (by unfold maxLen; omega), fun k hk => ?_⟩
  obtain rfl : g = k := by simpa [rowB] using hk
  exact ⟨_, _, _, h, by decide⟩
/-- A part laid behind. -/
theorem wpList_append_lq {w : World} {ops : Array Oper} {rest : List Oper} {o : Oper} {a : Act} {Q : Exit → Act → World → Prop} (hgd : o.guard = none) (s x : Operand)
    (ho : o.op = .call { callee := .builtin .append, args := #[s, x], argTypes := #[87, 87] })
    (B : Nat) (v : Value) (ZZ : List (List Int)) (hs : a.eval s = v) (hown : LQ w B v ZZ) (g : Nat) (u : Value) (X : List Int) (cap : Nat) (hX : Pt w u X)
    (hx : a.eval x = .slice (some ⟨g, 0, none⟩) 1 cap) (hc : w.cell? ⟨g, 0, none⟩ = some u) (hbig : ZZ.length ≤ 100000) (hbase : B ≤ w.heap.size)
    (h : ∀ v' w', LQ w' B v' (ZZ ++ [X]) → Below B w w' → wpList Tryd.prog ops Q rest (a.put o.dst v') w') : wpList Tryd.prog ops Q (o :: rest) a w := by
  obtain ⟨i0, hi, hz0, hz1, hz2⟩ := info_parts infoB
  obtain ⟨V, hV, hall⟩ := hown
  refine wpList_append_own_wide w hgd s x 87 ho B 25 i0 (.slice none 0 0) 1 24 Tryd.underlying87 hi hz0 hz1 hz2 rfl (by decide) v ZZ.length V hs hV ⟨g, 0, none⟩ 1 cap [u] hx rfl ?_ ?_ (by unfold maxLen; omega) (by omega) hbase ?_
  · intro j z hj
    rw [Addr.add_lit]
    cases j with
    | zero => simp at hj; subst hj; exact hc
    | succ j => simp at hj
  · intro z hz
    simp at hz
    subst hz
    obtain ⟨_, _, rfl, -⟩ := hX.1
    rfl
  · intro v' w' ho' hg _
    have ap : ∀ {y : Value} {Y : List Int}, Pt w y Y → Pt w' y Y := fun {y Y} hy => by
      have key : ∀ k, rowB y = some k → w'.heap[k]? = w.heap[k]? := fun k hk => by
        obtain ⟨cs, t, fr, h1, h2⟩ := hy.2 k hk
        refine hg.block k (blk_lt h1) (fun e => ?_)
        rcases hV.2 with ⟨rfl, _⟩ | ⟨g', cap', cur, rfl, _, hh, _⟩
        · cases e
        · cases e
          rw [hh] at h1
          cases h1
          exact h2 rfl
      exact ⟨sl_heap hy.1 key, fun k hk => by
        obtain ⟨cs, t, fr, h1, h2⟩ := hy.2 k hk
        exact ⟨cs, t, fr, (key k hk).trans h1, h2⟩⟩
    have hVl : V.length = ZZ.length := by have := hV.1; simpa using this
    refine h v' w' ⟨V ++ [u], by rw [List.length_append]; exact ho', fun i hi => ?_⟩ ((Below.refl B w).grown hg hbase (own_base hV))
    rw [List.length_append, List.length_singleton] at hi
    rcases Nat.lt_or_ge i ZZ.length with h' | h'
    · obtain ⟨z, hz, oz⟩ := hall i h'
      refine ⟨z, by rw [List.getElem?_append_left (by omega)]; exact hz, ?_⟩
      have e : (ZZ ++ [X]).getD i [] = ZZ.getD i [] := by simp [List.getD, List.getElem?_append_left h']
      rw [e]
      exact ap oz
    · obtain rfl : i = ZZ.length := by omega
      refine ⟨u, by rw [List.getElem?_append_right (by omega), hVl]; simp, ?_⟩
      have e : (ZZ ++ [X]).getD ZZ.length [] = X := by simp [List.getD]
      rw [e]
      exact ap hX
theorem ssp_row {w : World} {v : Value} {l : List Sp} (h : SSp w v l) (hn : l ≠ []) : ∀ k, rowB v = some k → k < w.heap.size := fun k hk => by
  obtain ⟨a, c, rfl, -, -, -⟩ := h.shape
  obtain ⟨b, off, rfl, hr⟩ := h.at 0 (List.length_pos_iff.2 hn)
  obtain rfl : b = k := by simpa [rowB] using hk
  exact World.block_lt_of_cell? _ _ (spC hr).1
set_option maxHeartbeats 1000000 in
theorem ftext_ow (s : ByteArray) (w : World) (hw : Fi.Wid w) (hs : s.size ≤ 140737488355328) :
    Calls Tryd.prog 32 #[.string s] w fun r w' => ∃ v, r = .returned v ∧ Ow w' w.heap.size v (Fi.textB s) ∧ Below w.heap.size w w' := by
  have c1 := Fi.fnum_any s.size w hw
  have hlen : (Fi.textB s).length ≤ 200000000000000 := by
    have := (Fi.textB_len s).1
    omega
  go_enter Tryd.func32, Tryd.ntmps32
  go_wp2_with fail
  refine c1.mono ?_
  rintro e w1 ⟨v1, rfl, sl1, bel1⟩
  obtain ⟨a2, cap2, w2, cv, sl2, bel2⟩ := Fi.conv_str s w1 (by omega)
  have hP : ∀ u1 u2, Fi.Sl w2 u1 (Fi.numB s.size) → Fi.Sl w2 u2 (Fi.sb s) → Fi.Parts (w2.alloc (.cells #[u1, u2] 25)) (some ⟨w2.heap.size, 0, none⟩) [Fi.numB s.size, Fi.sb s] := fun u1 u2 s1 s2 => Fi.parts2 w2 u1 u2 _ _ s1 s2
  have sl1' := sl1.kept bel2
  obtain ⟨a1, cap1, rfl, _⟩ := sl1
  have cj := fjoin_any _ 2 _ _ (hP _ _ sl1' sl2) (by simpa [Fi.textB] using hlen)
  have hfl : [Fi.numB s.size, Fi.sb s].flatten = Fi.textB s := by simp [Fi.textB]
  rw [hfl] at cj
  have hb12 := bel1.trans (bel2.mono bel1.size)
  have HB3 : Hid (Below w.heap.size w (w2.alloc (.cells #[.slice a1 (Fi.numB s.size).length cap1, .slice (some a2) s.size cap2] 25))) := hb12.alloc hb12.size _
  clear hP sl1' sl2 c1 hfl hlen
  simp only [List.length_cons, List.length_nil] at cj
  generalize (Fi.numB s.size).length = L1 at *
  obtain ⟨TB, hTB⟩ : ∃ TB, TB = Fi.textB s := ⟨_, rfl⟩
  have HTB : Hid (TB = Fi.textB s) := hTB
  rw [← hTB] at cj
  clear hTB
  clear bel1 bel2 hb12
  go_wp2_with (go_at_call 34; refine cj.mono ?_; rintro e w3 ⟨v3, rfl, own3, bel3⟩)
  go_ret
  exact ⟨v3, rfl, by rw [← HTB.out]; exact own3.mono HB3.out.size, HB3.out.trans (bel3.mono HB3.out.size)⟩
end Go.Proofs.YtjjjomikgpnahaaDoor
namespace Go.Proofs.YtjjjomikgpnahaaDoor
open Go.RowKit Go.Shelf
set_option maxRecDepth 100000

theorem hlen_ok {p : Fm} (h : Ok p) (hn : p.nc.length = 16) : (putM p).length ≤ 200000000000000 := by
  have := hdB_len h hn
  rw [putM_eq, List.length_cons, List.length_append]
  omega
theorem key1 (A1 A2 : List Int) (A3 : Int) (A4 A5 A6 A7 : List Int) : (1 : Int) :: (((if false = true then A1 else []) ++ ((if false = true then A2 else []) ++ ((if false = true then [A3] else []) ++ ((if false = true then A4 else []) ++ ((if false = true then A5 else []) ++ (if false = true then A6 else [])))))) ++ (if false = true then A7 else [])) = ([(1 : Int)] :: []).flatten := by simp
theorem putM_1' {p : Fm} (hk : p.k = 1) (e1 : hI 1 = false) (e2 : hN 1 = false) (e3 : hF 1 = false) (e4 : hC 1 = false) (e5 : hO 1 = false) (e6 : hT 1 = false) (e7 : hS 1 = false) : putM p = ([1] :: []).flatten := by
  rw [putM_eq, hk]
  unfold hdB
  rw [hk, e1, e2, e3, e4, e5, e6, e7]
  exact key1 _ _ _ _ _ _ _
theorem putM_1 {p : Fm} (hk : p.k = 1) : putM p = ([1] :: []).flatten := putM_1' hk (by decide) (by decide) (by decide) (by decide) (by decide) (by decide) (by decide)
theorem key2 (A1 A2 : List Int) (A3 : Int) (A4 A5 A6 A7 : List Int) : (2 : Int) :: (((if false = true then A1 else []) ++ ((if true = true then A2 else []) ++ ((if false = true then [A3] else []) ++ ((if false = true then A4 else []) ++ ((if false = true then A5 else []) ++ (if false = true then A6 else [])))))) ++ (if true = true then A7 else [])) = ([(2 : Int)] :: [A2, A7]).flatten := by simp
theorem putM_2' {p : Fm} (hk : p.k = 2) (e1 : hI 2 = false) (e2 : hN 2 = true) (e3 : hF 2 = false) (e4 : hC 2 = false) (e5 : hO 2 = false) (e6 : hT 2 = false) (e7 : hS 2 = true) : putM p = ([2] :: [nB p.n, putB p.sp]).flatten := by
  rw [putM_eq, hk]
  unfold hdB
  rw [hk, e1, e2, e3, e4, e5, e6, e7]
  exact key2 _ _ _ _ _ _ _
theorem putM_2 {p : Fm} (hk : p.k = 2) : putM p = ([2] :: [nB p.n, putB p.sp]).flatten := putM_2' hk (by decide) (by decide) (by decide) (by decide) (by decide) (by decide) (by decide)
theorem key3 (A1 A2 : List Int) (A3 : Int) (A4 A5 A6 A7 : List Int) : (3 : Int) :: (((if true = true then A1 else []) ++ ((if true = true then A2 else []) ++ ((if true = true then [A3] else []) ++ ((if false = true then A4 else []) ++ ((if false = true then A5 else []) ++ (if true = true then A6 else [])))))) ++ (if false = true then A7 else [])) = ([(3 : Int)] :: [A1, A2, [A3], A6]).flatten := by simp
theorem putM_3' {p : Fm} (hk : p.k = 3) (e1 : hI 3 = true) (e2 : hN 3 = true) (e3 : hF 3 = true) (e4 : hC 3 = false) (e5 : hO 3 = false) (e6 : hT 3 = true) (e7 : hS 3 = false) : putM p = ([3] :: [nB p.id, nB p.n, [finB p.fin], Fi.textB p.tx]).flatten := by
  rw [putM_eq, hk]
  unfold hdB
  rw [hk, e1, e2, e3, e4, e5, e6, e7]
  exact key3 _ _ _ _ _ _ _
theorem putM_3 {p : Fm} (hk : p.k = 3) : putM p = ([3] :: [nB p.id, nB p.n, [finB p.fin], Fi.textB p.tx]).flatten := putM_3' hk (by decide) (by decide) (by decide) (by decide) (by decide) (by decide) (by decide)
theorem key4 (A1 A2 : List Int) (A3 : Int) (A4 A5 A6 A7 : List Int) : (4 : Int) :: (((if true = true then A1 else []) ++ ((if true = true then A2 else []) ++ ((if false = true then [A3] else []) ++ ((if true = true then A4 else []) ++ ((if false = true then A5 else []) ++ (if false = true then A6 else [])))))) ++ (if false = true then A7 else [])) = ([(4 : Int)] :: [A1, A2, A4]).flatten := by simp
theorem putM_4' {p : Fm} (hk : p.k = 4) (e1 : hI 4 = true) (e2 : hN 4 = true) (e3 : hF 4 = false) (e4 : hC 4 = true) (e5 : hO 4 = false) (e6 : hT 4 = false) (e7 : hS 4 = false) : putM p = ([4] :: [nB p.id, nB p.n, nB p.cd]).flatten := by
  rw [putM_eq, hk]
  unfold hdB
  rw [hk, e1, e2, e3, e4, e5, e6, e7]
  exact key4 _ _ _ _ _ _ _
theorem putM_4 {p : Fm} (hk : p.k = 4) : putM p = ([4] :: [nB p.id, nB p.n, nB p.cd]).flatten := putM_4' hk (by decide) (by decide) (by decide) (by decide) (by decide) (by decide) (by decide)
theorem key5 (A1 A2 : List Int) (A3 : Int) (A4 A5 A6 A7 : List Int) : (5 : Int) :: (((if true = true then A1 else []) ++ ((if false = true then A2 else []) ++ ((if false = true then [A3] else []) ++ ((if true = true then A4 else []) ++ ((if false = true then A5 else []) ++ (if false = true then A6 else [])))))) ++ (if false = true then A7 else [])) = ([(5 : Int)] :: [A1, A4]).flatten := by simp
theorem putM_5' {p : Fm} (hk : p.k = 5) (e1 : hI 5 = true) (e2 : hN 5 = false) (e3 : hF 5 = false) (e4 : hC 5 = true) (e5 : hO 5 = false) (e6 : hT 5 = false) (e7 : hS 5 = false) : putM p = ([5] :: [nB p.id, nB p.cd]).flatten := by
  rw [putM_eq, hk]
  unfold hdB
  rw [hk, e1, e2, e3, e4, e5, e6, e7]
  exact key5 _ _ _ _ _ _ _
theorem putM_5 {p : Fm} (hk : p.k = 5) : putM p = ([5] :: [nB p.id, nB p.cd]).flatten := putM_5' hk (by decide) (by decide) (by decide) (by decide) (by decide) (by decide) (by decide)
theorem key6 (A1 A2 : List Int) (A3 : Int) (A4 A5 A6 A7 : List Int) : (6 : Int) :: (((if false = true then A1 else []) ++ ((if true = true then A2 else []) ++ ((if false = true then [A3] else []) ++ ((if false = true then A4 else []) ++ ((if false = true then A5 else []) ++ (if false = true then A6 else [])))))) ++ (if false = true then A7 else [])) = ([(6 : Int)] :: [A2]).flatten := by simp
theorem putM_6' {p : Fm} (hk : p.k = 6) (e1 : hI 6 = false) (e2 : hN 6 = true) (e3 : hF 6 = false) (e4 : hC 6 = false) (e5 : hO 6 = false) (e6 : hT 6 = false) (e7 : hS 6 = false) : putM p = ([6] :: [nB p.n]).flatten := by
  rw [putM_eq, hk]
  unfold hdB
  rw [hk, e1, e2, e3, e4, e5, e6, e7]
  exact key6 _ _ _ _ _ _ _
theorem putM_6 {p : Fm} (hk : p.k = 6) : putM p = ([6] :: [nB p.n]).flatten := putM_6' hk (by decide) (by decide) (by decide) (by decide) (by decide) (by decide) (by decide)
theorem key7 (A1 A2 : List Int) (A3 : Int) (A4 A5 A6 A7 : List Int) : (7 : Int) :: (((if true = true then A1 else []) ++ ((if true = true then A2 else []) ++ ((if false = true then [A3] else []) ++ ((if false = true then A4 else []) ++ ((if false = true then A5 else []) ++ (if false = true then A6 else [])))))) ++ (if false = true then A7 else [])) = ([(7 : Int)] :: [A1, A2]).flatten := by simp
theorem putM_7' {p : Fm} (hk : p.k = 7) (e1 : hI 7 = true) (e2 : hN 7 = true) (e3 : hF 7 = false) (e4 : hC 7 = false) (e5 : hO 7 = false) (e6 : hT 7 = false) (e7 : hS 7 = false) : putM p = ([7] :: [nB p.id, nB p.n]).flatten := by
  rw [putM_eq, hk]
  unfold hdB
  rw [hk, e1, e2, e3, e4, e5, e6, e7]
  exact key7 _ _ _ _ _ _ _
theorem putM_7 {p : Fm} (hk : p.k = 7) : putM p = ([7] :: [nB p.id, nB p.n]).flatten := putM_7' hk (by decide) (by decide) (by decide) (by decide) (by decide) (by decide) (by decide)
theorem key8 (A1 A2 : List Int) (A3 : Int) (A4 A5 A6 A7 : List Int) : (8 : Int) :: (((if false = true then A1 else []) ++ ((if true = true then A2 else []) ++ ((if false = true then [A3] else []) ++ ((if false = true then A4 else []) ++ ((if false = true then A5 else []) ++ (if false = true then A6 else [])))))) ++ (if false = true then A7 else [])) = ([(8 : Int)] :: [A2]).flatten := by simp
theorem putM_8' {p : Fm} (hk : p.k = 8) (e1 : hI 8 = false) (e2 : hN 8 = true) (e3 : hF 8 = false) (e4 : hC 8 = false) (e5 : hO 8 = false) (e6 : hT 8 = false) (e7 : hS 8 = false) : putM p = ([8] :: [nB p.n]).flatten := by
  rw [putM_eq, hk]
  unfold hdB
  rw [hk, e1, e2, e3, e4, e5, e6, e7]
  exact key8 _ _ _ _ _ _ _
theorem putM_8 {p : Fm} (hk : p.k = 8) : putM p = ([8] :: [nB p.n]).flatten := putM_8' hk (by decide) (by decide) (by decide) (by decide) (by decide) (by decide) (by decide)
theorem key9 (A1 A2 : List Int) (A3 : Int) (A4 A5 A6 A7 : List Int) : (9 : Int) :: (((if false = true then A1 else []) ++ ((if false = true then A2 else []) ++ ((if false = true then [A3] else []) ++ ((if false = true then A4 else []) ++ ((if true = true then A5 else []) ++ (if true = true then A6 else [])))))) ++ (if false = true then A7 else [])) = ([(9 : Int)] :: [A5, A6]).flatten := by simp
theorem putM_9' {p : Fm} (hk : p.k = 9) (e1 : hI 9 = false) (e2 : hN 9 = false) (e3 : hF 9 = false) (e4 : hC 9 = false) (e5 : hO 9 = true) (e6 : hT 9 = true) (e7 : hS 9 = false) : putM p = ([9] :: [p.nc, Fi.textB p.tx]).flatten := by
  rw [putM_eq, hk]
  unfold hdB
  rw [hk, e1, e2, e3, e4, e5, e6, e7]
  exact key9 _ _ _ _ _ _ _
theorem putM_9 {p : Fm} (hk : p.k = 9) : putM p = ([9] :: [p.nc, Fi.textB p.tx]).flatten := putM_9' hk (by decide) (by decide) (by decide) (by decide) (by decide) (by decide) (by decide)
theorem key10 (A1 A2 : List Int) (A3 : Int) (A4 A5 A6 A7 : List Int) : (10 : Int) :: (((if false = true then A1 else []) ++ ((if false = true then A2 else []) ++ ((if false = true then [A3] else []) ++ ((if true = true then A4 else []) ++ ((if false = true then A5 else []) ++ (if true = true then A6 else [])))))) ++ (if false = true then A7 else [])) = ([(10 : Int)] :: [A4, A6]).flatten := by simp
theorem putM_10' {p : Fm} (hk : p.k = 10) (e1 : hI 10 = false) (e2 : hN 10 = false) (e3 : hF 10 = false) (e4 : hC 10 = true) (e5 : hO 10 = false) (e6 : hT 10 = true) (e7 : hS 10 = false) : putM p = ([10] :: [nB p.cd, Fi.textB p.tx]).flatten := by
  rw [putM_eq, hk]
  unfold hdB
  rw [hk, e1, e2, e3, e4, e5, e6, e7]
  exact key10 _ _ _ _ _ _ _
theorem putM_10 {p : Fm} (hk : p.k = 10) : putM p = ([10] :: [nB p.cd, Fi.textB p.tx]).flatten := putM_10' hk (by decide) (by decide) (by decide) (by decide) (by decide) (by decide) (by decide)
end Go.Proofs.YtjjjomikgpnahaaDoor
namespace Go.Proofs.YtjjjomikgpnahaaDoor
open Go.RowKit Go.Shelf
set_option maxRecDepth 100000

set_option maxHeartbeats 8000000 in
theorem lay1 (p : Fm) (sv : Value) (w : World) (ht : Tb w) (hi : FI w p sv) (hok : Ok p) (hk : p.k = 1) :
    Calls Tryd.prog 18 #[.agg (plA p sv)] w fun e w' => ∃ v, e = .returned v ∧ Ow w' w.heap.size v (putM p) ∧ Below w.heap.size w w' := by
  obtain ⟨W1, hW1⟩ : ∃ W1, W1 = w.alloc (.cells (plA p sv) 36) := ⟨_, rfl⟩
  have b1 : Below w.heap.size w W1 := by rw [hW1]; exact al_below _ _
  have g1 : PF W1 w.heap.size 36 p sv := by rw [hW1]; exact PF.new w _ p sv
  obtain ⟨W2, hW2⟩ : ∃ W2, W2 = W1.alloc (.cells #[.int .i64 (pkN 1), .int .i64 (mT 1)] 63) := ⟨_, rfl⟩
  have b2 : Below W1.heap.size W1 W2 := by rw [hW2]; exact al_below _ _
  have g2 : W2.heap[W1.heap.size]? = some (.cells #[.int .i64 (pkN 1), .int .i64 (mT 1)] 63 (0, 0)) := by rw [hW2]; exact heap_alloc_new _ _
  have B2 : Below w.heap.size w W2 := b1.trans (b2.mono b1.size)
  have FG : Hid (∀ x, From W2 x → PF x w.heap.size 36 p sv) := fun x hx => (g1.kept b2).kept hx
  have FK : Hid (∀ x, From W2 x → PC x w.heap.size p sv) := fun x hx => (FG.out x hx).pc hi.k.nl
  have FS : Hid (∀ x, From W2 x → x.cell? ⟨W1.heap.size, 0, none⟩ = some (.int .i64 (pkN 1)) ∧ x.cell? ⟨W1.heap.size, 1, none⟩ = some (.int .i64 (mT 1))) := fun x hx => by
    have := blk_kept g2 hx (blk_lt g2)
    exact ⟨by simp [World.cell?, this], by simp [World.cell?, this]⟩
  have FB : Hid (∀ x, From W2 x → Below w.heap.size w x) := fun x hx => B2.trans (Below.mono hx B2.size)
  have FT : Hid (∀ x, From W2 x → Fi.Wid x) := fun x hx => (ht.next (FB.out x hx)).v
  have FN : Hid (W2.heap.size = W2.heap.size) := rfl
  have HWN : Hid (w.heap.size ≤ W2.heap.size) := B2.size
  have HI : Hid (FI w p sv) := hi
  have HOK : Hid (Ok p) := hok
  obtain ⟨t0, t1⟩ := (ht.next b1).s 1 (by omega)
  have hks := (g1.pc hi.k.nl).c0
  rw [hk] at hks
  have HPM : Hid (putM p = ([1] :: []).flatten) := by
    unfold Hid
    exact putM_1 hk
  obtain ⟨sa, sc, rfl, -, -, -⟩ := hi.s.shape
  obtain ⟨Wa, hWa⟩ : ∃ Wa, Wa = W2.alloc (.cells #[.int .u8 1] 5) := ⟨_, rfl⟩
  obtain ⟨X0, hX0⟩ : ∃ X0, X0 = Wa.alloc (.cells #[.slice (some ⟨W2.heap.size, 0, none⟩) 1 1] 25) := ⟨_, rfl⟩
  have ba : Below W2.heap.size W2 Wa := by rw [hWa]; exact al_below _ _
  have bx : Below Wa.heap.size Wa X0 := by rw [hX0]; exact al_below _ _
  have FX0 : Hid (From W2 X0) := ba.trans (bx.mono ba.size)
  have pa : Pt Wa (.slice (some ⟨W2.heap.size, 0, none⟩) 1 1) [1] := by rw [hWa]; exact Pt.byte W2 1 (by omega)
  have hza : Wa.heap.size = W2.heap.size + 1 := by rw [hWa]; simp
  have LX0 : Hid (LQ X0 W2.heap.size (.slice (some ⟨W2.heap.size + 1, 0, none⟩) 1 1) [[1]]) := by unfold Hid; rw [hX0, ← hza]; exact LQ.one pa ba.size
  clear b1 g1 b2 g2 B2 ht hi ba bx pa FN hok hza
  have CI : Hid (∀ W, Calls Tryd.prog 27 #[.agg #[.int .i64 (pkN 1), .int .i64 (mT 1)], .int .i64 1] W fun e w' => e = .returned (.bool false) ∧ Below W.heap.size W w') := fun W => has_k 1 (by omega) (by omega) W 1 _ (by decide)
  have CN : Hid (∀ W, Calls Tryd.prog 27 #[.agg #[.int .i64 (pkN 1), .int .i64 (mT 1)], .int .i64 2] W fun e w' => e = .returned (.bool false) ∧ Below W.heap.size W w') := fun W => has_k 1 (by omega) (by omega) W 2 _ (by decide)
  have CF : Hid (∀ W, Calls Tryd.prog 27 #[.agg #[.int .i64 (pkN 1), .int .i64 (mT 1)], .int .i64 4] W fun e w' => e = .returned (.bool false) ∧ Below W.heap.size W w') := fun W => has_k 1 (by omega) (by omega) W 4 _ (by decide)
  have CC : Hid (∀ W, Calls Tryd.prog 27 #[.agg #[.int .i64 (pkN 1), .int .i64 (mT 1)], .int .i64 8] W fun e w' => e = .returned (.bool false) ∧ Below W.heap.size W w') := fun W => has_k 1 (by omega) (by omega) W 8 _ (by decide)
  have CO : Hid (∀ W, Calls Tryd.prog 27 #[.agg #[.int .i64 (pkN 1), .int .i64 (mT 1)], .int .i64 16] W fun e w' => e = .returned (.bool false) ∧ Below W.heap.size W w') := fun W => has_k 1 (by omega) (by omega) W 16 _ (by decide)
  have CT : Hid (∀ W, Calls Tryd.prog 27 #[.agg #[.int .i64 (pkN 1), .int .i64 (mT 1)], .int .i64 32] W fun e w' => e = .returned (.bool false) ∧ Below W.heap.size W w') := fun W => has_k 1 (by omega) (by omega) W 32 _ (by decide)
  have CS : Hid (∀ W, Calls Tryd.prog 27 #[.agg #[.int .i64 (pkN 1), .int .i64 (mT 1)], .int .i64 64] W fun e w' => e = .returned (.bool false) ∧ Below W.heap.size W w') := fun W => has_k 1 (by omega) (by omega) W 64 _ (by decide)
  generalize pkN 1 = pk at *
  generalize mT 1 = mt at *
  go_enter Tryd.func18, Tryd.ntmps18
  go_upto_region 1 with fail
  rw [← hW1]
  clear hW1
  go_upto_region 2 with fail
  rw [← hW2]
  clear hW2 t0 t1
  have hks := (FK.out W2 (Below.refl _ _)).c0
  rw [hk] at hks
  go_upto_region 3 with fail
  rw [← hWa, ← hX0]
  clear hWa hX0 hk hks
  have ch := CI.out X0
  obtain ⟨s0, s1⟩ := FS.out X0 FX0.out
  go_wp2_with fail
  refine ch.mono ?_
  rintro e Y1 ⟨rfl, bY1⟩
  have FY1 : Hid (From W2 Y1) := FX0.out.trans (Below.mono bY1 FX0.out.size)
  have LY1 : Hid (LQ Y1 W2.heap.size (.slice (some ⟨W2.heap.size + 1, 0, none⟩) 1 1) [[1]]) := LX0.out.below bY1
  clear ch bY1 s0 s1 FX0 LX0
  have ch := CN.out Y1
  obtain ⟨s0, s1⟩ := FS.out Y1 FY1.out
  go_wp2_with fail
  refine ch.mono ?_
  rintro e Y2 ⟨rfl, bY2⟩
  have FY2 : Hid (From W2 Y2) := FY1.out.trans (Below.mono bY2 FY1.out.size)
  have LY2 : Hid (LQ Y2 W2.heap.size (.slice (some ⟨W2.heap.size + 1, 0, none⟩) 1 1) [[1]]) := LY1.out.below bY2
  clear ch bY2 s0 s1 FY1 LY1
  have ch := CF.out Y2
  obtain ⟨s0, s1⟩ := FS.out Y2 FY2.out
  go_wp2_with fail
  refine ch.mono ?_
  rintro e Y3 ⟨rfl, bY3⟩
  have FY3 : Hid (From W2 Y3) := FY2.out.trans (Below.mono bY3 FY2.out.size)
  have LY3 : Hid (LQ Y3 W2.heap.size (.slice (some ⟨W2.heap.size + 1, 0, none⟩) 1 1) [[1]]) := LY2.out.below bY3
  clear ch bY3 s0 s1 FY2 LY2
  have ch := CC.out Y3
  obtain ⟨s0, s1⟩ := FS.out Y3 FY3.out
  go_wp2_with fail
  refine ch.mono ?_
  rintro e Y4 ⟨rfl, bY4⟩
  have FY4 : Hid (From W2 Y4) := FY3.out.trans (Below.mono bY4 FY3.out.size)
  have LY4 : Hid (LQ Y4 W2.heap.size (.slice (some ⟨W2.heap.size + 1, 0, none⟩) 1 1) [[1]]) := LY3.out.below bY4
  clear ch bY4 s0 s1 FY3 LY3
  have ch := CO.out Y4
  obtain ⟨s0, s1⟩ := FS.out Y4 FY4.out
  go_wp2_with fail
  refine ch.mono ?_
  rintro e Y5 ⟨rfl, bY5⟩
  have FY5 : Hid (From W2 Y5) := FY4.out.trans (Below.mono bY5 FY4.out.size)
  have LY5 : Hid (LQ Y5 W2.heap.size (.slice (some ⟨W2.heap.size + 1, 0, none⟩) 1 1) [[1]]) := LY4.out.below bY5
  clear ch bY5 s0 s1 FY4 LY4
  have ch := CT.out Y5
  obtain ⟨s0, s1⟩ := FS.out Y5 FY5.out
  go_wp2_with fail
  refine ch.mono ?_
  rintro e Y6 ⟨rfl, bY6⟩
  have FY6 : Hid (From W2 Y6) := FY5.out.trans (Below.mono bY6 FY5.out.size)
  have LY6 : Hid (LQ Y6 W2.heap.size (.slice (some ⟨W2.heap.size + 1, 0, none⟩) 1 1) [[1]]) := LY5.out.below bY6
  clear ch bY6 s0 s1 FY5 LY5
  have ch := CS.out Y6
  obtain ⟨s0, s1⟩ := FS.out Y6 FY6.out
  go_wp2_with fail
  refine ch.mono ?_
  rintro e Y7 ⟨rfl, bY7⟩
  have FY7 : Hid (From W2 Y7) := FY6.out.trans (Below.mono bY7 FY6.out.size)
  have LY7 : Hid (LQ Y7 W2.heap.size (.slice (some ⟨W2.heap.size + 1, 0, none⟩) 1 1) [[1]]) := LY6.out.below bY7
  clear ch bY7 s0 s1 FY6 LY6
  obtain ⟨pp, pc, epp, HP⟩ := LY7.out.parts (by simp)
  injection epp with e1 e2 e3
  subst e1
  subst e3
  clear e2
  have cj := fjoin_any (some ⟨W2.heap.size + 1, 0, none⟩) 1 [[1]] Y7 HP (by have := hlen_ok HOK.out HI.out.k.nl; rw [HPM.out] at this; exact this)
  have cjl : ([[1]] : List (List Int)).length = 1 := rfl
  rw [cjl] at cj
  have HFM : Hid (putM p = ([[1]] : List (List Int)).flatten) := HPM.out
  clear HP HPM cjl
  generalize ([[1]] : List (List Int)).flatten = FM at *
  go_wp2_with fail
  refine cj.mono ?_
  rintro e w9 ⟨v9, rfl, o9, b9⟩
  have HB9 : Hid (Below w.heap.size w w9) := (FB.out Y7 FY7.out).trans (b9.mono (FB.out Y7 FY7.out).size)
  have HO9 : Hid (Ow w9 w.heap.size v9 FM) := o9.mono (Nat.le_trans HWN.out FY7.out.size)
  clear cj b9 o9
  go_wp2
  go_ret
  exact ⟨_, rfl, by rw [HFM.out]; exact HO9.out, HB9.out⟩
set_option maxHeartbeats 8000000 in
theorem lay2 (p : Fm) (sv : Value) (w : World) (ht : Tb w) (hi : FI w p sv) (hok : Ok p) (hk : p.k = 2) :
    Calls Tryd.prog 18 #[.agg (plA p sv)] w fun e w' => ∃ v, e = .returned v ∧ Ow w' w.heap.size v (putM p) ∧ Below w.heap.size w w' := by
  obtain ⟨W1, hW1⟩ : ∃ W1, W1 = w.alloc (.cells (plA p sv) 36) := ⟨_, rfl⟩
  have b1 : Below w.heap.size w W1 := by rw [hW1]; exact al_below _ _
  have g1 : PF W1 w.heap.size 36 p sv := by rw [hW1]; exact PF.new w _ p sv
  obtain ⟨W2, hW2⟩ : ∃ W2, W2 = W1.alloc (.cells #[.int .i64 (pkN 2), .int .i64 (mT 2)] 63) := ⟨_, rfl⟩
  have b2 : Below W1.heap.size W1 W2 := by rw [hW2]; exact al_below _ _
  have g2 : W2.heap[W1.heap.size]? = some (.cells #[.int .i64 (pkN 2), .int .i64 (mT 2)] 63 (0, 0)) := by rw [hW2]; exact heap_alloc_new _ _
  have B2 : Below w.heap.size w W2 := b1.trans (b2.mono b1.size)
  have FG : Hid (∀ x, From W2 x → PF x w.heap.size 36 p sv) := fun x hx => (g1.kept b2).kept hx
  have FK : Hid (∀ x, From W2 x → PC x w.heap.size p sv) := fun x hx => (FG.out x hx).pc hi.k.nl
  have FS : Hid (∀ x, From W2 x → x.cell? ⟨W1.heap.size, 0, none⟩ = some (.int .i64 (pkN 2)) ∧ x.cell? ⟨W1.heap.size, 1, none⟩ = some (.int .i64 (mT 2))) := fun x hx => by
    have := blk_kept g2 hx (blk_lt g2)
    exact ⟨by simp [World.cell?, this], by simp [World.cell?, this]⟩
  have FB : Hid (∀ x, From W2 x → Below w.heap.size w x) := fun x hx => B2.trans (Below.mono hx B2.size)
  have FT : Hid (∀ x, From W2 x → Fi.Wid x) := fun x hx => (ht.next (FB.out x hx)).v
  have FN : Hid (W2.heap.size = W2.heap.size) := rfl
  have HWN : Hid (w.heap.size ≤ W2.heap.size) := B2.size
  have HI : Hid (FI w p sv) := hi
  have HOK : Hid (Ok p) := hok
  have HKK : Hid (p.k = 2) := hk
  obtain ⟨t0, t1⟩ := (ht.next b1).s 2 (by omega)
  have hks := (g1.pc hi.k.nl).c0
  rw [hk] at hks
  have HPM : Hid (putM p = ([2] :: [nB p.n, putB p.sp]).flatten) := by
    unfold Hid
    exact putM_2 hk
  obtain ⟨sa, sc, rfl, -, -, -⟩ := hi.s.shape
  obtain ⟨Wa, hWa⟩ : ∃ Wa, Wa = W2.alloc (.cells #[.int .u8 2] 5) := ⟨_, rfl⟩
  obtain ⟨X0, hX0⟩ : ∃ X0, X0 = Wa.alloc (.cells #[.slice (some ⟨W2.heap.size, 0, none⟩) 1 1] 25) := ⟨_, rfl⟩
  have ba : Below W2.heap.size W2 Wa := by rw [hWa]; exact al_below _ _
  have bx : Below Wa.heap.size Wa X0 := by rw [hX0]; exact al_below _ _
  have FX0 : Hid (From W2 X0) := ba.trans (bx.mono ba.size)
  have pa : Pt Wa (.slice (some ⟨W2.heap.size, 0, none⟩) 1 1) [2] := by rw [hWa]; exact Pt.byte W2 2 (by omega)
  have hza : Wa.heap.size = W2.heap.size + 1 := by rw [hWa]; simp
  have LX0 : Hid (LQ X0 W2.heap.size (.slice (some ⟨W2.heap.size + 1, 0, none⟩) 1 1) [[2]]) := by unfold Hid; rw [hX0, ← hza]; exact LQ.one pa ba.size
  clear b1 g1 b2 g2 B2 ht hi ba bx pa FN hok hza
  have CI : Hid (∀ W, Calls Tryd.prog 27 #[.agg #[.int .i64 (pkN 2), .int .i64 (mT 2)], .int .i64 1] W fun e w' => e = .returned (.bool false) ∧ Below W.heap.size W w') := fun W => has_k 2 (by omega) (by omega) W 1 _ (by decide)
  have CN : Hid (∀ W, Calls Tryd.prog 27 #[.agg #[.int .i64 (pkN 2), .int .i64 (mT 2)], .int .i64 2] W fun e w' => e = .returned (.bool true) ∧ Below W.heap.size W w') := fun W => has_k 2 (by omega) (by omega) W 2 _ (by decide)
  have CF : Hid (∀ W, Calls Tryd.prog 27 #[.agg #[.int .i64 (pkN 2), .int .i64 (mT 2)], .int .i64 4] W fun e w' => e = .returned (.bool false) ∧ Below W.heap.size W w') := fun W => has_k 2 (by omega) (by omega) W 4 _ (by decide)
  have CC : Hid (∀ W, Calls Tryd.prog 27 #[.agg #[.int .i64 (pkN 2), .int .i64 (mT 2)], .int .i64 8] W fun e w' => e = .returned (.bool false) ∧ Below W.heap.size W w') := fun W => has_k 2 (by omega) (by omega) W 8 _ (by decide)
  have CO : Hid (∀ W, Calls Tryd.prog 27 #[.agg #[.int .i64 (pkN 2), .int .i64 (mT 2)], .int .i64 16] W fun e w' => e = .returned (.bool false) ∧ Below W.heap.size W w') := fun W => has_k 2 (by omega) (by omega) W 16 _ (by decide)
  have CT : Hid (∀ W, Calls Tryd.prog 27 #[.agg #[.int .i64 (pkN 2), .int .i64 (mT 2)], .int .i64 32] W fun e w' => e = .returned (.bool false) ∧ Below W.heap.size W w') := fun W => has_k 2 (by omega) (by omega) W 32 _ (by decide)
  have CS : Hid (∀ W, Calls Tryd.prog 27 #[.agg #[.int .i64 (pkN 2), .int .i64 (mT 2)], .int .i64 64] W fun e w' => e = .returned (.bool true) ∧ Below W.heap.size W w') := fun W => has_k 2 (by omega) (by omega) W 64 _ (by decide)
  generalize pkN 2 = pk at *
  generalize mT 2 = mt at *
  go_enter Tryd.func18, Tryd.ntmps18
  go_upto_region 1 with fail
  rw [← hW1]
  clear hW1
  go_upto_region 2 with fail
  rw [← hW2]
  clear hW2 t0 t1
  have hks := (FK.out W2 (Below.refl _ _)).c0
  rw [hk] at hks
  go_upto_region 3 with fail
  rw [← hWa, ← hX0]
  clear hWa hX0 hk hks
  have ch := CI.out X0
  obtain ⟨s0, s1⟩ := FS.out X0 FX0.out
  go_wp2_with fail
  refine ch.mono ?_
  rintro e Y1 ⟨rfl, bY1⟩
  have FY1 : Hid (From W2 Y1) := FX0.out.trans (Below.mono bY1 FX0.out.size)
  have LY1 : Hid (LQ Y1 W2.heap.size (.slice (some ⟨W2.heap.size + 1, 0, none⟩) 1 1) [[2]]) := LX0.out.below bY1
  clear ch bY1 s0 s1 FX0 LX0
  have ch := CN.out Y1
  obtain ⟨s0, s1⟩ := FS.out Y1 FY1.out
  go_wp2_with fail
  refine ch.mono ?_
  rintro e Y2 ⟨rfl, bY2⟩
  have FY2 : Hid (From W2 Y2) := FY1.out.trans (Below.mono bY2 FY1.out.size)
  have LY2 : Hid (LQ Y2 W2.heap.size (.slice (some ⟨W2.heap.size + 1, 0, none⟩) 1 1) [[2]]) := LY1.out.below bY2
  clear ch bY2 s0 s1 FY1 LY1
  have q1 := (FK.out Y2 FY2.out).c2
  have cn := fnum_own p.n Y2 (FT.out Y2 FY2.out)
  go_wp2_with fail
  refine cn.mono ?_
  rintro e Y3 ⟨u, rfl, ou, bY3⟩
  have FY3 : Hid (From W2 Y3) := FY2.out.trans (Below.mono bY3 FY2.out.size)
  have LY3 : Hid (LQ Y3 W2.heap.size (.slice (some ⟨W2.heap.size + 1, 0, none⟩) 1 1) [[2]]) := LY2.out.below bY3
  obtain ⟨ua, uc, rfl⟩ := ou.shape
  have PU : Hid (Pt Y3 (.slice ua (nB p.n).length uc) (nB p.n)) := Pt.ow ou
  clear cn ou q1 bY3 FY2 LY2
  obtain ⟨V4, hV4⟩ : ∃ V4, V4 = Y3.alloc (.cells #[.slice ua (nB p.n).length uc] 25) := ⟨_, rfl⟩
  have bV4 : Below Y3.heap.size Y3 V4 := by rw [hV4]; exact al_below _ _
  have PV : Hid (Pt V4 (.slice ua (nB p.n).length uc) (nB p.n)) := PU.out.below bV4
  have CV : Hid (V4.cell? ⟨Y3.heap.size, 0, none⟩ = some (.slice ua (nB p.n).length uc)) := by unfold Hid; rw [hV4, World.cell?_alloc_at _ _ _ _ rfl]; rfl
  have FV4 : Hid (From W2 V4) := FY3.out.trans (Below.mono bV4 FY3.out.size)
  have LV4 : Hid (LQ V4 W2.heap.size (.slice (some ⟨W2.heap.size + 1, 0, none⟩) 1 1) [[2]]) := LY3.out.below bV4
  have zV4 := FV4.out.size
  clear bV4 PU FY3 LY3
  go_wp2_with (at_builtin; rw [← hV4]; refine wpList_append_lq rfl _ _ rfl W2.heap.size _ [[2]] rfl LV4.out Y3.heap.size _ _ 1 PV.out rfl CV.out (by simp) zV4 (Hid.out ?_))
  unfold Hid
  intro v4 Y4 lY4 bY4
  try rw [← hV4] at bY4
  have FY4 : Hid (From W2 Y4) := FV4.out.trans bY4
  have LY4 : Hid (LQ Y4 W2.heap.size v4 [[2], nB p.n]) := lY4
  clear bY4 lY4 zV4 FV4 LV4 PV CV hV4
  have ch := CF.out Y4
  obtain ⟨s0, s1⟩ := FS.out Y4 FY4.out
  go_wp2_with fail
  refine ch.mono ?_
  rintro e Y5 ⟨rfl, bY5⟩
  have FY5 : Hid (From W2 Y5) := FY4.out.trans (Below.mono bY5 FY4.out.size)
  have LY5 : Hid (LQ Y5 W2.heap.size v4 [[2], nB p.n]) := LY4.out.below bY5
  clear ch bY5 s0 s1 FY4 LY4
  have ch := CC.out Y5
  obtain ⟨s0, s1⟩ := FS.out Y5 FY5.out
  go_wp2_with fail
  refine ch.mono ?_
  rintro e Y6 ⟨rfl, bY6⟩
  have FY6 : Hid (From W2 Y6) := FY5.out.trans (Below.mono bY6 FY5.out.size)
  have LY6 : Hid (LQ Y6 W2.heap.size v4 [[2], nB p.n]) := LY5.out.below bY6
  clear ch bY6 s0 s1 FY5 LY5
  have ch := CO.out Y6
  obtain ⟨s0, s1⟩ := FS.out Y6 FY6.out
  go_wp2_with fail
  refine ch.mono ?_
  rintro e Y7 ⟨rfl, bY7⟩
  have FY7 : Hid (From W2 Y7) := FY6.out.trans (Below.mono bY7 FY6.out.size)
  have LY7 : Hid (LQ Y7 W2.heap.size v4 [[2], nB p.n]) := LY6.out.below bY7
  clear ch bY7 s0 s1 FY6 LY6
  have ch := CT.out Y7
  obtain ⟨s0, s1⟩ := FS.out Y7 FY7.out
  go_wp2_with fail
  refine ch.mono ?_
  rintro e Y8 ⟨rfl, bY8⟩
  have FY8 : Hid (From W2 Y8) := FY7.out.trans (Below.mono bY8 FY7.out.size)
  have LY8 : Hid (LQ Y8 W2.heap.size v4 [[2], nB p.n]) := LY7.out.below bY8
  clear ch bY8 s0 s1 FY7 LY7
  have ch := CS.out Y8
  obtain ⟨s0, s1⟩ := FS.out Y8 FY8.out
  go_wp2_with fail
  refine ch.mono ?_
  rintro e Y9 ⟨rfl, bY9⟩
  have FY9 : Hid (From W2 Y9) := FY8.out.trans (Below.mono bY9 FY8.out.size)
  have LY9 : Hid (LQ Y9 W2.heap.size v4 [[2], nB p.n]) := LY8.out.below bY9
  clear ch bY9 s0 s1 FY8 LY8
  have q1 := (FK.out Y9 FY9.out).c22
  obtain ⟨z1, z2, z3⟩ := HOK.out.sp (by rw [show p.k = 2 from HKK.out]; rfl)
  have hsx := HI.out.s.kept (FB.out Y9 FY9.out)
  have cn := put_yes Y9 sa sc p.sp (FT.out Y9 FY9.out) hsx (ssp_row hsx z2) z1 z2 z3
  clear hsx z1 z2 z3
  go_wp2_with fail
  refine cn.mono ?_
  rintro e Y10 ⟨u, rfl, ou, bY10⟩
  have FY10 : Hid (From W2 Y10) := FY9.out.trans (Below.mono bY10 FY9.out.size)
  have LY10 : Hid (LQ Y10 W2.heap.size v4 [[2], nB p.n]) := LY9.out.below bY10
  obtain ⟨ua, uc, rfl⟩ := ou.shape
  have PU : Hid (Pt Y10 (.slice ua (putB p.sp).length uc) (putB p.sp)) := Pt.ow ou
  clear cn ou q1 bY10 FY9 LY9
  obtain ⟨V11, hV11⟩ : ∃ V11, V11 = Y10.alloc (.cells #[.slice ua (putB p.sp).length uc] 25) := ⟨_, rfl⟩
  have bV11 : Below Y10.heap.size Y10 V11 := by rw [hV11]; exact al_below _ _
  have PV : Hid (Pt V11 (.slice ua (putB p.sp).length uc) (putB p.sp)) := PU.out.below bV11
  have CV : Hid (V11.cell? ⟨Y10.heap.size, 0, none⟩ = some (.slice ua (putB p.sp).length uc)) := by unfold Hid; rw [hV11, World.cell?_alloc_at _ _ _ _ rfl]; rfl
  have FV11 : Hid (From W2 V11) := FY10.out.trans (Below.mono bV11 FY10.out.size)
  have LV11 : Hid (LQ V11 W2.heap.size v4 [[2], nB p.n]) := LY10.out.below bV11
  have zV11 := FV11.out.size
  clear bV11 PU FY10 LY10
  go_wp2_with (at_builtin; rw [← hV11]; refine wpList_append_lq rfl _ _ rfl W2.heap.size _ [[2], nB p.n] rfl LV11.out Y10.heap.size _ _ 1 PV.out rfl CV.out (by simp) zV11 (Hid.out ?_))
  unfold Hid
  intro v11 Y11 lY11 bY11
  try rw [← hV11] at bY11
  have FY11 : Hid (From W2 Y11) := FV11.out.trans bY11
  have LY11 : Hid (LQ Y11 W2.heap.size v11 [[2], nB p.n, putB p.sp]) := lY11
  clear bY11 lY11 zV11 FV11 LV11 PV CV hV11
  obtain ⟨pp, pc, rfl, HP⟩ := LY11.out.parts (by simp)
  have cj := fjoin_any pp pc [[2], nB p.n, putB p.sp] Y11 HP (by have := hlen_ok HOK.out HI.out.k.nl; rw [HPM.out] at this; exact this)
  have cjl : ([[2], nB p.n, putB p.sp] : List (List Int)).length = 3 := rfl
  rw [cjl] at cj
  have HFM : Hid (putM p = ([[2], nB p.n, putB p.sp] : List (List Int)).flatten) := HPM.out
  clear HP HPM cjl
  generalize ([[2], nB p.n, putB p.sp] : List (List Int)).flatten = FM at *
  go_wp2_with fail
  refine cj.mono ?_
  rintro e w9 ⟨v9, rfl, o9, b9⟩
  have HB9 : Hid (Below w.heap.size w w9) := (FB.out Y11 FY11.out).trans (b9.mono (FB.out Y11 FY11.out).size)
  have HO9 : Hid (Ow w9 w.heap.size v9 FM) := o9.mono (Nat.le_trans HWN.out FY11.out.size)
  clear cj b9 o9
  go_wp2
  go_ret
  exact ⟨_, rfl, by rw [HFM.out]; exact HO9.out, HB9.out⟩
set_option maxHeartbeats 8000000 in
theorem lay3 (p : Fm) (sv : Value) (w : World) (ht : Tb w) (hi : FI w p sv) (hok : Ok p) (hk : p.k = 3) :
    Calls Tryd.prog 18 #[.agg (plA p sv)] w fun e w' => ∃ v, e = .returned v ∧ Ow w' w.heap.size v (putM p) ∧ Below w.heap.size w w' := by
  obtain ⟨W1, hW1⟩ : ∃ W1, W1 = w.alloc (.cells (plA p sv) 36) := ⟨_, rfl⟩
  have b1 : Below w.heap.size w W1 := by rw [hW1]; exact al_below _ _
  have g1 : PF W1 w.heap.size 36 p sv := by rw [hW1]; exact PF.new w _ p sv
  obtain ⟨W2, hW2⟩ : ∃ W2, W2 = W1.alloc (.cells #[.int .i64 (pkN 3), .int .i64 (mT 3)] 63) := ⟨_, rfl⟩
  have b2 : Below W1.heap.size W1 W2 := by rw [hW2]; exact al_below _ _
  have g2 : W2.heap[W1.heap.size]? = some (.cells #[.int .i64 (pkN 3), .int .i64 (mT 3)] 63 (0, 0)) := by rw [hW2]; exact heap_alloc_new _ _
  have B2 : Below w.heap.size w W2 := b1.trans (b2.mono b1.size)
  have FG : Hid (∀ x, From W2 x → PF x w.heap.size 36 p sv) := fun x hx => (g1.kept b2).kept hx
  have FK : Hid (∀ x, From W2 x → PC x w.heap.size p sv) := fun x hx => (FG.out x hx).pc hi.k.nl
  have FS : Hid (∀ x, From W2 x → x.cell? ⟨W1.heap.size, 0, none⟩ = some (.int .i64 (pkN 3)) ∧ x.cell? ⟨W1.heap.size, 1, none⟩ = some (.int .i64 (mT 3))) := fun x hx => by
    have := blk_kept g2 hx (blk_lt g2)
    exact ⟨by simp [World.cell?, this], by simp [World.cell?, this]⟩
  have FB : Hid (∀ x, From W2 x → Below w.heap.size w x) := fun x hx => B2.trans (Below.mono hx B2.size)
  have FT : Hid (∀ x, From W2 x → Fi.Wid x) := fun x hx => (ht.next (FB.out x hx)).v
  have FN : Hid (W2.heap.size = W2.heap.size) := rfl
  have HWN : Hid (w.heap.size ≤ W2.heap.size) := B2.size
  have HI : Hid (FI w p sv) := hi
  have HOK : Hid (Ok p) := hok
  obtain ⟨t0, t1⟩ := (ht.next b1).s 3 (by omega)
  have hks := (g1.pc hi.k.nl).c0
  rw [hk] at hks
  have HPM : Hid (putM p = ([3] :: [nB p.id, nB p.n, [finB p.fin], Fi.textB p.tx]).flatten) := by
    unfold Hid
    exact putM_3 hk
  obtain ⟨sa, sc, rfl, -, -, -⟩ := hi.s.shape
  obtain ⟨Wa, hWa⟩ : ∃ Wa, Wa = W2.alloc (.cells #[.int .u8 3] 5) := ⟨_, rfl⟩
  obtain ⟨X0, hX0⟩ : ∃ X0, X0 = Wa.alloc (.cells #[.slice (some ⟨W2.heap.size, 0, none⟩) 1 1] 25) := ⟨_, rfl⟩
  have ba : Below W2.heap.size W2 Wa := by rw [hWa]; exact al_below _ _
  have bx : Below Wa.heap.size Wa X0 := by rw [hX0]; exact al_below _ _
  have FX0 : Hid (From W2 X0) := ba.trans (bx.mono ba.size)
  have pa : Pt Wa (.slice (some ⟨W2.heap.size, 0, none⟩) 1 1) [3] := by rw [hWa]; exact Pt.byte W2 3 (by omega)
  have hza : Wa.heap.size = W2.heap.size + 1 := by rw [hWa]; simp
  have LX0 : Hid (LQ X0 W2.heap.size (.slice (some ⟨W2.heap.size + 1, 0, none⟩) 1 1) [[3]]) := by unfold Hid; rw [hX0, ← hza]; exact LQ.one pa ba.size
  clear b1 g1 b2 g2 B2 ht hi ba bx pa FN hok hza
  have CI : Hid (∀ W, Calls Tryd.prog 27 #[.agg #[.int .i64 (pkN 3), .int .i64 (mT 3)], .int .i64 1] W fun e w' => e = .returned (.bool true) ∧ Below W.heap.size W w') := fun W => has_k 3 (by omega) (by omega) W 1 _ (by decide)
  have CN : Hid (∀ W, Calls Tryd.prog 27 #[.agg #[.int .i64 (pkN 3), .int .i64 (mT 3)], .int .i64 2] W fun e w' => e = .returned (.bool true) ∧ Below W.heap.size W w') := fun W => has_k 3 (by omega) (by omega) W 2 _ (by decide)
  have CF : Hid (∀ W, Calls Tryd.prog 27 #[.agg #[.int .i64 (pkN 3), .int .i64 (mT 3)], .int .i64 4] W fun e w' => e = .returned (.bool true) ∧ Below W.heap.size W w') := fun W => has_k 3 (by omega) (by omega) W 4 _ (by decide)
  have CC : Hid (∀ W, Calls Tryd.prog 27 #[.agg #[.int .i64 (pkN 3), .int .i64 (mT 3)], .int .i64 8] W fun e w' => e = .returned (.bool false) ∧ Below W.heap.size W w') := fun W => has_k 3 (by omega) (by omega) W 8 _ (by decide)
  have CO : Hid (∀ W, Calls Tryd.prog 27 #[.agg #[.int .i64 (pkN 3), .int .i64 (mT 3)], .int .i64 16] W fun e w' => e = .returned (.bool false) ∧ Below W.heap.size W w') := fun W => has_k 3 (by omega) (by omega) W 16 _ (by decide)
  have CT : Hid (∀ W, Calls Tryd.prog 27 #[.agg #[.int .i64 (pkN 3), .int .i64 (mT 3)], .int .i64 32] W fun e w' => e = .returned (.bool true) ∧ Below W.heap.size W w') := fun W => has_k 3 (by omega) (by omega) W 32 _ (by decide)
  have CS : Hid (∀ W, Calls Tryd.prog 27 #[.agg #[.int .i64 (pkN 3), .int .i64 (mT 3)], .int .i64 64] W fun e w' => e = .returned (.bool false) ∧ Below W.heap.size W w') := fun W => has_k 3 (by omega) (by omega) W 64 _ (by decide)
  generalize pkN 3 = pk at *
  generalize mT 3 = mt at *
  go_enter Tryd.func18, Tryd.ntmps18
  go_upto_region 1 with fail
  rw [← hW1]
  clear hW1
  go_upto_region 2 with fail
  rw [← hW2]
  clear hW2 t0 t1
  have hks := (FK.out W2 (Below.refl _ _)).c0
  rw [hk] at hks
  go_upto_region 3 with fail
  rw [← hWa, ← hX0]
  clear hWa hX0 hk hks
  have ch := CI.out X0
  obtain ⟨s0, s1⟩ := FS.out X0 FX0.out
  go_wp2_with fail
  refine ch.mono ?_
  rintro e Y1 ⟨rfl, bY1⟩
  have FY1 : Hid (From W2 Y1) := FX0.out.trans (Below.mono bY1 FX0.out.size)
  have LY1 : Hid (LQ Y1 W2.heap.size (.slice (some ⟨W2.heap.size + 1, 0, none⟩) 1 1) [[3]]) := LX0.out.below bY1
  clear ch bY1 s0 s1 FX0 LX0
  have q1 := (FK.out Y1 FY1.out).c1
  have cn := fnum_own p.id Y1 (FT.out Y1 FY1.out)
  go_wp2_with fail
  refine cn.mono ?_
  rintro e Y2 ⟨u, rfl, ou, bY2⟩
  have FY2 : Hid (From W2 Y2) := FY1.out.trans (Below.mono bY2 FY1.out.size)
  have LY2 : Hid (LQ Y2 W2.heap.size (.slice (some ⟨W2.heap.size + 1, 0, none⟩) 1 1) [[3]]) := LY1.out.below bY2
  obtain ⟨ua, uc, rfl⟩ := ou.shape
  have PU : Hid (Pt Y2 (.slice ua (nB p.id).length uc) (nB p.id)) := Pt.ow ou
  clear cn ou q1 bY2 FY1 LY1
  obtain ⟨V3, hV3⟩ : ∃ V3, V3 = Y2.alloc (.cells #[.slice ua (nB p.id).length uc] 25) := ⟨_, rfl⟩
  have bV3 : Below Y2.heap.size Y2 V3 := by rw [hV3]; exact al_below _ _
  have PV : Hid (Pt V3 (.slice ua (nB p.id).length uc) (nB p.id)) := PU.out.below bV3
  have CV : Hid (V3.cell? ⟨Y2.heap.size, 0, none⟩ = some (.slice ua (nB p.id).length uc)) := by unfold Hid; rw [hV3, World.cell?_alloc_at _ _ _ _ rfl]; rfl
  have FV3 : Hid (From W2 V3) := FY2.out.trans (Below.mono bV3 FY2.out.size)
  have LV3 : Hid (LQ V3 W2.heap.size (.slice (some ⟨W2.heap.size + 1, 0, none⟩) 1 1) [[3]]) := LY2.out.below bV3
  have zV3 := FV3.out.size
  clear bV3 PU FY2 LY2
  go_wp2_with (at_builtin; rw [← hV3]; refine wpList_append_lq rfl _ _ rfl W2.heap.size _ [[3]] rfl LV3.out Y2.heap.size _ _ 1 PV.out rfl CV.out (by simp) zV3 (Hid.out ?_))
  unfold Hid
  intro v3 Y3 lY3 bY3
  try rw [← hV3] at bY3
  have FY3 : Hid (From W2 Y3) := FV3.out.trans bY3
  have LY3 : Hid (LQ Y3 W2.heap.size v3 [[3], nB p.id]) := lY3
  clear bY3 lY3 zV3 FV3 LV3 PV CV hV3
  have ch := CN.out Y3
  obtain ⟨s0, s1⟩ := FS.out Y3 FY3.out
  go_wp2_with fail
  refine ch.mono ?_
  rintro e Y4 ⟨rfl, bY4⟩
  have FY4 : Hid (From W2 Y4) := FY3.out.trans (Below.mono bY4 FY3.out.size)
  have LY4 : Hid (LQ Y4 W2.heap.size v3 [[3], nB p.id]) := LY3.out.below bY4
  clear ch bY4 s0 s1 FY3 LY3
  have q1 := (FK.out Y4 FY4.out).c2
  have cn := fnum_own p.n Y4 (FT.out Y4 FY4.out)
  go_wp2_with fail
  refine cn.mono ?_
  rintro e Y5 ⟨u, rfl, ou, bY5⟩
  have FY5 : Hid (From W2 Y5) := FY4.out.trans (Below.mono bY5 FY4.out.size)
  have LY5 : Hid (LQ Y5 W2.heap.size v3 [[3], nB p.id]) := LY4.out.below bY5
  obtain ⟨ua, uc, rfl⟩ := ou.shape
  have PU : Hid (Pt Y5 (.slice ua (nB p.n).length uc) (nB p.n)) := Pt.ow ou
  clear cn ou q1 bY5 FY4 LY4
  obtain ⟨V6, hV6⟩ : ∃ V6, V6 = Y5.alloc (.cells #[.slice ua (nB p.n).length uc] 25) := ⟨_, rfl⟩
  have bV6 : Below Y5.heap.size Y5 V6 := by rw [hV6]; exact al_below _ _
  have PV : Hid (Pt V6 (.slice ua (nB p.n).length uc) (nB p.n)) := PU.out.below bV6
  have CV : Hid (V6.cell? ⟨Y5.heap.size, 0, none⟩ = some (.slice ua (nB p.n).length uc)) := by unfold Hid; rw [hV6, World.cell?_alloc_at _ _ _ _ rfl]; rfl
  have FV6 : Hid (From W2 V6) := FY5.out.trans (Below.mono bV6 FY5.out.size)
  have LV6 : Hid (LQ V6 W2.heap.size v3 [[3], nB p.id]) := LY5.out.below bV6
  have zV6 := FV6.out.size
  clear bV6 PU FY5 LY5
  go_wp2_with (at_builtin; rw [← hV6]; refine wpList_append_lq rfl _ _ rfl W2.heap.size _ [[3], nB p.id] rfl LV6.out Y5.heap.size _ _ 1 PV.out rfl CV.out (by simp) zV6 (Hid.out ?_))
  unfold Hid
  intro v6 Y6 lY6 bY6
  try rw [← hV6] at bY6
  have FY6 : Hid (From W2 Y6) := FV6.out.trans bY6
  have LY6 : Hid (LQ Y6 W2.heap.size v6 [[3], nB p.id, nB p.n]) := lY6
  clear bY6 lY6 zV6 FV6 LV6 PV CV hV6
  have ch := CF.out Y6
  obtain ⟨s0, s1⟩ := FS.out Y6 FY6.out
  go_wp2_with fail
  refine ch.mono ?_
  rintro e Y7 ⟨rfl, bY7⟩
  have FY7 : Hid (From W2 Y7) := FY6.out.trans (Below.mono bY7 FY6.out.size)
  have LY7 : Hid (LQ Y7 W2.heap.size v6 [[3], nB p.id, nB p.n]) := LY6.out.below bY7
  clear ch bY7 s0 s1 FY6 LY6
  have q1 := (FK.out Y7 FY7.out).c4
  have cn := fin_any p.fin Y7
  go_wp2_with fail
  refine cn.mono ?_
  rintro e wq ⟨rfl, eq⟩
  rw [eq]
  clear cn eq wq q1
  obtain ⟨Y8, hY8⟩ : ∃ Y8, Y8 = Y7.alloc (.cells #[.int .u8 (finB p.fin)] 5) := ⟨_, rfl⟩
  have bY8 : Below Y7.heap.size Y7 Y8 := by rw [hY8]; exact al_below _ _
  have PU : Hid (Pt Y8 (.slice (some ⟨Y7.heap.size, 0, none⟩) 1 1) [finB p.fin]) := by unfold Hid; rw [hY8]; exact Pt.byte Y7 _ (by cases p.fin <;> decide)
  have FY8 : Hid (From W2 Y8) := FY7.out.trans (Below.mono bY8 FY7.out.size)
  have LY8 : Hid (LQ Y8 W2.heap.size v6 [[3], nB p.id, nB p.n]) := LY7.out.below bY8
  clear bY8 FY7 LY7
  have hzY8 : Y8.heap.size = Y7.heap.size + 1 := by rw [hY8]; simp
  obtain ⟨V9, hV9⟩ : ∃ V9, V9 = Y8.alloc (.cells #[.slice (some ⟨Y7.heap.size, 0, none⟩) 1 1] 25) := ⟨_, rfl⟩
  have bV9 : Below Y8.heap.size Y8 V9 := by rw [hV9]; exact al_below _ _
  have PV : Hid (Pt V9 (.slice (some ⟨Y7.heap.size, 0, none⟩) 1 1) ([finB p.fin])) := PU.out.below bV9
  have CV : Hid (V9.cell? ⟨Y7.heap.size + 1, 0, none⟩ = some (.slice (some ⟨Y7.heap.size, 0, none⟩) 1 1)) := by unfold Hid; rw [← hzY8, hV9, World.cell?_alloc_at _ _ _ _ rfl]; rfl
  have FV9 : Hid (From W2 V9) := FY8.out.trans (Below.mono bV9 FY8.out.size)
  have LV9 : Hid (LQ V9 W2.heap.size v6 [[3], nB p.id, nB p.n]) := LY8.out.below bV9
  have zV9 := FV9.out.size
  clear bV9 PU FY8 LY8
  go_wp2_with (at_builtin; rw [← hY8]; rw [← hV9]; refine wpList_append_lq rfl _ _ rfl W2.heap.size _ [[3], nB p.id, nB p.n] rfl LV9.out (Y7.heap.size + 1) _ _ 1 PV.out rfl CV.out (by simp) zV9 (Hid.out ?_))
  unfold Hid
  intro v9 Y9 lY9 bY9
  try rw [← hV9] at bY9
  try rw [← hY8] at bY9
  try rw [← hV9] at bY9
  have FY9 : Hid (From W2 Y9) := FV9.out.trans bY9
  have LY9 : Hid (LQ Y9 W2.heap.size v9 [[3], nB p.id, nB p.n, [finB p.fin]]) := lY9
  clear bY9 lY9 zV9 FV9 LV9 PV CV hV9 hY8 hzY8
  have ch := CC.out Y9
  obtain ⟨s0, s1⟩ := FS.out Y9 FY9.out
  go_wp2_with fail
  refine ch.mono ?_
  rintro e Y10 ⟨rfl, bY10⟩
  have FY10 : Hid (From W2 Y10) := FY9.out.trans (Below.mono bY10 FY9.out.size)
  have LY10 : Hid (LQ Y10 W2.heap.size v9 [[3], nB p.id, nB p.n, [finB p.fin]]) := LY9.out.below bY10
  clear ch bY10 s0 s1 FY9 LY9
  have ch := CO.out Y10
  obtain ⟨s0, s1⟩ := FS.out Y10 FY10.out
  go_wp2_with fail
  refine ch.mono ?_
  rintro e Y11 ⟨rfl, bY11⟩
  have FY11 : Hid (From W2 Y11) := FY10.out.trans (Below.mono bY11 FY10.out.size)
  have LY11 : Hid (LQ Y11 W2.heap.size v9 [[3], nB p.id, nB p.n, [finB p.fin]]) := LY10.out.below bY11
  clear ch bY11 s0 s1 FY10 LY10
  have ch := CT.out Y11
  obtain ⟨s0, s1⟩ := FS.out Y11 FY11.out
  go_wp2_with fail
  refine ch.mono ?_
  rintro e Y12 ⟨rfl, bY12⟩
  have FY12 : Hid (From W2 Y12) := FY11.out.trans (Below.mono bY12 FY11.out.size)
  have LY12 : Hid (LQ Y12 W2.heap.size v9 [[3], nB p.id, nB p.n, [finB p.fin]]) := LY11.out.below bY12
  clear ch bY12 s0 s1 FY11 LY11
  have q1 := (FK.out Y12 FY12.out).c5
  have cn := ftext_ow p.tx Y12 (FT.out Y12 FY12.out) HI.out.t
  go_wp2_with fail
  refine cn.mono ?_
  rintro e Y13 ⟨u, rfl, ou, bY13⟩
  have FY13 : Hid (From W2 Y13) := FY12.out.trans (Below.mono bY13 FY12.out.size)
  have LY13 : Hid (LQ Y13 W2.heap.size v9 [[3], nB p.id, nB p.n, [finB p.fin]]) := LY12.out.below bY13
  obtain ⟨ua, uc, rfl⟩ := ou.shape
  have PU : Hid (Pt Y13 (.slice ua (Fi.textB p.tx).length uc) (Fi.textB p.tx)) := Pt.ow ou
  clear cn ou q1 bY13 FY12 LY12
  obtain ⟨V14, hV14⟩ : ∃ V14, V14 = Y13.alloc (.cells #[.slice ua (Fi.textB p.tx).length uc] 25) := ⟨_, rfl⟩
  have bV14 : Below Y13.heap.size Y13 V14 := by rw [hV14]; exact al_below _ _
  have PV : Hid (Pt V14 (.slice ua (Fi.textB p.tx).length uc) (Fi.textB p.tx)) := PU.out.below bV14
  have CV : Hid (V14.cell? ⟨Y13.heap.size, 0, none⟩ = some (.slice ua (Fi.textB p.tx).length uc)) := by unfold Hid; rw [hV14, World.cell?_alloc_at _ _ _ _ rfl]; rfl
  have FV14 : Hid (From W2 V14) := FY13.out.trans (Below.mono bV14 FY13.out.size)
  have LV14 : Hid (LQ V14 W2.heap.size v9 [[3], nB p.id, nB p.n, [finB p.fin]]) := LY13.out.below bV14
  have zV14 := FV14.out.size
  clear bV14 PU FY13 LY13
  go_wp2_with (at_builtin; rw [← hV14]; refine wpList_append_lq rfl _ _ rfl W2.heap.size _ [[3], nB p.id, nB p.n, [finB p.fin]] rfl LV14.out Y13.heap.size _ _ 1 PV.out rfl CV.out (by simp) zV14 (Hid.out ?_))
  unfold Hid
  intro v14 Y14 lY14 bY14
  try rw [← hV14] at bY14
  have FY14 : Hid (From W2 Y14) := FV14.out.trans bY14
  have LY14 : Hid (LQ Y14 W2.heap.size v14 [[3], nB p.id, nB p.n, [finB p.fin], Fi.textB p.tx]) := lY14
  clear bY14 lY14 zV14 FV14 LV14 PV CV hV14
  have ch := CS.out Y14
  obtain ⟨s0, s1⟩ := FS.out Y14 FY14.out
  go_wp2_with fail
  refine ch.mono ?_
  rintro e Y15 ⟨rfl, bY15⟩
  have FY15 : Hid (From W2 Y15) := FY14.out.trans (Below.mono bY15 FY14.out.size)
  have LY15 : Hid (LQ Y15 W2.heap.size v14 [[3], nB p.id, nB p.n, [finB p.fin], Fi.textB p.tx]) := LY14.out.below bY15
  clear ch bY15 s0 s1 FY14 LY14
  obtain ⟨pp, pc, rfl, HP⟩ := LY15.out.parts (by simp)
  have cj := fjoin_any pp pc [[3], nB p.id, nB p.n, [finB p.fin], Fi.textB p.tx] Y15 HP (by have := hlen_ok HOK.out HI.out.k.nl; rw [HPM.out] at this; exact this)
  have cjl : ([[3], nB p.id, nB p.n, [finB p.fin], Fi.textB p.tx] : List (List Int)).length = 5 := rfl
  rw [cjl] at cj
  have HFM : Hid (putM p = ([[3], nB p.id, nB p.n, [finB p.fin], Fi.textB p.tx] : List (List Int)).flatten) := HPM.out
  clear HP HPM cjl
  generalize ([[3], nB p.id, nB p.n, [finB p.fin], Fi.textB p.tx] : List (List Int)).flatten = FM at *
  go_wp2_with fail
  refine cj.mono ?_
  rintro e w9 ⟨v9, rfl, o9, b9⟩
  have HB9 : Hid (Below w.heap.size w w9) := (FB.out Y15 FY15.out).trans (b9.mono (FB.out Y15 FY15.out).size)
  have HO9 : Hid (Ow w9 w.heap.size v9 FM) := o9.mono (Nat.le_trans HWN.out FY15.out.size)
  clear cj b9 o9
  go_wp2
  go_ret
  exact ⟨_, rfl, by rw [HFM.out]; exact HO9.out, HB9.out⟩
set_option maxHeartbeats 8000000 in
theorem lay4 (p : Fm) (sv : Value) (w : World) (ht : Tb w) (hi : FI w p sv) (hok : Ok p) (hk : p.k = 4) :
    Calls Tryd.prog 18 #[.agg (plA p sv)] w fun e w' => ∃ v, e = .returned v ∧ Ow w' w.heap.size v (putM p) ∧ Below w.heap.size w w' := by
  obtain ⟨W1, hW1⟩ : ∃ W1, W1 = w.alloc (.cells (plA p sv) 36) := ⟨_, rfl⟩
  have b1 : Below w.heap.size w W1 := by rw [hW1]; exact al_below _ _
  have g1 : PF W1 w.heap.size 36 p sv := by rw [hW1]; exact PF.new w _ p sv
  obtain ⟨W2, hW2⟩ : ∃ W2, W2 = W1.alloc (.cells #[.int .i64 (pkN 4), .int .i64 (mT 4)] 63) := ⟨_, rfl⟩
  have b2 : Below W1.heap.size W1 W2 := by rw [hW2]; exact al_below _ _
  have g2 : W2.heap[W1.heap.size]? = some (.cells #[.int .i64 (pkN 4), .int .i64 (mT 4)] 63 (0, 0)) := by rw [hW2]; exact heap_alloc_new _ _
  have B2 : Below w.heap.size w W2 := b1.trans (b2.mono b1.size)
  have FG : Hid (∀ x, From W2 x → PF x w.heap.size 36 p sv) := fun x hx => (g1.kept b2).kept hx
  have FK : Hid (∀ x, From W2 x → PC x w.heap.size p sv) := fun x hx => (FG.out x hx).pc hi.k.nl
  have FS : Hid (∀ x, From W2 x → x.cell? ⟨W1.heap.size, 0, none⟩ = some (.int .i64 (pkN 4)) ∧ x.cell? ⟨W1.heap.size, 1, none⟩ = some (.int .i64 (mT 4))) := fun x hx => by
    have := blk_kept g2 hx (blk_lt g2)
    exact ⟨by simp [World.cell?, this], by simp [World.cell?, this]⟩
  have FB : Hid (∀ x, From W2 x → Below w.heap.size w x) := fun x hx => B2.trans (Below.mono hx B2.size)
  have FT : Hid (∀ x, From W2 x → Fi.Wid x) := fun x hx => (ht.next (FB.out x hx)).v
  have FN : Hid (W2.heap.size = W2.heap.size) := rfl
  have HWN : Hid (w.heap.size ≤ W2.heap.size) := B2.size
  have HI : Hid (FI w p sv) := hi
  have HOK : Hid (Ok p) := hok
  obtain ⟨t0, t1⟩ := (ht.next b1).s 4 (by omega)
  have hks := (g1.pc hi.k.nl).c0
  rw [hk] at hks
  have HPM : Hid (putM p = ([4] :: [nB p.id, nB p.n, nB p.cd]).flatten) := by
    unfold Hid
    exact putM_4 hk
  obtain ⟨sa, sc, rfl, -, -, -⟩ := hi.s.shape
  obtain ⟨Wa, hWa⟩ : ∃ Wa, Wa = W2.alloc (.cells #[.int .u8 4] 5) := ⟨_, rfl⟩
  obtain ⟨X0, hX0⟩ : ∃ X0, X0 = Wa.alloc (.cells #[.slice (some ⟨W2.heap.size, 0, none⟩) 1 1] 25) := ⟨_, rfl⟩
  have ba : Below W2.heap.size W2 Wa := by rw [hWa]; exact al_below _ _
  have bx : Below Wa.heap.size Wa X0 := by rw [hX0]; exact al_below _ _
  have FX0 : Hid (From W2 X0) := ba.trans (bx.mono ba.size)
  have pa : Pt Wa (.slice (some ⟨W2.heap.size, 0, none⟩) 1 1) [4] := by rw [hWa]; exact Pt.byte W2 4 (by omega)
  have hza : Wa.heap.size = W2.heap.size + 1 := by rw [hWa]; simp
  have LX0 : Hid (LQ X0 W2.heap.size (.slice (some ⟨W2.heap.size + 1, 0, none⟩) 1 1) [[4]]) := by unfold Hid; rw [hX0, ← hza]; exact LQ.one pa ba.size
  clear b1 g1 b2 g2 B2 ht hi ba bx pa FN hok hza
  have CI : Hid (∀ W, Calls Tryd.prog 27 #[.agg #[.int .i64 (pkN 4), .int .i64 (mT 4)], .int .i64 1] W fun e w' => e = .returned (.bool true) ∧ Below W.heap.size W w') := fun W => has_k 4 (by omega) (by omega) W 1 _ (by decide)
  have CN : Hid (∀ W, Calls Tryd.prog 27 #[.agg #[.int .i64 (pkN 4), .int .i64 (mT 4)], .int .i64 2] W fun e w' => e = .returned (.bool true) ∧ Below W.heap.size W w') := fun W => has_k 4 (by omega) (by omega) W 2 _ (by decide)
  have CF : Hid (∀ W, Calls Tryd.prog 27 #[.agg #[.int .i64 (pkN 4), .int .i64 (mT 4)], .int .i64 4] W fun e w' => e = .returned (.bool false) ∧ Below W.heap.size W w') := fun W => has_k 4 (by omega) (by omega) W 4 _ (by decide)
  have CC : Hid (∀ W, Calls Tryd.prog 27 #[.agg #[.int .i64 (pkN 4), .int .i64 (mT 4)], .int .i64 8] W fun e w' => e = .returned (.bool true) ∧ Below W.heap.size W w') := fun W => has_k 4 (by omega) (by omega) W 8 _ (by decide)
  have CO : Hid (∀ W, Calls Tryd.prog 27 #[.agg #[.int .i64 (pkN 4), .int .i64 (mT 4)], .int .i64 16] W fun e w' => e = .returned (.bool false) ∧ Below W.heap.size W w') := fun W => has_k 4 (by omega) (by omega) W 16 _ (by decide)
  have CT : Hid (∀ W, Calls Tryd.prog 27 #[.agg #[.int .i64 (pkN 4), .int .i64 (mT 4)], .int .i64 32] W fun e w' => e = .returned (.bool false) ∧ Below W.heap.size W w') := fun W => has_k 4 (by omega) (by omega) W 32 _ (by decide)
  have CS : Hid (∀ W, Calls Tryd.prog 27 #[.agg #[.int .i64 (pkN 4), .int .i64 (mT 4)], .int .i64 64] W fun e w' => e = .returned (.bool false) ∧ Below W.heap.size W w') := fun W => has_k 4 (by omega) (by omega) W 64 _ (by decide)
  generalize pkN 4 = pk at *
  generalize mT 4 = mt at *
  go_enter Tryd.func18, Tryd.ntmps18
  go_upto_region 1 with fail
  rw [← hW1]
  clear hW1
  go_upto_region 2 with fail
  rw [← hW2]
  clear hW2 t0 t1
  have hks := (FK.out W2 (Below.refl _ _)).c0
  rw [hk] at hks
  go_upto_region 3 with fail
  rw [← hWa, ← hX0]
  clear hWa hX0 hk hks
  have ch := CI.out X0
  obtain ⟨s0, s1⟩ := FS.out X0 FX0.out
  go_wp2_with fail
  refine ch.mono ?_
  rintro e Y1 ⟨rfl, bY1⟩
  have FY1 : Hid (From W2 Y1) := FX0.out.trans (Below.mono bY1 FX0.out.size)
  have LY1 : Hid (LQ Y1 W2.heap.size (.slice (some ⟨W2.heap.size + 1, 0, none⟩) 1 1) [[4]]) := LX0.out.below bY1
  clear ch bY1 s0 s1 FX0 LX0
  have q1 := (FK.out Y1 FY1.out).c1
  have cn := fnum_own p.id Y1 (FT.out Y1 FY1.out)
  go_wp2_with fail
  refine cn.mono ?_
  rintro e Y2 ⟨u, rfl, ou, bY2⟩
  have FY2 : Hid (From W2 Y2) := FY1.out.trans (Below.mono bY2 FY1.out.size)
  have LY2 : Hid (LQ Y2 W2.heap.size (.slice (some ⟨W2.heap.size + 1, 0, none⟩) 1 1) [[4]]) := LY1.out.below bY2
  obtain ⟨ua, uc, rfl⟩ := ou.shape
  have PU : Hid (Pt Y2 (.slice ua (nB p.id).length uc) (nB p.id)) := Pt.ow ou
  clear cn ou q1 bY2 FY1 LY1
  obtain ⟨V3, hV3⟩ : ∃ V3, V3 = Y2.alloc (.cells #[.slice ua (nB p.id).length uc] 25) := ⟨_, rfl⟩
  have bV3 : Below Y2.heap.size Y2 V3 := by rw [hV3]; exact al_below _ _
  have PV : Hid (Pt V3 (.slice ua (nB p.id).length uc) (nB p.id)) := PU.out.below bV3
  have CV : Hid (V3.cell? ⟨Y2.heap.size, 0, none⟩ = some (.slice ua (nB p.id).length uc)) := by unfold Hid; rw [hV3, World.cell?_alloc_at _ _ _ _ rfl]; rfl
  have FV3 : Hid (From W2 V3) := FY2.out.trans (Below.mono bV3 FY2.out.size)
  have LV3 : Hid (LQ V3 W2.heap.size (.slice (some ⟨W2.heap.size + 1, 0, none⟩) 1 1) [[4]]) := LY2.out.below bV3
  have zV3 := FV3.out.size
  clear bV3 PU FY2 LY2
  go_wp2_with (at_builtin; rw [← hV3]; refine wpList_append_lq rfl _ _ rfl W2.heap.size _ [[4]] rfl LV3.out Y2.heap.size _ _ 1 PV.out rfl CV.out (by simp) zV3 (Hid.out ?_))
  unfold Hid
  intro v3 Y3 lY3 bY3
  try rw [← hV3] at bY3
  have FY3 : Hid (From W2 Y3) := FV3.out.trans bY3
  have LY3 : Hid (LQ Y3 W2.heap.size v3 [[4], nB p.id]) := lY3
  clear bY3 lY3 zV3 FV3 LV3 PV CV hV3
  have ch := CN.out Y3
  obtain ⟨s0, s1⟩ := FS.out Y3 FY3.out
  go_wp2_with fail
  refine ch.mono ?_
  rintro e Y4 ⟨rfl, bY4⟩
  have FY4 : Hid (From W2 Y4) := FY3.out.trans (Below.mono bY4 FY3.out.size)
  have LY4 : Hid (LQ Y4 W2.heap.size v3 [[4], nB p.id]) := LY3.out.below bY4
  clear ch bY4 s0 s1 FY3 LY3
  have q1 := (FK.out Y4 FY4.out).c2
  have cn := fnum_own p.n Y4 (FT.out Y4 FY4.out)
  go_wp2_with fail
  refine cn.mono ?_
  rintro e Y5 ⟨u, rfl, ou, bY5⟩
  have FY5 : Hid (From W2 Y5) := FY4.out.trans (Below.mono bY5 FY4.out.size)
  have LY5 : Hid (LQ Y5 W2.heap.size v3 [[4], nB p.id]) := LY4.out.below bY5
  obtain ⟨ua, uc, rfl⟩ := ou.shape
  have PU : Hid (Pt Y5 (.slice ua (nB p.n).length uc) (nB p.n)) := Pt.ow ou
  clear cn ou q1 bY5 FY4 LY4
  obtain ⟨V6, hV6⟩ : ∃ V6, V6 = Y5.alloc (.cells #[.slice ua (nB p.n).length uc] 25) := ⟨_, rfl⟩
  have bV6 : Below Y5.heap.size Y5 V6 := by rw [hV6]; exact al_below _ _
  have PV : Hid (Pt V6 (.slice ua (nB p.n).length uc) (nB p.n)) := PU.out.below bV6
  have CV : Hid (V6.cell? ⟨Y5.heap.size, 0, none⟩ = some (.slice ua (nB p.n).length uc)) := by unfold Hid; rw [hV6, World.cell?_alloc_at _ _ _ _ rfl]; rfl
  have FV6 : Hid (From W2 V6) := FY5.out.trans (Below.mono bV6 FY5.out.size)
  have LV6 : Hid (LQ V6 W2.heap.size v3 [[4], nB p.id]) := LY5.out.below bV6
  have zV6 := FV6.out.size
  clear bV6 PU FY5 LY5
  go_wp2_with (at_builtin; rw [← hV6]; refine wpList_append_lq rfl _ _ rfl W2.heap.size _ [[4], nB p.id] rfl LV6.out Y5.heap.size _ _ 1 PV.out rfl CV.out (by simp) zV6 (Hid.out ?_))
  unfold Hid
  intro v6 Y6 lY6 bY6
  try rw [← hV6] at bY6
  have FY6 : Hid (From W2 Y6) := FV6.out.trans bY6
  have LY6 : Hid (LQ Y6 W2.heap.size v6 [[4], nB p.id, nB p.n]) := lY6
  clear bY6 lY6 zV6 FV6 LV6 PV CV hV6
  have ch := CF.out Y6
  obtain ⟨s0, s1⟩ := FS.out Y6 FY6.out
  go_wp2_with fail
  refine ch.mono ?_
  rintro e Y7 ⟨rfl, bY7⟩
  have FY7 : Hid (From W2 Y7) := FY6.out.trans (Below.mono bY7 FY6.out.size)
  have LY7 : Hid (LQ Y7 W2.heap.size v6 [[4], nB p.id, nB p.n]) := LY6.out.below bY7
  clear ch bY7 s0 s1 FY6 LY6
  have ch := CC.out Y7
  obtain ⟨s0, s1⟩ := FS.out Y7 FY7.out
  go_wp2_with fail
  refine ch.mono ?_
  rintro e Y8 ⟨rfl, bY8⟩
  have FY8 : Hid (From W2 Y8) := FY7.out.trans (Below.mono bY8 FY7.out.size)
  have LY8 : Hid (LQ Y8 W2.heap.size v6 [[4], nB p.id, nB p.n]) := LY7.out.below bY8
  clear ch bY8 s0 s1 FY7 LY7
  have q1 := (FK.out Y8 FY8.out).c3
  have cn := fnum_own p.cd Y8 (FT.out Y8 FY8.out)
  go_wp2_with fail
  refine cn.mono ?_
  rintro e Y9 ⟨u, rfl, ou, bY9⟩
  have FY9 : Hid (From W2 Y9) := FY8.out.trans (Below.mono bY9 FY8.out.size)
  have LY9 : Hid (LQ Y9 W2.heap.size v6 [[4], nB p.id, nB p.n]) := LY8.out.below bY9
  obtain ⟨ua, uc, rfl⟩ := ou.shape
  have PU : Hid (Pt Y9 (.slice ua (nB p.cd).length uc) (nB p.cd)) := Pt.ow ou
  clear cn ou q1 bY9 FY8 LY8
  obtain ⟨V10, hV10⟩ : ∃ V10, V10 = Y9.alloc (.cells #[.slice ua (nB p.cd).length uc] 25) := ⟨_, rfl⟩
  have bV10 : Below Y9.heap.size Y9 V10 := by rw [hV10]; exact al_below _ _
  have PV : Hid (Pt V10 (.slice ua (nB p.cd).length uc) (nB p.cd)) := PU.out.below bV10
  have CV : Hid (V10.cell? ⟨Y9.heap.size, 0, none⟩ = some (.slice ua (nB p.cd).length uc)) := by unfold Hid; rw [hV10, World.cell?_alloc_at _ _ _ _ rfl]; rfl
  have FV10 : Hid (From W2 V10) := FY9.out.trans (Below.mono bV10 FY9.out.size)
  have LV10 : Hid (LQ V10 W2.heap.size v6 [[4], nB p.id, nB p.n]) := LY9.out.below bV10
  have zV10 := FV10.out.size
  clear bV10 PU FY9 LY9
  go_wp2_with (at_builtin; rw [← hV10]; refine wpList_append_lq rfl _ _ rfl W2.heap.size _ [[4], nB p.id, nB p.n] rfl LV10.out Y9.heap.size _ _ 1 PV.out rfl CV.out (by simp) zV10 (Hid.out ?_))
  unfold Hid
  intro v10 Y10 lY10 bY10
  try rw [← hV10] at bY10
  have FY10 : Hid (From W2 Y10) := FV10.out.trans bY10
  have LY10 : Hid (LQ Y10 W2.heap.size v10 [[4], nB p.id, nB p.n, nB p.cd]) := lY10
  clear bY10 lY10 zV10 FV10 LV10 PV CV hV10
  have ch := CO.out Y10
  obtain ⟨s0, s1⟩ := FS.out Y10 FY10.out
  go_wp2_with fail
  refine ch.mono ?_
  rintro e Y11 ⟨rfl, bY11⟩
  have FY11 : Hid (From W2 Y11) := FY10.out.trans (Below.mono bY11 FY10.out.size)
  have LY11 : Hid (LQ Y11 W2.heap.size v10 [[4], nB p.id, nB p.n, nB p.cd]) := LY10.out.below bY11
  clear ch bY11 s0 s1 FY10 LY10
  have ch := CT.out Y11
  obtain ⟨s0, s1⟩ := FS.out Y11 FY11.out
  go_wp2_with fail
  refine ch.mono ?_
  rintro e Y12 ⟨rfl, bY12⟩
  have FY12 : Hid (From W2 Y12) := FY11.out.trans (Below.mono bY12 FY11.out.size)
  have LY12 : Hid (LQ Y12 W2.heap.size v10 [[4], nB p.id, nB p.n, nB p.cd]) := LY11.out.below bY12
  clear ch bY12 s0 s1 FY11 LY11
  have ch := CS.out Y12
  obtain ⟨s0, s1⟩ := FS.out Y12 FY12.out
  go_wp2_with fail
  refine ch.mono ?_
  rintro e Y13 ⟨rfl, bY13⟩
  have FY13 : Hid (From W2 Y13) := FY12.out.trans (Below.mono bY13 FY12.out.size)
  have LY13 : Hid (LQ Y13 W2.heap.size v10 [[4], nB p.id, nB p.n, nB p.cd]) := LY12.out.below bY13
  clear ch bY13 s0 s1 FY12 LY12
  obtain ⟨pp, pc, rfl, HP⟩ := LY13.out.parts (by simp)
  have cj := fjoin_any pp pc [[4], nB p.id, nB p.n, nB p.cd] Y13 HP (by have := hlen_ok HOK.out HI.out.k.nl; rw [HPM.out] at this; exact this)
  have cjl : ([[4], nB p.id, nB p.n, nB p.cd] : List (List Int)).length = 4 := rfl
  rw [cjl] at cj
  have HFM : Hid (putM p = ([[4], nB p.id, nB p.n, nB p.cd] : List (List Int)).flatten) := HPM.out
  clear HP HPM cjl
  generalize ([[4], nB p.id, nB p.n, nB p.cd] : List (List Int)).flatten = FM at *
  go_wp2_with fail
  refine cj.mono ?_
  rintro e w9 ⟨v9, rfl, o9, b9⟩
  have HB9 : Hid (Below w.heap.size w w9) := (FB.out Y13 FY13.out).trans (b9.mono (FB.out Y13 FY13.out).size)
  have HO9 : Hid (Ow w9 w.heap.size v9 FM) := o9.mono (Nat.le_trans HWN.out FY13.out.size)
  clear cj b9 o9
  go_wp2
  go_ret
  exact ⟨_, rfl, by rw [HFM.out]; exact HO9.out, HB9.out⟩
set_option maxHeartbeats 8000000 in
theorem lay5 (p : Fm) (sv : Value) (w : World) (ht : Tb w) (hi : FI w p sv) (hok : Ok p) (hk : p.k = 5) :
    Calls Tryd.prog 18 #[.agg (plA p sv)] w fun e w' => ∃ v, e = .returned v ∧ Ow w' w.heap.size v (putM p) ∧ Below w.heap.size w w' := by
  obtain ⟨W1, hW1⟩ : ∃ W1, W1 = w.alloc (.cells (plA p sv) 36) := ⟨_, rfl⟩
  have b1 : Below w.heap.size w W1 := by rw [hW1]; exact al_below _ _
  have g1 : PF W1 w.heap.size 36 p sv := by rw [hW1]; exact PF.new w _ p sv
  obtain ⟨W2, hW2⟩ : ∃ W2, W2 = W1.alloc (.cells #[.int .i64 (pkN 5), .int .i64 (mT 5)] 63) := ⟨_, rfl⟩
  have b2 : Below W1.heap.size W1 W2 := by rw [hW2]; exact al_below _ _
  have g2 : W2.heap[W1.heap.size]? = some (.cells #[.int .i64 (pkN 5), .int .i64 (mT 5)] 63 (0, 0)) := by rw [hW2]; exact heap_alloc_new _ _
  have B2 : Below w.heap.size w W2 := b1.trans (b2.mono b1.size)
  have FG : Hid (∀ x, From W2 x → PF x w.heap.size 36 p sv) := fun x hx => (g1.kept b2).kept hx
  have FK : Hid (∀ x, From W2 x → PC x w.heap.size p sv) := fun x hx => (FG.out x hx).pc hi.k.nl
  have FS : Hid (∀ x, From W2 x → x.cell? ⟨W1.heap.size, 0, none⟩ = some (.int .i64 (pkN 5)) ∧ x.cell? ⟨W1.heap.size, 1, none⟩ = some (.int .i64 (mT 5))) := fun x hx => by
    have := blk_kept g2 hx (blk_lt g2)
    exact ⟨by simp [World.cell?, this], by simp [World.cell?, this]⟩
  have FB : Hid (∀ x, From W2 x → Below w.heap.size w x) := fun x hx => B2.trans (Below.mono hx B2.size)
  have FT : Hid (∀ x, From W2 x → Fi.Wid x) := fun x hx => (ht.next (FB.out x hx)).v
  have FN : Hid (W2.heap.size = W2.heap.size) := rfl
  have HWN : Hid (w.heap.size ≤ W2.heap.size) := B2.size
  have HI : Hid (FI w p sv) := hi
  have HOK : Hid (Ok p) := hok
  obtain ⟨t0, t1⟩ := (ht.next b1).s 5 (by omega)
  have hks := (g1.pc hi.k.nl).c0
  rw [hk] at hks
  have HPM : Hid (putM p = ([5] :: [nB p.id, nB p.cd]).flatten) := by
    unfold Hid
    exact putM_5 hk
  obtain ⟨sa, sc, rfl, -, -, -⟩ := hi.s.shape
  obtain ⟨Wa, hWa⟩ : ∃ Wa, Wa = W2.alloc (.cells #[.int .u8 5] 5) := ⟨_, rfl⟩
  obtain ⟨X0, hX0⟩ : ∃ X0, X0 = Wa.alloc (.cells #[.slice (some ⟨W2.heap.size, 0, none⟩) 1 1] 25) := ⟨_, rfl⟩
  have ba : Below W2.heap.size W2 Wa := by rw [hWa]; exact al_below _ _
  have bx : Below Wa.heap.size Wa X0 := by rw [hX0]; exact al_below _ _
  have FX0 : Hid (From W2 X0) := ba.trans (bx.mono ba.size)
  have pa : Pt Wa (.slice (some ⟨W2.heap.size, 0, none⟩) 1 1) [5] := by rw [hWa]; exact Pt.byte W2 5 (by omega)
  have hza : Wa.heap.size = W2.heap.size + 1 := by rw [hWa]; simp
  have LX0 : Hid (LQ X0 W2.heap.size (.slice (some ⟨W2.heap.size + 1, 0, none⟩) 1 1) [[5]]) := by unfold Hid; rw [hX0, ← hza]; exact LQ.one pa ba.size
  clear b1 g1 b2 g2 B2 ht hi ba bx pa FN hok hza
  have CI : Hid (∀ W, Calls Tryd.prog 27 #[.agg #[.int .i64 (pkN 5), .int .i64 (mT 5)], .int .i64 1] W fun e w' => e = .returned (.bool true) ∧ Below W.heap.size W w') := fun W => has_k 5 (by omega) (by omega) W 1 _ (by decide)
  have CN : Hid (∀ W, Calls Tryd.prog 27 #[.agg #[.int .i64 (pkN 5), .int .i64 (mT 5)], .int .i64 2] W fun e w' => e = .returned (.bool false) ∧ Below W.heap.size W w') := fun W => has_k 5 (by omega) (by omega) W 2 _ (by decide)
  have CF : Hid (∀ W, Calls Tryd.prog 27 #[.agg #[.int .i64 (pkN 5), .int .i64 (mT 5)], .int .i64 4] W fun e w' => e = .returned (.bool false) ∧ Below W.heap.size W w') := fun W => has_k 5 (by omega) (by omega) W 4 _ (by decide)
  have CC : Hid (∀ W, Calls Tryd.prog 27 #[.agg #[.int .i64 (pkN 5), .int .i64 (mT 5)], .int .i64 8] W fun e w' => e = .returned (.bool true) ∧ Below W.heap.size W w') := fun W => has_k 5 (by omega) (by omega) W 8 _ (by decide)
  have CO : Hid (∀ W, Calls Tryd.prog 27 #[.agg #[.int .i64 (pkN 5), .int .i64 (mT 5)], .int .i64 16] W fun e w' => e = .returned (.bool false) ∧ Below W.heap.size W w') := fun W => has_k 5 (by omega) (by omega) W 16 _ (by decide)
  have CT : Hid (∀ W, Calls Tryd.prog 27 #[.agg #[.int .i64 (pkN 5), .int .i64 (mT 5)], .int .i64 32] W fun e w' => e = .returned (.bool false) ∧ Below W.heap.size W w') := fun W => has_k 5 (by omega) (by omega) W 32 _ (by decide)
  have CS : Hid (∀ W, Calls Tryd.prog 27 #[.agg #[.int .i64 (pkN 5), .int .i64 (mT 5)], .int .i64 64] W fun e w' => e = .returned (.bool false) ∧ Below W.heap.size W w') := fun W => has_k 5 (by omega) (by omega) W 64 _ (by decide)
  generalize pkN 5 = pk at *
  generalize mT 5 = mt at *
  go_enter Tryd.func18, Tryd.ntmps18
  go_upto_region 1 with fail
  rw [← hW1]
  clear hW1
  go_upto_region 2 with fail
  rw [← hW2]
  clear hW2 t0 t1
  have hks := (FK.out W2 (Below.refl _ _)).c0
  rw [hk] at hks
  go_upto_region 3 with fail
  rw [← hWa, ← hX0]
  clear hWa hX0 hk hks
  have ch := CI.out X0
  obtain ⟨s0, s1⟩ := FS.out X0 FX0.out
  go_wp2_with fail
  refine ch.mono ?_
  rintro e Y1 ⟨rfl, bY1⟩
  have FY1 : Hid (From W2 Y1) := FX0.out.trans (Below.mono bY1 FX0.out.size)
  have LY1 : Hid (LQ Y1 W2.heap.size (.slice (some ⟨W2.heap.size + 1, 0, none⟩) 1 1) [[5]]) := LX0.out.below bY1
  clear ch bY1 s0 s1 FX0 LX0
  have q1 := (FK.out Y1 FY1.out).c1
  have cn := fnum_own p.id Y1 (FT.out Y1 FY1.out)
  go_wp2_with fail
  refine cn.mono ?_
  rintro e Y2 ⟨u, rfl, ou, bY2⟩
  have FY2 : Hid (From W2 Y2) := FY1.out.trans (Below.mono bY2 FY1.out.size)
  have LY2 : Hid (LQ Y2 W2.heap.size (.slice (some ⟨W2.heap.size + 1, 0, none⟩) 1 1) [[5]]) := LY1.out.below bY2
  obtain ⟨ua, uc, rfl⟩ := ou.shape
  have PU : Hid (Pt Y2 (.slice ua (nB p.id).length uc) (nB p.id)) := Pt.ow ou
  clear cn ou q1 bY2 FY1 LY1
  obtain ⟨V3, hV3⟩ : ∃ V3, V3 = Y2.alloc (.cells #[.slice ua (nB p.id).length uc] 25) := ⟨_, rfl⟩
  have bV3 : Below Y2.heap.size Y2 V3 := by rw [hV3]; exact al_below _ _
  have PV : Hid (Pt V3 (.slice ua (nB p.id).length uc) (nB p.id)) := PU.out.below bV3
  have CV : Hid (V3.cell? ⟨Y2.heap.size, 0, none⟩ = some (.slice ua (nB p.id).length uc)) := by unfold Hid; rw [hV3, World.cell?_alloc_at _ _ _ _ rfl]; rfl
  have FV3 : Hid (From W2 V3) := FY2.out.trans (Below.mono bV3 FY2.out.size)
  have LV3 : Hid (LQ V3 W2.heap.size (.slice (some ⟨W2.heap.size + 1, 0, none⟩) 1 1) [[5]]) := LY2.out.below bV3
  have zV3 := FV3.out.size
  clear bV3 PU FY2 LY2
  go_wp2_with (at_builtin; rw [← hV3]; refine wpList_append_lq rfl _ _ rfl W2.heap.size _ [[5]] rfl LV3.out Y2.heap.size _ _ 1 PV.out rfl CV.out (by simp) zV3 (Hid.out ?_))
  unfold Hid
  intro v3 Y3 lY3 bY3
  try rw [← hV3] at bY3
  have FY3 : Hid (From W2 Y3) := FV3.out.trans bY3
  have LY3 : Hid (LQ Y3 W2.heap.size v3 [[5], nB p.id]) := lY3
  clear bY3 lY3 zV3 FV3 LV3 PV CV hV3
  have ch := CN.out Y3
  obtain ⟨s0, s1⟩ := FS.out Y3 FY3.out
  go_wp2_with fail
  refine ch.mono ?_
  rintro e Y4 ⟨rfl, bY4⟩
  have FY4 : Hid (From W2 Y4) := FY3.out.trans (Below.mono bY4 FY3.out.size)
  have LY4 : Hid (LQ Y4 W2.heap.size v3 [[5], nB p.id]) := LY3.out.below bY4
  clear ch bY4 s0 s1 FY3 LY3
  have ch := CF.out Y4
  obtain ⟨s0, s1⟩ := FS.out Y4 FY4.out
  go_wp2_with fail
  refine ch.mono ?_
  rintro e Y5 ⟨rfl, bY5⟩
  have FY5 : Hid (From W2 Y5) := FY4.out.trans (Below.mono bY5 FY4.out.size)
  have LY5 : Hid (LQ Y5 W2.heap.size v3 [[5], nB p.id]) := LY4.out.below bY5
  clear ch bY5 s0 s1 FY4 LY4
  have ch := CC.out Y5
  obtain ⟨s0, s1⟩ := FS.out Y5 FY5.out
  go_wp2_with fail
  refine ch.mono ?_
  rintro e Y6 ⟨rfl, bY6⟩
  have FY6 : Hid (From W2 Y6) := FY5.out.trans (Below.mono bY6 FY5.out.size)
  have LY6 : Hid (LQ Y6 W2.heap.size v3 [[5], nB p.id]) := LY5.out.below bY6
  clear ch bY6 s0 s1 FY5 LY5
  have q1 := (FK.out Y6 FY6.out).c3
  have cn := fnum_own p.cd Y6 (FT.out Y6 FY6.out)
  go_wp2_with fail
  refine cn.mono ?_
  rintro e Y7 ⟨u, rfl, ou, bY7⟩
  have FY7 : Hid (From W2 Y7) := FY6.out.trans (Below.mono bY7 FY6.out.size)
  have LY7 : Hid (LQ Y7 W2.heap.size v3 [[5], nB p.id]) := LY6.out.below bY7
  obtain ⟨ua, uc, rfl⟩ := ou.shape
  have PU : Hid (Pt Y7 (.slice ua (nB p.cd).length uc) (nB p.cd)) := Pt.ow ou
  clear cn ou q1 bY7 FY6 LY6
  obtain ⟨V8, hV8⟩ : ∃ V8, V8 = Y7.alloc (.cells #[.slice ua (nB p.cd).length uc] 25) := ⟨_, rfl⟩
  have bV8 : Below Y7.heap.size Y7 V8 := by rw [hV8]; exact al_below _ _
  have PV : Hid (Pt V8 (.slice ua (nB p.cd).length uc) (nB p.cd)) := PU.out.below bV8
  have CV : Hid (V8.cell? ⟨Y7.heap.size, 0, none⟩ = some (.slice ua (nB p.cd).length uc)) := by unfold Hid; rw [hV8, World.cell?_alloc_at _ _ _ _ rfl]; rfl
  have FV8 : Hid (From W2 V8) := FY7.out.trans (Below.mono bV8 FY7.out.size)
  have LV8 : Hid (LQ V8 W2.heap.size v3 [[5], nB p.id]) := LY7.out.below bV8
  have zV8 := FV8.out.size
  clear bV8 PU FY7 LY7
  go_wp2_with (at_builtin; rw [← hV8]; refine wpList_append_lq rfl _ _ rfl W2.heap.size _ [[5], nB p.id] rfl LV8.out Y7.heap.size _ _ 1 PV.out rfl CV.out (by simp) zV8 (Hid.out ?_))
  unfold Hid
  intro v8 Y8 lY8 bY8
  try rw [← hV8] at bY8
  have FY8 : Hid (From W2 Y8) := FV8.out.trans bY8
  have LY8 : Hid (LQ Y8 W2.heap.size v8 [[5], nB p.id, nB p.cd]) := lY8
  clear bY8 lY8 zV8 FV8 LV8 PV CV hV8
  have ch := CO.out Y8
  obtain ⟨s0, s1⟩ := FS.out Y8 FY8.out
  go_wp2_with fail
  refine ch.mono ?_
  rintro e Y9 ⟨rfl, bY9⟩
  have FY9 : Hid (From W2 Y9) := FY8.out.trans (Below.mono bY9 FY8.out.size)
  have LY9 : Hid (LQ Y9 W2.heap.size v8 [[5], nB p.id, nB p.cd]) := LY8.out.below bY9
  clear ch bY9 s0 s1 FY8 LY8
  have ch := CT.out Y9
  obtain ⟨s0, s1⟩ := FS.out Y9 FY9.out
  go_wp2_with fail
  refine ch.mono ?_
  rintro e Y10 ⟨rfl, bY10⟩
  have FY10 : Hid (From W2 Y10) := FY9.out.trans (Below.mono bY10 FY9.out.size)
  have LY10 : Hid (LQ Y10 W2.heap.size v8 [[5], nB p.id, nB p.cd]) := LY9.out.below bY10
  clear ch bY10 s0 s1 FY9 LY9
  have ch := CS.out Y10
  obtain ⟨s0, s1⟩ := FS.out Y10 FY10.out
  go_wp2_with fail
  refine ch.mono ?_
  rintro e Y11 ⟨rfl, bY11⟩
  have FY11 : Hid (From W2 Y11) := FY10.out.trans (Below.mono bY11 FY10.out.size)
  have LY11 : Hid (LQ Y11 W2.heap.size v8 [[5], nB p.id, nB p.cd]) := LY10.out.below bY11
  clear ch bY11 s0 s1 FY10 LY10
  obtain ⟨pp, pc, rfl, HP⟩ := LY11.out.parts (by simp)
  have cj := fjoin_any pp pc [[5], nB p.id, nB p.cd] Y11 HP (by have := hlen_ok HOK.out HI.out.k.nl; rw [HPM.out] at this; exact this)
  have cjl : ([[5], nB p.id, nB p.cd] : List (List Int)).length = 3 := rfl
  rw [cjl] at cj
  have HFM : Hid (putM p = ([[5], nB p.id, nB p.cd] : List (List Int)).flatten) := HPM.out
  clear HP HPM cjl
  generalize ([[5], nB p.id, nB p.cd] : List (List Int)).flatten = FM at *
  go_wp2_with fail
  refine cj.mono ?_
  rintro e w9 ⟨v9, rfl, o9, b9⟩
  have HB9 : Hid (Below w.heap.size w w9) := (FB.out Y11 FY11.out).trans (b9.mono (FB.out Y11 FY11.out).size)
  have HO9 : Hid (Ow w9 w.heap.size v9 FM) := o9.mono (Nat.le_trans HWN.out FY11.out.size)
  clear cj b9 o9
  go_wp2
  go_ret
  exact ⟨_, rfl, by rw [HFM.out]; exact HO9.out, HB9.out⟩
end Go.Proofs.YtjjjomikgpnahaaDoor
namespace Go.Proofs.YtjjjomikgpnahaaDoor
open Go.RowKit Go.Shelf
set_option maxRecDepth 100000

set_option maxHeartbeats 8000000 in
theorem lay6 (p : Fm) (sv : Value) (w : World) (ht : Tb w) (hi : FI w p sv) (hok : Ok p) (hk : p.k = 6) :
    Calls Tryd.prog 18 #[.agg (plA p sv)] w fun e w' => ∃ v, e = .returned v ∧ Ow w' w.heap.size v (putM p) ∧ Below w.heap.size w w' := by
  obtain ⟨W1, hW1⟩ : ∃ W1, W1 = w.alloc (.cells (plA p sv) 36) := ⟨_, rfl⟩
  have b1 : Below w.heap.size w W1 := by rw [hW1]; exact al_below _ _
  have g1 : PF W1 w.heap.size 36 p sv := by rw [hW1]; exact PF.new w _ p sv
  obtain ⟨W2, hW2⟩ : ∃ W2, W2 = W1.alloc (.cells #[.int .i64 (pkN 6), .int .i64 (mT 6)] 63) := ⟨_, rfl⟩
  have b2 : Below W1.heap.size W1 W2 := by rw [hW2]; exact al_below _ _
  have g2 : W2.heap[W1.heap.size]? = some (.cells #[.int .i64 (pkN 6), .int .i64 (mT 6)] 63 (0, 0)) := by rw [hW2]; exact heap_alloc_new _ _
  have B2 : Below w.heap.size w W2 := b1.trans (b2.mono b1.size)
  have FG : Hid (∀ x, From W2 x → PF x w.heap.size 36 p sv) := fun x hx => (g1.kept b2).kept hx
  have FK : Hid (∀ x, From W2 x → PC x w.heap.size p sv) := fun x hx => (FG.out x hx).pc hi.k.nl
  have FS : Hid (∀ x, From W2 x → x.cell? ⟨W1.heap.size, 0, none⟩ = some (.int .i64 (pkN 6)) ∧ x.cell? ⟨W1.heap.size, 1, none⟩ = some (.int .i64 (mT 6))) := fun x hx => by
    have := blk_kept g2 hx (blk_lt g2)
    exact ⟨by simp [World.cell?, this], by simp [World.cell?, this]⟩
  have FB : Hid (∀ x, From W2 x → Below w.heap.size w x) := fun x hx => B2.trans (Below.mono hx B2.size)
  have FT : Hid (∀ x, From W2 x → Fi.Wid x) := fun x hx => (ht.next (FB.out x hx)).v
  have FN : Hid (W2.heap.size = W2.heap.size) := rfl
  have HWN : Hid (w.heap.size ≤ W2.heap.size) := B2.size
  have HI : Hid (FI w p sv) := hi
  have HOK : Hid (Ok p) := hok
  obtain ⟨t0, t1⟩ := (ht.next b1).s 6 (by omega)
  have hks := (g1.pc hi.k.nl).c0
  rw [hk] at hks
  have HPM : Hid (putM p = ([6] :: [nB p.n]).flatten) := by
    unfold Hid
    exact putM_6 hk
  obtain ⟨sa, sc, rfl, -, -, -⟩ := hi.s.shape
  obtain ⟨Wa, hWa⟩ : ∃ Wa, Wa = W2.alloc (.cells #[.int .u8 6] 5) := ⟨_, rfl⟩
  obtain ⟨X0, hX0⟩ : ∃ X0, X0 = Wa.alloc (.cells #[.slice (some ⟨W2.heap.size, 0, none⟩) 1 1] 25) := ⟨_, rfl⟩
  have ba : Below W2.heap.size W2 Wa := by rw [hWa]; exact al_below _ _
  have bx : Below Wa.heap.size Wa X0 := by rw [hX0]; exact al_below _ _
  have FX0 : Hid (From W2 X0) := ba.trans (bx.mono ba.size)
  have pa : Pt Wa (.slice (some ⟨W2.heap.size, 0, none⟩) 1 1) [6] := by rw [hWa]; exact Pt.byte W2 6 (by omega)
  have hza : Wa.heap.size = W2.heap.size + 1 := by rw [hWa]; simp
  have LX0 : Hid (LQ X0 W2.heap.size (.slice (some ⟨W2.heap.size + 1, 0, none⟩) 1 1) [[6]]) := by unfold Hid; rw [hX0, ← hza]; exact LQ.one pa ba.size
  clear b1 g1 b2 g2 B2 ht hi ba bx pa FN hok hza
  have CI : Hid (∀ W, Calls Tryd.prog 27 #[.agg #[.int .i64 (pkN 6), .int .i64 (mT 6)], .int .i64 1] W fun e w' => e = .returned (.bool false) ∧ Below W.heap.size W w') := fun W => has_k 6 (by omega) (by omega) W 1 _ (by decide)
  have CN : Hid (∀ W, Calls Tryd.prog 27 #[.agg #[.int .i64 (pkN 6), .int .i64 (mT 6)], .int .i64 2] W fun e w' => e = .returned (.bool true) ∧ Below W.heap.size W w') := fun W => has_k 6 (by omega) (by omega) W 2 _ (by decide)
  have CF : Hid (∀ W, Calls Tryd.prog 27 #[.agg #[.int .i64 (pkN 6), .int .i64 (mT 6)], .int .i64 4] W fun e w' => e = .returned (.bool false) ∧ Below W.heap.size W w') := fun W => has_k 6 (by omega) (by omega) W 4 _ (by decide)
  have CC : Hid (∀ W, Calls Tryd.prog 27 #[.agg #[.int .i64 (pkN 6), .int .i64 (mT 6)], .int .i64 8] W fun e w' => e = .returned (.bool false) ∧ Below W.heap.size W w') := fun W => has_k 6 (by omega) (by omega) W 8 _ (by decide)
  have CO : Hid (∀ W, Calls Tryd.prog 27 #[.agg #[.int .i64 (pkN 6), .int .i64 (mT 6)], .int .i64 16] W fun e w' => e = .returned (.bool false) ∧ Below W.heap.size W w') := fun W => has_k 6 (by omega) (by omega) W 16 _ (by decide)
  have CT : Hid (∀ W, Calls Tryd.prog 27 #[.agg #[.int .i64 (pkN 6), .int .i64 (mT 6)], .int .i64 32] W fun e w' => e = .returned (.bool false) ∧ Below W.heap.size W w') := fun W => has_k 6 (by omega) (by omega) W 32 _ (by decide)
  have CS : Hid (∀ W, Calls Tryd.prog 27 #[.agg #[.int .i64 (pkN 6), .int .i64 (mT 6)], .int .i64 64] W fun e w' => e = .returned (.bool false) ∧ Below W.heap.size W w') := fun W => has_k 6 (by omega) (by omega) W 64 _ (by decide)
  generalize pkN 6 = pk at *
  generalize mT 6 = mt at *
  go_enter Tryd.func18, Tryd.ntmps18
  go_upto_region 1 with fail
  rw [← hW1]
  clear hW1
  go_upto_region 2 with fail
  rw [← hW2]
  clear hW2 t0 t1
  have hks := (FK.out W2 (Below.refl _ _)).c0
  rw [hk] at hks
  go_upto_region 3 with fail
  rw [← hWa, ← hX0]
  clear hWa hX0 hk hks
  have ch := CI.out X0
  obtain ⟨s0, s1⟩ := FS.out X0 FX0.out
  go_wp2_with fail
  refine ch.mono ?_
  rintro e Y1 ⟨rfl, bY1⟩
  have FY1 : Hid (From W2 Y1) := FX0.out.trans (Below.mono bY1 FX0.out.size)
  have LY1 : Hid (LQ Y1 W2.heap.size (.slice (some ⟨W2.heap.size + 1, 0, none⟩) 1 1) [[6]]) := LX0.out.below bY1
  clear ch bY1 s0 s1 FX0 LX0
  have ch := CN.out Y1
  obtain ⟨s0, s1⟩ := FS.out Y1 FY1.out
  go_wp2_with fail
  refine ch.mono ?_
  rintro e Y2 ⟨rfl, bY2⟩
  have FY2 : Hid (From W2 Y2) := FY1.out.trans (Below.mono bY2 FY1.out.size)
  have LY2 : Hid (LQ Y2 W2.heap.size (.slice (some ⟨W2.heap.size + 1, 0, none⟩) 1 1) [[6]]) := LY1.out.below bY2
  clear ch bY2 s0 s1 FY1 LY1
  have q1 := (FK.out Y2 FY2.out).c2
  have cn := fnum_own p.n Y2 (FT.out Y2 FY2.out)
  go_wp2_with fail
  refine cn.mono ?_
  rintro e Y3 ⟨u, rfl, ou, bY3⟩
  have FY3 : Hid (From W2 Y3) := FY2.out.trans (Below.mono bY3 FY2.out.size)
  have LY3 : Hid (LQ Y3 W2.heap.size (.slice (some ⟨W2.heap.size + 1, 0, none⟩) 1 1) [[6]]) := LY2.out.below bY3
  obtain ⟨ua, uc, rfl⟩ := ou.shape
  have PU : Hid (Pt Y3 (.slice ua (nB p.n).length uc) (nB p.n)) := Pt.ow ou
  clear cn ou q1 bY3 FY2 LY2
  obtain ⟨V4, hV4⟩ : ∃ V4, V4 = Y3.alloc (.cells #[.slice ua (nB p.n).length uc] 25) := ⟨_, rfl⟩
  have bV4 : Below Y3.heap.size Y3 V4 := by rw [hV4]; exact al_below _ _
  have PV : Hid (Pt V4 (.slice ua (nB p.n).length uc) (nB p.n)) := PU.out.below bV4
  have CV : Hid (V4.cell? ⟨Y3.heap.size, 0, none⟩ = some (.slice ua (nB p.n).length uc)) := by unfold Hid; rw [hV4, World.cell?_alloc_at _ _ _ _ rfl]; rfl
  have FV4 : Hid (From W2 V4) := FY3.out.trans (Below.mono bV4 FY3.out.size)
  have LV4 : Hid (LQ V4 W2.heap.size (.slice (some ⟨W2.heap.size + 1, 0, none⟩) 1 1) [[6]]) := LY3.out.below bV4
  have zV4 := FV4.out.size
  clear bV4 PU FY3 LY3
  go_wp2_with (at_builtin; rw [← hV4]; refine wpList_append_lq rfl _ _ rfl W2.heap.size _ [[6]] rfl LV4.out Y3.heap.size _ _ 1 PV.out rfl CV.out (by simp) zV4 (Hid.out ?_))
  unfold Hid
  intro v4 Y4 lY4 bY4
  try rw [← hV4] at bY4
  have FY4 : Hid (From W2 Y4) := FV4.out.trans bY4
  have LY4 : Hid (LQ Y4 W2.heap.size v4 [[6], nB p.n]) := lY4
  clear bY4 lY4 zV4 FV4 LV4 PV CV hV4
  have ch := CF.out Y4
  obtain ⟨s0, s1⟩ := FS.out Y4 FY4.out
  go_wp2_with fail
  refine ch.mono ?_
  rintro e Y5 ⟨rfl, bY5⟩
  have FY5 : Hid (From W2 Y5) := FY4.out.trans (Below.mono bY5 FY4.out.size)
  have LY5 : Hid (LQ Y5 W2.heap.size v4 [[6], nB p.n]) := LY4.out.below bY5
  clear ch bY5 s0 s1 FY4 LY4
  have ch := CC.out Y5
  obtain ⟨s0, s1⟩ := FS.out Y5 FY5.out
  go_wp2_with fail
  refine ch.mono ?_
  rintro e Y6 ⟨rfl, bY6⟩
  have FY6 : Hid (From W2 Y6) := FY5.out.trans (Below.mono bY6 FY5.out.size)
  have LY6 : Hid (LQ Y6 W2.heap.size v4 [[6], nB p.n]) := LY5.out.below bY6
  clear ch bY6 s0 s1 FY5 LY5
  have ch := CO.out Y6
  obtain ⟨s0, s1⟩ := FS.out Y6 FY6.out
  go_wp2_with fail
  refine ch.mono ?_
  rintro e Y7 ⟨rfl, bY7⟩
  have FY7 : Hid (From W2 Y7) := FY6.out.trans (Below.mono bY7 FY6.out.size)
  have LY7 : Hid (LQ Y7 W2.heap.size v4 [[6], nB p.n]) := LY6.out.below bY7
  clear ch bY7 s0 s1 FY6 LY6
  have ch := CT.out Y7
  obtain ⟨s0, s1⟩ := FS.out Y7 FY7.out
  go_wp2_with fail
  refine ch.mono ?_
  rintro e Y8 ⟨rfl, bY8⟩
  have FY8 : Hid (From W2 Y8) := FY7.out.trans (Below.mono bY8 FY7.out.size)
  have LY8 : Hid (LQ Y8 W2.heap.size v4 [[6], nB p.n]) := LY7.out.below bY8
  clear ch bY8 s0 s1 FY7 LY7
  have ch := CS.out Y8
  obtain ⟨s0, s1⟩ := FS.out Y8 FY8.out
  go_wp2_with fail
  refine ch.mono ?_
  rintro e Y9 ⟨rfl, bY9⟩
  have FY9 : Hid (From W2 Y9) := FY8.out.trans (Below.mono bY9 FY8.out.size)
  have LY9 : Hid (LQ Y9 W2.heap.size v4 [[6], nB p.n]) := LY8.out.below bY9
  clear ch bY9 s0 s1 FY8 LY8
  obtain ⟨pp, pc, rfl, HP⟩ := LY9.out.parts (by simp)
  have cj := fjoin_any pp pc [[6], nB p.n] Y9 HP (by have := hlen_ok HOK.out HI.out.k.nl; rw [HPM.out] at this; exact this)
  have cjl : ([[6], nB p.n]).length = 2 := rfl
  rw [cjl] at cj
  have HFM : Hid (putM p = ([[6], nB p.n]).flatten) := HPM.out
  clear HP HPM cjl
  generalize ([[6], nB p.n]).flatten = FM at *
  go_wp2_with fail
  refine cj.mono ?_
  rintro e w9 ⟨v9, rfl, o9, b9⟩
  have HB9 : Hid (Below w.heap.size w w9) := (FB.out Y9 FY9.out).trans (b9.mono (FB.out Y9 FY9.out).size)
  have HO9 : Hid (Ow w9 w.heap.size v9 FM) := o9.mono (Nat.le_trans HWN.out FY9.out.size)
  clear cj b9 o9
  go_wp2
  go_ret
  exact ⟨_, rfl, by rw [HFM.out]; exact HO9.out, HB9.out⟩
set_option maxHeartbeats 8000000 in
theorem lay7 (p : Fm) (sv : Value) (w : World) (ht : Tb w) (hi : FI w p sv) (hok : Ok p) (hk : p.k = 7) :
    Calls Tryd.prog 18 #[.agg (plA p sv)] w fun e w' => ∃ v, e = .returned v ∧ Ow w' w.heap.size v (putM p) ∧ Below w.heap.size w w' := by
  obtain ⟨W1, hW1⟩ : ∃ W1, W1 = w.alloc (.cells (plA p sv) 36) := ⟨_, rfl⟩
  have b1 : Below w.heap.size w W1 := by rw [hW1]; exact al_below _ _
  have g1 : PF W1 w.heap.size 36 p sv := by rw [hW1]; exact PF.new w _ p sv
  obtain ⟨W2, hW2⟩ : ∃ W2, W2 = W1.alloc (.cells #[.int .i64 (pkN 7), .int .i64 (mT 7)] 63) := ⟨_, rfl⟩
  have b2 : Below W1.heap.size W1 W2 := by rw [hW2]; exact al_below _ _
  have g2 : W2.heap[W1.heap.size]? = some (.cells #[.int .i64 (pkN 7), .int .i64 (mT 7)] 63 (0, 0)) := by rw [hW2]; exact heap_alloc_new _ _
  have B2 : Below w.heap.size w W2 := b1.trans (b2.mono b1.size)
  have FG : Hid (∀ x, From W2 x → PF x w.heap.size 36 p sv) := fun x hx => (g1.kept b2).kept hx
  have FK : Hid (∀ x, From W2 x → PC x w.heap.size p sv) := fun x hx => (FG.out x hx).pc hi.k.nl
  have FS : Hid (∀ x, From W2 x → x.cell? ⟨W1.heap.size, 0, none⟩ = some (.int .i64 (pkN 7)) ∧ x.cell? ⟨W1.heap.size, 1, none⟩ = some (.int .i64 (mT 7))) := fun x hx => by
    have := blk_kept g2 hx (blk_lt g2)
    exact ⟨by simp [World.cell?, this], by simp [World.cell?, this]⟩
  have FB : Hid (∀ x, From W2 x → Below w.heap.size w x) := fun x hx => B2.trans (Below.mono hx B2.size)
  have FT : Hid (∀ x, From W2 x → Fi.Wid x) := fun x hx => (ht.next (FB.out x hx)).v
  have FN : Hid (W2.heap.size = W2.heap.size) := rfl
  have HWN : Hid (w.heap.size ≤ W2.heap.size) := B2.size
  have HI : Hid (FI w p sv) := hi
  have HOK : Hid (Ok p) := hok
  obtain ⟨t0, t1⟩ := (ht.next b1).s 7 (by omega)
  have hks := (g1.pc hi.k.nl).c0
  rw [hk] at hks
  have HPM : Hid (putM p = ([7] :: [nB p.id, nB p.n]).flatten) := by
    unfold Hid
    exact putM_7 hk
  obtain ⟨sa, sc, rfl, -, -, -⟩ := hi.s.shape
  obtain ⟨Wa, hWa⟩ : ∃ Wa, Wa = W2.alloc (.cells #[.int .u8 7] 5) := ⟨_, rfl⟩
  obtain ⟨X0, hX0⟩ : ∃ X0, X0 = Wa.alloc (.cells #[.slice (some ⟨W2.heap.size, 0, none⟩) 1 1] 25) := ⟨_, rfl⟩
  have ba : Below W2.heap.size W2 Wa := by rw [hWa]; exact al_below _ _
  have bx : Below Wa.heap.size Wa X0 := by rw [hX0]; exact al_below _ _
  have FX0 : Hid (From W2 X0) := ba.trans (bx.mono ba.size)
  have pa : Pt Wa (.slice (some ⟨W2.heap.size, 0, none⟩) 1 1) [7] := by rw [hWa]; exact Pt.byte W2 7 (by omega)
  have hza : Wa.heap.size = W2.heap.size + 1 := by rw [hWa]; simp
  have LX0 : Hid (LQ X0 W2.heap.size (.slice (some ⟨W2.heap.size + 1, 0, none⟩) 1 1) [[7]]) := by unfold Hid; rw [hX0, ← hza]; exact LQ.one pa ba.size
  clear b1 g1 b2 g2 B2 ht hi ba bx pa FN hok hza
  have CI : Hid (∀ W, Calls Tryd.prog 27 #[.agg #[.int .i64 (pkN 7), .int .i64 (mT 7)], .int .i64 1] W fun e w' => e = .returned (.bool true) ∧ Below W.heap.size W w') := fun W => has_k 7 (by omega) (by omega) W 1 _ (by decide)
  have CN : Hid (∀ W, Calls Tryd.prog 27 #[.agg #[.int .i64 (pkN 7), .int .i64 (mT 7)], .int .i64 2] W fun e w' => e = .returned (.bool true) ∧ Below W.heap.size W w') := fun W => has_k 7 (by omega) (by omega) W 2 _ (by decide)
  have CF : Hid (∀ W, Calls Tryd.prog 27 #[.agg #[.int .i64 (pkN 7), .int .i64 (mT 7)], .int .i64 4] W fun e w' => e = .returned (.bool false) ∧ Below W.heap.size W w') := fun W => has_k 7 (by omega) (by omega) W 4 _ (by decide)
  have CC : Hid (∀ W, Calls Tryd.prog 27 #[.agg #[.int .i64 (pkN 7), .int .i64 (mT 7)], .int .i64 8] W fun e w' => e = .returned (.bool false) ∧ Below W.heap.size W w') := fun W => has_k 7 (by omega) (by omega) W 8 _ (by decide)
  have CO : Hid (∀ W, Calls Tryd.prog 27 #[.agg #[.int .i64 (pkN 7), .int .i64 (mT 7)], .int .i64 16] W fun e w' => e = .returned (.bool false) ∧ Below W.heap.size W w') := fun W => has_k 7 (by omega) (by omega) W 16 _ (by decide)
  have CT : Hid (∀ W, Calls Tryd.prog 27 #[.agg #[.int .i64 (pkN 7), .int .i64 (mT 7)], .int .i64 32] W fun e w' => e = .returned (.bool false) ∧ Below W.heap.size W w') := fun W => has_k 7 (by omega) (by omega) W 32 _ (by decide)
  have CS : Hid (∀ W, Calls Tryd.prog 27 #[.agg #[.int .i64 (pkN 7), .int .i64 (mT 7)], .int .i64 64] W fun e w' => e = .returned (.bool false) ∧ Below W.heap.size W w') := fun W => has_k 7 (by omega) (by omega) W 64 _ (by decide)
  generalize pkN 7 = pk at *
  generalize mT 7 = mt at *
  go_enter Tryd.func18, Tryd.ntmps18
  go_upto_region 1 with fail
  rw [← hW1]
  clear hW1
  go_upto_region 2 with fail
  rw [← hW2]
  clear hW2 t0 t1
  have hks := (FK.out W2 (Below.refl _ _)).c0
  rw [hk] at hks
  go_upto_region 3 with fail
  rw [← hWa, ← hX0]
  clear hWa hX0 hk hks
  have ch := CI.out X0
  obtain ⟨s0, s1⟩ := FS.out X0 FX0.out
  go_wp2_with fail
  refine ch.mono ?_
  rintro e Y1 ⟨rfl, bY1⟩
  have FY1 : Hid (From W2 Y1) := FX0.out.trans (Below.mono bY1 FX0.out.size)
  have LY1 : Hid (LQ Y1 W2.heap.size (.slice (some ⟨W2.heap.size + 1, 0, none⟩) 1 1) [[7]]) := LX0.out.below bY1
  clear ch bY1 s0 s1 FX0 LX0
  have q1 := (FK.out Y1 FY1.out).c1
  have cn := fnum_own p.id Y1 (FT.out Y1 FY1.out)
  go_wp2_with fail
  refine cn.mono ?_
  rintro e Y2 ⟨u, rfl, ou, bY2⟩
  have FY2 : Hid (From W2 Y2) := FY1.out.trans (Below.mono bY2 FY1.out.size)
  have LY2 : Hid (LQ Y2 W2.heap.size (.slice (some ⟨W2.heap.size + 1, 0, none⟩) 1 1) [[7]]) := LY1.out.below bY2
  obtain ⟨ua, uc, rfl⟩ := ou.shape
  have PU : Hid (Pt Y2 (.slice ua (nB p.id).length uc) (nB p.id)) := Pt.ow ou
  clear cn ou q1 bY2 FY1 LY1
  obtain ⟨V3, hV3⟩ : ∃ V3, V3 = Y2.alloc (.cells #[.slice ua (nB p.id).length uc] 25) := ⟨_, rfl⟩
  have bV3 : Below Y2.heap.size Y2 V3 := by rw [hV3]; exact al_below _ _
  have PV : Hid (Pt V3 (.slice ua (nB p.id).length uc) (nB p.id)) := PU.out.below bV3
  have CV : Hid (V3.cell? ⟨Y2.heap.size, 0, none⟩ = some (.slice ua (nB p.id).length uc)) := by unfold Hid; rw [hV3, World.cell?_alloc_at _ _ _ _ rfl]; rfl
  have FV3 : Hid (From W2 V3) := FY2.out.trans (Below.mono bV3 FY2.out.size)
  have LV3 : Hid (LQ V3 W2.heap.size (.slice (some ⟨W2.heap.size + 1, 0, none⟩) 1 1) [[7]]) := LY2.out.below bV3
  have zV3 := FV3.out.size
  clear bV3 PU FY2 LY2
  go_wp2_with (at_builtin; rw [← hV3]; refine wpList_append_lq rfl _ _ rfl W2.heap.size _ [[7]] rfl LV3.out Y2.heap.size _ _ 1 PV.out rfl CV.out (by simp) zV3 (Hid.out ?_))
  unfold Hid
  intro v3 Y3 lY3 bY3
  try rw [← hV3] at bY3
  have FY3 : Hid (From W2 Y3) := FV3.out.trans bY3
  have LY3 : Hid (LQ Y3 W2.heap.size v3 [[7], nB p.id]) := lY3
  clear bY3 lY3 zV3 FV3 LV3 PV CV hV3
  have ch := CN.out Y3
  obtain ⟨s0, s1⟩ := FS.out Y3 FY3.out
  go_wp2_with fail
  refine ch.mono ?_
  rintro e Y4 ⟨rfl, bY4⟩
  have FY4 : Hid (From W2 Y4) := FY3.out.trans (Below.mono bY4 FY3.out.size)
  have LY4 : Hid (LQ Y4 W2.heap.size v3 [[7], nB p.id]) := LY3.out.below bY4
  clear ch bY4 s0 s1 FY3 LY3
  have q1 := (FK.out Y4 FY4.out).c2
  have cn := fnum_own p.n Y4 (FT.out Y4 FY4.out)
  go_wp2_with fail
  refine cn.mono ?_
  rintro e Y5 ⟨u, rfl, ou, bY5⟩
  have FY5 : Hid (From W2 Y5) := FY4.out.trans (Below.mono bY5 FY4.out.size)
  have LY5 : Hid (LQ Y5 W2.heap.size v3 [[7], nB p.id]) := LY4.out.below bY5
  obtain ⟨ua, uc, rfl⟩ := ou.shape
  have PU : Hid (Pt Y5 (.slice ua (nB p.n).length uc) (nB p.n)) := Pt.ow ou
  clear cn ou q1 bY5 FY4 LY4
  obtain ⟨V6, hV6⟩ : ∃ V6, V6 = Y5.alloc (.cells #[.slice ua (nB p.n).length uc] 25) := ⟨_, rfl⟩
  have bV6 : Below Y5.heap.size Y5 V6 := by rw [hV6]; exact al_below _ _
  have PV : Hid (Pt V6 (.slice ua (nB p.n).length uc) (nB p.n)) := PU.out.below bV6
  have CV : Hid (V6.cell? ⟨Y5.heap.size, 0, none⟩ = some (.slice ua (nB p.n).length uc)) := by unfold Hid; rw [hV6, World.cell?_alloc_at _ _ _ _ rfl]; rfl
  have FV6 : Hid (From W2 V6) := FY5.out.trans (Below.mono bV6 FY5.out.size)
  have LV6 : Hid (LQ V6 W2.heap.size v3 [[7], nB p.id]) := LY5.out.below bV6
  have zV6 := FV6.out.size
  clear bV6 PU FY5 LY5
  go_wp2_with (at_builtin; rw [← hV6]; refine wpList_append_lq rfl _ _ rfl W2.heap.size _ [[7], nB p.id] rfl LV6.out Y5.heap.size _ _ 1 PV.out rfl CV.out (by simp) zV6 (Hid.out ?_))
  unfold Hid
  intro v6 Y6 lY6 bY6
  try rw [← hV6] at bY6
  have FY6 : Hid (From W2 Y6) := FV6.out.trans bY6
  have LY6 : Hid (LQ Y6 W2.heap.size v6 [[7], nB p.id, nB p.n]) := lY6
  clear bY6 lY6 zV6 FV6 LV6 PV CV hV6
  have ch := CF.out Y6
  obtain ⟨s0, s1⟩ := FS.out Y6 FY6.out
  go_wp2_with fail
  refine ch.mono ?_
  rintro e Y7 ⟨rfl, bY7⟩
  have FY7 : Hid (From W2 Y7) := FY6.out.trans (Below.mono bY7 FY6.out.size)
  have LY7 : Hid (LQ Y7 W2.heap.size v6 [[7], nB p.id, nB p.n]) := LY6.out.below bY7
  clear ch bY7 s0 s1 FY6 LY6
  have ch := CC.out Y7
  obtain ⟨s0, s1⟩ := FS.out Y7 FY7.out
  go_wp2_with fail
  refine ch.mono ?_
  rintro e Y8 ⟨rfl, bY8⟩
  have FY8 : Hid (From W2 Y8) := FY7.out.trans (Below.mono bY8 FY7.out.size)
  have LY8 : Hid (LQ Y8 W2.heap.size v6 [[7], nB p.id, nB p.n]) := LY7.out.below bY8
  clear ch bY8 s0 s1 FY7 LY7
  have ch := CO.out Y8
  obtain ⟨s0, s1⟩ := FS.out Y8 FY8.out
  go_wp2_with fail
  refine ch.mono ?_
  rintro e Y9 ⟨rfl, bY9⟩
  have FY9 : Hid (From W2 Y9) := FY8.out.trans (Below.mono bY9 FY8.out.size)
  have LY9 : Hid (LQ Y9 W2.heap.size v6 [[7], nB p.id, nB p.n]) := LY8.out.below bY9
  clear ch bY9 s0 s1 FY8 LY8
  have ch := CT.out Y9
  obtain ⟨s0, s1⟩ := FS.out Y9 FY9.out
  go_wp2_with fail
  refine ch.mono ?_
  rintro e Y10 ⟨rfl, bY10⟩
  have FY10 : Hid (From W2 Y10) := FY9.out.trans (Below.mono bY10 FY9.out.size)
  have LY10 : Hid (LQ Y10 W2.heap.size v6 [[7], nB p.id, nB p.n]) := LY9.out.below bY10
  clear ch bY10 s0 s1 FY9 LY9
  have ch := CS.out Y10
  obtain ⟨s0, s1⟩ := FS.out Y10 FY10.out
  go_wp2_with fail
  refine ch.mono ?_
  rintro e Y11 ⟨rfl, bY11⟩
  have FY11 : Hid (From W2 Y11) := FY10.out.trans (Below.mono bY11 FY10.out.size)
  have LY11 : Hid (LQ Y11 W2.heap.size v6 [[7], nB p.id, nB p.n]) := LY10.out.below bY11
  clear ch bY11 s0 s1 FY10 LY10
  obtain ⟨pp, pc, rfl, HP⟩ := LY11.out.parts (by simp)
  have cj := fjoin_any pp pc [[7], nB p.id, nB p.n] Y11 HP (by have := hlen_ok HOK.out HI.out.k.nl; rw [HPM.out] at this; exact this)
  have cjl : ([[7], nB p.id, nB p.n]).length = 3 := rfl
  rw [cjl] at cj
  have HFM : Hid (putM p = ([[7], nB p.id, nB p.n]).flatten) := HPM.out
  clear HP HPM cjl
  generalize ([[7], nB p.id, nB p.n]).flatten = FM at *
  go_wp2_with fail
  refine cj.mono ?_
  rintro e w9 ⟨v9, rfl, o9, b9⟩
  have HB9 : Hid (Below w.heap.size w w9) := (FB.out Y11 FY11.out).trans (b9.mono (FB.out Y11 FY11.out).size)
  have HO9 : Hid (Ow w9 w.heap.size v9 FM) := o9.mono (Nat.le_trans HWN.out FY11.out.size)
  clear cj b9 o9
  go_wp2
  go_ret
  exact ⟨_, rfl, by rw [HFM.out]; exact HO9.out, HB9.out⟩
set_option maxHeartbeats 8000000 in
theorem lay8 (p : Fm) (sv : Value) (w : World) (ht : Tb w) (hi : FI w p sv) (hok : Ok p) (hk : p.k = 8) :
    Calls Tryd.prog 18 #[.agg (plA p sv)] w fun e w' => ∃ v, e = .returned v ∧ Ow w' w.heap.size v (putM p) ∧ Below w.heap.size w w' := by
  obtain ⟨W1, hW1⟩ : ∃ W1, W1 = w.alloc (.cells (plA p sv) 36) := ⟨_, rfl⟩
  have b1 : Below w.heap.size w W1 := by rw [hW1]; exact al_below _ _
  have g1 : PF W1 w.heap.size 36 p sv := by rw [hW1]; exact PF.new w _ p sv
  obtain ⟨W2, hW2⟩ : ∃ W2, W2 = W1.alloc (.cells #[.int .i64 (pkN 8), .int .i64 (mT 8)] 63) := ⟨_, rfl⟩
  have b2 : Below W1.heap.size W1 W2 := by rw [hW2]; exact al_below _ _
  have g2 : W2.heap[W1.heap.size]? = some (.cells #[.int .i64 (pkN 8), .int .i64 (mT 8)] 63 (0, 0)) := by rw [hW2]; exact heap_alloc_new _ _
  have B2 : Below w.heap.size w W2 := b1.trans (b2.mono b1.size)
  have FG : Hid (∀ x, From W2 x → PF x w.heap.size 36 p sv) := fun x hx => (g1.kept b2).kept hx
  have FK : Hid (∀ x, From W2 x → PC x w.heap.size p sv) := fun x hx => (FG.out x hx).pc hi.k.nl
  have FS : Hid (∀ x, From W2 x → x.cell? ⟨W1.heap.size, 0, none⟩ = some (.int .i64 (pkN 8)) ∧ x.cell? ⟨W1.heap.size, 1, none⟩ = some (.int .i64 (mT 8))) := fun x hx => by
    have := blk_kept g2 hx (blk_lt g2)
    exact ⟨by simp [World.cell?, this], by simp [World.cell?, this]⟩
  have FB : Hid (∀ x, From W2 x → Below w.heap.size w x) := fun x hx => B2.trans (Below.mono hx B2.size)
  have FT : Hid (∀ x, From W2 x → Fi.Wid x) := fun x hx => (ht.next (FB.out x hx)).v
  have FN : Hid (W2.heap.size = W2.heap.size) := rfl
  have HWN : Hid (w.heap.size ≤ W2.heap.size) := B2.size
  have HI : Hid (FI w p sv) := hi
  have HOK : Hid (Ok p) := hok
  obtain ⟨t0, t1⟩ := (ht.next b1).s 8 (by omega)
  have hks := (g1.pc hi.k.nl).c0
  rw [hk] at hks
  have HPM : Hid (putM p = ([8] :: [nB p.n]).flatten) := by
    unfold Hid
    exact putM_8 hk
  obtain ⟨sa, sc, rfl, -, -, -⟩ := hi.s.shape
  obtain ⟨Wa, hWa⟩ : ∃ Wa, Wa = W2.alloc (.cells #[.int .u8 8] 5) := ⟨_, rfl⟩
  obtain ⟨X0, hX0⟩ : ∃ X0, X0 = Wa.alloc (.cells #[.slice (some ⟨W2.heap.size, 0, none⟩) 1 1] 25) := ⟨_, rfl⟩
  have ba : Below W2.heap.size W2 Wa := by rw [hWa]; exact al_below _ _
  have bx : Below Wa.heap.size Wa X0 := by rw [hX0]; exact al_below _ _
  have FX0 : Hid (From W2 X0) := ba.trans (bx.mono ba.size)
  have pa : Pt Wa (.slice (some ⟨W2.heap.size, 0, none⟩) 1 1) [8] := by rw [hWa]; exact Pt.byte W2 8 (by omega)
  have hza : Wa.heap.size = W2.heap.size + 1 := by rw [hWa]; simp
  have LX0 : Hid (LQ X0 W2.heap.size (.slice (some ⟨W2.heap.size + 1, 0, none⟩) 1 1) [[8]]) := by unfold Hid; rw [hX0, ← hza]; exact LQ.one pa ba.size
  clear b1 g1 b2 g2 B2 ht hi ba bx pa FN hok hza
  have CI : Hid (∀ W, Calls Tryd.prog 27 #[.agg #[.int .i64 (pkN 8), .int .i64 (mT 8)], .int .i64 1] W fun e w' => e = .returned (.bool false) ∧ Below W.heap.size W w') := fun W => has_k 8 (by omega) (by omega) W 1 _ (by decide)
  have CN : Hid (∀ W, Calls Tryd.prog 27 #[.agg #[.int .i64 (pkN 8), .int .i64 (mT 8)], .int .i64 2] W fun e w' => e = .returned (.bool true) ∧ Below W.heap.size W w') := fun W => has_k 8 (by omega) (by omega) W 2 _ (by decide)
  have CF : Hid (∀ W, Calls Tryd.prog 27 #[.agg #[.int .i64 (pkN 8), .int .i64 (mT 8)], .int .i64 4] W fun e w' => e = .returned (.bool false) ∧ Below W.heap.size W w') := fun W => has_k 8 (by omega) (by omega) W 4 _ (by decide)
  have CC : Hid (∀ W, Calls Tryd.prog 27 #[.agg #[.int .i64 (pkN 8), .int .i64 (mT 8)], .int .i64 8] W fun e w' => e = .returned (.bool false) ∧ Below W.heap.size W w') := fun W => has_k 8 (by omega) (by omega) W 8 _ (by decide)
  have CO : Hid (∀ W, Calls Tryd.prog 27 #[.agg #[.int .i64 (pkN 8), .int .i64 (mT 8)], .int .i64 16] W fun e w' => e = .returned (.bool false) ∧ Below W.heap.size W w') := fun W => has_k 8 (by omega) (by omega) W 16 _ (by decide)
  have CT : Hid (∀ W, Calls Tryd.prog 27 #[.agg #[.int .i64 (pkN 8), .int .i64 (mT 8)], .int .i64 32] W fun e w' => e = .returned (.bool false) ∧ Below W.heap.size W w') := fun W => has_k 8 (by omega) (by omega) W 32 _ (by decide)
  have CS : Hid (∀ W, Calls Tryd.prog 27 #[.agg #[.int .i64 (pkN 8), .int .i64 (mT 8)], .int .i64 64] W fun e w' => e = .returned (.bool false) ∧ Below W.heap.size W w') := fun W => has_k 8 (by omega) (by omega) W 64 _ (by decide)
  generalize pkN 8 = pk at *
  generalize mT 8 = mt at *
  go_enter Tryd.func18, Tryd.ntmps18
  go_upto_region 1 with fail
  rw [← hW1]
  clear hW1
  go_upto_region 2 with fail
  rw [← hW2]
  clear hW2 t0 t1
  have hks := (FK.out W2 (Below.refl _ _)).c0
  rw [hk] at hks
  go_upto_region 3 with fail
  rw [← hWa, ← hX0]
  clear hWa hX0 hk hks
  have ch := CI.out X0
  obtain ⟨s0, s1⟩ := FS.out X0 FX0.out
  go_wp2_with fail
  refine ch.mono ?_
  rintro e Y1 ⟨rfl, bY1⟩
  have FY1 : Hid (From W2 Y1) := FX0.out.trans (Below.mono bY1 FX0.out.size)
  have LY1 : Hid (LQ Y1 W2.heap.size (.slice (some ⟨W2.heap.size + 1, 0, none⟩) 1 1) [[8]]) := LX0.out.below bY1
  clear ch bY1 s0 s1 FX0 LX0
  have ch := CN.out Y1
  obtain ⟨s0, s1⟩ := FS.out Y1 FY1.out
  go_wp2_with fail
  refine ch.mono ?_
  rintro e Y2 ⟨rfl, bY2⟩
  have FY2 : Hid (From W2 Y2) := FY1.out.trans (Below.mono bY2 FY1.out.size)
  have LY2 : Hid (LQ Y2 W2.heap.size (.slice (some ⟨W2.heap.size + 1, 0, none⟩) 1 1) [[8]]) := LY1.out.below bY2
  clear ch bY2 s0 s1 FY1 LY1
  have q1 := (FK.out Y2 FY2.out).c2
  have cn := fnum_own p.n Y2 (FT.out Y2 FY2.out)
  go_wp2_with fail
  refine cn.mono ?_
  rintro e Y3 ⟨u, rfl, ou, bY3⟩
  have FY3 : Hid (From W2 Y3) := FY2.out.trans (Below.mono bY3 FY2.out.size)
  have LY3 : Hid (LQ Y3 W2.heap.size (.slice (some ⟨W2.heap.size + 1, 0, none⟩) 1 1) [[8]]) := LY2.out.below bY3
  obtain ⟨ua, uc, rfl⟩ := ou.shape
  have PU : Hid (Pt Y3 (.slice ua (nB p.n).length uc) (nB p.n)) := Pt.ow ou
  clear cn ou q1 bY3 FY2 LY2
  obtain ⟨V4, hV4⟩ : ∃ V4, V4 = Y3.alloc (.cells #[.slice ua (nB p.n).length uc] 25) := ⟨_, rfl⟩
  have bV4 : Below Y3.heap.size Y3 V4 := by rw [hV4]; exact al_below _ _
  have PV : Hid (Pt V4 (.slice ua (nB p.n).length uc) (nB p.n)) := PU.out.below bV4
  have CV : Hid (V4.cell? ⟨Y3.heap.size, 0, none⟩ = some (.slice ua (nB p.n).length uc)) := by unfold Hid; rw [hV4, World.cell?_alloc_at _ _ _ _ rfl]; rfl
  have FV4 : Hid (From W2 V4) := FY3.out.trans (Below.mono bV4 FY3.out.size)
  have LV4 : Hid (LQ V4 W2.heap.size (.slice (some ⟨W2.heap.size + 1, 0, none⟩) 1 1) [[8]]) := LY3.out.below bV4
  have zV4 := FV4.out.size
  clear bV4 PU FY3 LY3
  go_wp2_with (at_builtin; rw [← hV4]; refine wpList_append_lq rfl _ _ rfl W2.heap.size _ [[8]] rfl LV4.out Y3.heap.size _ _ 1 PV.out rfl CV.out (by simp) zV4 (Hid.out ?_))
  unfold Hid
  intro v4 Y4 lY4 bY4
  try rw [← hV4] at bY4
  have FY4 : Hid (From W2 Y4) := FV4.out.trans bY4
  have LY4 : Hid (LQ Y4 W2.heap.size v4 [[8], nB p.n]) := lY4
  clear bY4 lY4 zV4 FV4 LV4 PV CV hV4
  have ch := CF.out Y4
  obtain ⟨s0, s1⟩ := FS.out Y4 FY4.out
  go_wp2_with fail
  refine ch.mono ?_
  rintro e Y5 ⟨rfl, bY5⟩
  have FY5 : Hid (From W2 Y5) := FY4.out.trans (Below.mono bY5 FY4.out.size)
  have LY5 : Hid (LQ Y5 W2.heap.size v4 [[8], nB p.n]) := LY4.out.below bY5
  clear ch bY5 s0 s1 FY4 LY4
  have ch := CC.out Y5
  obtain ⟨s0, s1⟩ := FS.out Y5 FY5.out
  go_wp2_with fail
  refine ch.mono ?_
  rintro e Y6 ⟨rfl, bY6⟩
  have FY6 : Hid (From W2 Y6) := FY5.out.trans (Below.mono bY6 FY5.out.size)
  have LY6 : Hid (LQ Y6 W2.heap.size v4 [[8], nB p.n]) := LY5.out.below bY6
  clear ch bY6 s0 s1 FY5 LY5
  have ch := CO.out Y6
  obtain ⟨s0, s1⟩ := FS.out Y6 FY6.out
  go_wp2_with fail
  refine ch.mono ?_
  rintro e Y7 ⟨rfl, bY7⟩
  have FY7 : Hid (From W2 Y7) := FY6.out.trans (Below.mono bY7 FY6.out.size)
  have LY7 : Hid (LQ Y7 W2.heap.size v4 [[8], nB p.n]) := LY6.out.below bY7
  clear ch bY7 s0 s1 FY6 LY6
  have ch := CT.out Y7
  obtain ⟨s0, s1⟩ := FS.out Y7 FY7.out
  go_wp2_with fail
  refine ch.mono ?_
  rintro e Y8 ⟨rfl, bY8⟩
  have FY8 : Hid (From W2 Y8) := FY7.out.trans (Below.mono bY8 FY7.out.size)
  have LY8 : Hid (LQ Y8 W2.heap.size v4 [[8], nB p.n]) := LY7.out.below bY8
  clear ch bY8 s0 s1 FY7 LY7
  have ch := CS.out Y8
  obtain ⟨s0, s1⟩ := FS.out Y8 FY8.out
  go_wp2_with fail
  refine ch.mono ?_
  rintro e Y9 ⟨rfl, bY9⟩
  have FY9 : Hid (From W2 Y9) := FY8.out.trans (Below.mono bY9 FY8.out.size)
  have LY9 : Hid (LQ Y9 W2.heap.size v4 [[8], nB p.n]) := LY8.out.below bY9
  clear ch bY9 s0 s1 FY8 LY8
  obtain ⟨pp, pc, rfl, HP⟩ := LY9.out.parts (by simp)
  have cj := fjoin_any pp pc [[8], nB p.n] Y9 HP (by have := hlen_ok HOK.out HI.out.k.nl; rw [HPM.out] at this; exact this)
  have cjl : ([[8], nB p.n]).length = 2 := rfl
  rw [cjl] at cj
  have HFM : Hid (putM p = ([[8], nB p.n]).flatten) := HPM.out
  clear HP HPM cjl
  generalize ([[8], nB p.n]).flatten = FM at *
  go_wp2_with fail
  refine cj.mono ?_
  rintro e w9 ⟨v9, rfl, o9, b9⟩
  have HB9 : Hid (Below w.heap.size w w9) := (FB.out Y9 FY9.out).trans (b9.mono (FB.out Y9 FY9.out).size)
  have HO9 : Hid (Ow w9 w.heap.size v9 FM) := o9.mono (Nat.le_trans HWN.out FY9.out.size)
  clear cj b9 o9
  go_wp2
  go_ret
  exact ⟨_, rfl, by rw [HFM.out]; exact HO9.out, HB9.out⟩
set_option maxHeartbeats 8000000 in
theorem lay9 (p : Fm) (sv : Value) (w : World) (ht : Tb w) (hi : FI w p sv) (hok : Ok p) (hk : p.k = 9) :
    Calls Tryd.prog 18 #[.agg (plA p sv)] w fun e w' => ∃ v, e = .returned v ∧ Ow w' w.heap.size v (putM p) ∧ Below w.heap.size w w' := by
  obtain ⟨W1, hW1⟩ : ∃ W1, W1 = w.alloc (.cells (plA p sv) 36) := ⟨_, rfl⟩
  have b1 : Below w.heap.size w W1 := by rw [hW1]; exact al_below _ _
  have g1 : PF W1 w.heap.size 36 p sv := by rw [hW1]; exact PF.new w _ p sv
  obtain ⟨W2, hW2⟩ : ∃ W2, W2 = W1.alloc (.cells #[.int .i64 (pkN 9), .int .i64 (mT 9)] 63) := ⟨_, rfl⟩
  have b2 : Below W1.heap.size W1 W2 := by rw [hW2]; exact al_below _ _
  have g2 : W2.heap[W1.heap.size]? = some (.cells #[.int .i64 (pkN 9), .int .i64 (mT 9)] 63 (0, 0)) := by rw [hW2]; exact heap_alloc_new _ _
  have B2 : Below w.heap.size w W2 := b1.trans (b2.mono b1.size)
  have FG : Hid (∀ x, From W2 x → PF x w.heap.size 36 p sv) := fun x hx => (g1.kept b2).kept hx
  have FK : Hid (∀ x, From W2 x → PC x w.heap.size p sv) := fun x hx => (FG.out x hx).pc hi.k.nl
  have FS : Hid (∀ x, From W2 x → x.cell? ⟨W1.heap.size, 0, none⟩ = some (.int .i64 (pkN 9)) ∧ x.cell? ⟨W1.heap.size, 1, none⟩ = some (.int .i64 (mT 9))) := fun x hx => by
    have := blk_kept g2 hx (blk_lt g2)
    exact ⟨by simp [World.cell?, this], by simp [World.cell?, this]⟩
  have FB : Hid (∀ x, From W2 x → Below w.heap.size w x) := fun x hx => B2.trans (Below.mono hx B2.size)
  have FT : Hid (∀ x, From W2 x → Fi.Wid x) := fun x hx => (ht.next (FB.out x hx)).v
  have FN : Hid (W2.heap.size = W2.heap.size) := rfl
  have HWN : Hid (w.heap.size ≤ W2.heap.size) := B2.size
  have HI : Hid (FI w p sv) := hi
  have HOK : Hid (Ok p) := hok
  obtain ⟨t0, t1⟩ := (ht.next b1).s 9 (by omega)
  have hks := (g1.pc hi.k.nl).c0
  rw [hk] at hks
  have HPM : Hid (putM p = ([9] :: [p.nc, Fi.textB p.tx]).flatten) := by
    unfold Hid
    exact putM_9 hk
  obtain ⟨sa, sc, rfl, -, -, -⟩ := hi.s.shape
  obtain ⟨Wa, hWa⟩ : ∃ Wa, Wa = W2.alloc (.cells #[.int .u8 9] 5) := ⟨_, rfl⟩
  obtain ⟨X0, hX0⟩ : ∃ X0, X0 = Wa.alloc (.cells #[.slice (some ⟨W2.heap.size, 0, none⟩) 1 1] 25) := ⟨_, rfl⟩
  have ba : Below W2.heap.size W2 Wa := by rw [hWa]; exact al_below _ _
  have bx : Below Wa.heap.size Wa X0 := by rw [hX0]; exact al_below _ _
  have FX0 : Hid (From W2 X0) := ba.trans (bx.mono ba.size)
  have pa : Pt Wa (.slice (some ⟨W2.heap.size, 0, none⟩) 1 1) [9] := by rw [hWa]; exact Pt.byte W2 9 (by omega)
  have hza : Wa.heap.size = W2.heap.size + 1 := by rw [hWa]; simp
  have LX0 : Hid (LQ X0 W2.heap.size (.slice (some ⟨W2.heap.size + 1, 0, none⟩) 1 1) [[9]]) := by unfold Hid; rw [hX0, ← hza]; exact LQ.one pa ba.size
  clear b1 g1 b2 g2 B2 ht hi ba bx pa FN hok hza
  have CI : Hid (∀ W, Calls Tryd.prog 27 #[.agg #[.int .i64 (pkN 9), .int .i64 (mT 9)], .int .i64 1] W fun e w' => e = .returned (.bool false) ∧ Below W.heap.size W w') := fun W => has_k 9 (by omega) (by omega) W 1 _ (by decide)
  have CN : Hid (∀ W, Calls Tryd.prog 27 #[.agg #[.int .i64 (pkN 9), .int .i64 (mT 9)], .int .i64 2] W fun e w' => e = .returned (.bool false) ∧ Below W.heap.size W w') := fun W => has_k 9 (by omega) (by omega) W 2 _ (by decide)
  have CF : Hid (∀ W, Calls Tryd.prog 27 #[.agg #[.int .i64 (pkN 9), .int .i64 (mT 9)], .int .i64 4] W fun e w' => e = .returned (.bool false) ∧ Below W.heap.size W w') := fun W => has_k 9 (by omega) (by omega) W 4 _ (by decide)
  have CC : Hid (∀ W, Calls Tryd.prog 27 #[.agg #[.int .i64 (pkN 9), .int .i64 (mT 9)], .int .i64 8] W fun e w' => e = .returned (.bool false) ∧ Below W.heap.size W w') := fun W => has_k 9 (by omega) (by omega) W 8 _ (by decide)
  have CO : Hid (∀ W, Calls Tryd.prog 27 #[.agg #[.int .i64 (pkN 9), .int .i64 (mT 9)], .int .i64 16] W fun e w' => e = .returned (.bool true) ∧ Below W.heap.size W w') := fun W => has_k 9 (by omega) (by omega) W 16 _ (by decide)
  have CT : Hid (∀ W, Calls Tryd.prog 27 #[.agg #[.int .i64 (pkN 9), .int .i64 (mT 9)], .int .i64 32] W fun e w' => e = .returned (.bool true) ∧ Below W.heap.size W w') := fun W => has_k 9 (by omega) (by omega) W 32 _ (by decide)
  have CS : Hid (∀ W, Calls Tryd.prog 27 #[.agg #[.int .i64 (pkN 9), .int .i64 (mT 9)], .int .i64 64] W fun e w' => e = .returned (.bool false) ∧ Below W.heap.size W w') := fun W => has_k 9 (by omega) (by omega) W 64 _ (by decide)
  generalize pkN 9 = pk at *
  generalize mT 9 = mt at *
  go_enter Tryd.func18, Tryd.ntmps18
  go_upto_region 1 with fail
  rw [← hW1]
  clear hW1
  go_upto_region 2 with fail
  rw [← hW2]
  clear hW2 t0 t1
  have hks := (FK.out W2 (Below.refl _ _)).c0
  rw [hk] at hks
  go_upto_region 3 with fail
  rw [← hWa, ← hX0]
  clear hWa hX0 hk hks
  have ch := CI.out X0
  obtain ⟨s0, s1⟩ := FS.out X0 FX0.out
  go_wp2_with fail
  refine ch.mono ?_
  rintro e Y1 ⟨rfl, bY1⟩
  have FY1 : Hid (From W2 Y1) := FX0.out.trans (Below.mono bY1 FX0.out.size)
  have LY1 : Hid (LQ Y1 W2.heap.size (.slice (some ⟨W2.heap.size + 1, 0, none⟩) 1 1) [[9]]) := LX0.out.below bY1
  clear ch bY1 s0 s1 FX0 LX0
  have ch := CN.out Y1
  obtain ⟨s0, s1⟩ := FS.out Y1 FY1.out
  go_wp2_with fail
  refine ch.mono ?_
  rintro e Y2 ⟨rfl, bY2⟩
  have FY2 : Hid (From W2 Y2) := FY1.out.trans (Below.mono bY2 FY1.out.size)
  have LY2 : Hid (LQ Y2 W2.heap.size (.slice (some ⟨W2.heap.size + 1, 0, none⟩) 1 1) [[9]]) := LY1.out.below bY2
  clear ch bY2 s0 s1 FY1 LY1
  have ch := CF.out Y2
  obtain ⟨s0, s1⟩ := FS.out Y2 FY2.out
  go_wp2_with fail
  refine ch.mono ?_
  rintro e Y3 ⟨rfl, bY3⟩
  have FY3 : Hid (From W2 Y3) := FY2.out.trans (Below.mono bY3 FY2.out.size)
  have LY3 : Hid (LQ Y3 W2.heap.size (.slice (some ⟨W2.heap.size + 1, 0, none⟩) 1 1) [[9]]) := LY2.out.below bY3
  clear ch bY3 s0 s1 FY2 LY2
  have ch := CC.out Y3
  obtain ⟨s0, s1⟩ := FS.out Y3 FY3.out
  go_wp2_with fail
  refine ch.mono ?_
  rintro e Y4 ⟨rfl, bY4⟩
  have FY4 : Hid (From W2 Y4) := FY3.out.trans (Below.mono bY4 FY3.out.size)
  have LY4 : Hid (LQ Y4 W2.heap.size (.slice (some ⟨W2.heap.size + 1, 0, none⟩) 1 1) [[9]]) := LY3.out.below bY4
  clear ch bY4 s0 s1 FY3 LY3
  have ch := CO.out Y4
  obtain ⟨s0, s1⟩ := FS.out Y4 FY4.out
  go_wp2_with fail
  refine ch.mono ?_
  rintro e Y5 ⟨rfl, bY5⟩
  have FY5 : Hid (From W2 Y5) := FY4.out.trans (Below.mono bY5 FY4.out.size)
  have LY5 : Hid (LQ Y5 W2.heap.size (.slice (some ⟨W2.heap.size + 1, 0, none⟩) 1 1) [[9]]) := LY4.out.below bY5
  clear ch bY5 s0 s1 FY4 LY4
  have PU : Hid (Pt Y5 (.slice (some ⟨w.heap.size, 6, none⟩) 16 16) p.nc) := Pt.nonce (FG.out Y5 FY5.out) HI.out.k.nl HI.out.k.nb
  obtain ⟨V6, hV6⟩ : ∃ V6, V6 = Y5.alloc (.cells #[.slice (some ⟨w.heap.size, 6, none⟩) 16 16] 25) := ⟨_, rfl⟩
  have bV6 : Below Y5.heap.size Y5 V6 := by rw [hV6]; exact al_below _ _
  have PV : Hid (Pt V6 (.slice (some ⟨w.heap.size, 6, none⟩) 16 16) (p.nc)) := PU.out.below bV6
  have CV : Hid (V6.cell? ⟨Y5.heap.size, 0, none⟩ = some (.slice (some ⟨w.heap.size, 6, none⟩) 16 16)) := by unfold Hid; rw [hV6, World.cell?_alloc_at _ _ _ _ rfl]; rfl
  have FV6 : Hid (From W2 V6) := FY5.out.trans (Below.mono bV6 FY5.out.size)
  have LV6 : Hid (LQ V6 W2.heap.size (.slice (some ⟨W2.heap.size + 1, 0, none⟩) 1 1) [[9]]) := LY5.out.below bV6
  have zV6 := FV6.out.size
  clear bV6 PU FY5 LY5
  go_wp2_with (at_builtin; rw [← hV6]; refine wpList_append_lq rfl _ _ rfl W2.heap.size _ [[9]] rfl LV6.out Y5.heap.size _ _ 1 PV.out rfl CV.out (by simp) zV6 (Hid.out ?_))
  unfold Hid
  intro v6 Y6 lY6 bY6
  try rw [← hV6] at bY6
  have FY6 : Hid (From W2 Y6) := FV6.out.trans bY6
  have LY6 : Hid (LQ Y6 W2.heap.size v6 [[9], p.nc]) := lY6
  clear bY6 lY6 zV6 FV6 LV6 PV CV hV6
  have ch := CT.out Y6
  obtain ⟨s0, s1⟩ := FS.out Y6 FY6.out
  go_wp2_with fail
  refine ch.mono ?_
  rintro e Y7 ⟨rfl, bY7⟩
  have FY7 : Hid (From W2 Y7) := FY6.out.trans (Below.mono bY7 FY6.out.size)
  have LY7 : Hid (LQ Y7 W2.heap.size v6 [[9], p.nc]) := LY6.out.below bY7
  clear ch bY7 s0 s1 FY6 LY6
  have q1 := (FK.out Y7 FY7.out).c5
  have cn := ftext_ow p.tx Y7 (FT.out Y7 FY7.out) HI.out.t
  go_wp2_with fail
  refine cn.mono ?_
  rintro e Y8 ⟨u, rfl, ou, bY8⟩
  have FY8 : Hid (From W2 Y8) := FY7.out.trans (Below.mono bY8 FY7.out.size)
  have LY8 : Hid (LQ Y8 W2.heap.size v6 [[9], p.nc]) := LY7.out.below bY8
  obtain ⟨ua, uc, rfl⟩ := ou.shape
  have PU : Hid (Pt Y8 (.slice ua (Fi.textB p.tx).length uc) (Fi.textB p.tx)) := Pt.ow ou
  clear cn ou q1 bY8 FY7 LY7
  obtain ⟨V9, hV9⟩ : ∃ V9, V9 = Y8.alloc (.cells #[.slice ua (Fi.textB p.tx).length uc] 25) := ⟨_, rfl⟩
  have bV9 : Below Y8.heap.size Y8 V9 := by rw [hV9]; exact al_below _ _
  have PV : Hid (Pt V9 (.slice ua (Fi.textB p.tx).length uc) (Fi.textB p.tx)) := PU.out.below bV9
  have CV : Hid (V9.cell? ⟨Y8.heap.size, 0, none⟩ = some (.slice ua (Fi.textB p.tx).length uc)) := by unfold Hid; rw [hV9, World.cell?_alloc_at _ _ _ _ rfl]; rfl
  have FV9 : Hid (From W2 V9) := FY8.out.trans (Below.mono bV9 FY8.out.size)
  have LV9 : Hid (LQ V9 W2.heap.size v6 [[9], p.nc]) := LY8.out.below bV9
  have zV9 := FV9.out.size
  clear bV9 PU FY8 LY8
  go_wp2_with (at_builtin; rw [← hV9]; refine wpList_append_lq rfl _ _ rfl W2.heap.size _ [[9], p.nc] rfl LV9.out Y8.heap.size _ _ 1 PV.out rfl CV.out (by simp) zV9 (Hid.out ?_))
  unfold Hid
  intro v9 Y9 lY9 bY9
  try rw [← hV9] at bY9
  have FY9 : Hid (From W2 Y9) := FV9.out.trans bY9
  have LY9 : Hid (LQ Y9 W2.heap.size v9 [[9], p.nc, Fi.textB p.tx]) := lY9
  clear bY9 lY9 zV9 FV9 LV9 PV CV hV9
  have ch := CS.out Y9
  obtain ⟨s0, s1⟩ := FS.out Y9 FY9.out
  go_wp2_with fail
  refine ch.mono ?_
  rintro e Y10 ⟨rfl, bY10⟩
  have FY10 : Hid (From W2 Y10) := FY9.out.trans (Below.mono bY10 FY9.out.size)
  have LY10 : Hid (LQ Y10 W2.heap.size v9 [[9], p.nc, Fi.textB p.tx]) := LY9.out.below bY10
  clear ch bY10 s0 s1 FY9 LY9
  obtain ⟨pp, pc, rfl, HP⟩ := LY10.out.parts (by simp)
  have cj := fjoin_any pp pc [[9], p.nc, Fi.textB p.tx] Y10 HP (by have := hlen_ok HOK.out HI.out.k.nl; rw [HPM.out] at this; exact this)
  have cjl : ([[9], p.nc, Fi.textB p.tx]).length = 3 := rfl
  rw [cjl] at cj
  have HFM : Hid (putM p = ([[9], p.nc, Fi.textB p.tx]).flatten) := HPM.out
  clear HP HPM cjl
  generalize ([[9], p.nc, Fi.textB p.tx]).flatten = FM at *
  go_wp2_with fail
  refine cj.mono ?_
  rintro e w9 ⟨v9, rfl, o9, b9⟩
  have HB9 : Hid (Below w.heap.size w w9) := (FB.out Y10 FY10.out).trans (b9.mono (FB.out Y10 FY10.out).size)
  have HO9 : Hid (Ow w9 w.heap.size v9 FM) := o9.mono (Nat.le_trans HWN.out FY10.out.size)
  clear cj b9 o9
  go_wp2
  go_ret
  exact ⟨_, rfl, by rw [HFM.out]; exact HO9.out, HB9.out⟩
set_option maxHeartbeats 8000000 in
theorem lay10 (p : Fm) (sv : Value) (w : World) (ht : Tb w) (hi : FI w p sv) (hok : Ok p) (hk : p.k = 10) :
    Calls Tryd.prog 18 #[.agg (plA p sv)] w fun e w' => ∃ v, e = .returned v ∧ Ow w' w.heap.size v (putM p) ∧ Below w.heap.size w w' := by
  obtain ⟨W1, hW1⟩ : ∃ W1, W1 = w.alloc (.cells (plA p sv) 36) := ⟨_, rfl⟩
  have b1 : Below w.heap.size w W1 := by rw [hW1]; exact al_below _ _
  have g1 : PF W1 w.heap.size 36 p sv := by rw [hW1]; exact PF.new w _ p sv
  obtain ⟨W2, hW2⟩ : ∃ W2, W2 = W1.alloc (.cells #[.int .i64 (pkN 10), .int .i64 (mT 10)] 63) := ⟨_, rfl⟩
  have b2 : Below W1.heap.size W1 W2 := by rw [hW2]; exact al_below _ _
  have g2 : W2.heap[W1.heap.size]? = some (.cells #[.int .i64 (pkN 10), .int .i64 (mT 10)] 63 (0, 0)) := by rw [hW2]; exact heap_alloc_new _ _
  have B2 : Below w.heap.size w W2 := b1.trans (b2.mono b1.size)
  have FG : Hid (∀ x, From W2 x → PF x w.heap.size 36 p sv) := fun x hx => (g1.kept b2).kept hx
  have FK : Hid (∀ x, From W2 x → PC x w.heap.size p sv) := fun x hx => (FG.out x hx).pc hi.k.nl
  have FS : Hid (∀ x, From W2 x → x.cell? ⟨W1.heap.size, 0, none⟩ = some (.int .i64 (pkN 10)) ∧ x.cell? ⟨W1.heap.size, 1, none⟩ = some (.int .i64 (mT 10))) := fun x hx => by
    have := blk_kept g2 hx (blk_lt g2)
    exact ⟨by simp [World.cell?, this], by simp [World.cell?, this]⟩
  have FB : Hid (∀ x, From W2 x → Below w.heap.size w x) := fun x hx => B2.trans (Below.mono hx B2.size)
  have FT : Hid (∀ x, From W2 x → Fi.Wid x) := fun x hx => (ht.next (FB.out x hx)).v
  have FN : Hid (W2.heap.size = W2.heap.size) := rfl
  have HWN : Hid (w.heap.size ≤ W2.heap.size) := B2.size
  have HI : Hid (FI w p sv) := hi
  have HOK : Hid (Ok p) := hok
  obtain ⟨t0, t1⟩ := (ht.next b1).s 10 (by omega)
  have hks := (g1.pc hi.k.nl).c0
  rw [hk] at hks
  have HPM : Hid (putM p = ([10] :: [nB p.cd, Fi.textB p.tx]).flatten) := by
    unfold Hid
    exact putM_10 hk
  obtain ⟨sa, sc, rfl, -, -, -⟩ := hi.s.shape
  obtain ⟨Wa, hWa⟩ : ∃ Wa, Wa = W2.alloc (.cells #[.int .u8 10] 5) := ⟨_, rfl⟩
  obtain ⟨X0, hX0⟩ : ∃ X0, X0 = Wa.alloc (.cells #[.slice (some ⟨W2.heap.size, 0, none⟩) 1 1] 25) := ⟨_, rfl⟩
  have ba : Below W2.heap.size W2 Wa := by rw [hWa]; exact al_below _ _
  have bx : Below Wa.heap.size Wa X0 := by rw [hX0]; exact al_below _ _
  have FX0 : Hid (From W2 X0) := ba.trans (bx.mono ba.size)
  have pa : Pt Wa (.slice (some ⟨W2.heap.size, 0, none⟩) 1 1) [10] := by rw [hWa]; exact Pt.byte W2 10 (by omega)
  have hza : Wa.heap.size = W2.heap.size + 1 := by rw [hWa]; simp
  have LX0 : Hid (LQ X0 W2.heap.size (.slice (some ⟨W2.heap.size + 1, 0, none⟩) 1 1) [[10]]) := by unfold Hid; rw [hX0, ← hza]; exact LQ.one pa ba.size
  clear b1 g1 b2 g2 B2 ht hi ba bx pa FN hok hza
  have CI : Hid (∀ W, Calls Tryd.prog 27 #[.agg #[.int .i64 (pkN 10), .int .i64 (mT 10)], .int .i64 1] W fun e w' => e = .returned (.bool false) ∧ Below W.heap.size W w') := fun W => has_k 10 (by omega) (by omega) W 1 _ (by decide)
  have CN : Hid (∀ W, Calls Tryd.prog 27 #[.agg #[.int .i64 (pkN 10), .int .i64 (mT 10)], .int .i64 2] W fun e w' => e = .returned (.bool false) ∧ Below W.heap.size W w') := fun W => has_k 10 (by omega) (by omega) W 2 _ (by decide)
  have CF : Hid (∀ W, Calls Tryd.prog 27 #[.agg #[.int .i64 (pkN 10), .int .i64 (mT 10)], .int .i64 4] W fun e w' => e = .returned (.bool false) ∧ Below W.heap.size W w') := fun W => has_k 10 (by omega) (by omega) W 4 _ (by decide)
  have CC : Hid (∀ W, Calls Tryd.prog 27 #[.agg #[.int .i64 (pkN 10), .int .i64 (mT 10)], .int .i64 8] W fun e w' => e = .returned (.bool true) ∧ Below W.heap.size W w') := fun W => has_k 10 (by omega) (by omega) W 8 _ (by decide)
  have CO : Hid (∀ W, Calls Tryd.prog 27 #[.agg #[.int .i64 (pkN 10), .int .i64 (mT 10)], .int .i64 16] W fun e w' => e = .returned (.bool false) ∧ Below W.heap.size W w') := fun W => has_k 10 (by omega) (by omega) W 16 _ (by decide)
  have CT : Hid (∀ W, Calls Tryd.prog 27 #[.agg #[.int .i64 (pkN 10), .int .i64 (mT 10)], .int .i64 32] W fun e w' => e = .returned (.bool true) ∧ Below W.heap.size W w') := fun W => has_k 10 (by omega) (by omega) W 32 _ (by decide)
  have CS : Hid (∀ W, Calls Tryd.prog 27 #[.agg #[.int .i64 (pkN 10), .int .i64 (mT 10)], .int .i64 64] W fun e w' => e = .returned (.bool false) ∧ Below W.heap.size W w') := fun W => has_k 10 (by omega) (by omega) W 64 _ (by decide)
  generalize pkN 10 = pk at *
  generalize mT 10 = mt at *
  go_enter Tryd.func18, Tryd.ntmps18
  go_upto_region 1 with fail
  rw [← hW1]
  clear hW1
  go_upto_region 2 with fail
  rw [← hW2]
  clear hW2 t0 t1
  have hks := (FK.out W2 (Below.refl _ _)).c0
  rw [hk] at hks
  go_upto_region 3 with fail
  rw [← hWa, ← hX0]
  clear hWa hX0 hk hks
  have ch := CI.out X0
  obtain ⟨s0, s1⟩ := FS.out X0 FX0.out
  go_wp2_with fail
  refine ch.mono ?_
  rintro e Y1 ⟨rfl, bY1⟩
  have FY1 : Hid (From W2 Y1) := FX0.out.trans (Below.mono bY1 FX0.out.size)
  have LY1 : Hid (LQ Y1 W2.heap.size (.slice (some ⟨W2.heap.size + 1, 0, none⟩) 1 1) [[10]]) := LX0.out.below bY1
  clear ch bY1 s0 s1 FX0 LX0
  have ch := CN.out Y1
  obtain ⟨s0, s1⟩ := FS.out Y1 FY1.out
  go_wp2_with fail
  refine ch.mono ?_
  rintro e Y2 ⟨rfl, bY2⟩
  have FY2 : Hid (From W2 Y2) := FY1.out.trans (Below.mono bY2 FY1.out.size)
  have LY2 : Hid (LQ Y2 W2.heap.size (.slice (some ⟨W2.heap.size + 1, 0, none⟩) 1 1) [[10]]) := LY1.out.below bY2
  clear ch bY2 s0 s1 FY1 LY1
  have ch := CF.out Y2
  obtain ⟨s0, s1⟩ := FS.out Y2 FY2.out
  go_wp2_with fail
  refine ch.mono ?_
  rintro e Y3 ⟨rfl, bY3⟩
  have FY3 : Hid (From W2 Y3) := FY2.out.trans (Below.mono bY3 FY2.out.size)
  have LY3 : Hid (LQ Y3 W2.heap.size (.slice (some ⟨W2.heap.size + 1, 0, none⟩) 1 1) [[10]]) := LY2.out.below bY3
  clear ch bY3 s0 s1 FY2 LY2
  have ch := CC.out Y3
  obtain ⟨s0, s1⟩ := FS.out Y3 FY3.out
  go_wp2_with fail
  refine ch.mono ?_
  rintro e Y4 ⟨rfl, bY4⟩
  have FY4 : Hid (From W2 Y4) := FY3.out.trans (Below.mono bY4 FY3.out.size)
  have LY4 : Hid (LQ Y4 W2.heap.size (.slice (some ⟨W2.heap.size + 1, 0, none⟩) 1 1) [[10]]) := LY3.out.below bY4
  clear ch bY4 s0 s1 FY3 LY3
  have q1 := (FK.out Y4 FY4.out).c3
  have cn := fnum_own p.cd Y4 (FT.out Y4 FY4.out)
  go_wp2_with fail
  refine cn.mono ?_
  rintro e Y5 ⟨u, rfl, ou, bY5⟩
  have FY5 : Hid (From W2 Y5) := FY4.out.trans (Below.mono bY5 FY4.out.size)
  have LY5 : Hid (LQ Y5 W2.heap.size (.slice (some ⟨W2.heap.size + 1, 0, none⟩) 1 1) [[10]]) := LY4.out.below bY5
  obtain ⟨ua, uc, rfl⟩ := ou.shape
  have PU : Hid (Pt Y5 (.slice ua (nB p.cd).length uc) (nB p.cd)) := Pt.ow ou
  clear cn ou q1 bY5 FY4 LY4
  obtain ⟨V6, hV6⟩ : ∃ V6, V6 = Y5.alloc (.cells #[.slice ua (nB p.cd).length uc] 25) := ⟨_, rfl⟩
  have bV6 : Below Y5.heap.size Y5 V6 := by rw [hV6]; exact al_below _ _
  have PV : Hid (Pt V6 (.slice ua (nB p.cd).length uc) (nB p.cd)) := PU.out.below bV6
  have CV : Hid (V6.cell? ⟨Y5.heap.size, 0, none⟩ = some (.slice ua (nB p.cd).length uc)) := by unfold Hid; rw [hV6, World.cell?_alloc_at _ _ _ _ rfl]; rfl
  have FV6 : Hid (From W2 V6) := FY5.out.trans (Below.mono bV6 FY5.out.size)
  have LV6 : Hid (LQ V6 W2.heap.size (.slice (some ⟨W2.heap.size + 1, 0, none⟩) 1 1) [[10]]) := LY5.out.below bV6
  have zV6 := FV6.out.size
  clear bV6 PU FY5 LY5
  go_wp2_with (at_builtin; rw [← hV6]; refine wpList_append_lq rfl _ _ rfl W2.heap.size _ [[10]] rfl LV6.out Y5.heap.size _ _ 1 PV.out rfl CV.out (by simp) zV6 (Hid.out ?_))
  unfold Hid
  intro v6 Y6 lY6 bY6
  try rw [← hV6] at bY6
  have FY6 : Hid (From W2 Y6) := FV6.out.trans bY6
  have LY6 : Hid (LQ Y6 W2.heap.size v6 [[10], nB p.cd]) := lY6
  clear bY6 lY6 zV6 FV6 LV6 PV CV hV6
  have ch := CO.out Y6
  obtain ⟨s0, s1⟩ := FS.out Y6 FY6.out
  go_wp2_with fail
  refine ch.mono ?_
  rintro e Y7 ⟨rfl, bY7⟩
  have FY7 : Hid (From W2 Y7) := FY6.out.trans (Below.mono bY7 FY6.out.size)
  have LY7 : Hid (LQ Y7 W2.heap.size v6 [[10], nB p.cd]) := LY6.out.below bY7
  clear ch bY7 s0 s1 FY6 LY6
  have ch := CT.out Y7
  obtain ⟨s0, s1⟩ := FS.out Y7 FY7.out
  go_wp2_with fail
  refine ch.mono ?_
  rintro e Y8 ⟨rfl, bY8⟩
  have FY8 : Hid (From W2 Y8) := FY7.out.trans (Below.mono bY8 FY7.out.size)
  have LY8 : Hid (LQ Y8 W2.heap.size v6 [[10], nB p.cd]) := LY7.out.below bY8
  clear ch bY8 s0 s1 FY7 LY7
  have q1 := (FK.out Y8 FY8.out).c5
  have cn := ftext_ow p.tx Y8 (FT.out Y8 FY8.out) HI.out.t
  go_wp2_with fail
  refine cn.mono ?_
  rintro e Y9 ⟨u, rfl, ou, bY9⟩
  have FY9 : Hid (From W2 Y9) := FY8.out.trans (Below.mono bY9 FY8.out.size)
  have LY9 : Hid (LQ Y9 W2.heap.size v6 [[10], nB p.cd]) := LY8.out.below bY9
  obtain ⟨ua, uc, rfl⟩ := ou.shape
  have PU : Hid (Pt Y9 (.slice ua (Fi.textB p.tx).length uc) (Fi.textB p.tx)) := Pt.ow ou
  clear cn ou q1 bY9 FY8 LY8
  obtain ⟨V10, hV10⟩ : ∃ V10, V10 = Y9.alloc (.cells #[.slice ua (Fi.textB p.tx).length uc] 25) := ⟨_, rfl⟩
  have bV10 : Below Y9.heap.size Y9 V10 := by rw [hV10]; exact al_below _ _
  have PV : Hid (Pt V10 (.slice ua (Fi.textB p.tx).length uc) (Fi.textB p.tx)) := PU.out.below bV10
  have CV : Hid (V10.cell? ⟨Y9.heap.size, 0, none⟩ = some (.slice ua (Fi.textB p.tx).length uc)) := by unfold Hid; rw [hV10, World.cell?_alloc_at _ _ _ _ rfl]; rfl
  have FV10 : Hid (From W2 V10) := FY9.out.trans (Below.mono bV10 FY9.out.size)
  have LV10 : Hid (LQ V10 W2.heap.size v6 [[10], nB p.cd]) := LY9.out.below bV10
  have zV10 := FV10.out.size
  clear bV10 PU FY9 LY9
  go_wp2_with (at_builtin; rw [← hV10]; refine wpList_append_lq rfl _ _ rfl W2.heap.size _ [[10], nB p.cd] rfl LV10.out Y9.heap.size _ _ 1 PV.out rfl CV.out (by simp) zV10 (Hid.out ?_))
  unfold Hid
  intro v10 Y10 lY10 bY10
  try rw [← hV10] at bY10
  have FY10 : Hid (From W2 Y10) := FV10.out.trans bY10
  have LY10 : Hid (LQ Y10 W2.heap.size v10 [[10], nB p.cd, Fi.textB p.tx]) := lY10
  clear bY10 lY10 zV10 FV10 LV10 PV CV hV10
  have ch := CS.out Y10
  obtain ⟨s0, s1⟩ := FS.out Y10 FY10.out
  go_wp2_with fail
  refine ch.mono ?_
  rintro e Y11 ⟨rfl, bY11⟩
  have FY11 : Hid (From W2 Y11) := FY10.out.trans (Below.mono bY11 FY10.out.size)
  have LY11 : Hid (LQ Y11 W2.heap.size v10 [[10], nB p.cd, Fi.textB p.tx]) := LY10.out.below bY11
  clear ch bY11 s0 s1 FY10 LY10
  obtain ⟨pp, pc, rfl, HP⟩ := LY11.out.parts (by simp)
  have cj := fjoin_any pp pc [[10], nB p.cd, Fi.textB p.tx] Y11 HP (by have := hlen_ok HOK.out HI.out.k.nl; rw [HPM.out] at this; exact this)
  have cjl : ([[10], nB p.cd, Fi.textB p.tx]).length = 3 := rfl
  rw [cjl] at cj
  have HFM : Hid (putM p = ([[10], nB p.cd, Fi.textB p.tx]).flatten) := HPM.out
  clear HP HPM cjl
  generalize ([[10], nB p.cd, Fi.textB p.tx]).flatten = FM at *
  go_wp2_with fail
  refine cj.mono ?_
  rintro e w9 ⟨v9, rfl, o9, b9⟩
  have HB9 : Hid (Below w.heap.size w w9) := (FB.out Y11 FY11.out).trans (b9.mono (FB.out Y11 FY11.out).size)
  have HO9 : Hid (Ow w9 w.heap.size v9 FM) := o9.mono (Nat.le_trans HWN.out FY11.out.size)
  clear cj b9 o9
  go_wp2
  go_ret
  exact ⟨_, rfl, by rw [HFM.out]; exact HO9.out, HB9.out⟩
end Go.Proofs.YtjjjomikgpnahaaDoor
