/-
  slices.Backward at spans: the iterator.
-/
import Derived.Test.YtaghmoddalbepaaDoorSo
import Derived.Test.YtaghmoddalbepaaDoorBr
namespace Go.Proofs.YtaghmoddalbepaaDoor
open Go.RowKit Go.Shelf
set_option maxRecDepth 100000

abbrev Bl := { y : Nat × Sp // y.1 ≤ 100000 ∧ Okk y.2 }
abbrev benc (y : Bl) : Array Value := #[.int .i64 (y.1.1 : Nat), .agg #[.int .i64 y.1.2.1, .int .i64 y.1.2.2]]
/-- What comes: the places and spans, from the last one on. -/
def bwl (l : List Sp) : List (Nat × Sp) := (List.range l.length).map fun k => (l.length - (k + 1), atS l (l.length - (k + 1)))
theorem bwl_len (l : List Sp) : (bwl l).length = l.length := by simp [bwl]
theorem bl_of : ∀ (L : List (Nat × Sp)), (∀ y ∈ L, y.1 ≤ 100000 ∧ Okk y.2) → ∃ c : List Bl, c.map (·.1) = L
  | [], _ => ⟨[], rfl⟩
  | x :: l, h => by
    obtain ⟨c, hc⟩ := bl_of l (fun y hy => h y (List.mem_cons_of_mem _ hy))
    exact ⟨⟨x, h x (List.mem_cons_self ..)⟩ :: c, by rw [List.map_cons, hc]⟩
set_option maxHeartbeats 400000 in
theorem backward_any (w : World) (a : Option Addr) (n c : Nat) : Calls Tryd.prog 43 #[.slice a n c] w fun e w' => e = .returned (.func (.func 64) #[] #[.pointer (some ⟨w.heap.size, 0, none⟩)]) ∧ w' = w.alloc (.cells #[.slice a n c] 28) := by
  go_enter Tryd.func43, Tryd.ntmps43
  go_wp2
  go_ret
  exact ⟨rfl, rfl⟩
set_option maxHeartbeats 4000000 in
theorem back_stops (w0 : World) (b : Nat) (v : Value) (l : List Sp) (X : Nat → Prop) (n : Nat) (hn : 1 ≤ n) (hb : w0.heap[b]? = some (.cells #[v] 28 (0, 0))) (hv : SSp w0 v l) (hok : ∀ x ∈ l, Okk x) (hl : l.length ≤ 100000)
    (hX : ¬ X b) (hXr : ∀ k, rowB v = some k → k < w0.heap.size ∧ ¬ X k) :
    SeqStopsK Fence.wide n Tryd.prog 64 #[.pointer (some ⟨b, 0, none⟩)] benc (Kt w0.heap.size X) (fun xs => xs.map (·.1) = bwl l) (fun _ => True) l.length w0 := by
  intro lp J Jx W hW hJ hJx hY h0
  show CallsIn Fence.wide n Tryd.prog 64 #[.func (.yield lp) #[] #[], .pointer (some ⟨b, 0, none⟩)] W _
  refine callsIn_wide.2 ?_
  obtain ⟨cl, hcl⟩ := bl_of (bwl l) (fun y hy => by
    obtain ⟨k, hk, rfl⟩ := List.mem_map.1 hy
    rw [List.mem_range] at hk
    exact ⟨by simp only; omega, hok _ (atS_mem l _ (by omega))⟩)
  have hcll : cl.length = l.length := by rw [← bwl_len l, ← hcl, List.length_map]
  have hel : ∀ k, k < l.length → ∀ y : Bl, cl[k]? = some y → y.1 = (l.length - (k + 1), atS l (l.length - (k + 1))) := fun k hk y hy => by
    have h1 : (bwl l)[k]? = some y.1 := by rw [← hcl, List.getElem?_map, hy]; rfl
    unfold bwl at h1
    rw [List.getElem?_map, List.getElem?_range hk] at h1
    exact (Option.some.inj h1).symm
  have KW : Kt w0.heap.size X w0 W := Kt.below hW
  obtain ⟨a, c, rfl, h2, h3, h4⟩ := id hv.shape
  have FF : Hid (∀ V : World, Kt w0.heap.size X w0 V → V.cell? ⟨b, 0, none⟩ = some (.slice a l.length c) ∧ SSp V (.slice a l.length c) l) := fun V hk => ⟨by have := hk.blk (blk_lt hb) hX hb; simp [World.cell?, this], hv.kt hk hXr⟩
  have HJ0 : Hid (J [] W) := h0
  have HJ : Hid (∀ s A B, J s A → Below A.heap.size A B → J s B) := fun s A B h hb => hJ s A B none h (below_grown hb) (fun r e => by cases e)
  have HY : Hid (∀ pre x W1, J pre W1 → pre.length < l.length → YieldAt Fence.wide (n - 1) Tryd.prog lp (benc x) W1 fun e W' => (e = .returned (.bool true) ∧ J (pre ++ [x]) W' ∧ Kt w0.heap.size X W1 W') ∨ (e = .returned (.bool false) ∧ Jx (pre ++ [x]) W')) := hY
  have HKW : Hid (Kt w0.heap.size X w0 W) := KW
  have HCL : Hid (cl.map (·.1) = bwl l) := hcl
  have HEL : Hid (∀ k, k < l.length → ∀ y : Bl, cl[k]? = some y → y.1 = (l.length - (k + 1), atS l (l.length - (k + 1)))) := hel
  have HLN : Hid (cl.length = l.length) := hcll
  have k0 := (FF.out W KW).1
  clear hY hJ hJx h0 hcl hcll hel hb hv hok hX hXr hW KW h2 h3 h4
  obtain ⟨N, hN⟩ : ∃ N, N = l.length := ⟨_, rfl⟩
  have HNL : Hid (N = l.length) := hN
  rw [← hN] at FF HY HEL HLN k0 hl
  clear hN
  have y1 : IntKind.i64.wrap ((N : Int) - 1) = (N : Int) - 1 := by rw [IntKind.wrap_i64]; omega
  go_enter Tryd.func64, Tryd.ntmps64
  go_wp2
  refine (wpIn_wide (n := n)).1 ?_
  gi_loopw [3] (fun i wr => ∃ (k : Nat) (z : Int), k ≤ N ∧ i = .int .i64 z ∧ Hid (z + k + 1 = N) ∧ J (cl.take k) wr ∧ Kt w0.heap.size X w0 wr) (fun i _ => (intOf i + 1).toNat)
  case atStart => exact ⟨0, _, Nat.zero_le _, rfl, by unfold Hid; omega, by rw [List.take_zero]; exact HJ0.out, HKW.out⟩
  case round =>
    obtain ⟨k, z, hk, rfl, hz, hJs, hKs⟩ := hrel
    have HJS : Hid (J (cl.take k) wr) := hJs
    have HKS : Hid (Kt w0.heap.size X w0 wr) := hKs
    clear hJs hKs HJ0 HKW
    by_cases hlt : k < N
    · obtain ⟨m, rfl⟩ : ∃ m : Nat, z = m := ⟨z.toNat, by have := hz.out; omega⟩
      have hm : N - (k + 1) = m := by have := hz.out; omega
      have lt2 : (0 : Int) ≤ (m : Int) := by omega
      have lt3 : (m : Int) < (N : Int) := by have := hz.out; omega
      have lt4 : m < N := by omega
      obtain ⟨q1, q3⟩ := FF.out wr HKS.out
      have q4 := q3
      rw [show N = l.length from HNL.out] at q4
      obtain ⟨bb, off, rfl, hr⟩ := q4.at m (by rw [← HNL.out]; exact lt4)
      obtain ⟨r0, r1⟩ := spC hr
      have hkc : k < cl.length := by rw [HLN.out]; exact hlt
      obtain ⟨y, hy⟩ : ∃ y : Bl, cl[k]? = some y := ⟨cl[k], List.getElem?_eq_getElem hkc⟩
      have ye := HEL.out k hlt y hy
      rw [hm] at ye
      have htk : cl.take (k + 1) = cl.take k ++ [y] := by rw [List.take_add_one, hy]; rfl
      have HTK : Hid (cl.take (k + 1) = cl.take k ++ [y]) := htk
      obtain ⟨fn, tmps, assign, body, hyy, hR⟩ := HY.out (cl.take k) y wr HJS.out (by rw [List.length_take]; omega)
      dsimp only [benc] at hyy
      rw [ye] at hyy
      obtain ⟨x, hx⟩ : ∃ x, x = atS l m := ⟨_, rfl⟩
      rw [← hx] at hyy r0 r1
      have HR : Hid (RoundIn Fence.wide (n - 1) Tryd.prog lp fn tmps assign body wr _) := hR
      have xw : IntKind.i64.wrap ((m : Int) - 1) = (m : Int) - 1 := by rw [IntKind.wrap_i64]; omega
      have HZ1 : Hid ((m : Int) - 1 + ((k + 1 : Nat) : Int) + 1 = N) := by unfold Hid; have := hz.out; omega
      clear hR ye hy htk hx hr q3 q4 hkc hm hz
      gi_wp2
      refine HR.out.mono ?_
      rintro e W4 (⟨rfl, hJ4, hk4⟩ | ⟨rfl, hJx4⟩)
      · have HJ4 : Hid (J (cl.take (k + 1)) W4) := by unfold Hid; rw [HTK.out]; exact hJ4
        have HK4 : Hid (Kt w0.heap.size X w0 W4) := HKS.out.trans hk4
        clear hJ4 hk4 hyy
        gi_wp2
        go_roundw
        case rel => exact ⟨k + 1, (m : Int) - 1, by omega, by go_num, HZ1, HJ4.out, HK4.out⟩
        case measure => simp [intOf]
      · have HX4 : Hid (Jx (cl.take k ++ [y]) W4) := hJx4
        clear hJx4 hyy
        gi_wp2
        refine bodyPost_ret (results_none rfl _ _ _) rfl ?_
        exact ⟨⟨_, rfl⟩, .inr ⟨_, trivial, HX4.out⟩⟩
    · obtain rfl : k = N := by omega
      obtain rfl : z = -1 := by have := hz.out; omega
      have HJE : Hid (J cl wr) := by unfold Hid; have := HJS.out; rwa [List.take_of_length_le (by rw [HLN.out]; exact Nat.le_refl _)] at this
      clear HJS
      gi_wp2
      go_end0
      exact ⟨⟨_, rfl⟩, .inl ⟨cl, HCL.out, HJE.out⟩⟩
end Go.Proofs.YtaghmoddalbepaaDoor
