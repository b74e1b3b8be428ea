/-
  What slices.Clone answers at parts.
-/
import Derived.Test.YtcenchnmibdebaaDoorTh
namespace Go.Proofs.YtcenchnmibdebaaDoor
open Go.RowKit
set_option maxRecDepth 100000

theorem CL.flatcell {k : Nat} {w : World} {L : List (List Value)} {b off : Nat} (hk : 0 < k) (h : CL k L) (hr : ∀ i, i < L.length → w.rangeAt b (off + i * k) (atC L i)) : ∀ j u, L.flatten[j]? = some u → w.cell? ⟨b, off + j, none⟩ = some u := fun j u hj => by
  have hl := (List.getElem?_eq_some_iff.1 hj).1
  rw [h.flat] at hl
  have hi : j / k < L.length := Nat.div_lt_of_lt_mul (by rw [Nat.mul_comm]; exact hl)
  have hm : j % k < k := Nat.mod_lt _ hk
  have hc := (h _ (atC_mem L _ hi)).1
  have e : j / k * k + j % k = j := by rw [Nat.mul_comm]; exact Nat.div_add_mod j k
  have hg : (atC L (j / k))[j % k]? = some ((atC L (j / k))[j % k]'(by rw [hc]; exact hm)) := List.getElem?_eq_getElem _
  have h2 := h.get hi hg
  rw [e, hj] at h2
  have h3 := hr _ hi (j % k) _ hg
  rw [← h2] at h3
  rw [show off + j = off + j / k * k + j % k by omega]
  exact h3
theorem isnilP (w : World) : (binOp BinOp.eql 41 (.slice none 0 0) (.slice none 0 0)).run Tryd.prog w = .ok (.bool true) w := by kernel_rfl
theorem notnilP (x : Addr) (n c : Nat) (w : World) : (binOp BinOp.eql 41 (.slice (some x) n c) (.slice none 0 0)).run Tryd.prog w = .ok (.bool false) w := by kernel_rfl
set_option maxHeartbeats 1000000 in
theorem clonep_any (v : Value) (l : List Pa) (w : World) (h : PS w v l) (hbig : l.length ≤ 100000) :
    Calls Tryd.prog 28 #[v] w fun r w' => ∃ v', r = .returned v' ∧ RP w' w.heap.size v' l ∧ Below w.heap.size w w' := by
  obtain ⟨i0, hi, hz0, hz1, hz2⟩ := info_parts infoP
  obtain ⟨⟨a, cap, rfl, h1, h2, h3, hcl, h4⟩, hok⟩ := h
  simp only [List.length_map] at h1
  cases a with
  | none =>
    obtain rfl := h3 rfl
    obtain rfl : l = [] := List.length_eq_zero_iff.1 (by omega)
    clear h1 h2 h3 h4 hbig hok hcl
    have hnil := isnilP w
    go_enter Tryd.func28, Tryd.ntmps28
    go_wp2
    go_ret
    exact ⟨_, rfl, RPt.nil _ _ _, Below.refl _ _⟩
  | some x =>
    have hown0 : (w.alloc (.cells #[] 58)).ownsRow w.heap.size 58 36 (.slice (some ⟨w.heap.size, 0, none⟩) 0 0) 0 [] := World.ownsRow_made (base := w.heap.size) (e := 58) (size := 36) w #[] 0 (Nat.le_refl _) (by unfold maxLen; omega) rfl
    have hb0 : Below w.heap.size w (w.alloc (.cells #[] 58)) := al_below _ _
    have hnews : ∀ j u, (l.map Pa.cells).flatten[j]? = some u → (w.alloc (.cells #[] 58)).cell? (x.add j) = some u := fun j u hj => by
      rcases h4 with e | ⟨b, off, e, hr⟩
      · rw [e] at hj; simp at hj
      · cases e
        rw [Addr.add_lit]
        have h5 := CL.flatcell (by omega) hcl hr j u hj
        exact (hb0.cell (World.block_lt_of_cell? _ _ h5)).trans h5
    have HLN : Hid ((l.map Pa.cells).flatten.length = l.length * 36) := by unfold Hid; rw [hcl.flat, List.length_map]
    have H1 : Hid (∀ u ∈ (l.map Pa.cells).flatten, u.oneCell' = true) := hcl.ones
    have HOK : Hid ((∀ x ∈ l, x.ok) ∧ CL 36 (l.map Pa.cells)) := ⟨hok, hcl⟩
    rw [List.length_map]
    obtain ⟨L, hL⟩ : ∃ L, L = l.length := ⟨_, rfl⟩
    have HL : Hid (L = l.length) := hL
    rw [← hL] at hbig h1 HLN ⊢
    obtain ⟨FL, hFL⟩ : ∃ FL, FL = (l.map Pa.cells).flatten := ⟨_, rfl⟩
    have HFL : Hid (FL = (l.map Pa.cells).flatten) := hFL
    rw [← hFL] at hnews HLN H1
    clear h3 h4 hL h2 hok hcl hFL
    have hnil := notnilP x L cap w
    go_enter Tryd.func28, Tryd.ntmps28
    go_wp2_with (at_builtin; refine wpList_append_own_wide _ rfl _ _ 41 rfl w.heap.size 58 i0 pa0.val 36 72 Tryd.underlying41 hi hz0 hz1 hz2 (by simp [Pa.val, Value.cells, Pa.len pa0_ok]) (by decide) _ 0 [] rfl hown0 x L cap FL rfl HLN.out hnews H1.out (by unfold maxLen; omega) (by omega) (by simp) ?_)
    intro v' w2 hown' hgrow _
    have hbel' : Below w.heap.size w w2 := hb0.grown hgrow (by simp) (own_base hown0)
    try simp only [Nat.zero_add, List.nil_append] at hown'
    have HZ : Hid (RP w2 w.heap.size v' l) := by
      refine ⟨⟨?_, HOK.out.2⟩, HOK.out.1⟩
      rw [List.length_map, ← HFL.out, ← HL.out]
      exact hown'
    have HB : Hid (Below w.heap.size w w2) := hbel'
    obtain ⟨va, vc, rfl⟩ := own_shape hown'
    clear hown0 hgrow hb0 hnews hown' hbel'
    go_wp2
    go_ret
    exact ⟨_, rfl, HZ.out, HB.out⟩
end Go.Proofs.YtcenchnmibdebaaDoor
