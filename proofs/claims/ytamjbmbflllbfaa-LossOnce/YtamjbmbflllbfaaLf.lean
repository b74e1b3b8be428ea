/-
  What slices.Clone and Fork answer.
-/
import Derived.Test.YtamjbmbflllbfaaLs
import Derived.Test.YtamjbmbflllbfaaBa
namespace Go.Proofs.Ytamjbmbflllbfaa
open Go.RowKit
set_option maxRecDepth 100000

theorem flatcellP {w : World} {l : List Pk} {b off : Nat} (hr : ∀ i, i < (l.map Pk.c).length → w.rangeAt b (off + i * 4) (atC (l.map Pk.c) i)) : ∀ j u, (l.map Pk.c).flatten[j]? = some u → w.cell? ⟨b, off + j, none⟩ = some u := fun j u hj => by
  have hl := (List.getElem?_eq_some_iff.1 hj).1
  rw [flatP] at hl
  have hi : j / 4 < (l.map Pk.c).length := by rw [List.length_map]; omega
  have hm : j % 4 < 4 := Nat.mod_lt _ (by omega)
  have hc := (pc_cl l _ (atC_mem _ _ hi)).1
  have e : j / 4 * 4 + j % 4 = j := by omega
  have hg : (atC (l.map Pk.c) (j / 4))[j % 4]? = some ((atC (l.map Pk.c) (j / 4))[j % 4]'(by rw [hc]; exact hm)) := List.getElem?_eq_getElem _
  have h2 := (pc_cl l).get hi hg
  rw [e, hj] at h2
  have h3 := hr _ hi (j % 4) _ hg
  rw [← h2] at h3
  rw [show off + j = off + j / 4 * 4 + j % 4 by omega]
  exact h3
theorem isnilP (w : World) : (binOp BinOp.eql 40 (.slice none 0 0) (.slice none 0 0)).run Try.prog w = .ok (.bool true) w := by kernel_rfl
theorem notnilP (x : Addr) (n c : Nat) (w : World) : (binOp BinOp.eql 40 (.slice (some x) n c) (.slice none 0 0)).run Try.prog w = .ok (.bool false) w := by kernel_rfl
set_option maxHeartbeats 1000000 in
theorem clone_any (v : Value) (l : List Pk) (w : World) (h : PS w v l) (hbig : l.length ≤ 100000) :
    Calls Try.prog 30 #[v] w fun r w' => ∃ v', r = .returned v' ∧ RP 48 w' w.heap.size v' l ∧ Below w.heap.size w w' := by
  obtain ⟨i0, hi, hz0, hz1, hz2⟩ := info_parts infoP
  obtain ⟨a, cap, rfl, h1, h2, h3, hcl, h4⟩ := h
  simp only [List.length_map] at h1
  cases a with
  | none =>
    obtain rfl := h3 rfl
    obtain rfl : l = [] := List.length_eq_zero_iff.1 (by omega)
    clear h1 h2 h3 h4 hbig hcl
    have hnil := isnilP w
    have HZ : Hid (RP 48 w w.heap.size (.slice none 0 0) []) := RP.nil _ _ _
    go_enter Try.func30, Try.ntmps30
    go_wp2
    go_ret
    exact ⟨_, rfl, HZ.out, Below.refl _ _⟩
  | some x =>
    have hown0 : (w.alloc (.cells #[] 48)).ownsRow w.heap.size 48 4 (.slice (some ⟨w.heap.size, 0, none⟩) 0 0) 0 [] := World.ownsRow_made (base := w.heap.size) (e := 48) (size := 4) w #[] 0 (Nat.le_refl _) (by unfold maxLen; omega) rfl
    have hb0 : Below w.heap.size w (w.alloc (.cells #[] 48)) := al_b _ _
    have hnews : ∀ j u, (l.map Pk.c).flatten[j]? = some u → (w.alloc (.cells #[] 48)).cell? (x.add j) = some u := fun j u hj => by
      rcases h4 with e | ⟨b, off, e, hr⟩
      · rw [e] at hj; simp at hj
      · cases e
        rw [Addr.add_lit]
        have h5 := flatcellP hr j u hj
        exact (hb0.cell (World.block_lt_of_cell? _ _ h5)).trans h5
    have HLN : Hid ((l.map Pk.c).flatten.length = l.length * 4) := flatP l
    have H1 : Hid (∀ u ∈ (l.map Pk.c).flatten, u.oneCell' = true) := hcl.ones
    rw [List.length_map]
    obtain ⟨L, hL⟩ : ∃ L, L = l.length := ⟨_, rfl⟩
    have HL : Hid (L = l.length) := hL
    rw [← hL] at hbig h1 HLN ⊢
    obtain ⟨FL, hFL⟩ : ∃ FL, FL = (l.map Pk.c).flatten := ⟨_, rfl⟩
    have HFL : Hid (FL = (l.map Pk.c).flatten) := hFL
    rw [← hFL] at hnews HLN H1
    clear h3 h4 hL h2 hcl hFL
    have hnil := notnilP x L cap w
    go_enter Try.func30, Try.ntmps30
    go_wp2_with (at_builtin; refine wpList_append_own_wide _ rfl _ _ 40 rfl w.heap.size 48 i0 (.agg #[.int .i64 0, .int .i64 0, .int .i64 0, .bool false]) 4 32 Try.underlying40 hi hz0 hz1 hz2 rfl (by decide) _ 0 [] rfl hown0 x L cap FL rfl HLN.out hnews H1.out (by unfold maxLen; omega) (by omega) (by simp) ?_)
    intro v' w2 hown' hgrow _
    have hbel' : Below w.heap.size w w2 := hb0.grown hgrow (by simp) (own_base hown0)
    try simp only [Nat.zero_add, List.nil_append] at hown'
    have HZ : Hid (RP 48 w2 w.heap.size v' l) := by
      refine RP.of ?_
      rw [← HFL.out, ← HL.out]
      exact hown'
    have HB : Hid (Below w.heap.size w w2) := hbel'
    obtain ⟨va, vc, rfl⟩ := own_shape hown'
    clear hown0 hgrow hb0 hnews hown' hbel'
    go_wp2
    go_ret
    exact ⟨_, rfl, HZ.out, HB.out⟩
set_option maxHeartbeats 1000000 in
theorem fork_any (w : World) (B g : Nat) (v : Value) (s : Lg) (h : LS w B g v s) :
    Calls Try.prog 14 #[.pointer (some ⟨g, 0, none⟩)] w fun e w' => ∃ g' v', e = .returned (.pointer (some ⟨g', 0, none⟩)) ∧ LS w' w.heap.size g' v' s ∧ Below w.heap.size w w' ∧ w.heap.size ≤ g' := by
  obtain ⟨k0, k1, k2, k3, -, -, -, -⟩ := h.bk.lc
  obtain ⟨W1, hW1⟩ : ∃ W1, W1 = w.alloc (.cells #[v, .int .i64 s.n, .int .i64 s.t, .int .i64 s.g] 62) := ⟨_, rfl⟩
  have b1 : Below w.heap.size w W1 := by rw [hW1]; exact al_b _ _
  have HB1 : Hid (Below w.heap.size w W1) := b1
  have HL1 : Hid (LB W1 w.heap.size v s) := by rw [hW1]; exact heap_alloc_new _ _
  have cc := clone_any v s.o W1 (h.rs.is.kept b1) (by have := h.ok.ln; omega)
  have HH : Hid (LS W1 B g v s) := h.below b1
  have q0 := (h.bk.kept b1).lc.c0
  have HOK : Hid s.ok := h.ok
  have HG0 : Hid (Lg.mk s.o s.n s.t s.g = s) := rfl
  obtain ⟨a, c, rfl, -⟩ := id h.rs.is.shape
  obtain ⟨n9, hn9⟩ : ∃ n9, n9 = s.o.length := ⟨_, rfl⟩
  rw [← hn9] at cc k0 q0 hW1 HL1
  clear h b1 hn9
  obtain ⟨gp, hgp⟩ : ∃ gp, gp = w.heap.size := ⟨_, rfl⟩
  have HGP : Hid (gp = w.heap.size) := hgp
  rw [← hgp] at HL1
  go_enter Try.func14, Try.ntmps14
  go_upto_region 4 with fail
  try rw [← hW1]
  try rw [← hgp]
  clear hW1 hgp
  go_wp2_with fail
  refine cc.mono ?_
  rintro e w2 ⟨v2, rfl, r2, b2⟩
  have l2 := HL1.out.kept b2
  obtain ⟨m0, m1, m2, m3, f0, f1, f2, f3⟩ := l2.lc
  have hng : v2.ownBlock ≠ some gp := fun e => by
    obtain ⟨cs, hh⟩ := r2.ty e
    unfold LB at l2
    rw [l2] at hh
    simp at hh
  have HE : Hid (LS (w2.setCell ⟨gp, 0, none⟩ v2) w.heap.size gp v2 s ∧ Below w.heap.size w (w2.setCell ⟨gp, 0, none⟩ v2)) := by
    refine ⟨⟨l2.set0 v2 s.o, (r2.mono HB1.out.size).set hng, HOK.out⟩, ?_⟩
    have := HB1.out.trans (b2.mono HB1.out.size)
    exact this.setCell (by have := HGP.out; show w.heap.size ≤ gp; omega) v2
  obtain ⟨va, vc, rfl, -⟩ := id r2.is.shape
  clear cc r2 b2 l2 hng
  generalize s.o.length = k at *
  go_wp2
  go_ret
  exact ⟨_, _, rfl, HE.out.1, HE.out.2, by have := HGP.out; omega⟩
theorem fork_nil (w : World) : Calls Try.prog 14 #[.pointer none] w fun e w' => e = .returned (.pointer none) ∧ w' = w := by
  go_enter Try.func14, Try.ntmps14
  go_wp2
  go_ret
  exact ⟨rfl, rfl⟩
end Go.Proofs.Ytamjbmbflllbfaa
