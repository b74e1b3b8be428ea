/-
  What slices.Replace answers where what comes is no longer than what goes.
-/
import Derived.Deep.DeepCutAuto
import Derived.Deep.QuietTactic
import Derived.BigQuiet
import Derived.Test.YtmplpdjkhdaniaaGreatDoorWad
namespace Go.Proofs.YtmplpdjkhdaniaaGreatDoor
open Go.RowKit Go.Shelf
set_option maxRecDepth 100000

set_option maxHeartbeats 4000000 in
theorem rep_fit (g c n i j m : Nat) (L vs : List Value) (u : Value) (w : World) (hg : w.heap[g]? = some (.cells L.toArray 89 (0, 0))) (hL : L.length = c * 2) (hij : i < j) (hj : j < n) (him : i + m ≤ j) (hnc : n ≤ c) (hc : c ≤ maxLen) (hn : n ≤ 1000)
    (h1 : ∀ y ∈ L.take (n * 2), y.oneCell' = true) (sr : Sr w g u m vs) :
    Calls Tryz.prog 82 #[.slice (some ⟨g, 0, none⟩) n c, .int .i64 i, .int .i64 j, u] w fun e w' => e = .returned (.slice (some ⟨g, 0, none⟩) (i + m + (n - j)) c) ∧
      (∃ L' : List Value, w'.heap[g]? = some (.cells L'.toArray 89 (0, 0)) ∧ L'.length = c * 2 ∧ L'.take ((i + m + (n - j)) * 2) = (L.take (n * 2)).take (i * 2) ++ vs ++ (L.take (n * 2)).drop (j * 2)) ∧ w.grownBy w' (some g) := by
  have hmx : c ≤ 9223372036854775807 := by unfold maxLen at hc; omega
  obtain ⟨tl, htl⟩ : ∃ tl, tl = (L.take (n * 2)).drop (j * 2) := ⟨_, rfl⟩
  have htll : tl.length = (n - j) * 2 := by rw [htl, List.length_drop, List.length_take]; omega
  have hvl := sr.1
  obtain ⟨t, ht⟩ : ∃ t, t = i + m + (n - j) := ⟨_, rfl⟩
  have htn : t ≤ n := by omega
  -- the first copy
  obtain ⟨L1, hL1⟩ : ∃ L1, L1 = upd (i * 2) vs L := ⟨_, rfl⟩
  obtain ⟨L2, hL2⟩ : ∃ L2, L2 = upd ((i + m) * 2) tl L1 := ⟨_, rfl⟩
  obtain ⟨L3, hL3⟩ : ∃ L3, L3 = upd (t * 2) (zs (n - t)) L2 := ⟨_, rfl⟩
  have l1 : L1.length = c * 2 := by rw [hL1, upd_len (by omega), hL]
  have l2 : L2.length = c * 2 := by rw [hL2, upd_len (by omega), l1]
  have l3 : L3.length = c * 2 := by rw [hL3, upd_len (by rw [zs_len]; omega), l2]
  have cell : ∀ (W : World) (M : List Value), W.heap[g]? = some (.cells M.toArray 89 (0, 0)) → M.length = c * 2 → (∀ k, k < c * 2 → (W.cell? ⟨g, k, none⟩).isSome = true) ∧ (∀ k, W.frozen? ⟨g, k, none⟩ = false) := fun W M hM hl =>
    ⟨fun k hk => by simp only [World.cell?, hM]; rw [List.getElem?_toArray, List.getElem?_eq_getElem (by omega)]; rfl, fun k => by simp [World.frozen?, hM]⟩
  have b1 : ∀ W : World, W.heap = w.heap → (W.setCells g (i * 2) vs).heap[g]? = some (.cells L1.toArray 89 (0, 0)) := fun W hW => by rw [hL1]; exact upd_block g vs (i * 2) W L _ (by rw [hW]; exact hg) (by omega)
  have cp1 : ∀ W : World, W.heap = w.heap → ∀ ty dc, (Builtin.copy_ #[23, 23] ty #[.slice (some ⟨g, i * 2, none⟩) (t - i) dc, u]).run Tryz.prog W = .ok (goInt m) (W.setCells g (i * 2) vs) := fun W hW ty dc => by
    obtain ⟨q1, q2⟩ := cell W L (by rw [hW]; exact hg) hL
    exact run_copy_src W ty g (i * 2) (t - i) dc u m vs (sr.src (fun k _ _ => by rw [hW])) sr.shape (by omega) (fun k hk => q1 _ (by omega)) (fun k _ => q2 _)
  have tsub : ∀ k y, tl[k]? = some y → L1[j * 2 + k]? = some y := fun k y hk => by
    have hkl : k < tl.length := by
      by_cases h : k < tl.length
      · exact h
      · rw [List.getElem?_eq_none (by omega)] at hk; cases hk
    rw [htl, List.getElem?_drop, List.getElem?_take, if_pos (by omega)] at hk
    have e := upd_drop (o := i * 2) (xs := vs) (L := L) (by omega)
    have e2 : L1[j * 2 + k]? = (L1.drop (i * 2))[j * 2 + k - i * 2]? := by rw [List.getElem?_drop]; congr 1; omega
    rw [e2, hL1, e, List.getElem?_append_right (by omega), List.getElem?_drop, ← hk]
    congr 1
    omega
  have cp2 : ∀ W : World, W.heap[g]? = some (.cells L1.toArray 89 (0, 0)) → ∀ ty dc sc, (Builtin.copy_ #[23, 23] ty #[.slice (some ⟨g, (i + m) * 2, none⟩) (n - j) dc, .slice (some ⟨g, j * 2, none⟩) (n - j) sc]).run Tryz.prog W = .ok (goInt ((n - j : Nat) : Int)) (W.setCells g ((i + m) * 2) tl) := fun W hW ty dc sc => by
    obtain ⟨q1, q2⟩ := cell W L1 hW l1
    exact run_copy_three W _ _ ty 89 g ((i + m) * 2) (n - j) dc ⟨g, j * 2, none⟩ (n - j) sc tl (n - j) Tryz.underlying23 size3 (by simp only [Nat.min_def]; split <;> omega) htll
      (fun k y hk => by rw [Addr.add_lit]; simp only [World.cell?, hW]; rw [List.getElem?_toArray]; exact tsub k y hk) (fun k hk => q1 _ (by omega)) (fun k _ => q2 _) (fun y hy => h1 y (by rw [htl] at hy; exact List.mem_of_mem_drop hy))
  have b2 : ∀ W : World, W.heap[g]? = some (.cells L1.toArray 89 (0, 0)) → (W.setCells g ((i + m) * 2) tl).heap[g]? = some (.cells L2.toArray 89 (0, 0)) := fun W hW => by rw [hL2]; exact upd_block g tl _ W L1 _ hW (by omega)
  have cl3 : ∀ W : World, W.heap[g]? = some (.cells L2.toArray 89 (0, 0)) → ∀ ty cc, (Builtin.clear_ #[23] ty #[.slice (some ⟨g, t * 2, none⟩) (n - t) cc]).run Tryz.prog W = .ok (.tuple #[]) (W.setCells g (t * 2) (zs (n - t))) := fun W hW ty cc => by
    obtain ⟨q1, q2⟩ := cell W L2 hW l2
    exact run_clear_k W ty g (t * 2) (n - t) cc (fun k hk => q1 _ (by omega)) (fun k _ => q2 _)
  have hfin : L3.take (t * 2) = (L.take (n * 2)).take (i * 2) ++ vs ++ tl := by
    rw [hL3, upd_lo (Nat.le_refl _) (by omega), hL2]
    have e1 : t * 2 = (i + m) * 2 + tl.length := by omega
    rw [e1, upd_take (by omega), hL1]
    have e2 : (i + m) * 2 = i * 2 + vs.length := by omega
    rw [e2, upd_take (by omega), List.take_take, Nat.min_eq_left (by omega)]
  have HE : Hid (∀ W : World, W.heap = (((w.setCells g (i * 2) vs).setCells g ((i + m) * 2) tl).setCells g (t * 2) (zs (n - t))).heap → W.os = w.os → W.tape = w.tape → W.output = w.output → (∃ L' : List Value, W.heap[g]? = some (.cells L'.toArray 89 (0, 0)) ∧ L'.length = c * 2 ∧ L'.take (t * 2) = (L.take (n * 2)).take (i * 2) ++ vs ++ tl) ∧ w.grownBy W (some g)) := fun W e1 e2 e3 e4 => by
    refine ⟨⟨L3, by rw [e1, hL3]; exact upd_block g _ _ _ L2 _ (b2 _ (b1 w rfl)) (by rw [zs_len]; omega), l3, hfin⟩, e2, e3, e4, ?_, fun k hk hne => ?_⟩
    · rw [e1, (setCells_size _ _ _ _).1, (setCells_size _ _ _ _).1, (setCells_size _ _ _ _).1]; exact Nat.le_refl _
    · rw [e1, setCells_other _ _ _ _ _ (fun e => hne (by rw [e])), setCells_other _ _ _ _ _ (fun e => hne (by rw [e])), setCells_other _ _ _ _ _ (fun e => hne (by rw [e]))]
  have HS : Hid (∀ (W : World) o (xs : List Value), (W.setCells g o xs).os = W.os ∧ (W.setCells g o xs).tape = W.tape ∧ (W.setCells g o xs).output = W.output) := fun W o xs => (setCells_size _ _ _ _).2
  have HB1 : Hid (∀ W : World, W.heap = w.heap → (W.setCells g (i * 2) vs).heap[g]? = some (.cells L1.toArray 89 (0, 0))) := b1
  have HC1 : Hid (∀ W : World, W.heap = w.heap → ∀ ty dc, (Builtin.copy_ #[23, 23] ty #[.slice (some ⟨g, i * 2, none⟩) (t - i) dc, u]).run Tryz.prog W = .ok (goInt m) (W.setCells g (i * 2) vs)) := cp1
  have HC2 : Hid (∀ W : World, W.heap[g]? = some (.cells L1.toArray 89 (0, 0)) → ∀ ty dc sc, (Builtin.copy_ #[23, 23] ty #[.slice (some ⟨g, (i + m) * 2, none⟩) (n - j) dc, .slice (some ⟨g, j * 2, none⟩) (n - j) sc]).run Tryz.prog W = .ok (goInt ((n - j : Nat) : Int)) (W.setCells g ((i + m) * 2) tl)) := cp2
  have HC3 : Hid (∀ W : World, W.heap[g]? = some (.cells L2.toArray 89 (0, 0)) → ∀ ty cc, (Builtin.clear_ #[23] ty #[.slice (some ⟨g, t * 2, none⟩) (n - t) cc]).run Tryz.prog W = .ok (.tuple #[]) (W.setCells g (t * 2) (zs (n - t)))) := cl3
  have HZ0 : Hid (∀ (W : World) ty cc, (Builtin.clear_ #[23] ty #[.slice (some ⟨g, 0, none⟩) 0 cc]).run Tryz.prog W = .ok (.tuple #[]) (W.setCells g 0 (zs 0))) := fun W ty cc => run_clear_k W ty g 0 0 cc (fun k hk => by omega) (fun k hk => by omega)
  have HB2 : Hid (∀ W : World, W.heap[g]? = some (.cells L1.toArray 89 (0, 0)) → (W.setCells g ((i + m) * 2) tl).heap[g]? = some (.cells L2.toArray 89 (0, 0))) := b2
  obtain ⟨ua, uc, rfl⟩ := sr.shape
  rw [← htl, ← ht]
  have x1 : (i : Int) ≤ (j : Int) := by omega
  have x2 : (j : Int) ≤ (c : Int) := by omega
  have x3 : ((i : Int) == (j : Int)) = false := by simp; omega
  have x4 : ((j : Int) == (n : Int)) = false := by simp; omega
  have x5 : (i : Int) ≤ (c : Int) := by omega
  have x6 : (j : Int) ≤ (n : Int) := by omega
  have x7 : IntKind.i64.wrap ((i : Int) + (m : Int)) = ((i + m : Nat) : Int) := by rw [IntKind.wrap_i64]; omega
  have x8 : IntKind.i64.wrap (((i + m : Nat) : Int) + ((n - j : Nat) : Int)) = (t : Int) := by rw [IntKind.wrap_i64]; omega
  have x9 : decide ((c : Int) < (t : Int)) = false := by simp; omega
  have x10 : (t : Int) ≤ (c : Int) := by omega
  have x11 : decide (((i + m : Nat) : Int) ≤ (j : Int)) = true := by simp; omega
  have x12 : (i : Int) ≤ (t : Int) := by omega
  have x13 : ((i + m : Nat) : Int) ≤ (t : Int) := by omega
  have x14 : (t : Int) ≤ (n : Int) := by omega
  have x15 : ¬ c = i := by omega
  have x16 : ¬ c = j := by omega
  have x17 : ¬ c = i + m := by omega
  have x18 : t - (i + m) = n - j := by omega
  have x19 : ¬ ((i : Int) = (j : Int)) := by omega
  have x20 : ¬ ((j : Int) = (n : Int)) := by omega
  have x21 : (0 : Int) ≤ ((i + m : Nat) : Int) := by omega
  have HT : Hid ((i : Int) + (m : Int) + ((n - j : Nat) : Int) = (t : Int)) := by unfold Hid; omega
  have x22 : IntKind.i64.wrap ((i : Int) + (m : Int)) = (i : Int) + (m : Int) := by rw [IntKind.wrap_i64]; omega
  have x23 : decide ((i : Int) + (m : Int) ≤ (j : Int)) = true := by simp; omega
  have x24 : (i : Int) + (m : Int) ≤ (t : Int) := by omega
  have x25 : (0 : Int) ≤ (i : Int) + (m : Int) := by omega
  have x26 : ((i : Int) + (m : Int)).toNat = i + m := by omega
  have x27 : i ≤ t := by omega
  have x28 : i + m ≤ t := by omega
  have x29 : t ≤ n := by omega
  clear cell cp1 cp2 cl3 b1 b2 tsub hfin l1 l2 l3 hL1 hL2 hL3 h1 sr hg hL htl htll hvl ht
  have mixed : Tryz.prog.follows Departure.mixedOrders = true := by kernel_rfl
  have DW : ∀ q, (w.drewN q).heap = w.heap ∧ (w.drewN q).os = w.os ∧ (w.drewN q).tape = w.tape ∧ (w.drewN q).output = w.output := fun q => ⟨rfl, rfl, rfl, rfl⟩
  have HDW : Hid (∀ q, (w.drewN q).heap = w.heap ∧ (w.drewN q).os = w.os ∧ (w.drewN q).tape = w.tape ∧ (w.drewN q).output = w.output) := DW
  clear DW
  by_cases hct : c = t
  · subst hct
    go_enter Tryz.func82, Tryz.ntmps82
    go_upto_region 9 with fail
    go_quiet (fail)
    obtain ⟨W0, hW0⟩ : ∃ W0, W0 = w.drewN nq := ⟨_, rfl⟩
    have HW0 : Hid (W0.heap = w.heap ∧ W0.os = w.os ∧ W0.tape = w.tape ∧ W0.output = w.output) := by unfold Hid; rw [hW0]; exact HDW.out nq
    rw [← hW0, HT.out]
    clear hW0 HT
    have hc1 := HC1.out W0 HW0.out.1
    go_wp2_with fail
    obtain ⟨W1, hW1⟩ : ∃ W1, W1 = W0.setCells g (i * 2) vs := ⟨_, rfl⟩
    have HG1 : Hid (W1.heap[g]? = some (.cells L1.toArray 89 (0, 0))) := by unfold Hid; rw [hW1]; exact HB1.out W0 HW0.out.1
    have HH1 : Hid (W1.heap = (w.setCells g (i * 2) vs).heap ∧ W1.os = w.os ∧ W1.tape = w.tape ∧ W1.output = w.output) := by
      unfold Hid
      rw [hW1]
      have q := HS.out W0 (i * 2) vs
      exact ⟨setCells_heap _ _ _ _ _ HW0.out.1, q.1.trans HW0.out.2.1, q.2.1.trans HW0.out.2.2.1, q.2.2.trans HW0.out.2.2.2⟩
    rw [← hW1]
    clear hW1 hc1 HC1 HB1 HW0
    go_region_law_o (refine step_copy_runI rfl _ _ 23 23 rfl (.slice (some ⟨g, (i + m) * 2, none⟩) (n - j) (n - j)) (.slice (some ⟨g, j * 2, none⟩) (n - j) (c - j)) (by simp [Act.eval, Act.put]) (by simp [Act.eval, Act.put]) (HC2.out W1.drew HG1.out 3 (n - j) (c - j)) ?_)
    obtain ⟨W2, hW2⟩ : ∃ W2, W2 = W1.drew.setCells g ((i + m) * 2) tl := ⟨_, rfl⟩
    have HG2 : Hid (W2.heap[g]? = some (.cells L2.toArray 89 (0, 0))) := by unfold Hid; rw [hW2]; exact HB2.out W1.drew HG1.out
    have HH2 : Hid (W2.heap = ((w.setCells g (i * 2) vs).setCells g ((i + m) * 2) tl).heap ∧ W2.os = w.os ∧ W2.tape = w.tape ∧ W2.output = w.output) := by
      unfold Hid
      rw [hW2]
      have q := HS.out W1.drew ((i + m) * 2) tl
      exact ⟨setCells_heap _ _ _ _ _ HH1.out.1, q.1.trans HH1.out.2.1, q.2.1.trans HH1.out.2.2.1, q.2.2.trans HH1.out.2.2.2⟩
    rw [← hW2]
    clear hW2 HC2 HB2 HG1 HH1
    have hc3 := HZ0.out W2
    have z0 : zs 0 = [] := List.length_eq_zero_iff.1 (by rw [zs_len])
    have HQ : Hid ((W2.setCells g 0 (zs 0)).heap = (((w.setCells g (i * 2) vs).setCells g ((i + m) * 2) tl).setCells g (c * 2) (zs (n - c))).heap) := by
      unfold Hid
      rw [z0, show n - c = 0 by omega, z0]
      exact HH2.out.1
    clear z0
    have HF := HE.out (W2.setCells g 0 (zs 0)) HQ.out ((HS.out _ _ _).1.trans HH2.out.2.1) ((HS.out _ _ _).2.1.trans HH2.out.2.2.1) ((HS.out _ _ _).2.2.trans HH2.out.2.2.2)
    have HFF : Hid (_ ∧ _) := HF
    clear HF HE HS HH2 HG2 HQ
    go_wp2_with fail
    go_ret
    exact ⟨rfl, HFF.out.1, HFF.out.2⟩
  · go_enter Tryz.func82, Tryz.ntmps82
    go_upto_region 9 with fail
    go_quiet (fail)
    obtain ⟨W0, hW0⟩ : ∃ W0, W0 = w.drewN nq := ⟨_, rfl⟩
    have HW0 : Hid (W0.heap = w.heap ∧ W0.os = w.os ∧ W0.tape = w.tape ∧ W0.output = w.output) := by unfold Hid; rw [hW0]; exact HDW.out nq
    rw [← hW0, HT.out]
    clear hW0 HT
    have hc1 := HC1.out W0 HW0.out.1
    go_wp2_with fail
    obtain ⟨W1, hW1⟩ : ∃ W1, W1 = W0.setCells g (i * 2) vs := ⟨_, rfl⟩
    have HG1 : Hid (W1.heap[g]? = some (.cells L1.toArray 89 (0, 0))) := by unfold Hid; rw [hW1]; exact HB1.out W0 HW0.out.1
    have HH1 : Hid (W1.heap = (w.setCells g (i * 2) vs).heap ∧ W1.os = w.os ∧ W1.tape = w.tape ∧ W1.output = w.output) := by
      unfold Hid
      rw [hW1]
      have q := HS.out W0 (i * 2) vs
      exact ⟨setCells_heap _ _ _ _ _ HW0.out.1, q.1.trans HW0.out.2.1, q.2.1.trans HW0.out.2.2.1, q.2.2.trans HW0.out.2.2.2⟩
    rw [← hW1]
    clear hW1 hc1 HC1 HB1 HW0
    go_region_law_o (refine step_copy_runI rfl _ _ 23 23 rfl (.slice (some ⟨g, (i + m) * 2, none⟩) (n - j) (c - (i + m))) (.slice (some ⟨g, j * 2, none⟩) (n - j) (c - j)) (by simp [Act.eval, Act.put]) (by simp [Act.eval, Act.put]) (HC2.out W1.drew HG1.out 3 (c - (i + m)) (c - j)) ?_)
    obtain ⟨W2, hW2⟩ : ∃ W2, W2 = W1.drew.setCells g ((i + m) * 2) tl := ⟨_, rfl⟩
    have HG2 : Hid (W2.heap[g]? = some (.cells L2.toArray 89 (0, 0))) := by unfold Hid; rw [hW2]; exact HB2.out W1.drew HG1.out
    have HH2 : Hid (W2.heap = ((w.setCells g (i * 2) vs).setCells g ((i + m) * 2) tl).heap ∧ W2.os = w.os ∧ W2.tape = w.tape ∧ W2.output = w.output) := by
      unfold Hid
      rw [hW2]
      have q := HS.out W1.drew ((i + m) * 2) tl
      exact ⟨setCells_heap _ _ _ _ _ HH1.out.1, q.1.trans HH1.out.2.1, q.2.1.trans HH1.out.2.2.1, q.2.2.trans HH1.out.2.2.2⟩
    rw [← hW2]
    clear hW2 HC2 HB2 HG1 HH1
    have hc3 := HC3.out W2 HG2.out
    have HF := HE.out (W2.setCells g (t * 2) (zs (n - t))) (setCells_heap _ _ _ _ _ HH2.out.1) ((HS.out _ _ _).1.trans HH2.out.2.1) ((HS.out _ _ _).2.1.trans HH2.out.2.2.1) ((HS.out _ _ _).2.2.trans HH2.out.2.2.2)
    have HFF : Hid (_ ∧ _) := HF
    clear HF HE HS HH2 HG2
    go_wp2_with fail
    go_ret
    exact ⟨rfl, HFF.out.1, HFF.out.2⟩
end Go.Proofs.YtmplpdjkhdaniaaGreatDoor
