/-
  What slices.Replace answers where what comes is longer, and there is room.
-/
import Derived.Deep.DeepCutAuto
import Derived.Deep.QuietTactic
import Derived.BigQuiet
import Derived.Test.YtmplpdjkhdaniaaGreatDoorWaj
namespace Go.Proofs.YtmplpdjkhdaniaaGreatDoor
open Go.RowKit Go.Shelf
set_option maxRecDepth 100000

theorem apart2 (W : World) (h g o lb cb m mc : Nat) (L : List Value) (x : Array Value) (hg : W.heap[g]? = some (.cells L.toArray 89 (0, 0))) (hh : W.heap[h]? = some (.cells x 89 (0, 0))) (hne : h ≠ g) (h0 : x.size ≠ 0) :
    (callFunc 94 #[.slice (some ⟨g, o, none⟩) lb cb, .slice (some ⟨h, 0, none⟩) m mc]).run Tryz.prog W = .ok (.value (.bool false)) W := by
  have hsa : W.shape? h = some (89, x.size) := by simp [World.shape?, hh]
  have hsb : W.shape? g = some (89, L.toArray.size) := by simp [World.shape?, hg]
  have hfa : W.frozen? ⟨g, o, none⟩ = false := by simp [World.frozen?, hg]
  have hfe : W.frozen? ⟨g, L.toArray.size, none⟩ = false := by simp [World.frozen?, hg]
  rw [run_callFunc_extern Tryz.func94 (by kernel_rfl) (by kernel_rfl) (by kernel_rfl) (e := Extern.SlicesOverlaps.overlaps #[23, 23] #[4]) (by kernel_rfl),
    Lib.run_overlaps_apart W 23 4 89 Tryz.underlying23 2 Tryz.sizeOf89 ⟨g, o, none⟩ ⟨h, 0, none⟩ lb cb m mc (fun e => hne e.symm) _ _ _ _ hsb hsa h0 hfa hfe]
  rfl
set_option maxHeartbeats 4000000 in
theorem rep_exp (g c n i j m h mc : Nat) (L vs : List Value) (xs : Array Value) (w : World) (hg : w.heap[g]? = some (.cells L.toArray 89 (0, 0))) (hL : L.length = c * 2) (hij : i < j) (hj : j < n) (him : j < i + m) (htc : i + m + (n - j) ≤ c) (hc : c ≤ maxLen) (hn : n ≤ 1000) (hm : m ≤ 1000)
    (h1 : ∀ y ∈ L.take (n * 2), y.oneCell' = true) (sr : Sr w g (.slice (some ⟨h, 0, none⟩) m mc) m vs) (hh : w.heap[h]? = some (.cells xs 89 (0, 0))) (hne : h ≠ g) (hx0 : xs.size ≠ 0) :
    Calls Tryz.prog 82 #[.slice (some ⟨g, 0, none⟩) n c, .int .i64 i, .int .i64 j, .slice (some ⟨h, 0, none⟩) m mc] w fun e w' => e = .returned (.slice (some ⟨g, 0, none⟩) (i + m + (n - j)) c) ∧
      (∃ L' : List Value, w'.heap[g]? = some (.cells L'.toArray 89 (0, 0)) ∧ L'.length = c * 2 ∧ L'.take ((i + m + (n - j)) * 2) = (L.take (n * 2)).take (i * 2) ++ vs ++ (L.take (n * 2)).drop (j * 2)) ∧ w.grownBy w' (some g) := by
  have hmx : c ≤ 9223372036854775807 := by unfold maxLen at hc; omega
  obtain ⟨tl, htl⟩ : ∃ tl, tl = (L.take (n * 2)).drop (j * 2) := ⟨_, rfl⟩
  have htll : tl.length = (n - j) * 2 := by rw [htl, List.length_drop, List.length_take]; omega
  have hvl := sr.1
  obtain ⟨t, ht⟩ : ∃ t, t = i + m + (n - j) := ⟨_, rfl⟩
  obtain ⟨L1, hL1⟩ : ∃ L1, L1 = upd ((i + m) * 2) tl L := ⟨_, rfl⟩
  obtain ⟨L2, hL2⟩ : ∃ L2, L2 = upd (i * 2) vs L1 := ⟨_, rfl⟩
  have l1 : L1.length = c * 2 := by rw [hL1, upd_len (by omega), hL]
  have l2 : L2.length = c * 2 := by rw [hL2, upd_len (by omega), l1]
  have cell : ∀ (W : World) (M : List Value), W.heap[g]? = some (.cells M.toArray 89 (0, 0)) → M.length = c * 2 → (∀ k, k < c * 2 → (W.cell? ⟨g, k, none⟩).isSome = true) ∧ (∀ k, W.frozen? ⟨g, k, none⟩ = false) := fun W M hM hl =>
    ⟨fun k hk => by simp only [World.cell?, hM]; rw [List.getElem?_toArray, List.getElem?_eq_getElem (by omega)]; rfl, fun k => by simp [World.frozen?, hM]⟩
  have tsub : ∀ k y, tl[k]? = some y → L[j * 2 + k]? = some y := fun k y hk => by
    rw [htl, List.getElem?_drop, List.getElem?_take] at hk
    split at hk
    · exact hk
    · cases hk
  have cp1 : ∀ W : World, W.heap = w.heap → ∀ ty dc sc, (Builtin.copy_ #[23, 23] ty #[.slice (some ⟨g, (i + m) * 2, none⟩) (n - j) dc, .slice (some ⟨g, j * 2, none⟩) (n - j) sc]).run Tryz.prog W = .ok (goInt ((n - j : Nat) : Int)) (W.setCells g ((i + m) * 2) tl) := fun W hW ty dc sc => by
    obtain ⟨q1, q2⟩ := cell W L (by rw [hW]; exact hg) hL
    exact run_copy_three W _ _ ty 89 g ((i + m) * 2) (n - j) dc ⟨g, j * 2, none⟩ (n - j) sc tl (n - j) Tryz.underlying23 size3 (by simp only [Nat.min_def]; split <;> omega) htll
      (fun k y hk => by rw [Addr.add_lit]; simp only [World.cell?, hW, hg]; rw [List.getElem?_toArray]; exact tsub k y hk) (fun k hk => q1 _ (by omega)) (fun k _ => q2 _) (fun y hy => h1 y (by rw [htl] at hy; exact List.mem_of_mem_drop hy))
  have b1 : ∀ W : World, W.heap = w.heap → (W.setCells g ((i + m) * 2) tl).heap[g]? = some (.cells L1.toArray 89 (0, 0)) := fun W hW => by rw [hL1]; exact upd_block g tl _ W L _ (by rw [hW]; exact hg) (by omega)
  have cp2 : ∀ W : World, W.heap[g]? = some (.cells L1.toArray 89 (0, 0)) → (∀ k, k ≠ g → k < w.heap.size → W.heap[k]? = w.heap[k]?) → ∀ ty dc, (Builtin.copy_ #[23, 23] ty #[.slice (some ⟨g, i * 2, none⟩) (t - i) dc, .slice (some ⟨h, 0, none⟩) m mc]).run Tryz.prog W = .ok (goInt m) (W.setCells g (i * 2) vs) := fun W hW hk ty dc => by
    obtain ⟨q1, q2⟩ := cell W L1 hW l1
    exact run_copy_src W ty g (i * 2) (t - i) dc _ m vs (sr.src hk) sr.shape (by omega) (fun k hk => q1 _ (by omega)) (fun k _ => q2 _)
  have hfin : L2.take (t * 2) = (L.take (n * 2)).take (i * 2) ++ vs ++ tl := by
    have e0 : L2 = L1.take (i * 2) ++ vs ++ L1.drop (i * 2 + vs.length) := by rw [hL2]; rfl
    have e1 : L1.drop (i * 2 + vs.length) = tl ++ L.drop ((i + m) * 2 + tl.length) := by
      rw [show i * 2 + vs.length = (i + m) * 2 by omega, hL1]
      exact upd_drop (by omega)
    have e2 : L1.take (i * 2) = L.take (i * 2) := by rw [hL1]; exact upd_lo (by omega) (by omega)
    rw [e0, e1, e2, ← List.append_assoc, List.take_take, Nat.min_eq_left (show i * 2 ≤ n * 2 by omega)]
    exact List.take_left' (by rw [List.length_append, List.length_append, List.length_take]; omega)
  have HE : Hid (∀ W : World, W.heap = ((w.setCells g ((i + m) * 2) tl).setCells g (i * 2) vs).heap → W.os = w.os → W.tape = w.tape → W.output = w.output → (∃ L' : List Value, W.heap[g]? = some (.cells L'.toArray 89 (0, 0)) ∧ L'.length = c * 2 ∧ L'.take (t * 2) = (L.take (n * 2)).take (i * 2) ++ vs ++ tl) ∧ w.grownBy W (some g)) := fun W e1 e2 e3 e4 => by
    refine ⟨⟨L2, by rw [e1, hL2]; exact upd_block g _ _ _ L1 _ (b1 w rfl) (by omega), l2, hfin⟩, e2, e3, e4, ?_, fun k hk hne => ?_⟩
    · rw [e1, (setCells_size _ _ _ _).1, (setCells_size _ _ _ _).1]; exact Nat.le_refl _
    · rw [e1, setCells_other _ _ _ _ _ (fun e => hne (by rw [e])), setCells_other _ _ _ _ _ (fun e => hne (by rw [e]))]
  have HS : Hid (∀ (W : World) o (xs : List Value), (W.setCells g o xs).os = W.os ∧ (W.setCells g o xs).tape = W.tape ∧ (W.setCells g o xs).output = W.output) := fun W o xs => (setCells_size _ _ _ _).2
  have HOT : Hid (∀ (W : World) o (xs : List Value) k, k ≠ g → (W.setCells g o xs).heap[k]? = W.heap[k]?) := fun W o xs k hk => setCells_other g xs o W k hk
  have HB1 : Hid (∀ W : World, W.heap = w.heap → (W.setCells g ((i + m) * 2) tl).heap[g]? = some (.cells L1.toArray 89 (0, 0))) := b1
  have HC1 : Hid (∀ W : World, W.heap = w.heap → ∀ ty dc sc, (Builtin.copy_ #[23, 23] ty #[.slice (some ⟨g, (i + m) * 2, none⟩) (n - j) dc, .slice (some ⟨g, j * 2, none⟩) (n - j) sc]).run Tryz.prog W = .ok (goInt ((n - j : Nat) : Int)) (W.setCells g ((i + m) * 2) tl)) := cp1
  have HC2 : Hid (∀ W : World, W.heap[g]? = some (.cells L1.toArray 89 (0, 0)) → (∀ k, k ≠ g → k < w.heap.size → W.heap[k]? = w.heap[k]?) → ∀ ty dc, (Builtin.copy_ #[23, 23] ty #[.slice (some ⟨g, i * 2, none⟩) (t - i) dc, .slice (some ⟨h, 0, none⟩) m mc]).run Tryz.prog W = .ok (goInt m) (W.setCells g (i * 2) vs)) := cp2
  have HOV : Hid (∀ W : World, W.heap = w.heap → ∀ o lb cb, (callFunc 94 #[.slice (some ⟨g, o, none⟩) lb cb, .slice (some ⟨h, 0, none⟩) m mc]).run Tryz.prog W = .ok (.value (.bool false)) W) := fun W hW o lb cb => apart2 W h g o lb cb m mc L xs (by rw [hW]; exact hg) (by rw [hW]; exact hh) hne hx0
  rw [← htl, ← ht]
  have x1 : (i : Int) ≤ (j : Int) := by omega
  have x2 : (j : Int) ≤ (c : Int) := by omega
  have x3 : ((i : Int) == (j : Int)) = false := by simp; omega
  have x4 : ((j : Int) == (n : Int)) = false := by simp; omega
  have x5 : (i : Int) ≤ (c : Int) := by omega
  have x6 : (j : Int) ≤ (n : Int) := by omega
  have x7 : IntKind.i64.wrap ((i : Int) + (m : Int)) = ((i + m : Nat) : Int) := by rw [IntKind.wrap_i64]; omega
  have x8 : IntKind.i64.wrap (((i + m : Nat) : Int) + ((n - j : Nat) : Int)) = (t : Int) := by rw [IntKind.wrap_i64]; omega
  have x9 : decide ((c : Int) < (t : Int)) = false := by simp; omega
  have x10 : (t : Int) ≤ (c : Int) := by omega
  have x11 : decide (((i + m : Nat) : Int) ≤ (j : Int)) = false := by simp; omega
  have x12 : (i : Int) ≤ (t : Int) := by omega
  have x13 : ((i + m : Nat) : Int) ≤ (t : Int) := by omega
  have x15 : ¬ c = i := by omega
  have x16 : ¬ c = j := by omega
  have x17 : ¬ c = i + m := by omega
  have x18 : t - (i + m) = n - j := by omega
  have x19 : ¬ ((i : Int) = (j : Int)) := by omega
  have x20 : ¬ ((j : Int) = (n : Int)) := by omega
  have x21 : (0 : Int) ≤ ((i + m : Nat) : Int) := by omega
  have HT : Hid ((i : Int) + (m : Int) + ((n - j : Nat) : Int) = (t : Int)) := by unfold Hid; omega
  have x22 : IntKind.i64.wrap ((i : Int) + (m : Int)) = (i : Int) + (m : Int) := by rw [IntKind.wrap_i64]; omega
  have x23 : decide ((i : Int) + (m : Int) ≤ (j : Int)) = false := by simp; omega
  have x24 : (i : Int) + (m : Int) ≤ (t : Int) := by omega
  have x25 : (0 : Int) ≤ (i : Int) + (m : Int) := by omega
  have x26 : ((i : Int) + (m : Int)).toNat = i + m := by omega
  have x27 : i ≤ t := by omega
  have x28 : i + m ≤ t := by omega
  have x29 : n ≤ c := by omega
  have HDW : Hid (∀ q, (w.drewN q).heap = w.heap ∧ (w.drewN q).os = w.os ∧ (w.drewN q).tape = w.tape ∧ (w.drewN q).output = w.output) := fun q => ⟨rfl, rfl, rfl, rfl⟩
  clear cell cp1 cp2 b1 tsub hfin l1 l2 hL1 hL2 h1 sr hg hL htl htll hvl ht hh hne hx0 htc
  have mixed : Tryz.prog.follows Departure.mixedOrders = true := by kernel_rfl
  go_enter Tryz.func82, Tryz.ntmps82
  go_upto_region 9 with fail
  go_quiet (fail)
  obtain ⟨W0, hW0⟩ : ∃ W0, W0 = w.drewN nq := ⟨_, rfl⟩
  have HW0 : Hid (W0.heap = w.heap ∧ W0.os = w.os ∧ W0.tape = w.tape ∧ W0.output = w.output) := by unfold Hid; rw [hW0]; exact HDW.out nq
  rw [← hW0, HT.out]
  clear hW0 HT HDW
  have hov := HOV.out W0 HW0.out.1
  go_wp2_with (simp only [hov])
  go_region_law_o (refine step_copy_runI rfl _ _ 23 23 rfl (.slice (some ⟨g, (i + m) * 2, none⟩) (n - j) (c - (i + m))) (.slice (some ⟨g, j * 2, none⟩) (n - j) (c - j)) (by simp [Act.eval, Act.put]) (by simp [Act.eval, Act.put]) (HC1.out W0.drew HW0.out.1 3 (c - (i + m)) (c - j)) ?_)
  obtain ⟨W1, hW1⟩ : ∃ W1, W1 = W0.drew.setCells g ((i + m) * 2) tl := ⟨_, rfl⟩
  have HG1 : Hid (W1.heap[g]? = some (.cells L1.toArray 89 (0, 0)) ∧ ∀ k, k ≠ g → k < w.heap.size → W1.heap[k]? = w.heap[k]?) := by
    unfold Hid
    rw [hW1]
    exact ⟨HB1.out W0.drew HW0.out.1, fun k hk _ => by rw [HOT.out _ _ _ k hk]; show W0.heap[k]? = _; rw [HW0.out.1]⟩
  have HH1 : Hid (W1.heap = (w.setCells g ((i + m) * 2) tl).heap ∧ W1.os = w.os ∧ W1.tape = w.tape ∧ W1.output = w.output) := by
    unfold Hid
    rw [hW1]
    have q := HS.out W0.drew ((i + m) * 2) tl
    exact ⟨setCells_heap _ _ _ _ _ HW0.out.1, q.1.trans HW0.out.2.1, q.2.1.trans HW0.out.2.2.1, q.2.2.trans HW0.out.2.2.2⟩
  rw [← hW1]
  clear hW1 hov HOV HC1 HB1 HW0 HOT
  have hc2 := HC2.out W1 HG1.out.1 HG1.out.2
  have HF := HE.out (W1.setCells g (i * 2) vs) (setCells_heap _ _ _ _ _ HH1.out.1) ((HS.out _ _ _).1.trans HH1.out.2.1) ((HS.out _ _ _).2.1.trans HH1.out.2.2.1) ((HS.out _ _ _).2.2.trans HH1.out.2.2.2)
  have HFF : Hid (_ ∧ _) := HF
  clear HF HE HS HH1 HG1 HC2
  go_wp2_with fail
  go_ret
  exact ⟨rfl, HFF.out.1, HFF.out.2⟩
end Go.Proofs.YtmplpdjkhdaniaaGreatDoor
