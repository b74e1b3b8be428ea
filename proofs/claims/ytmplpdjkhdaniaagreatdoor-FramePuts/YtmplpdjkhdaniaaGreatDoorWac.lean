/-
  slices.Insert where there is no room: a new row.
-/
import Derived.Test.YtmplpdjkhdaniaaGreatDoorWab
namespace Go.Proofs.YtmplpdjkhdaniaaGreatDoor
open Go.RowKit Go.Shelf

theorem heap_new (w : World) (o : Obj) (n : Nat) (h : n = w.heap.size) : (w.alloc o).heap[n]? = some o := by rw [h]; exact heap_alloc_new _ _
theorem zero3 (k : Nat) : (Builtin.zeroCells (Value.agg #[.int .i64 0, .int .i64 0]).cells k).size = k * 2 := by
  simp [Builtin.zeroCells, Value.cells]
set_option maxHeartbeats 4000000 in
set_option maxRecDepth 100000 in
theorem insert_grow (g c n i h : Nat) (cur : Array Value) (xp xd : Int) (w : World) (hg : w.heap[g]? = some (.cells cur 89 (0, 0))) (hcs : cur.size = c * 2) (hi : i < n) (hnc : n ≤ c) (hroom : c < n + 1) (hn : n ≤ 1000)
    (h1 : ∀ v ∈ cur.toList.take (n * 2), v.oneCell' = true) (hh : w.heap[h]? = some (.cells #[.int .i64 xp, .int .i64 xd] 89 (0, 0))) :
    Calls Tryz.prog 93 #[.slice (some ⟨g, 0, none⟩) n c, .int .i64 i, .slice (some ⟨h, 0, none⟩) 1 1] w fun e w' => ∃ cap, e = .returned (.slice (some ⟨w.heap.size, 0, none⟩) (n + 1) cap) ∧ n + 1 ≤ cap ∧ cap ≤ maxLen ∧
      (∃ cur' : Array Value, w'.heap[w.heap.size]? = some (.cells cur' 89 (0, 0)) ∧ cur'.size = cap * 2 ∧ cur'.toList.take ((n + 1) * 2) = (cur.toList.take (n * 2)).take (i * 2) ++ [.int .i64 xp, .int .i64 xd] ++ (cur.toList.take (n * 2)).drop (i * 2)) ∧ w.grownBy w' none := by
  obtain ⟨i0, hi0, hz0, hzs, hzb⟩ := info_parts infoN
  have hz2 : ¬ ((i : Int) = (n : Int)) := by omega
  have hz3 : (c : Int) < (n : Int) + 1 := by omega
  have hgw : g < w.heap.size := lt_of_block hg
  have hhw : h < w.heap.size := lt_of_block hh
  obtain ⟨hd0, has⟩ : ∃ hd0, hd0 = (cur.toList.take (n * 2)).take (i * 2) := ⟨_, rfl⟩
  obtain ⟨cs, hcs'⟩ : ∃ cs, cs = (cur.toList.take (n * 2)).drop (i * 2) := ⟨_, rfl⟩
  have hal : hd0.length = i * 2 := by rw [has, List.length_take, List.length_take]; simp; omega
  have hcl : cs.length = (n - i) * 2 := by rw [hcs', List.length_drop, List.length_take]; simp; omega
  have cell : ∀ j, w.cell? ⟨g, j, none⟩ = cur[j]? := fun j => by simp [World.cell?, hg]
  have hold : (Builtin.firstCells i0.size i (.slice (some ⟨g, 0, none⟩) i c)).run Tryz.prog w.drew = .ok hd0.toArray w.drew := by
    rw [hzs]
    exact run_firstCells_some w.drew 2 i ⟨g, 0, none⟩ i c hd0 hal (fun j v hj => by
      rw [Addr.add_lit, Nat.zero_add]
      show w.cell? _ = _
      rw [has, List.getElem?_take] at hj
      split at hj
      · rw [List.getElem?_take] at hj
        split at hj
        · rw [cell]; simpa using hj
        · cases hj
      · cases hj)
  have hik : i + (n + 1 - i) = n + 1 := by omega
  have hkk : (n : Int) + 1 - (i : Int) = ((n + 1 - i : Nat) : Int) := by omega
  have hrz : ∀ ty, (Builtin.append_ #[23, 3] ty #[.slice (some ⟨g, 0, none⟩) i c, .int .i64 ((n : Int) + 1 - (i : Int))]).run Tryz.prog w =
      .ok (.slice (some ⟨w.heap.size, 0, none⟩) (n + 1) (grownCap w (n + 1) c 89)) (w.drew.alloc (.cells (hd0.toArray ++ Builtin.zeroCells (Value.agg #[.int .i64 0, .int .i64 0]).cells (n + 1 - i) ++ Builtin.zeroCells (Value.agg #[.int .i64 0, .int .i64 0]).cells (grownCap w (n + 1) c 89 - (n + 1))) 89)) := fun ty => by
    have h := Lib.run_append_grow_zeros w 23 3 ty 89 i0 _ .i64 .i64 Tryz.underlying23 Tryz.underlying3 hi0 hz0 (some ⟨g, 0, none⟩) i c hd0 hold (n + 1 - i) (by omega) (by omega) (by omega) (by omega) (by rw [hzb]; omega) (by rw [hzb, hik]; exact growslice_fits hroom (by omega))
    rw [hik] at h
    rw [hkk]
    exact h
  obtain ⟨G, hG⟩ : ∃ G, G = grownCap w (n + 1) c 89 := ⟨_, rfl⟩
  have hGn : n + 1 ≤ G := by rw [hG]; exact grownCap_ge w _ _ _
  have hGm : G ≤ maxLen := by rw [hG]; exact grownCap_le_maxLen w (n + 1) c 89 (by unfold maxLen; omega)
  obtain ⟨ROW, hROW⟩ : ∃ ROW : Array Value, ROW = hd0.toArray ++ Builtin.zeroCells (Value.agg #[.int .i64 0, .int .i64 0]).cells (n + 1 - i) ++ Builtin.zeroCells (Value.agg #[.int .i64 0, .int .i64 0]).cells (G - (n + 1)) := ⟨_, rfl⟩
  rw [← hG] at hrz
  rw [← hROW] at hrz
  have hRl : ROW.size = G * 2 := by
    rw [hROW, Array.size_append, Array.size_append, zero3, zero3]
    simp [hal]
    omega
  have hRt : ROW.toList.take (i * 2) = hd0 := by
    rw [hROW, Array.toList_append, Array.toList_append, List.append_assoc]
    exact List.take_left' hal
  obtain ⟨W1, hW1⟩ : ∃ W1, W1 = w.drew.alloc (.cells ROW 89) := ⟨_, rfl⟩
  rw [← hW1] at hrz
  have hN : ∀ j, j < (n + 1) * 2 → (W1.cell? ⟨w.heap.size, j, none⟩).isSome = true := fun j hj => by
    rw [hW1, World.cell?_alloc_at (w := w.drew) ROW _ w.heap.size j rfl, Array.getElem?_eq_getElem (by omega)]; rfl
  have hNf : ∀ j, W1.frozen? ⟨w.heap.size, j, none⟩ = false := fun j => by rw [hW1]; exact World.frozen?_alloc_at (w := w.drew) ROW _ w.heap.size j rfl
  have hOb : ∀ j v, w.cell? ⟨g, j, none⟩ = some v → W1.cell? ⟨g, j, none⟩ = some v := fun j v h => by rw [hW1, World.cell?_alloc_past (w := w.drew) _ g j hgw]; exact h
  have hOv : ∀ j v, w.cell? ⟨h, j, none⟩ = some v → W1.cell? ⟨h, j, none⟩ = some v := fun j v h' => by rw [hW1, World.cell?_alloc_past (w := w.drew) _ h j hhw]; exact h'
  have hX : ∀ v ∈ [Value.int .i64 xp, .int .i64 xd], v.oneCell' = true := fun v hv => by
    simp only [List.mem_cons, List.not_mem_nil, or_false] at hv
    rcases hv with rfl | rfl <;> rfl
  have hcpA : ∀ (W : World), (∀ x, W.cell? x = W1.cell? x) → (∀ x, W.frozen? x = W1.frozen? x) → ∀ ty dc, (Builtin.copy_ #[23, 23] ty #[.slice (some ⟨w.heap.size, i * 2, none⟩) (n + 1 - i) dc, .slice (some ⟨h, 0, none⟩) 1 1]).run Tryz.prog W = .ok (goInt 1) (W.setCells w.heap.size (i * 2) [.int .i64 xp, .int .i64 xd]) := fun W hWc hWf ty dc =>
    run_copy_three W _ _ ty 89 w.heap.size (i * 2) (n + 1 - i) dc ⟨h, 0, none⟩ 1 1 [.int .i64 xp, .int .i64 xd] 1 Tryz.underlying23 size3 (by simp only [Nat.min_def]; split <;> omega) rfl
      (fun j v hj => by
        rw [Addr.add_lit, hWc]
        refine hOv _ v ?_
        simp only [World.cell?, hh, Nat.zero_add]
        simpa using hj)
      (fun j hj => by rw [hWc]; exact hN _ (by simp at hj; omega)) (fun j hj => by rw [hWf]; exact hNf _) hX
  have hbN : g ≠ w.heap.size := by omega
  have hcpB : ∀ (W : World), (∀ x, W.cell? x = (W1.setCells w.heap.size (i * 2) [.int .i64 xp, .int .i64 xd]).cell? x) → (∀ x, W.frozen? x = (W1.setCells w.heap.size (i * 2) [.int .i64 xp, .int .i64 xd]).frozen? x) → ∀ ty dc sc, (Builtin.copy_ #[23, 23] ty #[.slice (some ⟨w.heap.size, (i + 1) * 2, none⟩) (n - i) dc, .slice (some ⟨g, i * 2, none⟩) (n - i) sc]).run Tryz.prog W = .ok (goInt ((n - i : Nat) : Int)) (W.setCells w.heap.size ((i + 1) * 2) cs) := fun W hWc hWf ty dc sc =>
    run_copy_three W _ _ ty 89 w.heap.size ((i + 1) * 2) (n - i) dc ⟨g, i * 2, none⟩ (n - i) sc cs (n - i) Tryz.underlying23 size3 (by simp only [Nat.min_def]; split <;> omega) hcl
      (fun j v hj => by
        rw [Addr.add_lit, hWc, World.cell?_setCells_out _ _ _ _ _ (fun h _ => absurd h hbN)]
        refine hOb _ v ?_
        rw [hcs', List.getElem?_drop, List.getElem?_take] at hj
        split at hj
        · rw [cell]; simpa using hj
        · cases hj)
      (fun j hj => by rw [hWc]; exact isSome_setCells _ [Value.int .i64 xp, .int .i64 xd] (i * 2) W1 (fun t ht => hN _ (by simp at ht; omega)) _ (hN _ (by omega)))
      (fun j hj => by rw [hWf, World.frozen?_setCells]; exact hNf _) (fun v hv => h1 v (by rw [hcs'] at hv; exact List.mem_of_mem_drop hv))
  obtain ⟨W2, hW2⟩ : ∃ W2, W2 = (W1.setCells w.heap.size (i * 2) [.int .i64 xp, .int .i64 xd]).setCells w.heap.size ((i + 1) * 2) cs := ⟨_, rfl⟩
  have HE : Hid (∀ W : World, W.heap = W2.heap → W.os = W2.os → W.tape = W2.tape → W.output = W2.output → (∃ cur' : Array Value, W.heap[w.heap.size]? = some (.cells cur' 89 (0, 0)) ∧ cur'.size = G * 2 ∧ cur'.toList.take ((n + 1) * 2) = (cur.toList.take (n * 2)).take (i * 2) ++ [.int .i64 xp, .int .i64 xd] ++ (cur.toList.take (n * 2)).drop (i * 2)) ∧ w.grownBy W none) := fun W e1 e2 e3 e4 => by
    obtain ⟨A1, a1, a2⟩ := setCells_block w.heap.size [.int .i64 xp, .int .i64 xd] (i * 2) W1 ROW 89 (by rw [hW1]; exact heap_new _ _ _ rfl) (by rw [hRl]; simp; omega)
    have la : A1.toList.length = G * 2 := by
      rw [a2, List.length_append, List.length_append, List.length_take, List.length_drop]
      simp only [Array.length_toList, hRl, List.length_cons, List.length_nil]
      omega
    obtain ⟨A2, b1, b2⟩ := setCells_block w.heap.size cs ((i + 1) * 2) _ A1 89 a1 (by rw [← Array.length_toList, la]; omega)
    have lb : A2.toList.length = G * 2 := by
      rw [b2, List.length_append, List.length_append, List.length_take, List.length_drop, la, hcl]
      omega
    obtain ⟨z1, z2, z3, z4⟩ := setCells_size w.heap.size cs ((i + 1) * 2) (W1.setCells w.heap.size (i * 2) [.int .i64 xp, .int .i64 xd])
    obtain ⟨y1, y2, y3, y4⟩ := setCells_size w.heap.size [.int .i64 xp, .int .i64 xd] (i * 2) W1
    refine ⟨⟨A2, by rw [e1, hW2]; exact b1, by rw [← Array.length_toList]; exact lb, ?_⟩, ?_, ?_, ?_, ?_, fun k hk _ => ?_⟩
    · rw [b2, ← has, ← hcs', a2, hRt]
      have t1 : (hd0 ++ [Value.int .i64 xp, .int .i64 xd] ++ ROW.toList.drop (i * 2 + [Value.int .i64 xp, .int .i64 xd].length)).take ((i + 1) * 2) = hd0 ++ [Value.int .i64 xp, .int .i64 xd] :=
        List.take_left' (by rw [List.length_append, hal]; simp; omega)
      rw [t1]
      exact List.take_left' (by rw [List.length_append, List.length_append, hal, hcl]; simp; omega)
    · rw [e2, hW2, z2, y2, hW1]; rfl
    · rw [e3, hW2, z3, y3, hW1]; rfl
    · rw [e4, hW2, z4, y4, hW1]; rfl
    · rw [e1, hW2, z1, y1, hW1]; simp
    · rw [e1, hW2, setCells_other _ _ _ _ _ (by omega), setCells_other _ _ _ _ _ (by omega), hW1]
      exact Below.heap_alloc w.drew _ k hk
  have hG63 : G ≤ 9223372036854775807 := by unfold maxLen at hGm; omega
  have HGN : Hid (n + 1 ≤ G ∧ G ≤ maxLen) := ⟨hGn, hGm⟩
  have hGi : ¬ (G = i) := by omega
  have hGim : ¬ (G = i + 1) := by omega
  have hci : ¬ (c = i) := by omega
  have HW2 : Hid (W2 = (W1.setCells w.heap.size (i * 2) [.int .i64 xp, .int .i64 xd]).setCells w.heap.size ((i + 1) * 2) cs) := hW2
  have HW1 : Hid (W1 = w.drew.alloc (.cells ROW 89)) := hW1
  subst hW1
  have hE1 : ∀ x, ((w.alloc (.cells ROW 89)).drew).cell? x = (w.drew.alloc (.cells ROW 89)).cell? x := fun x => rfl
  have hE2 : ∀ x, ((w.alloc (.cells ROW 89)).drew).frozen? x = (w.drew.alloc (.cells ROW 89)).frozen? x := fun x => rfl
  have hF1 : ∀ x, (((w.alloc (.cells ROW 89)).drew.setCells w.heap.size (i * 2) [.int .i64 xp, .int .i64 xd]).drew).cell? x = ((w.drew.alloc (.cells ROW 89)).setCells w.heap.size (i * 2) [.int .i64 xp, .int .i64 xd]).cell? x := fun x => rfl
  have hF2 : ∀ x, (((w.alloc (.cells ROW 89)).drew.setCells w.heap.size (i * 2) [.int .i64 xp, .int .i64 xd]).drew).frozen? x = ((w.drew.alloc (.cells ROW 89)).setCells w.heap.size (i * 2) [.int .i64 xp, .int .i64 xd]).frozen? x := fun x => rfl
  have hw1 : IntKind.i64.wrap ((i : Int) + 1) = (i : Int) + 1 := by rw [IntKind.wrap_i64]; omega
  have hw2 : IntKind.i64.wrap ((n : Int) + 1) = (n : Int) + 1 := by rw [IntKind.wrap_i64]; omega
  have hw3 : IntKind.i64.wrap ((n : Int) + 1 - (i : Int)) = (n : Int) + 1 - (i : Int) := by rw [IntKind.wrap_i64]; omega
  have hb1 : (0 : Int) ≤ (i : Int) + 1 := by omega
  have hin : i ≤ n := by omega
  have htn : ((i : Int) + 1).toNat = i + 1 := by omega
  have hb3 : (i : Int) ≤ (n : Int) := by omega
  have mixed : Tryz.prog.follows Departure.mixedOrders = true := by kernel_rfl
  clear hkk hik hold hROW hG hRl hRt hN hNf hOb hOv hX cell hal hcl has hcs' hg hh h1 hcs hW2 hGn hGm
  go_enter Tryz.func93, Tryz.ntmps93
  go_wp2_with (first
    | (at_builtin; refine Lib.wpList_append_run _ rfl _ _ _ _ rfl _ _ rfl rfl _ _ (hrz _) ?_)
    | (at_builtin; refine wpList_copy_runI _ rfl _ _ 23 23 rfl _ _ rfl rfl (hcpA _ hE1 hE2 _ _) ?_)
    | (at_builtin; refine wpList_copy_runI _ rfl _ _ 23 23 rfl _ _ rfl rfl (hcpB _ (fun _ => rfl) (fun _ => rfl) _ _ _) ?_))
  go_region_law_o (refine step_copy_runI rfl _ _ 23 23 rfl (.slice (some ⟨w.heap.size, (i + 1) * 2, none⟩) (n - i) (G - (i + 1))) (.slice (some ⟨g, i * 2, none⟩) (n - i) (c - i)) (by simp [Act.eval, Act.put]) (by simp [Act.eval, Act.put]) (hcpB _ hF1 hF2 3 (G - (i + 1)) (c - i)) ?_)
  go_wp2
  go_ret
  refine ⟨G, rfl, HGN.out.1, HGN.out.2, HE.out _ ?_ ?_ ?_ ?_⟩ <;> (rw [HW2.out, ← drew_setCells]; rfl)
end Go.Proofs.YtmplpdjkhdaniaaGreatDoor
