/-
  slices.Insert where there is room: in place.
-/
import Derived.Test.YtamjbmbflllbfaaKi
namespace Go.Proofs.Ytamjbmbflllbfaa
open Go.RowKit Go.Shelf

set_option maxHeartbeats 4000000 in
theorem insert_room (g c n i h : Nat) (cur : Array Value) (xp xd : Int) (w : World) (hg : w.heap[g]? = some (.cells cur 45 (0, 0))) (hcs : cur.size = c * 2) (hi : i < n) (hroom : n + 1 ≤ c) (hc : c ≤ maxLen) (hn : n ≤ 1000)
    (h1 : ∀ v ∈ cur.toList.take (n * 2), v.oneCell' = true) (hh : w.heap[h]? = some (.cells #[.int .i64 xp, .int .i64 xd] 45 (0, 0))) (hne : h ≠ g) :
    Calls Try.prog 67 #[.slice (some ⟨g, 0, none⟩) n c, .int .i64 i, .slice (some ⟨h, 0, none⟩) 1 1] w fun e w' => e = .returned (.slice (some ⟨g, 0, none⟩) (n + 1) c) ∧
      (∃ cur' : Array Value, w'.heap[g]? = some (.cells cur' 45 (0, 0)) ∧ cur'.size = c * 2 ∧ cur'.toList.take ((n + 1) * 2) = (cur.toList.take (n * 2)).take (i * 2) ++ [.int .i64 xp, .int .i64 xd] ++ (cur.toList.take (n * 2)).drop (i * 2)) ∧ w.grownBy w' (some g) := by
  have hz2 : ¬ ((i : Int) = (n : Int)) := by omega
  have hmx : c ≤ 9223372036854775807 := by unfold maxLen at hc; omega
  have hov : ∀ lb cb, (callFunc 68 #[.slice (some ⟨h, 0, none⟩) 1 1, .slice (some ⟨g, (i + 1) * 2, none⟩) lb cb]).run Try.prog w = .ok (.value (.bool false)) w := fun lb cb => apart_any w h g _ lb cb cur _ hg hh hne (by omega)
  obtain ⟨cs, hcs'⟩ : ∃ cs, cs = (cur.toList.take (n * 2)).drop (i * 2) := ⟨_, rfl⟩
  have hcl : cs.length = (n - i) * 2 := by rw [hcs', List.length_drop, List.length_take]; simp; omega
  have cell : ∀ j, w.cell? ⟨g, j, none⟩ = cur[j]? := fun j => by simp [World.cell?, hg]
  have froz : ∀ j, w.frozen? ⟨g, j, none⟩ = false := fun j => by simp [World.frozen?, hg]
  have hsp : ∀ j, j < c * 2 → (w.cell? ⟨g, j, none⟩).isSome = true := fun j hj => by rw [cell, Array.getElem?_eq_getElem (by omega)]; rfl
  have hcc : ∀ j v, cs[j]? = some v → w.cell? ⟨g, i * 2 + j, none⟩ = some v := fun j v hj => by
    rw [hcs', List.getElem?_drop, List.getElem?_take] at hj
    split at hj
    · rw [cell]; simpa using hj
    · cases hj
  have hcp1 : ∀ ty dc sc, (Builtin.copy_ #[35, 35] ty #[.slice (some ⟨g, (i + 1) * 2, none⟩) (n - i) dc, .slice (some ⟨g, i * 2, none⟩) (n + 1 - i) sc]).run Try.prog w.drew = .ok (goInt ((n - i : Nat) : Int)) (w.drew.setCells g ((i + 1) * 2) cs) := fun ty dc sc =>
    run_copy_three w.drew _ _ ty 45 g ((i + 1) * 2) (n - i) dc ⟨g, i * 2, none⟩ (n + 1 - i) sc cs (n - i) Try.underlying35 size3 (by simp only [Nat.min_def]; split <;> omega) hcl
      (fun j v hj => by rw [Addr.add_lit]; exact hcc j v hj) (fun j hj => hsp _ (by omega)) (fun j hj => froz _) (fun v hv => h1 v (by rw [hcs'] at hv; exact List.mem_of_mem_drop hv))
  obtain ⟨W1, hW1⟩ : ∃ W1, W1 = w.drew.setCells g ((i + 1) * 2) cs := ⟨_, rfl⟩
  have hsp1 : ∀ k, k < c * 2 → (W1.cell? ⟨g, k, none⟩).isSome = true := fun k hk => by
    rw [hW1]
    exact isSome_setCells g cs ((i + 1) * 2) w.drew (fun j hj => hsp _ (by omega)) _ (hsp k hk)
  have hcp2 : ∀ (W : World), (∀ x, W.cell? x = W1.cell? x) → (∀ x, W.frozen? x = W1.frozen? x) → ∀ ty dc, (Builtin.copy_ #[35, 35] ty #[.slice (some ⟨g, i * 2, none⟩) (n + 1 - i) dc, .slice (some ⟨h, 0, none⟩) 1 1]).run Try.prog W = .ok (goInt 1) (W.setCells g (i * 2) [.int .i64 xp, .int .i64 xd]) := fun W hWc hWf ty dc =>
    run_copy_three W _ _ ty 45 g (i * 2) (n + 1 - i) dc ⟨h, 0, none⟩ 1 1 [.int .i64 xp, .int .i64 xd] 1 Try.underlying35 size3 (by simp only [Nat.min_def]; split <;> omega) rfl
      (fun j v hj => by
        rw [Addr.add_lit, hWc, hW1, World.cell?_setCells_out g _ _ _ _ (fun h _ => absurd h hne)]
        show w.cell? _ = _
        simp only [World.cell?, hh, Nat.zero_add]
        simpa using hj)
      (fun j hj => by rw [hWc]; exact hsp1 _ (by simp at hj; omega)) (fun j hj => by rw [hWf, hW1, World.frozen?_setCells]; exact froz _) (fun v hv => by
        simp only [List.mem_cons, List.not_mem_nil, or_false] at hv
        rcases hv with rfl | rfl <;> rfl)
  obtain ⟨A1, a1, a2⟩ := setCells_block g cs ((i + 1) * 2) w.drew cur 45 hg (by omega)
  have HE : Hid (∀ W : World, W.heap = (W1.setCells g (i * 2) [.int .i64 xp, .int .i64 xd]).heap → W.os = w.os → W.tape = w.tape → W.output = w.output → (∃ cur' : Array Value, W.heap[g]? = some (.cells cur' 45 (0, 0)) ∧ cur'.size = c * 2 ∧ cur'.toList.take ((n + 1) * 2) = (cur.toList.take (n * 2)).take (i * 2) ++ [.int .i64 xp, .int .i64 xd] ++ (cur.toList.take (n * 2)).drop (i * 2)) ∧ w.grownBy W (some g)) := fun W e1 e2 e3 e4 => by
    have la : A1.toList.length = c * 2 := by
      rw [a2, List.length_append, List.length_append, List.length_take, List.length_drop, hcl]
      simp only [Array.length_toList, hcs]
      omega
    obtain ⟨A2, b1, b2⟩ := setCells_block g [.int .i64 xp, .int .i64 xd] (i * 2) W1 A1 45 (by rw [hW1]; exact a1) (by rw [← Array.length_toList, la]; simp; omega)
    have lb : A2.toList.length = c * 2 := by
      rw [b2, List.length_append, List.length_append, List.length_take, List.length_drop, la]
      simp only [List.length_cons, List.length_nil]
      omega
    refine ⟨⟨A2, by rw [e1]; exact b1, by rw [← Array.length_toList]; exact lb, ?_⟩, e2, e3, e4, by rw [e1, (setCells_size _ _ _ _).1, hW1, (setCells_size _ _ _ _).1]; exact Nat.le_refl _, fun k hk hne => ?_⟩
    · have t1 : A1.toList.take (i * 2) = cur.toList.take (i * 2) := by
        rw [a2, List.append_assoc, List.take_append_of_le_length (by rw [List.length_take]; simp; omega), List.take_take]
        congr 1
        omega
      have t2 : A1.toList.drop (i * 2 + 2) = cs ++ cur.toList.drop ((i + 1) * 2 + cs.length) := by
        rw [a2, List.append_assoc]
        exact List.drop_left' (by rw [List.length_take]; simp; omega)
      rw [b2]
      simp only [List.length_cons, List.length_nil]
      rw [t1, t2, List.append_assoc, List.append_assoc, ← hcs']
      rw [List.take_take, Nat.min_eq_left (by omega)]
      have e5 : cur.toList.take (i * 2) ++ ([Value.int .i64 xp, .int .i64 xd] ++ (cs ++ cur.toList.drop ((i + 1) * 2 + cs.length))) = (cur.toList.take (i * 2) ++ ([Value.int .i64 xp, .int .i64 xd] ++ cs)) ++ cur.toList.drop ((i + 1) * 2 + cs.length) := by simp
      rw [e5]
      rw [List.take_left' (by rw [List.length_append, List.length_append, List.length_take, hcl]; simp; omega)]
    · rw [e1, setCells_other _ _ _ _ _ (fun e => hne (by rw [e])), hW1, setCells_other _ _ _ _ _ (fun e => hne (by rw [e]))]
      rfl
  have hq : w.drew.heap = w.heap := rfl
  have HS1 : Hid (W1.os = w.os ∧ W1.tape = w.tape ∧ W1.output = w.output) := by
    unfold Hid
    rw [hW1]
    exact (setCells_size _ _ _ _).2
  have HS2 : Hid (∀ W : World, (W.setCells g (i * 2) [.int .i64 xp, .int .i64 xd]).os = W.os ∧ (W.setCells g (i * 2) [.int .i64 xp, .int .i64 xd]).tape = W.tape ∧ (W.setCells g (i * 2) [.int .i64 xp, .int .i64 xd]).output = W.output) := fun W => (setCells_size _ _ _ _).2
  rw [← hW1] at hcp1
  have hw1 : IntKind.i64.wrap ((i : Int) + 1) = (i : Int) + 1 := by rw [IntKind.wrap_i64]; omega
  have hw2 : IntKind.i64.wrap ((n : Int) + 1) = (n : Int) + 1 := by rw [IntKind.wrap_i64]; omega
  have hb1 : (0 : Int) ≤ (i : Int) + 1 := by omega
  have hin : i ≤ n := by omega
  have htn : ((i : Int) + 1).toNat = i + 1 := by omega
  have hb2 : ¬ (c = i + 1) := by omega
  have hb3 : (i : Int) ≤ (n : Int) + 1 := by omega
  have hb4 : ¬ (c = i) := by omega
  have hb5 : ¬ ((c : Int) < (n : Int) + 1) := by omega
  clear cell froz hsp hcc hsp1 a1 a2 hcl hcs' hg hh h1 hcs hq hW1
  go_enter Try.func67, Try.ntmps67
  go_wp2_with (simp only [hov])
  have mixed : Try.prog.follows Departure.mixedOrders = true := by kernel_rfl
  go_region_law_o (refine step_copy_runI rfl _ _ 35 35 rfl _ _ (by simp [Act.eval, Act.put]) (by simp [Act.eval, Act.put]) (hcp1 _ _ _) ?_)
  go_wp2_with (at_builtin; refine wpList_copy_runI _ rfl _ _ 35 35 rfl _ _ rfl rfl (hcp2 _ (fun _ => rfl) (fun _ => rfl) _ _) ?_)
  go_ret
  exact ⟨rfl, HE.out _ rfl (by rw [(HS2.out _).1]; exact HS1.out.1) (by rw [(HS2.out _).2.1]; exact HS1.out.2.1) (by rw [(HS2.out _).2.2]; exact HS1.out.2.2)⟩
end Go.Proofs.Ytamjbmbflllbfaa
