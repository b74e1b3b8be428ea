/-
  What slices.Insert answers where one entry is laid into a row of the call's own.
  slices.Insert where there is room: in place.
-/
import Derived.Shelf.Spec.SlicesInsertGrow
import Derived.Test.YtmplpdjkhdaniaaGreatDoorWaa
namespace Go.Proofs.YtmplpdjkhdaniaaGreatDoor
open Go.RowKit Go.Shelf
set_option maxRecDepth 100000

theorem infoN : (Tryz.prog.info? 89).map (fun i => (i.zero, i.size, i.bytes)) = some (some (.agg #[.int .i64 0, .int .i64 0]), 2, 16) := by kernel_rfl
theorem lt_of_block {w : World} {b : Nat} {o : Obj} (h : w.heap[b]? = some o) : b < w.heap.size := (Array.getElem?_eq_some_iff.1 h).1

/-- copy, of elements of three cells. -/
theorem run_copy_three (w : World) (dT sT ty elem : TypeId) (b o dLen dCap : Nat) (a : Addr) (sLen sCap : Nat) (cs : List Value) (N : Nat)
    (hu : Tryz.prog.underlying dT = some (.slice elem)) (hs : (Tryz.prog.info? elem).map (·.size) = some 2) (hN : N = Nat.min sLen dLen) (hn : cs.length = N * 2)
    (hsrc : ∀ j v, cs[j]? = some v → w.cell? (a.add j) = some v) (hc : ∀ j, j < cs.length → (w.cell? ⟨b, o + j, none⟩).isSome = true) (hf : ∀ j, j < cs.length → w.frozen? ⟨b, o + j, none⟩ = false) (h1 : ∀ v ∈ cs, v.oneCell' = true) :
    (Builtin.copy_ #[dT, sT] ty #[.slice (some ⟨b, o, none⟩) dLen dCap, .slice (some a) sLen sCap]).run Tryz.prog w = .ok (goInt N) (w.setCells b o cs) := by
  have hl := run_loadCells_list (P := Tryz.prog) w a cs hsrc
  have hst := run_storeCells_cells (P := Tryz.prog) b o cs 0 w (by simpa using hc) (by simpa using hf) h1
  cases hq : Tryz.prog.info? elem with
  | none => simp [hq] at hs
  | some i =>
    have hi : i.size = 2 := by simpa [hq] using hs
    simp [Builtin.copy_, run_underlying hu, Builtin.lenOf, Builtin.firstCells, sizeOf, typeInfo, hq, hi, ← hN, ← hn, hl, hst]
theorem size3 : (Tryz.prog.info? 89).map (·.size) = some 2 := by
  obtain ⟨i0, hi, _, hz1, _⟩ := info_parts infoN
  rw [hi]; simp [hz1]
/-- What is written into a block, one cell behind the other. -/
theorem setCells_block (b : Nat) : ∀ (vs : List Value) (o : Nat) (w : World) (cur : Array Value) (t : TypeId), w.heap[b]? = some (.cells cur t (0, 0)) → o + vs.length ≤ cur.size →
    ∃ cur' : Array Value, (w.setCells b o vs).heap[b]? = some (.cells cur' t (0, 0)) ∧ cur'.toList = cur.toList.take o ++ vs ++ cur.toList.drop (o + vs.length)
  | [], o, w, cur, t, h, _ => ⟨cur, h, by simp⟩
  | v :: r, o, w, cur, t, h, hl => by
    rw [List.length_cons] at hl
    have h2 : (w.setCell ⟨b, o, none⟩ v).heap[b]? = some (.cells (cur.set! o v) t (0, 0)) := by
      simp only [World.setCell, Array.getElem?_modify, if_true, h]
      simp [Array.set!]
    obtain ⟨cur', h3, h4⟩ := setCells_block b r (o + 1) (w.setCell ⟨b, o, none⟩ v) (cur.set! o v) t h2 (by simp; omega)
    refine ⟨cur', h3, ?_⟩
    rw [h4]
    simp only [Array.toList_set!, List.length_cons]
    rw [show o + (r.length + 1) = o + 1 + r.length by omega]
    have e0 : cur.toList.set o v = (cur.toList.take o ++ [v]) ++ cur.toList.drop (o + 1) := by
      rw [List.set_eq_take_append_cons_drop, if_pos (by simp; omega)]
      simp
    have e1 : (cur.toList.set o v).take (o + 1) = cur.toList.take o ++ [v] := by
      rw [e0]
      exact List.take_left' (by rw [List.length_append, List.length_take, List.length_singleton]; simp; omega)
    have e2 : (cur.toList.set o v).drop (o + 1 + r.length) = cur.toList.drop (o + 1 + r.length) := by
      rw [List.drop_set_of_lt (by omega)]
    rw [e1, e2]
    simp
theorem setCells_other (b : Nat) : ∀ (vs : List Value) (o : Nat) (w : World) (k : Nat), k ≠ b → (w.setCells b o vs).heap[k]? = w.heap[k]?
  | [], _, _, _, _ => rfl
  | v :: r, o, w, k, h => by
    rw [World.setCells, setCells_other b r (o + 1) _ k h]
    exact Below.heap_setCell _ _ _ _ h
theorem setCells_size (b : Nat) : ∀ (vs : List Value) (o : Nat) (w : World), (w.setCells b o vs).heap.size = w.heap.size ∧ (w.setCells b o vs).os = w.os ∧ (w.setCells b o vs).tape = w.tape ∧ (w.setCells b o vs).output = w.output
  | [], _, _ => ⟨rfl, rfl, rfl, rfl⟩
  | v :: r, o, w => by
    rw [World.setCells]
    obtain ⟨a, b, c, d⟩ := setCells_size b r (o + 1) (w.setCell ⟨b, o, none⟩ v)
    exact ⟨by rw [a]; simp [World.setCell], b, c, d⟩
/-- Where two lists lie in unlike blocks they do not overlap. -/
theorem apart_any (w : World) (h g o lb cb : Nat) (cur x : Array Value) (hg : w.heap[g]? = some (.cells cur 89 (0, 0))) (hh : w.heap[h]? = some (.cells x 89 (0, 0))) (hne : h ≠ g) (h0 : cur.size ≠ 0) :
    (callFunc 94 #[.slice (some ⟨h, 0, none⟩) 1 1, .slice (some ⟨g, o, none⟩) lb cb]).run Tryz.prog w = .ok (.value (.bool false)) w := by
  have hsa : w.shape? h = some (89, x.size) := by simp [World.shape?, hh]
  have hsb : w.shape? g = some (89, cur.size) := by simp [World.shape?, hg]
  have hfa : w.frozen? ⟨h, 0, none⟩ = false := by simp [World.frozen?, hh]
  have hfe : w.frozen? ⟨h, x.size, none⟩ = false := by simp [World.frozen?, hh]
  rw [run_callFunc_extern Tryz.func94 (by kernel_rfl) (by kernel_rfl) (by kernel_rfl) (e := Extern.SlicesOverlaps.overlaps #[23, 23] #[4]) (by kernel_rfl),
    Lib.run_overlaps_apart w 23 4 89 Tryz.underlying23 2 Tryz.sizeOf89 ⟨h, 0, none⟩ ⟨g, o, none⟩ 1 1 lb cb hne _ _ _ _ hsa hsb h0 hfa hfe]
  rfl
end Go.Proofs.YtmplpdjkhdaniaaGreatDoor
namespace Go.Proofs.YtmplpdjkhdaniaaGreatDoor
open Go.RowKit Go.Shelf

set_option maxHeartbeats 4000000 in
theorem insert_room (g c n i h : Nat) (cur : Array Value) (xp xd : Int) (w : World) (hg : w.heap[g]? = some (.cells cur 89 (0, 0))) (hcs : cur.size = c * 2) (hi : i < n) (hroom : n + 1 ≤ c) (hc : c ≤ maxLen) (hn : n ≤ 1000)
    (h1 : ∀ v ∈ cur.toList.take (n * 2), v.oneCell' = true) (hh : w.heap[h]? = some (.cells #[.int .i64 xp, .int .i64 xd] 89 (0, 0))) (hne : h ≠ g) :
    Calls Tryz.prog 93 #[.slice (some ⟨g, 0, none⟩) n c, .int .i64 i, .slice (some ⟨h, 0, none⟩) 1 1] w fun e w' => e = .returned (.slice (some ⟨g, 0, none⟩) (n + 1) c) ∧
      (∃ cur' : Array Value, w'.heap[g]? = some (.cells cur' 89 (0, 0)) ∧ cur'.size = c * 2 ∧ cur'.toList.take ((n + 1) * 2) = (cur.toList.take (n * 2)).take (i * 2) ++ [.int .i64 xp, .int .i64 xd] ++ (cur.toList.take (n * 2)).drop (i * 2)) ∧ w.grownBy w' (some g) := by
  have hz2 : ¬ ((i : Int) = (n : Int)) := by omega
  have hmx : c ≤ 9223372036854775807 := by unfold maxLen at hc; omega
  have hov : ∀ lb cb, (callFunc 94 #[.slice (some ⟨h, 0, none⟩) 1 1, .slice (some ⟨g, (i + 1) * 2, none⟩) lb cb]).run Tryz.prog w = .ok (.value (.bool false)) w := fun lb cb => apart_any w h g _ lb cb cur _ hg hh hne (by omega)
  obtain ⟨cs, hcs'⟩ : ∃ cs, cs = (cur.toList.take (n * 2)).drop (i * 2) := ⟨_, rfl⟩
  have hcl : cs.length = (n - i) * 2 := by rw [hcs', List.length_drop, List.length_take]; simp; omega
  have cell : ∀ j, w.cell? ⟨g, j, none⟩ = cur[j]? := fun j => by simp [World.cell?, hg]
  have froz : ∀ j, w.frozen? ⟨g, j, none⟩ = false := fun j => by simp [World.frozen?, hg]
  have hsp : ∀ j, j < c * 2 → (w.cell? ⟨g, j, none⟩).isSome = true := fun j hj => by rw [cell, Array.getElem?_eq_getElem (by omega)]; rfl
  have hcc : ∀ j v, cs[j]? = some v → w.cell? ⟨g, i * 2 + j, none⟩ = some v := fun j v hj => by
    rw [hcs', List.getElem?_drop, List.getElem?_take] at hj
    split at hj
    · rw [cell]; simpa using hj
    · cases hj
  have hcp1 : ∀ ty dc sc, (Builtin.copy_ #[23, 23] ty #[.slice (some ⟨g, (i + 1) * 2, none⟩) (n - i) dc, .slice (some ⟨g, i * 2, none⟩) (n + 1 - i) sc]).run Tryz.prog w.drew = .ok (goInt ((n - i : Nat) : Int)) (w.drew.setCells g ((i + 1) * 2) cs) := fun ty dc sc =>
    run_copy_three w.drew _ _ ty 89 g ((i + 1) * 2) (n - i) dc ⟨g, i * 2, none⟩ (n + 1 - i) sc cs (n - i) Tryz.underlying23 size3 (by simp only [Nat.min_def]; split <;> omega) hcl
      (fun j v hj => by rw [Addr.add_lit]; exact hcc j v hj) (fun j hj => hsp _ (by omega)) (fun j hj => froz _) (fun v hv => h1 v (by rw [hcs'] at hv; exact List.mem_of_mem_drop hv))
  obtain ⟨W1, hW1⟩ : ∃ W1, W1 = w.drew.setCells g ((i + 1) * 2) cs := ⟨_, rfl⟩
  have hsp1 : ∀ k, k < c * 2 → (W1.cell? ⟨g, k, none⟩).isSome = true := fun k hk => by
    rw [hW1]
    exact isSome_setCells g cs ((i + 1) * 2) w.drew (fun j hj => hsp _ (by omega)) _ (hsp k hk)
  have hcp2 : ∀ (W : World), (∀ x, W.cell? x = W1.cell? x) → (∀ x, W.frozen? x = W1.frozen? x) → ∀ ty dc, (Builtin.copy_ #[23, 23] ty #[.slice (some ⟨g, i * 2, none⟩) (n + 1 - i) dc, .slice (some ⟨h, 0, none⟩) 1 1]).run Tryz.prog W = .ok (goInt 1) (W.setCells g (i * 2) [.int .i64 xp, .int .i64 xd]) := fun W hWc hWf ty dc =>
    run_copy_three W _ _ ty 89 g (i * 2) (n + 1 - i) dc ⟨h, 0, none⟩ 1 1 [.int .i64 xp, .int .i64 xd] 1 Tryz.underlying23 size3 (by simp only [Nat.min_def]; split <;> omega) rfl
      (fun j v hj => by
        rw [Addr.add_lit, hWc, hW1, World.cell?_setCells_out g _ _ _ _ (fun h _ => absurd h hne)]
        show w.cell? _ = _
        simp only [World.cell?, hh, Nat.zero_add]
        simpa using hj)
      (fun j hj => by rw [hWc]; exact hsp1 _ (by simp at hj; omega)) (fun j hj => by rw [hWf, hW1, World.frozen?_setCells]; exact froz _) (fun v hv => by
        simp only [List.mem_cons, List.not_mem_nil, or_false] at hv
        rcases hv with rfl | rfl <;> rfl)
  obtain ⟨A1, a1, a2⟩ := setCells_block g cs ((i + 1) * 2) w.drew cur 89 hg (by omega)
  have HE : Hid (∀ W : World, W.heap = (W1.setCells g (i * 2) [.int .i64 xp, .int .i64 xd]).heap → W.os = w.os → W.tape = w.tape → W.output = w.output → (∃ cur' : Array Value, W.heap[g]? = some (.cells cur' 89 (0, 0)) ∧ cur'.size = c * 2 ∧ cur'.toList.take ((n + 1) * 2) = (cur.toList.take (n * 2)).take (i * 2) ++ [.int .i64 xp, .int .i64 xd] ++ (cur.toList.take (n * 2)).drop (i * 2)) ∧ w.grownBy W (some g)) := fun W e1 e2 e3 e4 => by
    have la : A1.toList.length = c * 2 := by
      rw [a2, List.length_append, List.length_append, List.length_take, List.length_drop, hcl]
      simp only [Array.length_toList, hcs]
      omega
    obtain ⟨A2, b1, b2⟩ := setCells_block g [.int .i64 xp, .int .i64 xd] (i * 2) W1 A1 89 (by rw [hW1]; exact a1) (by rw [← Array.length_toList, la]; simp; omega)
    have lb : A2.toList.length = c * 2 := by
      rw [b2, List.length_append, List.length_append, List.length_take, List.length_drop, la]
      simp only [List.length_cons, List.length_nil]
      omega
    refine ⟨⟨A2, by rw [e1]; exact b1, by rw [← Array.length_toList]; exact lb, ?_⟩, e2, e3, e4, by rw [e1, (setCells_size _ _ _ _).1, hW1, (setCells_size _ _ _ _).1]; exact Nat.le_refl _, fun k hk hne => ?_⟩
    · have t1 : A1.toList.take (i * 2) = cur.toList.take (i * 2) := by
        rw [a2, List.append_assoc, List.take_append_of_le_length (by rw [List.length_take]; simp; omega), List.take_take]
        congr 1
        omega
      have t2 : A1.toList.drop (i * 2 + 2) = cs ++ cur.toList.drop ((i + 1) * 2 + cs.length) := by
        rw [a2, List.append_assoc]
        exact List.drop_left' (by rw [List.length_take]; simp; omega)
      rw [b2]
      simp only [List.length_cons, List.length_nil]
      rw [t1, t2, List.append_assoc, List.append_assoc, ← hcs']
      rw [List.take_take, Nat.min_eq_left (by omega)]
      have e5 : cur.toList.take (i * 2) ++ ([Value.int .i64 xp, .int .i64 xd] ++ (cs ++ cur.toList.drop ((i + 1) * 2 + cs.length))) = (cur.toList.take (i * 2) ++ ([Value.int .i64 xp, .int .i64 xd] ++ cs)) ++ cur.toList.drop ((i + 1) * 2 + cs.length) := by simp
      rw [e5]
      rw [List.take_left' (by rw [List.length_append, List.length_append, List.length_take, hcl]; simp; omega)]
    · rw [e1, setCells_other _ _ _ _ _ (fun e => hne (by rw [e])), hW1, setCells_other _ _ _ _ _ (fun e => hne (by rw [e]))]
      rfl
  have hq : w.drew.heap = w.heap := rfl
  have HS1 : Hid (W1.os = w.os ∧ W1.tape = w.tape ∧ W1.output = w.output) := by
    unfold Hid
    rw [hW1]
    exact (setCells_size _ _ _ _).2
  have HS2 : Hid (∀ W : World, (W.setCells g (i * 2) [.int .i64 xp, .int .i64 xd]).os = W.os ∧ (W.setCells g (i * 2) [.int .i64 xp, .int .i64 xd]).tape = W.tape ∧ (W.setCells g (i * 2) [.int .i64 xp, .int .i64 xd]).output = W.output) := fun W => (setCells_size _ _ _ _).2
  rw [← hW1] at hcp1
  have hw1 : IntKind.i64.wrap ((i : Int) + 1) = (i : Int) + 1 := by rw [IntKind.wrap_i64]; omega
  have hw2 : IntKind.i64.wrap ((n : Int) + 1) = (n : Int) + 1 := by rw [IntKind.wrap_i64]; omega
  have hb1 : (0 : Int) ≤ (i : Int) + 1 := by omega
  have hin : i ≤ n := by omega
  have htn : ((i : Int) + 1).toNat = i + 1 := by omega
  have hb2 : ¬ (c = i + 1) := by omega
  have hb3 : (i : Int) ≤ (n : Int) + 1 := by omega
  have hb4 : ¬ (c = i) := by omega
  have hb5 : ¬ ((c : Int) < (n : Int) + 1) := by omega
  clear cell froz hsp hcc hsp1 a1 a2 hcl hcs' hg hh h1 hcs hq hW1
  go_enter Tryz.func93, Tryz.ntmps93
  go_wp2_with (simp only [hov])
  have mixed : Tryz.prog.follows Departure.mixedOrders = true := by kernel_rfl
  go_region_law_o (refine step_copy_runI rfl _ _ 23 23 rfl _ _ (by simp [Act.eval, Act.put]) (by simp [Act.eval, Act.put]) (hcp1 _ _ _) ?_)
  go_wp2_with (at_builtin; refine wpList_copy_runI _ rfl _ _ 23 23 rfl _ _ rfl rfl (hcp2 _ (fun _ => rfl) (fun _ => rfl) _ _) ?_)
  go_ret
  exact ⟨rfl, HE.out _ rfl (by rw [(HS2.out _).1]; exact HS1.out.1) (by rw [(HS2.out _).2.1]; exact HS1.out.2.1) (by rw [(HS2.out _).2.2]; exact HS1.out.2.2)⟩
end Go.Proofs.YtmplpdjkhdaniaaGreatDoor
