/-
  What slices.Insert answers where one entry is laid into a row of the call's own.
  slices.Insert where there is room: in place.
  slices.Insert where there is no room: a new row.
  What slices.Insert answers, at every row of the call's own.
-/
import Derived.Test.YtajcabfeabbknaaGreatDoorMw
import Derived.Shelf.Spec.SlicesInsertGrow
import Derived.Maps.AppendAt
namespace Go.Proofs.YtajcabfeabbknaaGreatDoor
open Go.RowKit Go.Shelf

/-- copy, of elements of three cells. -/
theorem run_copy_three (w : World) (dT sT ty elem : TypeId) (b o dLen dCap : Nat) (a : Addr) (sLen sCap : Nat) (cs : List Value) (N : Nat)
    (hu : Tryz.prog.underlying dT = some (.slice elem)) (hs : (Tryz.prog.info? elem).map (·.size) = some 3) (hN : N = Nat.min sLen dLen) (hn : cs.length = N * 3)
    (hsrc : ∀ j v, cs[j]? = some v → w.cell? (a.add j) = some v) (hc : ∀ j, j < cs.length → (w.cell? ⟨b, o + j, none⟩).isSome = true) (hf : ∀ j, j < cs.length → w.frozen? ⟨b, o + j, none⟩ = false) (h1 : ∀ v ∈ cs, v.oneCell' = true) :
    (Builtin.copy_ #[dT, sT] ty #[.slice (some ⟨b, o, none⟩) dLen dCap, .slice (some a) sLen sCap]).run Tryz.prog w = .ok (goInt N) (w.setCells b o cs) := by
  have hl := run_loadCells_list (P := Tryz.prog) w a cs hsrc
  have hst := run_storeCells_cells (P := Tryz.prog) b o cs 0 w (by simpa using hc) (by simpa using hf) h1
  cases hq : Tryz.prog.info? elem with
  | none => simp [hq] at hs
  | some i =>
    have hi : i.size = 3 := by simpa [hq] using hs
    simp [Builtin.copy_, run_underlying hu, Builtin.lenOf, Builtin.firstCells, sizeOf, typeInfo, hq, hi, ← hN, ← hn, hl, hst]
theorem size3 : (Tryz.prog.info? 46).map (·.size) = some 3 := by
  obtain ⟨i0, hi, _, hz1, _⟩ := info_parts infoE
  rw [hi]; simp [hz1]
/-- What is written into a block, one cell behind the other. -/
theorem setCells_block (b : Nat) : ∀ (vs : List Value) (o : Nat) (w : World) (cur : Array Value) (t : TypeId), w.heap[b]? = some (.cells cur t (0, 0)) → o + vs.length ≤ cur.size →
    ∃ cur' : Array Value, (w.setCells b o vs).heap[b]? = some (.cells cur' t (0, 0)) ∧ cur'.toList = cur.toList.take o ++ vs ++ cur.toList.drop (o + vs.length)
  | [], o, w, cur, t, h, _ => ⟨cur, h, by simp⟩
  | v :: r, o, w, cur, t, h, hl => by
    rw [List.length_cons] at hl
    have h2 : (w.setCell ⟨b, o, none⟩ v).heap[b]? = some (.cells (cur.set! o v) t (0, 0)) := by
      simp only [World.setCell, Array.getElem?_modify, if_true, h]
      simp [Array.set!]
    obtain ⟨cur', h3, h4⟩ := setCells_block b r (o + 1) (w.setCell ⟨b, o, none⟩ v) (cur.set! o v) t h2 (by simp; omega)
    refine ⟨cur', h3, ?_⟩
    rw [h4]
    simp only [Array.toList_set!, List.length_cons]
    rw [show o + (r.length + 1) = o + 1 + r.length by omega]
    have e0 : cur.toList.set o v = (cur.toList.take o ++ [v]) ++ cur.toList.drop (o + 1) := by
      rw [List.set_eq_take_append_cons_drop, if_pos (by simp; omega)]
      simp
    have e1 : (cur.toList.set o v).take (o + 1) = cur.toList.take o ++ [v] := by
      rw [e0]
      exact List.take_left' (by rw [List.length_append, List.length_take, List.length_singleton]; simp; omega)
    have e2 : (cur.toList.set o v).drop (o + 1 + r.length) = cur.toList.drop (o + 1 + r.length) := by
      rw [List.drop_set_of_lt (by omega)]
    rw [e1, e2]
    simp
theorem setCells_other (b : Nat) : ∀ (vs : List Value) (o : Nat) (w : World) (k : Nat), k ≠ b → (w.setCells b o vs).heap[k]? = w.heap[k]?
  | [], _, _, _, _ => rfl
  | v :: r, o, w, k, h => by
    rw [World.setCells, setCells_other b r (o + 1) _ k h]
    exact Below.heap_setCell _ _ _ _ h
theorem setCells_size (b : Nat) : ∀ (vs : List Value) (o : Nat) (w : World), (w.setCells b o vs).heap.size = w.heap.size ∧ (w.setCells b o vs).os = w.os ∧ (w.setCells b o vs).tape = w.tape ∧ (w.setCells b o vs).output = w.output
  | [], _, _ => ⟨rfl, rfl, rfl, rfl⟩
  | v :: r, o, w => by
    rw [World.setCells]
    obtain ⟨a, b, c, d⟩ := setCells_size b r (o + 1) (w.setCell ⟨b, o, none⟩ v)
    exact ⟨by rw [a]; simp [World.setCell], b, c, d⟩
/-- Where two lists lie in unlike blocks they do not overlap. -/
theorem apart_any (w : World) (h g o lb cb : Nat) (cur x : Array Value) (hg : w.heap[g]? = some (.cells cur 46 (0, 0))) (hh : w.heap[h]? = some (.cells x 46 (0, 0))) (hne : h ≠ g) (h0 : cur.size ≠ 0) :
    (callFunc 77 #[.slice (some ⟨h, 0, none⟩) 1 1, .slice (some ⟨g, o, none⟩) lb cb]).run Tryz.prog w = .ok (.value (.bool false)) w := by
  have hsa : w.shape? h = some (46, x.size) := by simp [World.shape?, hh]
  have hsb : w.shape? g = some (46, cur.size) := by simp [World.shape?, hg]
  have hfa : w.frozen? ⟨h, 0, none⟩ = false := by simp [World.frozen?, hh]
  have hfe : w.frozen? ⟨h, x.size, none⟩ = false := by simp [World.frozen?, hh]
  rw [run_callFunc_extern Tryz.func77 (by kernel_rfl) (by kernel_rfl) (by kernel_rfl) (e := Extern.SlicesOverlaps.overlaps #[22, 22] #[4]) (by kernel_rfl),
    Lib.run_overlaps_apart w 22 4 46 Tryz.underlying22 3 Tryz.sizeOf46 ⟨h, 0, none⟩ ⟨g, o, none⟩ 1 1 lb cb hne _ _ _ _ hsa hsb h0 hfa hfe]
  rfl
end Go.Proofs.YtajcabfeabbknaaGreatDoor
namespace Go.Proofs.YtajcabfeabbknaaGreatDoor
open Go.RowKit Go.Shelf

set_option maxHeartbeats 4000000 in
theorem insert_room (g c n i h : Nat) (cur : Array Value) (xp : ByteArray) (xd : Bool) (u : Value) (w : World) (hg : w.heap[g]? = some (.cells cur 46 (0, 0))) (hcs : cur.size = c * 3) (hi : i < n) (hroom : n + 1 ≤ c) (hc : c ≤ maxLen) (hn : n ≤ 1000)
    (h1 : ∀ v ∈ cur.toList.take (n * 3), v.oneCell' = true) (hu : u.oneCell' = true) (hh : w.heap[h]? = some (.cells #[.string xp, .bool xd, u] 46 (0, 0))) (hne : h ≠ g) :
    Calls Tryz.prog 54 #[.slice (some ⟨g, 0, none⟩) n c, .int .i64 i, .slice (some ⟨h, 0, none⟩) 1 1] w fun e w' => e = .returned (.slice (some ⟨g, 0, none⟩) (n + 1) c) ∧
      (∃ cur' : Array Value, w'.heap[g]? = some (.cells cur' 46 (0, 0)) ∧ cur'.size = c * 3 ∧ cur'.toList.take ((n + 1) * 3) = (cur.toList.take (n * 3)).take (i * 3) ++ [.string xp, .bool xd, u] ++ (cur.toList.take (n * 3)).drop (i * 3)) ∧ w.grownBy w' (some g) := by
  have hz2 : ¬ ((i : Int) = (n : Int)) := by omega
  have hmx : c ≤ 9223372036854775807 := by unfold maxLen at hc; omega
  have hov : ∀ lb cb, (callFunc 77 #[.slice (some ⟨h, 0, none⟩) 1 1, .slice (some ⟨g, (i + 1) * 3, none⟩) lb cb]).run Tryz.prog w = .ok (.value (.bool false)) w := fun lb cb => apart_any w h g _ lb cb cur _ hg hh hne (by omega)
  obtain ⟨cs, hcs'⟩ : ∃ cs, cs = (cur.toList.take (n * 3)).drop (i * 3) := ⟨_, rfl⟩
  have hcl : cs.length = (n - i) * 3 := by rw [hcs', List.length_drop, List.length_take]; simp; omega
  have cell : ∀ j, w.cell? ⟨g, j, none⟩ = cur[j]? := fun j => by simp [World.cell?, hg]
  have froz : ∀ j, w.frozen? ⟨g, j, none⟩ = false := fun j => by simp [World.frozen?, hg]
  have hsp : ∀ j, j < c * 3 → (w.cell? ⟨g, j, none⟩).isSome = true := fun j hj => by rw [cell, Array.getElem?_eq_getElem (by omega)]; rfl
  have hcc : ∀ j v, cs[j]? = some v → w.cell? ⟨g, i * 3 + j, none⟩ = some v := fun j v hj => by
    rw [hcs', List.getElem?_drop, List.getElem?_take] at hj
    split at hj
    · rw [cell]; simpa using hj
    · cases hj
  have hcp1 : ∀ ty dc sc, (Builtin.copy_ #[22, 22] ty #[.slice (some ⟨g, (i + 1) * 3, none⟩) (n - i) dc, .slice (some ⟨g, i * 3, none⟩) (n + 1 - i) sc]).run Tryz.prog w.drew = .ok (goInt ((n - i : Nat) : Int)) (w.drew.setCells g ((i + 1) * 3) cs) := fun ty dc sc =>
    run_copy_three w.drew _ _ ty 46 g ((i + 1) * 3) (n - i) dc ⟨g, i * 3, none⟩ (n + 1 - i) sc cs (n - i) Tryz.underlying22 size3 (by simp only [Nat.min_def]; split <;> omega) hcl
      (fun j v hj => by rw [Addr.add_lit]; exact hcc j v hj) (fun j hj => hsp _ (by omega)) (fun j hj => froz _) (fun v hv => h1 v (by rw [hcs'] at hv; exact List.mem_of_mem_drop hv))
  obtain ⟨W1, hW1⟩ : ∃ W1, W1 = w.drew.setCells g ((i + 1) * 3) cs := ⟨_, rfl⟩
  have hsp1 : ∀ k, k < c * 3 → (W1.cell? ⟨g, k, none⟩).isSome = true := fun k hk => by
    rw [hW1]
    exact isSome_setCells g cs ((i + 1) * 3) w.drew (fun j hj => hsp _ (by omega)) _ (hsp k hk)
  have hcp2 : ∀ (W : World), (∀ x, W.cell? x = W1.cell? x) → (∀ x, W.frozen? x = W1.frozen? x) → ∀ ty dc, (Builtin.copy_ #[22, 22] ty #[.slice (some ⟨g, i * 3, none⟩) (n + 1 - i) dc, .slice (some ⟨h, 0, none⟩) 1 1]).run Tryz.prog W = .ok (goInt 1) (W.setCells g (i * 3) [.string xp, .bool xd, u]) := fun W hWc hWf ty dc =>
    run_copy_three W _ _ ty 46 g (i * 3) (n + 1 - i) dc ⟨h, 0, none⟩ 1 1 [.string xp, .bool xd, u] 1 Tryz.underlying22 size3 (by simp only [Nat.min_def]; split <;> omega) rfl
      (fun j v hj => by
        rw [Addr.add_lit, hWc, hW1, World.cell?_setCells_out g _ _ _ _ (fun h _ => absurd h hne)]
        show w.cell? _ = _
        simp only [World.cell?, hh, Nat.zero_add]
        simpa using hj)
      (fun j hj => by rw [hWc]; exact hsp1 _ (by simp at hj; omega)) (fun j hj => by rw [hWf, hW1, World.frozen?_setCells]; exact froz _) (fun v hv => by
        simp only [List.mem_cons, List.not_mem_nil, or_false] at hv
        rcases hv with rfl | rfl | rfl
        · rfl
        · rfl
        · exact hu)
  obtain ⟨A1, a1, a2⟩ := setCells_block g cs ((i + 1) * 3) w.drew cur 46 hg (by omega)
  have HE : Hid (∀ W : World, W.heap = (W1.setCells g (i * 3) [.string xp, .bool xd, u]).heap → W.os = w.os → W.tape = w.tape → W.output = w.output → (∃ cur' : Array Value, W.heap[g]? = some (.cells cur' 46 (0, 0)) ∧ cur'.size = c * 3 ∧ cur'.toList.take ((n + 1) * 3) = (cur.toList.take (n * 3)).take (i * 3) ++ [.string xp, .bool xd, u] ++ (cur.toList.take (n * 3)).drop (i * 3)) ∧ w.grownBy W (some g)) := fun W e1 e2 e3 e4 => by
    have la : A1.toList.length = c * 3 := by
      rw [a2, List.length_append, List.length_append, List.length_take, List.length_drop, hcl]
      simp only [Array.length_toList, hcs]
      omega
    obtain ⟨A2, b1, b2⟩ := setCells_block g [.string xp, .bool xd, u] (i * 3) W1 A1 46 (by rw [hW1]; exact a1) (by rw [← Array.length_toList, la]; simp; omega)
    have lb : A2.toList.length = c * 3 := by
      rw [b2, List.length_append, List.length_append, List.length_take, List.length_drop, la]
      simp only [List.length_cons, List.length_nil]
      omega
    refine ⟨⟨A2, by rw [e1]; exact b1, by rw [← Array.length_toList]; exact lb, ?_⟩, e2, e3, e4, by rw [e1, (setCells_size _ _ _ _).1, hW1, (setCells_size _ _ _ _).1]; exact Nat.le_refl _, fun k hk hne => ?_⟩
    · have t1 : A1.toList.take (i * 3) = cur.toList.take (i * 3) := by
        rw [a2, List.append_assoc, List.take_append_of_le_length (by rw [List.length_take]; simp; omega), List.take_take]
        congr 1
        omega
      have t2 : A1.toList.drop (i * 3 + 3) = cs ++ cur.toList.drop ((i + 1) * 3 + cs.length) := by
        rw [a2, List.append_assoc]
        exact List.drop_left' (by rw [List.length_take]; simp; omega)
      rw [b2]
      simp only [List.length_cons, List.length_nil]
      rw [t1, t2, List.append_assoc, List.append_assoc, ← hcs']
      rw [List.take_take, Nat.min_eq_left (by omega)]
      have e5 : cur.toList.take (i * 3) ++ ([Value.string xp, .bool xd, u] ++ (cs ++ cur.toList.drop ((i + 1) * 3 + cs.length))) = (cur.toList.take (i * 3) ++ ([Value.string xp, .bool xd, u] ++ cs)) ++ cur.toList.drop ((i + 1) * 3 + cs.length) := by simp
      rw [e5]
      rw [List.take_left' (by rw [List.length_append, List.length_append, List.length_take, hcl]; simp; omega)]
    · rw [e1, setCells_other _ _ _ _ _ (fun e => hne (by rw [e])), hW1, setCells_other _ _ _ _ _ (fun e => hne (by rw [e]))]
      rfl
  have hq : w.drew.heap = w.heap := rfl
  have HS1 : Hid (W1.os = w.os ∧ W1.tape = w.tape ∧ W1.output = w.output) := by
    unfold Hid
    rw [hW1]
    exact (setCells_size _ _ _ _).2
  have HS2 : Hid (∀ W : World, (W.setCells g (i * 3) [.string xp, .bool xd, u]).os = W.os ∧ (W.setCells g (i * 3) [.string xp, .bool xd, u]).tape = W.tape ∧ (W.setCells g (i * 3) [.string xp, .bool xd, u]).output = W.output) := fun W => (setCells_size _ _ _ _).2
  rw [← hW1] at hcp1
  have hw1 : IntKind.i64.wrap ((i : Int) + 1) = (i : Int) + 1 := by rw [IntKind.wrap_i64]; omega
  have hw2 : IntKind.i64.wrap ((n : Int) + 1) = (n : Int) + 1 := by rw [IntKind.wrap_i64]; omega
  have hb1 : (0 : Int) ≤ (i : Int) + 1 := by omega
  have hin : i ≤ n := by omega
  have htn : ((i : Int) + 1).toNat = i + 1 := by omega
  have hb2 : ¬ (c = i + 1) := by omega
  have hb3 : (i : Int) ≤ (n : Int) + 1 := by omega
  have hb4 : ¬ (c = i) := by omega
  have hb5 : ¬ ((c : Int) < (n : Int) + 1) := by omega
  clear cell froz hsp hcc hsp1 a1 a2 hcl hcs' hg hh h1 hu hcs hq hW1
  go_enter Tryz.func54, Tryz.ntmps54
  go_wp2_with (simp only [hov])
  have mixed : Tryz.prog.follows Departure.mixedOrders = true := by kernel_rfl
  go_region_law_o (refine step_copy_runI rfl _ _ 22 22 rfl _ _ (by simp [Act.eval, Act.put]) (by simp [Act.eval, Act.put]) (hcp1 _ _ _) ?_)
  go_wp2_with (at_builtin; refine wpList_copy_runI _ rfl _ _ 22 22 rfl _ _ rfl rfl (hcp2 _ (fun _ => rfl) (fun _ => rfl) _ _) ?_)
  go_ret
  exact ⟨rfl, HE.out _ rfl (by rw [(HS2.out _).1]; exact HS1.out.1) (by rw [(HS2.out _).2.1]; exact HS1.out.2.1) (by rw [(HS2.out _).2.2]; exact HS1.out.2.2)⟩
end Go.Proofs.YtajcabfeabbknaaGreatDoor
namespace Go.Proofs.YtajcabfeabbknaaGreatDoor
open Go.RowKit Go.Shelf

theorem zero3 (k : Nat) : (Builtin.zeroCells (Value.agg #[.string ByteArray.empty, .bool false, .slice none 0 0]).cells k).size = k * 3 := by
  simp [Builtin.zeroCells, Value.cells]
set_option maxHeartbeats 4000000 in
set_option maxRecDepth 100000 in
theorem insert_grow (g c n i h : Nat) (cur : Array Value) (xp : ByteArray) (xd : Bool) (u : Value) (w : World) (hg : w.heap[g]? = some (.cells cur 46 (0, 0))) (hcs : cur.size = c * 3) (hi : i < n) (hnc : n ≤ c) (hroom : c < n + 1) (hn : n ≤ 1000)
    (h1 : ∀ v ∈ cur.toList.take (n * 3), v.oneCell' = true) (hu : u.oneCell' = true) (hh : w.heap[h]? = some (.cells #[.string xp, .bool xd, u] 46 (0, 0))) :
    Calls Tryz.prog 54 #[.slice (some ⟨g, 0, none⟩) n c, .int .i64 i, .slice (some ⟨h, 0, none⟩) 1 1] w fun e w' => ∃ cap, e = .returned (.slice (some ⟨w.heap.size, 0, none⟩) (n + 1) cap) ∧ n + 1 ≤ cap ∧ cap ≤ maxLen ∧
      (∃ cur' : Array Value, w'.heap[w.heap.size]? = some (.cells cur' 46 (0, 0)) ∧ cur'.size = cap * 3 ∧ cur'.toList.take ((n + 1) * 3) = (cur.toList.take (n * 3)).take (i * 3) ++ [.string xp, .bool xd, u] ++ (cur.toList.take (n * 3)).drop (i * 3)) ∧ w.grownBy w' none := by
  obtain ⟨i0, hi0, hz0, hzs, hzb⟩ := info_parts infoE
  have hz2 : ¬ ((i : Int) = (n : Int)) := by omega
  have hz3 : (c : Int) < (n : Int) + 1 := by omega
  have hgw : g < w.heap.size := lt_of_block hg
  have hhw : h < w.heap.size := lt_of_block hh
  obtain ⟨hd0, has⟩ : ∃ hd0, hd0 = (cur.toList.take (n * 3)).take (i * 3) := ⟨_, rfl⟩
  obtain ⟨cs, hcs'⟩ : ∃ cs, cs = (cur.toList.take (n * 3)).drop (i * 3) := ⟨_, rfl⟩
  have hal : hd0.length = i * 3 := by rw [has, List.length_take, List.length_take]; simp; omega
  have hcl : cs.length = (n - i) * 3 := by rw [hcs', List.length_drop, List.length_take]; simp; omega
  have cell : ∀ j, w.cell? ⟨g, j, none⟩ = cur[j]? := fun j => by simp [World.cell?, hg]
  have hold : (Builtin.firstCells i0.size i (.slice (some ⟨g, 0, none⟩) i c)).run Tryz.prog w.drew = .ok hd0.toArray w.drew := by
    rw [hzs]
    exact run_firstCells_some w.drew 3 i ⟨g, 0, none⟩ i c hd0 hal (fun j v hj => by
      rw [Addr.add_lit, Nat.zero_add]
      show w.cell? _ = _
      rw [has, List.getElem?_take] at hj
      split at hj
      · rw [List.getElem?_take] at hj
        split at hj
        · rw [cell]; simpa using hj
        · cases hj
      · cases hj)
  have hik : i + (n + 1 - i) = n + 1 := by omega
  have hkk : (n : Int) + 1 - (i : Int) = ((n + 1 - i : Nat) : Int) := by omega
  have hrz : ∀ ty, (Builtin.append_ #[22, 3] ty #[.slice (some ⟨g, 0, none⟩) i c, .int .i64 ((n : Int) + 1 - (i : Int))]).run Tryz.prog w =
      .ok (.slice (some ⟨w.heap.size, 0, none⟩) (n + 1) (grownCap w (n + 1) c 46)) (w.drew.alloc (.cells (hd0.toArray ++ Builtin.zeroCells (Value.agg #[.string ByteArray.empty, .bool false, .slice none 0 0]).cells (n + 1 - i) ++ Builtin.zeroCells (Value.agg #[.string ByteArray.empty, .bool false, .slice none 0 0]).cells (grownCap w (n + 1) c 46 - (n + 1))) 46)) := fun ty => by
    have h := Lib.run_append_grow_zeros w 22 3 ty 46 i0 _ .i64 .i64 Tryz.underlying22 Tryz.underlying3 hi0 hz0 (some ⟨g, 0, none⟩) i c hd0 hold (n + 1 - i) (by omega) (by omega) (by omega) (by omega) (by rw [hzb]; omega) (by rw [hzb, hik]; exact growslice_fits hroom (by omega))
    rw [hik] at h
    rw [hkk]
    exact h
  obtain ⟨G, hG⟩ : ∃ G, G = grownCap w (n + 1) c 46 := ⟨_, rfl⟩
  have hGn : n + 1 ≤ G := by rw [hG]; exact grownCap_ge w _ _ _
  have hGm : G ≤ maxLen := by rw [hG]; exact grownCap_le_maxLen w (n + 1) c 46 (by unfold maxLen; omega)
  obtain ⟨ROW, hROW⟩ : ∃ ROW : Array Value, ROW = hd0.toArray ++ Builtin.zeroCells (Value.agg #[.string ByteArray.empty, .bool false, .slice none 0 0]).cells (n + 1 - i) ++ Builtin.zeroCells (Value.agg #[.string ByteArray.empty, .bool false, .slice none 0 0]).cells (G - (n + 1)) := ⟨_, rfl⟩
  rw [← hG] at hrz
  rw [← hROW] at hrz
  have hRl : ROW.size = G * 3 := by
    rw [hROW, Array.size_append, Array.size_append, zero3, zero3]
    simp [hal]
    omega
  have hRt : ROW.toList.take (i * 3) = hd0 := by
    rw [hROW, Array.toList_append, Array.toList_append, List.append_assoc]
    exact List.take_left' hal
  obtain ⟨W1, hW1⟩ : ∃ W1, W1 = w.drew.alloc (.cells ROW 46) := ⟨_, rfl⟩
  rw [← hW1] at hrz
  have hN : ∀ j, j < (n + 1) * 3 → (W1.cell? ⟨w.heap.size, j, none⟩).isSome = true := fun j hj => by
    rw [hW1, World.cell?_alloc_at (w := w.drew) ROW _ w.heap.size j rfl, Array.getElem?_eq_getElem (by omega)]; rfl
  have hNf : ∀ j, W1.frozen? ⟨w.heap.size, j, none⟩ = false := fun j => by rw [hW1]; exact World.frozen?_alloc_at (w := w.drew) ROW _ w.heap.size j rfl
  have hOb : ∀ j v, w.cell? ⟨g, j, none⟩ = some v → W1.cell? ⟨g, j, none⟩ = some v := fun j v h => by rw [hW1, World.cell?_alloc_past (w := w.drew) _ g j hgw]; exact h
  have hOv : ∀ j v, w.cell? ⟨h, j, none⟩ = some v → W1.cell? ⟨h, j, none⟩ = some v := fun j v h' => by rw [hW1, World.cell?_alloc_past (w := w.drew) _ h j hhw]; exact h'
  have hX : ∀ v ∈ [Value.string xp, .bool xd, u], v.oneCell' = true := fun v hv => by
    simp only [List.mem_cons, List.not_mem_nil, or_false] at hv
    rcases hv with rfl | rfl | rfl
    · rfl
    · rfl
    · exact hu
  have hcpA : ∀ (W : World), (∀ x, W.cell? x = W1.cell? x) → (∀ x, W.frozen? x = W1.frozen? x) → ∀ ty dc, (Builtin.copy_ #[22, 22] ty #[.slice (some ⟨w.heap.size, i * 3, none⟩) (n + 1 - i) dc, .slice (some ⟨h, 0, none⟩) 1 1]).run Tryz.prog W = .ok (goInt 1) (W.setCells w.heap.size (i * 3) [.string xp, .bool xd, u]) := fun W hWc hWf ty dc =>
    run_copy_three W _ _ ty 46 w.heap.size (i * 3) (n + 1 - i) dc ⟨h, 0, none⟩ 1 1 [.string xp, .bool xd, u] 1 Tryz.underlying22 size3 (by simp only [Nat.min_def]; split <;> omega) rfl
      (fun j v hj => by
        rw [Addr.add_lit, hWc]
        refine hOv _ v ?_
        simp only [World.cell?, hh, Nat.zero_add]
        simpa using hj)
      (fun j hj => by rw [hWc]; exact hN _ (by simp at hj; omega)) (fun j hj => by rw [hWf]; exact hNf _) hX
  have hbN : g ≠ w.heap.size := by omega
  have hcpB : ∀ (W : World), (∀ x, W.cell? x = (W1.setCells w.heap.size (i * 3) [.string xp, .bool xd, u]).cell? x) → (∀ x, W.frozen? x = (W1.setCells w.heap.size (i * 3) [.string xp, .bool xd, u]).frozen? x) → ∀ ty dc sc, (Builtin.copy_ #[22, 22] ty #[.slice (some ⟨w.heap.size, (i + 1) * 3, none⟩) (n - i) dc, .slice (some ⟨g, i * 3, none⟩) (n - i) sc]).run Tryz.prog W = .ok (goInt ((n - i : Nat) : Int)) (W.setCells w.heap.size ((i + 1) * 3) cs) := fun W hWc hWf ty dc sc =>
    run_copy_three W _ _ ty 46 w.heap.size ((i + 1) * 3) (n - i) dc ⟨g, i * 3, none⟩ (n - i) sc cs (n - i) Tryz.underlying22 size3 (by simp only [Nat.min_def]; split <;> omega) hcl
      (fun j v hj => by
        rw [Addr.add_lit, hWc, World.cell?_setCells_out _ _ _ _ _ (fun h _ => absurd h hbN)]
        refine hOb _ v ?_
        rw [hcs', List.getElem?_drop, List.getElem?_take] at hj
        split at hj
        · rw [cell]; simpa using hj
        · cases hj)
      (fun j hj => by rw [hWc]; exact isSome_setCells _ [Value.string xp, .bool xd, u] (i * 3) W1 (fun t ht => hN _ (by simp at ht; omega)) _ (hN _ (by omega)))
      (fun j hj => by rw [hWf, World.frozen?_setCells]; exact hNf _) (fun v hv => h1 v (by rw [hcs'] at hv; exact List.mem_of_mem_drop hv))
  obtain ⟨W2, hW2⟩ : ∃ W2, W2 = (W1.setCells w.heap.size (i * 3) [.string xp, .bool xd, u]).setCells w.heap.size ((i + 1) * 3) cs := ⟨_, rfl⟩
  have HE : Hid (∀ W : World, W.heap = W2.heap → W.os = W2.os → W.tape = W2.tape → W.output = W2.output → (∃ cur' : Array Value, W.heap[w.heap.size]? = some (.cells cur' 46 (0, 0)) ∧ cur'.size = G * 3 ∧ cur'.toList.take ((n + 1) * 3) = (cur.toList.take (n * 3)).take (i * 3) ++ [.string xp, .bool xd, u] ++ (cur.toList.take (n * 3)).drop (i * 3)) ∧ w.grownBy W none) := fun W e1 e2 e3 e4 => by
    obtain ⟨A1, a1, a2⟩ := setCells_block w.heap.size [.string xp, .bool xd, u] (i * 3) W1 ROW 46 (by rw [hW1]; exact heap_new _ _ _ rfl) (by rw [hRl]; simp; omega)
    have la : A1.toList.length = G * 3 := by
      rw [a2, List.length_append, List.length_append, List.length_take, List.length_drop]
      simp only [Array.length_toList, hRl, List.length_cons, List.length_nil]
      omega
    obtain ⟨A2, b1, b2⟩ := setCells_block w.heap.size cs ((i + 1) * 3) _ A1 46 a1 (by rw [← Array.length_toList, la]; omega)
    have lb : A2.toList.length = G * 3 := by
      rw [b2, List.length_append, List.length_append, List.length_take, List.length_drop, la, hcl]
      omega
    obtain ⟨z1, z2, z3, z4⟩ := setCells_size w.heap.size cs ((i + 1) * 3) (W1.setCells w.heap.size (i * 3) [.string xp, .bool xd, u])
    obtain ⟨y1, y2, y3, y4⟩ := setCells_size w.heap.size [.string xp, .bool xd, u] (i * 3) W1
    refine ⟨⟨A2, by rw [e1, hW2]; exact b1, by rw [← Array.length_toList]; exact lb, ?_⟩, ?_, ?_, ?_, ?_, fun k hk _ => ?_⟩
    · rw [b2, ← has, ← hcs', a2, hRt]
      have t1 : (hd0 ++ [Value.string xp, .bool xd, u] ++ ROW.toList.drop (i * 3 + [Value.string xp, .bool xd, u].length)).take ((i + 1) * 3) = hd0 ++ [Value.string xp, .bool xd, u] :=
        List.take_left' (by rw [List.length_append, hal]; simp; omega)
      rw [t1]
      exact List.take_left' (by rw [List.length_append, List.length_append, hal, hcl]; simp; omega)
    · rw [e2, hW2, z2, y2, hW1]; rfl
    · rw [e3, hW2, z3, y3, hW1]; rfl
    · rw [e4, hW2, z4, y4, hW1]; rfl
    · rw [e1, hW2, z1, y1, hW1]; simp
    · rw [e1, hW2, setCells_other _ _ _ _ _ (by omega), setCells_other _ _ _ _ _ (by omega), hW1]
      exact Below.heap_alloc w.drew _ k hk
  have hG63 : G ≤ 9223372036854775807 := by unfold maxLen at hGm; omega
  have HGN : Hid (n + 1 ≤ G ∧ G ≤ maxLen) := ⟨hGn, hGm⟩
  have hGi : ¬ (G = i) := by omega
  have hGim : ¬ (G = i + 1) := by omega
  have hci : ¬ (c = i) := by omega
  have HW2 : Hid (W2 = (W1.setCells w.heap.size (i * 3) [.string xp, .bool xd, u]).setCells w.heap.size ((i + 1) * 3) cs) := hW2
  have HW1 : Hid (W1 = w.drew.alloc (.cells ROW 46)) := hW1
  subst hW1
  have hE1 : ∀ x, ((w.alloc (.cells ROW 46)).drew).cell? x = (w.drew.alloc (.cells ROW 46)).cell? x := fun x => rfl
  have hE2 : ∀ x, ((w.alloc (.cells ROW 46)).drew).frozen? x = (w.drew.alloc (.cells ROW 46)).frozen? x := fun x => rfl
  have hF1 : ∀ x, (((w.alloc (.cells ROW 46)).drew.setCells w.heap.size (i * 3) [.string xp, .bool xd, u]).drew).cell? x = ((w.drew.alloc (.cells ROW 46)).setCells w.heap.size (i * 3) [.string xp, .bool xd, u]).cell? x := fun x => rfl
  have hF2 : ∀ x, (((w.alloc (.cells ROW 46)).drew.setCells w.heap.size (i * 3) [.string xp, .bool xd, u]).drew).frozen? x = ((w.drew.alloc (.cells ROW 46)).setCells w.heap.size (i * 3) [.string xp, .bool xd, u]).frozen? x := fun x => rfl
  have hw1 : IntKind.i64.wrap ((i : Int) + 1) = (i : Int) + 1 := by rw [IntKind.wrap_i64]; omega
  have hw2 : IntKind.i64.wrap ((n : Int) + 1) = (n : Int) + 1 := by rw [IntKind.wrap_i64]; omega
  have hw3 : IntKind.i64.wrap ((n : Int) + 1 - (i : Int)) = (n : Int) + 1 - (i : Int) := by rw [IntKind.wrap_i64]; omega
  have hb1 : (0 : Int) ≤ (i : Int) + 1 := by omega
  have hin : i ≤ n := by omega
  have htn : ((i : Int) + 1).toNat = i + 1 := by omega
  have hb3 : (i : Int) ≤ (n : Int) := by omega
  have mixed : Tryz.prog.follows Departure.mixedOrders = true := by kernel_rfl
  clear hkk hik hold hROW hG hRl hRt hN hNf hOb hOv hX cell hal hcl has hcs' hg hh h1 hu hcs hW2 hGn hGm
  go_enter Tryz.func54, Tryz.ntmps54
  go_wp2_with (first
    | (at_builtin; refine Lib.wpList_append_run _ rfl _ _ _ _ rfl _ _ rfl rfl _ _ (hrz _) ?_)
    | (at_builtin; refine wpList_copy_runI _ rfl _ _ 22 22 rfl _ _ rfl rfl (hcpA _ hE1 hE2 _ _) ?_)
    | (at_builtin; refine wpList_copy_runI _ rfl _ _ 22 22 rfl _ _ rfl rfl (hcpB _ (fun _ => rfl) (fun _ => rfl) _ _ _) ?_))
  go_region_law_o (refine step_copy_runI rfl _ _ 22 22 rfl (.slice (some ⟨w.heap.size, (i + 1) * 3, none⟩) (n - i) (G - (i + 1))) (.slice (some ⟨g, i * 3, none⟩) (n - i) (c - i)) (by simp [Act.eval, Act.put]) (by simp [Act.eval, Act.put]) (hcpB _ hF1 hF2 3 (G - (i + 1)) (c - i)) ?_)
  go_wp2
  go_ret
  refine ⟨G, rfl, HGN.out.1, HGN.out.2, HE.out _ ?_ ?_ ?_ ?_⟩ <;> (rw [HW2.out, ← drew_setCells]; rfl)
end Go.Proofs.YtajcabfeabbknaaGreatDoor
namespace Go.Proofs.YtajcabfeabbknaaGreatDoor
open Go.RowKit Go.Shelf

set_option maxHeartbeats 4000000 in
theorem insert_end (B : Nat) (v : Value) (n h : Nat) (cs : List Value) (xp : ByteArray) (xd : Bool) (u : Value) (w : World) (ho : w.ownsRow B 46 3 v n cs) (hn : n ≤ 1000) (hB : B ≤ w.heap.size) (hu : u.oneCell' = true)
    (hh : w.heap[h]? = some (.cells #[.string xp, .bool xd, u] 46 (0, 0))) :
    Calls Tryz.prog 54 #[v, .int .i64 n, .slice (some ⟨h, 0, none⟩) 1 1] w fun e w' => ∃ v', e = .returned v' ∧ w'.ownsRow B 46 3 v' (n + 1) (cs ++ [.string xp, .bool xd, u]) ∧ w.grownBy w' v.ownBlock ∧ (v'.ownBlock = v.ownBlock ∨ v'.ownBlock = some w.heap.size) := by
  obtain ⟨i0, hi, hz0, hz1, hz2⟩ := info_parts infoE
  have HO : Hid (w.ownsRow B 46 3 v n cs) := ho
  have hX : ∀ j y, [Value.string xp, .bool xd, u][j]? = some y → w.cell? ((⟨h, 0, none⟩ : Addr).add j) = some y := fun j y hj => by
    rw [Addr.add_lit, Nat.zero_add]
    simp only [World.cell?, hh]
    simpa using hj
  have HX : Hid (∀ j y, [Value.string xp, .bool xd, u][j]? = some y → w.cell? ((⟨h, 0, none⟩ : Addr).add j) = some y) := hX
  have H1 : Hid (∀ y ∈ [Value.string xp, .bool xd, u], y.oneCell' = true) := fun y hy => by
    simp only [List.mem_cons, List.not_mem_nil, or_false] at hy
    rcases hy with rfl | rfl | rfl
    · rfl
    · rfl
    · exact hu
  have HB : Hid (B ≤ w.heap.size) := hB
  have hsh : (v = .slice none 0 0 ∧ n = 0) ∨ ∃ g c, v = .slice (some ⟨g, 0, none⟩) n c ∧ n ≤ c ∧ c ≤ maxLen := by
    rcases ho.2 with h' | ⟨g, cap, cur, hv, _, _, h1, h2, _⟩
    · exact .inl h'
    · exact .inr ⟨g, cap, hv, h1, h2⟩
  clear ho hX hB hu hh
  rcases hsh with ⟨rfl, rfl⟩ | ⟨g, c, rfl, hnc, hcm⟩
  · go_enter Tryz.func54, Tryz.ntmps54
    go_wp2_with (at_builtin; refine wpList_append_own_at _ rfl _ _ 22 rfl B 46 i0 (.agg #[.string ByteArray.empty, .bool false, .slice none 0 0]) 3 48 Tryz.underlying22 hi hz0 hz1 hz2 rfl (by decide) _ 0 cs rfl HO.out _ 1 1 [.string xp, .bool xd, u] rfl rfl HX.out H1.out (by unfold maxLen; omega) (by omega) HB.out (Hid.out ?_))
    unfold Hid
    intro v' w' o' g' _ k'
    have O' : Hid (w'.ownsRow B 46 3 v' (0 + 1) (cs ++ [.string xp, .bool xd, u])) := o'
    have G' : Hid (w.grownBy w' (Value.ownBlock (.slice none 0 0))) := g'
    have K' : Hid (v'.ownBlock = Value.ownBlock (.slice none 0 0) ∨ v'.ownBlock = some w.heap.size) := k'
    clear o' g' k' HO HX H1 HB
    go_wp2
    go_ret
    exact ⟨v', rfl, O'.out, G'.out, K'.out⟩
  · have hnc2 : n ≤ c := hnc
    have hin : (n : Int) ≤ (n : Int) := by omega
    by_cases hc : c = n
    · subst hc
      go_enter Tryz.func54, Tryz.ntmps54
      go_wp2_with (at_builtin; refine wpList_append_own_at _ rfl _ _ 22 rfl B 46 i0 (.agg #[.string ByteArray.empty, .bool false, .slice none 0 0]) 3 48 Tryz.underlying22 hi hz0 hz1 hz2 rfl (by decide) _ c cs rfl HO.out _ 1 1 [.string xp, .bool xd, u] rfl rfl HX.out H1.out (by unfold maxLen; omega) (by omega) HB.out (Hid.out ?_))
      unfold Hid
      intro v' w' o' g' _ k'
      have O' : Hid (w'.ownsRow B 46 3 v' (c + 1) (cs ++ [.string xp, .bool xd, u])) := o'
      have G' : Hid (w.grownBy w' (Value.ownBlock (.slice (some ⟨g, 0, none⟩) c c))) := g'
      have K' : Hid (v'.ownBlock = Value.ownBlock (.slice (some ⟨g, 0, none⟩) c c) ∨ v'.ownBlock = some w.heap.size) := k'
      clear o' g' k' HO HX H1 HB
      go_wp2
      go_ret
      exact ⟨v', rfl, O'.out, G'.out, K'.out⟩
    · go_enter Tryz.func54, Tryz.ntmps54
      go_wp2_with (at_builtin; refine wpList_append_own_at _ rfl _ _ 22 rfl B 46 i0 (.agg #[.string ByteArray.empty, .bool false, .slice none 0 0]) 3 48 Tryz.underlying22 hi hz0 hz1 hz2 rfl (by decide) _ n cs rfl HO.out _ 1 1 [.string xp, .bool xd, u] rfl rfl HX.out H1.out (by unfold maxLen; omega) (by omega) HB.out (Hid.out ?_))
      unfold Hid
      intro v' w' o' g' _ k'
      have O' : Hid (w'.ownsRow B 46 3 v' (n + 1) (cs ++ [.string xp, .bool xd, u])) := o'
      have G' : Hid (w.grownBy w' (Value.ownBlock (.slice (some ⟨g, 0, none⟩) n c))) := g'
      have K' : Hid (v'.ownBlock = Value.ownBlock (.slice (some ⟨g, 0, none⟩) n c) ∨ v'.ownBlock = some w.heap.size) := k'
      clear o' g' k' HO HX H1 HB
      go_wp2
      go_ret
      exact ⟨v', rfl, O'.out, G'.out, K'.out⟩
theorem insert_own (B : Nat) (v : Value) (n i h : Nat) (cs : List Value) (xp : ByteArray) (xd : Bool) (u : Value) (w : World) (ho : w.ownsRow B 46 3 v n cs) (hi : i ≤ n) (hn : n ≤ 1000) (hB : B ≤ w.heap.size) (h1 : ∀ y ∈ cs, y.oneCell' = true) (hu : u.oneCell' = true)
    (hh : w.heap[h]? = some (.cells #[.string xp, .bool xd, u] 46 (0, 0))) (hne : v.ownBlock ≠ some h) :
    Calls Tryz.prog 54 #[v, .int .i64 i, .slice (some ⟨h, 0, none⟩) 1 1] w fun e w' => ∃ v', e = .returned v' ∧ w'.ownsRow B 46 3 v' (n + 1) (cs.take (i * 3) ++ [.string xp, .bool xd, u] ++ cs.drop (i * 3)) ∧ w.grownBy w' v.ownBlock ∧ (v'.ownBlock = v.ownBlock ∨ v'.ownBlock = some w.heap.size) := by
  rcases Nat.lt_or_ge i n with hlt | hge
  · rcases ho.2 with ⟨_, h0⟩ | ⟨g, c, cur, rfl, hBg, hg, hnc, hcm, hsz, htk⟩
    · omega
    have hne' : h ≠ g := fun e => hne (by rw [e]; rfl)
    have hlen : (cs.take (i * 3) ++ [Value.string xp, .bool xd, u] ++ cs.drop (i * 3)).length = (n + 1) * 3 := by
      rw [List.length_append, List.length_append, List.length_take, List.length_drop, ho.1]
      simp
      omega
    rcases Nat.lt_or_ge c (n + 1) with hr | hr
    · refine (insert_grow g c n i h cur xp xd u w hg hsz hlt hnc hr hn (by rw [htk]; exact h1) hu hh).mono ?_
      rintro e w' ⟨cap, rfl, k1, k2, ⟨cur', k3, k4, k5⟩, k6⟩
      refine ⟨_, rfl, ⟨hlen, .inr ⟨w.heap.size, cap, cur', rfl, hB, k3, k1, k2, k4, ?_⟩⟩, ⟨k6.os, k6.tape, k6.output, k6.size, fun k hk _ => k6.block k hk (by simp)⟩, .inr rfl⟩
      rw [k5, htk]
    · refine (insert_room g c n i h cur xp xd u w hg hsz hlt hr hcm hn (by rw [htk]; exact h1) hu hh hne').mono ?_
      rintro e w' ⟨rfl, ⟨cur', k3, k4, k5⟩, k6⟩
      refine ⟨_, rfl, ⟨hlen, .inr ⟨g, c, cur', rfl, hBg, k3, hr, hcm, k4, ?_⟩⟩, k6, .inl rfl⟩
      rw [k5, htk]
  · obtain rfl : i = n := by omega
    have e1 : cs.take (i * 3) = cs := List.take_of_length_le (by rw [ho.1]; exact Nat.le_refl _)
    have e2 : cs.drop (i * 3) = [] := List.drop_of_length_le (by rw [ho.1]; exact Nat.le_refl _)
    rw [e1, e2, List.append_nil]
    exact insert_end B v i h cs xp xd u w ho hn hB hu hh
end Go.Proofs.YtajcabfeabbknaaGreatDoor
