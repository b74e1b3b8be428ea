/-
  What slices.Delete answers where one name goes out of a row of the call's own.
-/
import Derived.Test.YtcenchnmibdebaaDoorTm
import Derived.Deep.RegionLaw
import Derived.Lib.SliceRun
import Derived.Laws.IdiomCopy
namespace Go.Proofs.YtcenchnmibdebaaDoor
open Go.RowKit Go.Shelf
set_option maxRecDepth 100000

theorem pa0_len : pa0.cells.length = 36 := Pa.len pa0_ok
theorem setCells_block (b : Nat) : ∀ (vs : List Value) (o : Nat) (w : World) (cur : Array Value) (t : TypeId), w.heap[b]? = some (.cells cur t (0, 0)) → o + vs.length ≤ cur.size →
    ∃ cur' : Array Value, (w.setCells b o vs).heap[b]? = some (.cells cur' t (0, 0)) ∧ cur'.toList = cur.toList.take o ++ vs ++ cur.toList.drop (o + vs.length)
  | [], o, w, cur, t, h, _ => ⟨cur, h, by simp⟩
  | v :: r, o, w, cur, t, h, hl => by
    rw [List.length_cons] at hl
    have h2 : (w.setCell ⟨b, o, none⟩ v).heap[b]? = some (.cells (cur.set! o v) t (0, 0)) := by
      simp only [World.setCell, Array.getElem?_modify, if_true, h]
      simp [Array.set!]
    obtain ⟨cur', h3, h4⟩ := setCells_block b r (o + 1) (w.setCell ⟨b, o, none⟩ v) (cur.set! o v) t h2 (by simp; omega)
    refine ⟨cur', h3, ?_⟩
    rw [h4]
    simp only [Array.toList_set!, List.length_cons]
    rw [show o + (r.length + 1) = o + 1 + r.length by omega]
    have e0 : cur.toList.set o v = (cur.toList.take o ++ [v]) ++ cur.toList.drop (o + 1) := by
      rw [List.set_eq_take_append_cons_drop, if_pos (by simp; omega)]
      simp
    have e1 : (cur.toList.set o v).take (o + 1) = cur.toList.take o ++ [v] := by
      rw [e0]
      exact List.take_left' (by rw [List.length_append, List.length_take, List.length_singleton]; simp; omega)
    have e2 : (cur.toList.set o v).drop (o + 1 + r.length) = cur.toList.drop (o + 1 + r.length) := by
      rw [List.drop_set_of_lt (by omega)]
    rw [e1, e2]
    simp
theorem setCells_other (b : Nat) : ∀ (vs : List Value) (o : Nat) (w : World) (k : Nat), k ≠ b → (w.setCells b o vs).heap[k]? = w.heap[k]?
  | [], _, _, _, _ => rfl
  | v :: r, o, w, k, h => by
    rw [World.setCells, setCells_other b r (o + 1) _ k h]
    exact Below.heap_setCell _ _ _ _ h
theorem setCells_size (b : Nat) : ∀ (vs : List Value) (o : Nat) (w : World), (w.setCells b o vs).heap.size = w.heap.size ∧ (w.setCells b o vs).os = w.os ∧ (w.setCells b o vs).tape = w.tape ∧ (w.setCells b o vs).output = w.output
  | [], _, _ => ⟨rfl, rfl, rfl, rfl⟩
  | v :: r, o, w => by
    rw [World.setCells]
    obtain ⟨a, b, c, d⟩ := setCells_size b r (o + 1) (w.setCell ⟨b, o, none⟩ v)
    exact ⟨by rw [a]; simp [World.setCell], b, c, d⟩
theorem zeroPa (w : World) : (zeroValue 58).run Tryd.prog w = .ok (.agg pa0.cells.toArray) w := by kernel_rfl
/-- clear, of one name. -/
theorem run_clear_one (w : World) (ty : TypeId) (b o c : Nat) (hc : ∀ j, j < 36 → (w.cell? ⟨b, o + j, none⟩).isSome = true) (hf : ∀ j, j < 36 → w.frozen? ⟨b, o + j, none⟩ = false) :
    (Builtin.clear_ #[41] ty #[.slice (some ⟨b, o, none⟩) 1 c]).run Tryd.prog w = .ok (.tuple #[]) (w.setCells b o pa0.cells) := by
  have hzc : (Builtin.zeroCells (Value.agg #[.int .i64 0, .string ⟨#[]⟩, .int .u8 0, .int .u8 0, .int .u8 0, .int .u8 0, .int .u8 0, .int .u8 0, .int .u8 0, .int .u8 0, .int .u8 0, .int .u8 0, .int .u8 0, .int .u8 0, .int .u8 0, .int .u8 0, .int .u8 0, .int .u8 0, .int .u8 0, .int .u8 0, .int .u8 0, .int .u8 0, .int .u8 0, .int .u8 0, .int .u8 0, .int .u8 0, .int .u8 0, .int .u8 0, .int .u8 0, .int .u8 0, .int .u8 0, .int .u8 0, .int .u8 0, .int .u8 0, .int .i64 0, .int .i64 0]).cells 1).toList = pa0.cells := by kernel_rfl
  have hst := run_storeCells_cells (P := Tryd.prog) b o pa0.cells 0 w (by rw [pa0_len]; simpa using hc) (by rw [pa0_len]; simpa using hf) pa0.one
  simp only [Nat.add_zero] at hst
  simp [Builtin.clear_, run_underlying Tryd.underlying41, hzc, hst]
set_option maxHeartbeats 4000000 in
theorem delete_own (B : Nat) (v : Value) (n i : Nat) (cs : List Value) (w : World) (ho : w.ownsRow B 58 36 v n cs) (hi : i < n) (hn : n ≤ 100000) (h1 : ∀ y ∈ cs, y.oneCell' = true) :
    Calls Tryd.prog 63 #[v, .int .i64 (i : Int), .int .i64 ((i : Int) + 1)] w fun e w' => ∃ v', e = .returned v' ∧ w'.ownsRow B 58 36 v' (n - 1) (cs.take (i * 36) ++ cs.drop ((i + 1) * 36)) ∧ w.grownBy w' v.ownBlock ∧ v'.ownBlock = v.ownBlock := by
  obtain ⟨i0, hi0, hz0, hz1, hz2⟩ := info_parts infoP
  have hcl := ho.1
  rcases ho.2 with ⟨_, h0⟩ | ⟨g, c, cur, rfl, hBg, hg, hnc, hcm, hsz, htk⟩
  · omega
  have cell : ∀ j, w.cell? ⟨g, j, none⟩ = cur[j]? := fun j => by simp [World.cell?, hg]
  have froz : ∀ j, w.frozen? ⟨g, j, none⟩ = false := fun j => by simp [World.frozen?, hg]
  have hsp : ∀ j, j < c * 36 → (w.cell? ⟨g, j, none⟩).isSome = true := fun j hj => by rw [cell, Array.getElem?_eq_getElem (by omega)]; rfl
  obtain ⟨news, hnews⟩ : ∃ news, news = cs.drop ((i + 1) * 36) := ⟨_, rfl⟩
  have hnl : news.length = (n - (i + 1)) * 36 := by rw [hnews, List.length_drop, hcl]; omega
  have hnc2 : ∀ j u, news[j]? = some u → w.cell? ⟨g, (i + 1) * 36 + j, none⟩ = some u := fun j u hj => by
    rw [hnews, List.getElem?_drop, ← htk, List.getElem?_take] at hj
    split at hj
    · rw [cell]; simpa using hj
    · cases hj
  obtain ⟨W1, hW1⟩ : ∃ W1, W1 = w.drew.setCells g (i * 36) news := ⟨_, rfl⟩
  obtain ⟨A1, a1, a2⟩ := setCells_block g news (i * 36) w.drew cur 58 hg (by omega)
  have la : A1.toList.length = c * 36 := by
    rw [a2, List.length_append, List.length_append, List.length_take, List.length_drop, hnl]
    simp only [Array.length_toList, hsz]
    omega
  have hc1 : ∀ j, j < c * 36 → (W1.cell? ⟨g, j, none⟩).isSome = true := fun j hj => by
    rw [hW1, World.cell?, a1]
    simp only
    rw [Array.getElem?_eq_getElem (by rw [← Array.length_toList, la]; exact hj)]
    rfl
  have hf1 : ∀ j, W1.frozen? ⟨g, j, none⟩ = false := fun j => by rw [hW1]; simp [World.frozen?, a1]
  have hclr : ∀ ty, (Builtin.clear_ #[41] ty #[.slice (some ⟨g, (n - 1) * 36, none⟩) 1 (c - (n - 1))]).run Tryd.prog W1 = .ok (.tuple #[]) (W1.setCells g ((n - 1) * 36) pa0.cells) := fun ty =>
    run_clear_one W1 ty g ((n - 1) * 36) _ (fun j hj => hc1 _ (by omega)) (fun j hj => hf1 _)
  have HE : Hid ((W1.setCells g ((n - 1) * 36) pa0.cells).ownsRow B 58 36 (.slice (some ⟨g, 0, none⟩) (n - 1) c) (n - 1) (cs.take (i * 36) ++ news) ∧ w.grownBy (W1.setCells g ((n - 1) * 36) pa0.cells) (some g)) := by
    obtain ⟨A2, b1, b2⟩ := setCells_block g pa0.cells ((n - 1) * 36) W1 A1 58 (by rw [hW1]; exact a1) (by rw [← Array.length_toList, la, pa0_len]; omega)
    have lb : A2.toList.length = c * 36 := by
      rw [b2, List.length_append, List.length_append, List.length_take, List.length_drop, la]
      rw [pa0_len]
      omega
    have hlen : (cs.take (i * 36) ++ news).length = (n - 1) * 36 := by
      rw [List.length_append, List.length_take, hnl, hcl]
      omega
    obtain ⟨s1, s2, s3, s4⟩ := setCells_size g pa0.cells ((n - 1) * 36) W1
    obtain ⟨t1, t2, t3, t4⟩ := setCells_size g news (i * 36) w.drew
    refine ⟨⟨hlen, .inr ⟨g, c, A2, rfl, hBg, b1, by omega, hcm, by rw [← Array.length_toList]; exact lb, ?_⟩⟩, ?_, ?_, ?_, ?_, fun k hk hne => ?_⟩
    · rw [b2, List.append_assoc, List.take_append_of_le_length (by rw [List.length_take, la]; omega), List.take_take, Nat.min_self, a2, List.append_assoc]
      have e1 : cur.toList.take (i * 36) = cs.take (i * 36) := by
        rw [← htk, List.take_take, Nat.min_eq_left (by omega)]
      rw [e1, ← List.append_assoc]
      exact List.take_left' hlen
    · rw [s2, hW1]; exact t2
    · rw [s3, hW1]; exact t3
    · rw [s4, hW1]; exact t4
    · rw [s1, hW1, t1]; exact Nat.le_refl _
    · rw [setCells_other _ _ _ _ _ (fun e => hne (by rw [e])), hW1, setCells_other _ _ _ _ _ (fun e => hne (by rw [e]))]
      rfl
  have H1 : Hid (∀ u ∈ news, u.oneCell' = true) := fun u hu => h1 u (by rw [hnews] at hu; exact List.mem_of_mem_drop hu)
  have HC : Hid (∀ j u, news[j]? = some u → w.drew.cell? ((⟨g, (i + 1) * 36, none⟩ : Addr).add j) = some u) := fun j u hj => by rw [Addr.add_lit]; exact hnc2 j u hj
  have HSP : Hid (∀ j, j < news.length → (w.drew.cell? ⟨g, 0 + i * 36 + j, none⟩).isSome = true ∧ w.drew.frozen? ⟨g, 0 + i * 36 + j, none⟩ = false) := fun j hj => ⟨by rw [Nat.zero_add]; exact hsp _ (by omega), froz _⟩
  have HNL : Hid (news.length = (n - (i + 1)) * 36) := hnl
  have HW1 : Hid (w.drew.setCells g (i * 36) news = W1) := hW1.symm
  rw [← hnews]
  clear hcl cell froz hsp hnl hnc2 a1 a2 la hc1 hf1 hnews h1 ho htk hsz hg hW1 hBg
  have mixed : Tryd.prog.follows Departure.mixedOrders = true := by kernel_rfl
  have hmx : c ≤ 9223372036854775807 := by unfold maxLen at hcm; omega
  have e1 : (0 : Int) ≤ (i : Int) + 1 := by omega
  have e2 : (i : Int) + 1 ≤ (n : Int) := by omega
  have e3 : (i : Int) ≤ (i : Int) + 1 := by omega
  have e4 : (n : Int) ≤ (c : Int) := by omega
  have e5 : ((i : Int) == (i : Int) + 1) = false := by simp; omega
  have e9 : ¬ (i : Int) = (i : Int) + 1 := by omega
  have e6 : ((i : Int) + 1).toNat = i + 1 := by omega
  have e7 : (i : Int) ≤ (c : Int) := by omega
  by_cases hc : c = i + 1
  · subst hc
    obtain rfl : n = i + 1 := by omega
    rw [Nat.add_sub_cancel] at HE hclr ⊢
    rw [show i + 1 - i = 1 by omega] at hclr
    have HNL0 : Hid (news.length = 0 * 36) := by unfold Hid; rw [HNL.out]; omega
    have HC0 : Hid (∀ j u, news[j]? = some u → w.drew.cell? ((⟨g, 0, none⟩ : Addr).add j) = some u) := fun j u hj => by
      have h9 := HNL0.out
      rw [List.length_eq_zero_iff.1 (show news.length = 0 by omega)] at hj
      simp at hj
    have e8 : ¬ i + 1 = i := by omega
    go_enter Tryd.func63, Tryd.ntmps63
    go_wp2_with fail
    go_region_law_o (refine step_append_room rfl _ _ 41 rfl 58 i0 36 Tryd.underlying41 hi0 hz1 g 0 i (i + 1) (by simp [Act.eval, Act.put]) ⟨g, 0, none⟩ 0 0 news (by simp [Act.eval, Act.put]) HNL0.out HC0.out H1.out (by omega) HSP.out ?_)
    try simp only [Nat.add_zero]
    rw [HW1.out]
    have e10 : (i : Int) ≤ (i : Int) + 1 := by omega
    clear e1 e2 e3 e5 e6 e7 e9 HC HSP H1 HNL HW1 HNL0 HC0
    go_wp2_with (simp only [hclr])
    go_ret
    exact ⟨_, rfl, HE.out.1, HE.out.2, rfl⟩
  · have e8 : ¬ c = i := by omega
    go_enter Tryd.func63, Tryd.ntmps63
    go_wp2_with fail
    go_region_law_o (refine step_append_room rfl _ _ 41 rfl 58 i0 36 Tryd.underlying41 hi0 hz1 g 0 i c (by simp [Act.eval, Act.put]) ⟨g, (i + 1) * 36, none⟩ (n - (i + 1)) (c - (i + 1)) news (by simp [Act.eval, Act.put]) HNL.out HC.out H1.out (by omega) HSP.out ?_)
    rw [HW1.out]
    have en : i + (n - (i + 1)) = n - 1 := by omega
    try rw [en]
    have e10 : ((n - 1 : Nat) : Int) ≤ (n : Int) := by omega
    have e11 : ¬ c = n - 1 := by omega
    have e12 : n - (n - 1) = 1 := by omega
    clear e1 e2 e3 e5 e6 e7 e9 e8 hc HC HSP H1 HNL HW1
    go_wp2_with (simp only [hclr])
    go_ret
    exact ⟨_, rfl, HE.out.1, HE.out.2, rfl⟩
end Go.Proofs.YtcenchnmibdebaaDoor
