/-
  What Add answers.
-/
import Derived.Test.YtamjbmbflllbfaaMt
namespace Go.Proofs.Ytamjbmbflllbfaa
open Go.RowKit Go.Shelf
set_option maxRecDepth 100000

set_option maxHeartbeats 1000000 in
theorem replace_ins (B : Nat) (v : Value) (n i h : Nat) (cs : List Value) (xp xd : Int) (w : World) (ho : w.ownsRow B 45 2 v n cs) (hi : i ≤ n) (hn : n ≤ 1000) (hB : B ≤ w.heap.size) (h1 : ∀ y ∈ cs, y.oneCell' = true)
    (hh : w.heap[h]? = some (.cells #[.int .i64 xp, .int .i64 xd] 45 (0, 0))) (hne : v.ownBlock ≠ some h) :
    Calls Try.prog 62 #[v, .int .i64 i, .int .i64 i, .slice (some ⟨h, 0, none⟩) 1 1] w fun e w' => ∃ v', e = .returned v' ∧ w'.ownsRow B 45 2 v' (n + 1) (cs.take (i * 2) ++ [.int .i64 xp, .int .i64 xd] ++ cs.drop (i * 2)) ∧ w.grownBy w' v.ownBlock ∧ (v'.ownBlock = v.ownBlock ∨ v'.ownBlock = some w.heap.size) := by
  have ci := insert_own B v n i h cs xp xd w ho hi hn hB h1 hh hne
  generalize cs.take (i * 2) ++ [.int .i64 xp, .int .i64 xd] ++ cs.drop (i * 2) = cs' at *
  have x1 : (i : Int) ≤ (n : Int) := by omega
  have x3 : ((i : Int) == (i : Int)) = true := by simp
  rcases ho.2 with ⟨rfl, h0⟩ | ⟨g, c, cur, rfl, -, -, hnc, hcm, -, -⟩
  · obtain rfl : i = 0 := by omega
    clear ho hh hne h1
    go_enter Try.func62, Try.ntmps62
    go_wp2_with fail
    refine ci.mono ?_
    rintro e w1 ⟨v1, rfl, r1, r2, r3⟩
    have R : Hid (w1.ownsRow B 45 2 v1 (n + 1) cs' ∧ w.grownBy w1 (Value.ownBlock (.slice none 0 0)) ∧ (v1.ownBlock = Value.ownBlock (.slice none 0 0) ∨ v1.ownBlock = some w.heap.size)) := ⟨r1, r2, r3⟩
    clear ci r1 r2 r3
    go_wp2
    go_ret
    exact ⟨_, rfl, R.out⟩
  · have x2 : (n : Int) ≤ (c : Int) := by omega
    have x4 : (i : Int) ≤ (c : Int) := by omega
    clear ho hh hne h1
    by_cases hci : c = i
    · subst hci
      go_enter Try.func62, Try.ntmps62
      go_wp2_with fail
      refine ci.mono ?_
      rintro e w1 ⟨v1, rfl, r1, r2, r3⟩
      have R : Hid (w1.ownsRow B 45 2 v1 (n + 1) cs' ∧ w.grownBy w1 (Value.ownBlock (.slice (some ⟨g, 0, none⟩) n c)) ∧ (v1.ownBlock = Value.ownBlock (.slice (some ⟨g, 0, none⟩) n c) ∨ v1.ownBlock = some w.heap.size)) := ⟨r1, r2, r3⟩
      clear ci r1 r2 r3
      go_wp2
      go_ret
      exact ⟨_, rfl, R.out⟩
    · go_enter Try.func62, Try.ntmps62
      go_wp2_with fail
      refine ci.mono ?_
      rintro e w1 ⟨v1, rfl, r1, r2, r3⟩
      have R : Hid (w1.ownsRow B 45 2 v1 (n + 1) cs' ∧ w.grownBy w1 (Value.ownBlock (.slice (some ⟨g, 0, none⟩) n c)) ∧ (v1.ownBlock = Value.ownBlock (.slice (some ⟨g, 0, none⟩) n c) ∨ v1.ownBlock = some w.heap.size)) := ⟨r1, r2, r3⟩
      clear ci r1 r2 r3
      go_wp2
      go_ret
      exact ⟨_, rfl, R.out⟩
theorem spc_one (l : List Sp) : ∀ y ∈ (l.map spc).flatten, y.oneCell' = true := fun y hy => by
  obtain ⟨c, hc, hy⟩ := List.mem_flatten.1 hy
  obtain ⟨x, _, rfl⟩ := List.mem_map.1 hc
  simp only [spc, List.mem_cons, List.not_mem_nil, or_false] at hy
  rcases hy with rfl | rfl <;> rfl
theorem rsp_parts {w : World} {B n : Nat} {v : Value} {l m : List Sp} {i j : Nat} (hn : (l.take i ++ m ++ l.drop j).length = n)
    (h : w.ownsRow B 45 2 v n ((l.map spc).flatten.take (i * 2) ++ (m.map spc).flatten ++ (l.map spc).flatten.drop (j * 2))) : RSp w B v (l.take i ++ m ++ l.drop j) := by
  refine RSp.of ?_
  rw [flat_take, flat_drop] at h
  rw [List.map_append, List.map_append, List.flatten_append, List.flatten_append, hn]
  exact h
/-- slices.Replace, at one span. -/
theorem rep_one (w : World) (B : Nat) (v : Value) (l : List Sp) (i j h : Nat) (x : Sp) (hv : RSp w B v l) (hB : B ≤ w.heap.size) (hl : l.length ≤ 1000) (hij : i ≤ j) (hj : j ≤ l.length)
    (hh : w.heap[h]? = some (.cells #[.int .i64 x.1, .int .i64 x.2] 45 (0, 0))) (hne : v.ownBlock ≠ some h) :
    Calls Try.prog 62 #[v, .int .i64 (i : Int), .int .i64 (j : Int), .slice (some ⟨h, 0, none⟩) 1 1] w fun e w' => ∃ v', e = .returned v' ∧ RSp w' B v' (l.take i ++ [x] ++ l.drop j) ∧ w.grownBy w' v.ownBlock ∧ (v'.ownBlock = v.ownBlock ∨ v'.ownBlock = some w.heap.size) := by
  rcases Nat.lt_or_ge i j with hlt | hge
  · refine (replace_own B v l.length i j 1 _ [.int .i64 x.1, .int .i64 x.2] (.slice (some ⟨h, 0, none⟩) 1 1) w hv.own hlt hj hl (by omega) hB (spc_one l) ?_).mono ?_
    · intro g hg
      refine ⟨rfl, fun y hy => by simp only [List.mem_cons, List.not_mem_nil, or_false] at hy; rcases hy with rfl | rfl <;> rfl, .inr ⟨h, 1, _, rfl, hh, fun e => hne (by rw [hg, e]), ?_, ?_⟩⟩
      · intro j y hj
        simpa using hj
      · simp
    · rintro e w' ⟨v', rfl, r1, r2, r3⟩
      refine ⟨v', rfl, rsp_parts (m := [x]) ?_ (by simpa [spc] using r1), r2, r3⟩
      rw [List.length_append, List.length_append, List.length_take, List.length_drop, List.length_singleton]
      omega
  · obtain rfl : i = j := by omega
    refine (replace_ins B v l.length i h _ x.1 x.2 w hv.own hj hl hB (spc_one l) hh hne).mono ?_
    rintro e w' ⟨v', rfl, r1, r2, r3⟩
    refine ⟨v', rfl, rsp_parts (m := [x]) ?_ (by simpa [spc] using r1), r2, r3⟩
    rw [List.length_append, List.length_append, List.length_take, List.length_drop, List.length_singleton]
    omega
/-- What a call that changes a set keeps. -/
structure SU (w w' : World) (g : Nat) (v v' : Value) : Prop where
  os : w'.os = w.os
  tape : w'.tape = w.tape
  output : w'.output = w.output
  size : w.heap.size ≤ w'.heap.size
  block : ∀ k, k < w.heap.size → k ≠ g → v.ownBlock ≠ some k → w'.heap[k]? = w.heap[k]?
  own : v'.ownBlock = v.ownBlock ∨ ∃ k, v'.ownBlock = some k ∧ w.heap.size ≤ k
theorem SU.of {w w' : World} {g : Nat} {v : Value} (h : Below w.heap.size w w') : SU w w' g v v := ⟨h.os, h.tape, h.output, h.size, fun k hk _ _ => h.block k hk, .inl rfl⟩
/-- A call of others first, then a row that grows, then the store. -/
theorem su_mk {w w1 w2 : World} {B g : Nat} {v v' : Value} {l l' : List Sp} (h : ST w B g v l) (b1 : Below w.heap.size w w1) (r : RSp w2 B v' l') (gr : w1.grownBy w2 v.ownBlock) (ow : v'.ownBlock = v.ownBlock ∨ v'.ownBlock = some w1.heap.size) (cn : Canon l') (ln : l'.length ≤ 1000) :
    ST (w2.setCell ⟨g, 0, none⟩ v') B g v' l' ∧ SU w (w2.setCell ⟨g, 0, none⟩ v') g v v' := by
  have sb1 := h.sb.kept b1
  have hgl := blk_lt h.sb
  have hgo : v.ownBlock ≠ some g := fun e => by
    rcases h.rs.1.2 with ⟨rfl, _⟩ | ⟨k, cap, cur, rfl, _, hk, _⟩
    · cases e
    · obtain rfl : k = g := by simpa [Value.ownBlock] using e
      have := h.sb
      unfold SB at this
      rw [this] at hk
      simp at hk
  have hg' : v'.ownBlock ≠ some g := fun e => by
    rcases ow with o | o
    · exact hgo (o ▸ e)
    · rw [o] at e
      have : w1.heap.size = g := by simpa using e
      have := b1.size
      omega
  have sb2 : SB w2 g v := (gr.block g (by have := b1.size; omega) hgo.symm).trans sb1
  have sz : (w2.setCell ⟨g, 0, none⟩ v').heap.size = w2.heap.size := by simp [World.setCell]
  refine ⟨⟨set_one sb2, r.keep fun k cs hk hc => ?_, cn, ln⟩, ?_⟩
  · rw [Below.heap_setCell _ _ _ _ (show k ≠ g from fun e => hg' (e ▸ hk))]
    exact hc
  · refine ⟨gr.os.trans b1.os, gr.tape.trans b1.tape, gr.output.trans b1.output, by rw [sz]; exact Nat.le_trans b1.size gr.size, fun k hk hkg hko => ?_, ?_⟩
    · rw [Below.heap_setCell _ _ _ _ hkg, gr.block k (by have := b1.size; omega) (fun e => hko e.symm), b1.block k hk]
    · rcases ow with o | o
      · exact .inl o
      · exact .inr ⟨_, o, b1.size⟩
theorem su_sb {w w1 w2 : World} {B g : Nat} {v : Value} {l : List Sp} (h : ST w B g v l) (b1 : Below w.heap.size w w1) (gr : w1.grownBy w2 v.ownBlock) : SB w2 g v := by
  have hgl := blk_lt h.sb
  refine (gr.block g (by have := b1.size; omega) (fun e => ?_)).trans (h.sb.kept b1)
  rcases h.rs.1.2 with ⟨rfl, _⟩ | ⟨k, cap, cur, rfl, _, hk, _⟩
  · cases e
  · obtain rfl : k = g := by simpa [Value.ownBlock] using e.symm
    have := h.sb
    unfold SB at this
    rw [this] at hk
    simp at hk
theorem SB.frz {w : World} {g : Nat} {v : Value} (h : SB w g v) : w.frozen? ⟨g, 0, none⟩ = false := by unfold SB at h; simp [World.frozen?, h]
theorem own_lt {w : World} {B : Nat} {v : Value} {l : List Sp} (h : RSp w B v l) : ∀ k, v.ownBlock = some k → k < w.heap.size := fun k hk => by
  rcases h.1.2 with ⟨rfl, _⟩ | ⟨g, cap, cur, rfl, _, hh, _⟩
  · cases hk
  · obtain rfl : g = k := by simpa [Value.ownBlock] using hk
    exact blk_lt hh
end Go.Proofs.Ytamjbmbflllbfaa
