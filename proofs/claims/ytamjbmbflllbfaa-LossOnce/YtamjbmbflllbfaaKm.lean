/-
  What slices.Insert answers, at every row of the call's own.
-/
import Derived.Test.YtamjbmbflllbfaaKk
import Derived.Maps.AppendAt
namespace Go.Proofs.Ytamjbmbflllbfaa
open Go.RowKit Go.Shelf

set_option maxHeartbeats 4000000 in
theorem insert_end (B : Nat) (v : Value) (n h : Nat) (cs : List Value) (xp xd : Int) (w : World) (ho : w.ownsRow B 45 2 v n cs) (hn : n ≤ 1000) (hB : B ≤ w.heap.size)
    (hh : w.heap[h]? = some (.cells #[.int .i64 xp, .int .i64 xd] 45 (0, 0))) :
    Calls Try.prog 67 #[v, .int .i64 n, .slice (some ⟨h, 0, none⟩) 1 1] w fun e w' => ∃ v', e = .returned v' ∧ w'.ownsRow B 45 2 v' (n + 1) (cs ++ [.int .i64 xp, .int .i64 xd]) ∧ w.grownBy w' v.ownBlock ∧ (v'.ownBlock = v.ownBlock ∨ v'.ownBlock = some w.heap.size) := by
  obtain ⟨i0, hi, hz0, hz1, hz2⟩ := info_parts infoN
  have HO : Hid (w.ownsRow B 45 2 v n cs) := ho
  have hX : ∀ j y, [Value.int .i64 xp, .int .i64 xd][j]? = some y → w.cell? ((⟨h, 0, none⟩ : Addr).add j) = some y := fun j y hj => by
    rw [Addr.add_lit, Nat.zero_add]
    simp only [World.cell?, hh]
    simpa using hj
  have HX : Hid (∀ j y, [Value.int .i64 xp, .int .i64 xd][j]? = some y → w.cell? ((⟨h, 0, none⟩ : Addr).add j) = some y) := hX
  have H1 : Hid (∀ y ∈ [Value.int .i64 xp, .int .i64 xd], y.oneCell' = true) := fun y hy => by
    simp only [List.mem_cons, List.not_mem_nil, or_false] at hy
    rcases hy with rfl | rfl <;> rfl
  have HB : Hid (B ≤ w.heap.size) := hB
  have hsh : (v = .slice none 0 0 ∧ n = 0) ∨ ∃ g c, v = .slice (some ⟨g, 0, none⟩) n c ∧ n ≤ c ∧ c ≤ maxLen := by
    rcases ho.2 with h' | ⟨g, cap, cur, hv, _, _, h1, h2, _⟩
    · exact .inl h'
    · exact .inr ⟨g, cap, hv, h1, h2⟩
  clear ho hX hB hh
  rcases hsh with ⟨rfl, rfl⟩ | ⟨g, c, rfl, hnc, hcm⟩
  · go_enter Try.func67, Try.ntmps67
    go_wp2_with (at_builtin; refine wpList_append_own_at _ rfl _ _ 35 rfl B 45 i0 (.agg #[.int .i64 0, .int .i64 0]) 2 16 Try.underlying35 hi hz0 hz1 hz2 rfl (by decide) _ 0 cs rfl HO.out _ 1 1 [.int .i64 xp, .int .i64 xd] rfl rfl HX.out H1.out (by unfold maxLen; omega) (by omega) HB.out (Hid.out ?_))
    unfold Hid
    intro v' w' o' g' _ k'
    have O' : Hid (w'.ownsRow B 45 2 v' (0 + 1) (cs ++ [.int .i64 xp, .int .i64 xd])) := o'
    have G' : Hid (w.grownBy w' (Value.ownBlock (.slice none 0 0))) := g'
    have K' : Hid (v'.ownBlock = Value.ownBlock (.slice none 0 0) ∨ v'.ownBlock = some w.heap.size) := k'
    clear o' g' k' HO HX H1 HB
    go_wp2
    go_ret
    exact ⟨v', rfl, O'.out, G'.out, K'.out⟩
  · have hnc2 : n ≤ c := hnc
    have hin : (n : Int) ≤ (n : Int) := by omega
    by_cases hc : c = n
    · subst hc
      go_enter Try.func67, Try.ntmps67
      go_wp2_with (at_builtin; refine wpList_append_own_at _ rfl _ _ 35 rfl B 45 i0 (.agg #[.int .i64 0, .int .i64 0]) 2 16 Try.underlying35 hi hz0 hz1 hz2 rfl (by decide) _ c cs rfl HO.out _ 1 1 [.int .i64 xp, .int .i64 xd] rfl rfl HX.out H1.out (by unfold maxLen; omega) (by omega) HB.out (Hid.out ?_))
      unfold Hid
      intro v' w' o' g' _ k'
      have O' : Hid (w'.ownsRow B 45 2 v' (c + 1) (cs ++ [.int .i64 xp, .int .i64 xd])) := o'
      have G' : Hid (w.grownBy w' (Value.ownBlock (.slice (some ⟨g, 0, none⟩) c c))) := g'
      have K' : Hid (v'.ownBlock = Value.ownBlock (.slice (some ⟨g, 0, none⟩) c c) ∨ v'.ownBlock = some w.heap.size) := k'
      clear o' g' k' HO HX H1 HB
      go_wp2
      go_ret
      exact ⟨v', rfl, O'.out, G'.out, K'.out⟩
    · go_enter Try.func67, Try.ntmps67
      go_wp2_with (at_builtin; refine wpList_append_own_at _ rfl _ _ 35 rfl B 45 i0 (.agg #[.int .i64 0, .int .i64 0]) 2 16 Try.underlying35 hi hz0 hz1 hz2 rfl (by decide) _ n cs rfl HO.out _ 1 1 [.int .i64 xp, .int .i64 xd] rfl rfl HX.out H1.out (by unfold maxLen; omega) (by omega) HB.out (Hid.out ?_))
      unfold Hid
      intro v' w' o' g' _ k'
      have O' : Hid (w'.ownsRow B 45 2 v' (n + 1) (cs ++ [.int .i64 xp, .int .i64 xd])) := o'
      have G' : Hid (w.grownBy w' (Value.ownBlock (.slice (some ⟨g, 0, none⟩) n c))) := g'
      have K' : Hid (v'.ownBlock = Value.ownBlock (.slice (some ⟨g, 0, none⟩) n c) ∨ v'.ownBlock = some w.heap.size) := k'
      clear o' g' k' HO HX H1 HB
      go_wp2
      go_ret
      exact ⟨v', rfl, O'.out, G'.out, K'.out⟩
theorem insert_own (B : Nat) (v : Value) (n i h : Nat) (cs : List Value) (xp xd : Int) (w : World) (ho : w.ownsRow B 45 2 v n cs) (hi : i ≤ n) (hn : n ≤ 1000) (hB : B ≤ w.heap.size) (h1 : ∀ y ∈ cs, y.oneCell' = true)
    (hh : w.heap[h]? = some (.cells #[.int .i64 xp, .int .i64 xd] 45 (0, 0))) (hne : v.ownBlock ≠ some h) :
    Calls Try.prog 67 #[v, .int .i64 i, .slice (some ⟨h, 0, none⟩) 1 1] w fun e w' => ∃ v', e = .returned v' ∧ w'.ownsRow B 45 2 v' (n + 1) (cs.take (i * 2) ++ [.int .i64 xp, .int .i64 xd] ++ cs.drop (i * 2)) ∧ w.grownBy w' v.ownBlock ∧ (v'.ownBlock = v.ownBlock ∨ v'.ownBlock = some w.heap.size) := by
  rcases Nat.lt_or_ge i n with hlt | hge
  · rcases ho.2 with ⟨_, h0⟩ | ⟨g, c, cur, rfl, hBg, hg, hnc, hcm, hsz, htk⟩
    · omega
    have hne' : h ≠ g := fun e => hne (by rw [e]; rfl)
    have hlen : (cs.take (i * 2) ++ [Value.int .i64 xp, .int .i64 xd] ++ cs.drop (i * 2)).length = (n + 1) * 2 := by
      rw [List.length_append, List.length_append, List.length_take, List.length_drop, ho.1]
      simp
      omega
    rcases Nat.lt_or_ge c (n + 1) with hr | hr
    · refine (insert_grow g c n i h cur xp xd w hg hsz hlt hnc hr hn (by rw [htk]; exact h1) hh).mono ?_
      rintro e w' ⟨cap, rfl, k1, k2, ⟨cur', k3, k4, k5⟩, k6⟩
      refine ⟨_, rfl, ⟨hlen, .inr ⟨w.heap.size, cap, cur', rfl, hB, k3, k1, k2, k4, ?_⟩⟩, ⟨k6.os, k6.tape, k6.output, k6.size, fun k hk _ => k6.block k hk (by simp)⟩, .inr rfl⟩
      rw [k5, htk]
    · refine (insert_room g c n i h cur xp xd w hg hsz hlt hr hcm hn (by rw [htk]; exact h1) hh hne').mono ?_
      rintro e w' ⟨rfl, ⟨cur', k3, k4, k5⟩, k6⟩
      refine ⟨_, rfl, ⟨hlen, .inr ⟨g, c, cur', rfl, hBg, k3, hr, hcm, k4, ?_⟩⟩, k6, .inl rfl⟩
      rw [k5, htk]
  · obtain rfl : i = n := by omega
    have e1 : cs.take (i * 2) = cs := List.take_of_length_le (by rw [ho.1]; exact Nat.le_refl _)
    have e2 : cs.drop (i * 2) = [] := List.drop_of_length_le (by rw [ho.1]; exact Nat.le_refl _)
    rw [e1, e2, List.append_nil]
    exact insert_end B v i h cs xp xd w ho hn hB hh
end Go.Proofs.Ytamjbmbflllbfaa
