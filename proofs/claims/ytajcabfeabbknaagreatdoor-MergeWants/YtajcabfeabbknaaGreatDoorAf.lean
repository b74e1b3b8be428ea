/-
  What the laws' own 'file' answers: an entry of a path and a text's bytes.
-/
import Derived.Test.YtajcabfeabbknaaGreatDoorMu
import Derived.Laws.IdiomStrings
namespace Go.Proofs.YtajcabfeabbknaaGreatDoor
open Go.RowKit

/-- A string's bytes, as numbers. -/
def sb (s : ByteArray) : List Int := s.data.toList.map fun b => (b.toNat : Int)
theorem sb_len (s : ByteArray) : (sb s).length = s.size := by unfold sb; rw [List.length_map]; rfl
theorem sb_bytes (s : ByteArray) : ∀ i, 0 ≤ (sb s).getD i 0 ∧ (sb s).getD i 0 < 256 := by
  refine byteList _ ?_
  rw [List.all_eq_true]
  intro z hz
  obtain ⟨b, _, rfl⟩ := List.mem_map.1 hz
  have := b.toNat_lt
  simp
  omega
/-- '[]byte(s)'. -/
theorem conv_str (s : ByteArray) (w : World) (hs : s.size ≤ 9223372036854775807) : ∃ cap w2, (convert 9 44 (.string s)).run Tryz.prog w = .ok (.slice (some ⟨w.heap.size, 0, none⟩) s.size cap) w2 ∧ Sl w2 (.slice (some ⟨w.heap.size, 0, none⟩) s.size cap) (sb s) ∧ Below w.heap.size w w2 := by
  refine ⟨_, _, run_bytes_of_string w 9 44 5 s Tryz.underlying9 Tryz.underlying44 Tryz.underlying5, ?_, ?_⟩
  · have hge := grownCap_ge w s.size 0 5
    have hmx := grownCap_le_maxLen w s.size 0 5 (by unfold maxLen; omega)
    refine ⟨_, _, by rw [sb_len], by rw [sb_len]; exact hge, hmx, fun e => (by cases e), ?_⟩
    rw [sb_len]
    rcases Nat.eq_zero_or_pos s.size with h | h
    · exact .inl h
    · refine .inr ⟨h, _, 0, rfl, hge, hmx, fun i hi => ?_, sb_bytes s⟩
      have hi' : i < s.data.size := hi
      rw [Nat.zero_add]
      have := World.cell?_alloc_mark w.drew (bytesRow s (grownCap w s.size 0 5)) 5 ((bytesRow s (grownCap w s.size 0 5)).size, (bytesRow s (grownCap w s.size 0 5)).size + 1) i
      refine this.trans ?_
      rw [bytesRow_at s _ i hi']
      congr 2
      simp [sb, List.getD, Array.getElem?_eq_getElem hi']
  · exact (Below.refl _ w).drew.alloc (Nat.le_refl _) _
theorem sl_other {w w' : World} {b n c : Nat} {xs : List Int} (h : Sl w (.slice (some ⟨b, 0, none⟩) n c) xs) (hb : w'.heap[b]? = w.heap[b]?) : Sl w' (.slice (some ⟨b, 0, none⟩) n c) xs := by
  obtain ⟨a, c', e, h1, h2, h3, h4⟩ := h
  cases e
  refine ⟨_, c, rfl, h1, h2, h3, ?_⟩
  rcases h4 with h4 | ⟨hp, b', off, e, q1, q2, q3, q4⟩
  · exact .inl h4
  · cases e
    exact .inr ⟨hp, b, 0, rfl, q1, q2, fun i hi => (World.cell?_of_block hb).trans (q3 i hi), q4⟩
set_option maxHeartbeats 1000000 in
theorem file_any (p b : ByteArray) (w : World) (hs : b.size ≤ 1000) :
    Calls Tryz.prog 18 #[.string p, .string b] w fun e w' => ∃ u, e = .returned u ∧ EV w' u ⟨p, false, sb b⟩ ∧ Below w.heap.size w w' := by
  obtain ⟨W1, hW1⟩ : ∃ W1, W1 = w.alloc (.cells #[.string ⟨#[]⟩, .bool false, .slice none 0 0] 46) := ⟨_, rfl⟩
  have b1 : Below w.heap.size w W1 := by rw [hW1]; exact (Below.refl _ _).alloc (Nat.le_refl _) _
  have K1 : W1.heap[w.heap.size]? = some (.cells #[.string ⟨#[]⟩, .bool false, .slice none 0 0] 46 (0, 0)) := by rw [hW1]; exact heap_alloc_new _ _
  have s1 : w.heap.size < W1.heap.size := lt_of_block K1
  obtain ⟨cap, w2, hc, sl, b2⟩ := conv_str b W1 (by omega)
  obtain ⟨p0, p1, p2, f0, f1, f2⟩ := trio ((b2.block _ s1).trans K1)
  have B2 : Hid (Below w.heap.size w w2) := b1.trans (b2.mono b1.size)
  have SL : Hid (Sl w2 (.slice (some ⟨W1.heap.size, 0, none⟩) b.size cap) (sb b)) := sl
  have S1 : Hid (w.heap.size < W1.heap.size) := s1
  obtain ⟨g, hg⟩ : ∃ g, g = W1.heap.size := ⟨_, rfl⟩
  rw [← hg] at hc SL S1
  rw [hW1] at hc
  clear b1 b2 K1 s1 sl hg hW1
  obtain ⟨n, hn⟩ : ∃ n, n = b.size := ⟨_, rfl⟩
  rw [← hn] at SL hc
  clear hn
  go_enter Tryz.func18, Tryz.ntmps18
  go_wp2
  refine bodyPost_ret (v := .agg #[.string p, .bool false, .slice (some ⟨g, 0, none⟩) n cap]) ?h1 rfl ?_
  case h1 => simp [results, Tryz.results18, go_sem, *]
  refine ⟨_, rfl, ⟨some ⟨g, 0, none⟩, n, cap, rfl, ?_⟩, ((B2.out.setCell (Nat.le_refl _) _).setCell (Nat.le_refl _) _).setCell (Nat.le_refl _) _⟩
  have hne : g ≠ w.heap.size := by have := S1.out; omega
  exact sl_other SL.out (((Below.heap_setCell _ _ _ g hne).trans (Below.heap_setCell _ _ _ g hne)).trans (Below.heap_setCell _ _ _ g hne))
end Go.Proofs.YtajcabfeabbknaaGreatDoor
