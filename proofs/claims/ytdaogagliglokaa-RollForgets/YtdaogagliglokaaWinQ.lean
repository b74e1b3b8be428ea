/-
  What a window's Len answers, where nothing is changed but the order that is drawn; a window of bytes rolled along them.
-/
import Derived.Test.YtdaogagliglokaaFr
namespace Go.Proofs.Ytdaogagliglokaa
open Go.RowKit

set_option maxHeartbeats 1000000 in
theorem wlenQ_any (base g : Nat) (hv : Value) (zs : List Int) (w : World) (h : Win w base g hv zs) (hbig : zs.length ≤ 1000000) :
    Calls Try.prog 21 #[.pointer (some ⟨g, 0, none⟩)] w fun e w' => e = .returned (.int .i64 (zs.length : Nat)) ∧ ∃ m, w' = w.drewN m := by
  obtain ⟨hs, gone, h, h4⟩ := h
  obtain ⟨a, cap, rfl, h2, h3, c0, c1, c2, hf, sl, own⟩ := h.cells
  clear h2 sl own c0 hf h
  generalize zs.length = n at *
  generalize hs.length = m at *
  go_enter Try.func21, Try.ntmps21
  go_wp2_with fail
  go_quiet (fail)
  go_wp2_with fail
  go_ret
  exact ⟨by go_num, _, rfl⟩

/-- The n bytes from k on. -/
def over (X : List Int) (n k : Nat) : List Int := (X.drop k).take n
theorem over_len (X : List Int) (n k : Nat) (h : k + n ≤ X.length) : (over X n k).length = n := by unfold over; rw [List.length_take, List.length_drop]; omega
theorem over_step (X : List Int) (n k : Nat) (hn : 0 < n) (h : k + n < X.length) : ∃ c r, over X n k = c :: r ∧ r.length + 1 = n ∧ r ++ [X.getD (k + n) 0] = over X n (k + 1) := by
  obtain ⟨m, rfl⟩ : ∃ m, n = m + 1 := ⟨n - 1, by omega⟩
  have hd : X.drop k = X.getD k 0 :: X.drop (k + 1) := by
    rw [List.drop_eq_getElem_cons (by omega)]
    simp [List.getD, List.getElem?_eq_getElem (show k < X.length by omega)]
  refine ⟨X.getD k 0, (X.drop (k + 1)).take m, ?_, ?_, ?_⟩
  · unfold over; rw [hd, List.take_succ_cons]
  · rw [List.length_take, List.length_drop]; omega
  · unfold over
    rw [take_next (X.drop (k + 1)) m (by rw [List.length_drop]; omega)]
    simp [List.getD, List.getElem?_drop, show k + (m + 1) = k + 1 + m by omega]

theorem getD_take (zs : List Int) (len j : Nat) (h : j < len) : (zs.take len).getD j 0 = zs.getD j 0 := by simp [List.getD, h]
theorem Bytes.len_le {w : World} {a : Option Addr} {len cap : Nat} {zs : List Int} (h : Bytes w a len cap zs) : len ≤ cap ∧ cap ≤ 140737488351232 ∧ (zs.take len).length = len := by
  obtain ⟨_, h1, h2, h3, _⟩ := h
  exact ⟨h2, h3, by rw [List.length_take]; omega⟩
/-- The cells of bytes that came in. -/
theorem Bytes.at {w : World} {a : Option Addr} {len cap : Nat} {zs : List Int} (h : Bytes w a len cap zs) (hp : 0 < len) : ∃ b off, a = some ⟨b, off, none⟩ ∧ ∀ W, Below w.heap.size w W → ∀ j, j < len → W.cell? ⟨b, off + j, none⟩ = some (.int .u8 ((zs.take len).getD j 0)) := by
  rcases h.row with h0 | ⟨_, b, off, rfl, _, _, hc, _⟩
  · omega
  · refine ⟨b, off, rfl, fun W hb j hj => ?_⟩
    rw [(hb.cell (p := ⟨b, off + j, none⟩) (World.block_lt_of_cell? _ _ (hc j hj))), hc j hj, getD_take _ _ _ hj]
theorem Bytes.bound {w : World} {a : Option Addr} {len cap : Nat} {zs : List Int} (h : Bytes w a len cap zs) : ∀ i, 0 ≤ (zs.take len).getD i 0 ∧ (zs.take len).getD i 0 < 256 := bytes_take _ _ h.1
end Go.Proofs.Ytdaogagliglokaa
