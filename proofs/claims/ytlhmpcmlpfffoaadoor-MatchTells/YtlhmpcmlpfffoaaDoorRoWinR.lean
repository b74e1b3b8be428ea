/-
  What a window's Out and Roll answer and leave.
-/
import Derived.Test.YtlhmpcmlpfffoaaDoorRoWinO
namespace Go.Proofs.YtlhmpcmlpfffoaaDoor.Ro
open Go.RowKit
set_option maxRecDepth 100000

set_option maxHeartbeats 2000000 in
theorem wout_none (base g : Nat) (hv : Value) (w : World) (h : Win w base g hv []) :
    Calls Tryd.prog 54 #[.pointer (some ⟨g, 0, none⟩)] w fun e w' => e = .returned (.tuple #[.int .u8 0, .bool false]) ∧ Below w.heap.size w w' ∧ w'.heap = w.heap := by
  have c := wlen_any base g hv [] w h (by simp)
  clear h
  go_enter Tryd.func54, Tryd.ntmps54
  go_wp2_with fail
  refine c.mono ?_
  rintro e w1 ⟨rfl, hb, hh⟩
  clear c
  go_wp2_with fail
  go_ret2
  exact ⟨rfl, hb, hh⟩

set_option maxHeartbeats 2000000 in
theorem wout_some (base g : Nat) (hv : Value) (c : Int) (r : List Int) (w : World) (h : Win w base g hv (c :: r)) (hbig : r.length < 1000000) :
    Calls Tryd.prog 54 #[.pointer (some ⟨g, 0, none⟩)] w fun e w' => e = .returned (.tuple #[.int .u8 c, .bool true]) ∧ ∃ hv', Win w' base g hv' r ∧ Fr g hv.ownBlock w w' ∧ (hv'.ownBlock = hv.ownBlock ∨ ∀ k, hv'.ownBlock = some k → w.heap.size ≤ k) := by
  have cl := wlen_any base g hv (c :: r) w h (by simp; omega)
  obtain ⟨hs, gone, h, h4⟩ := h
  have hlt := h.lt
  have hap := h.apart
  have hcb : 0 ≤ c ∧ c < 256 := by simpa using h.bytes 0
  have hh := h.2.2.2.2.2
  have CW : Hid (∀ W, Calls Tryd.prog 66 #[.complex .f64 (fl (pa (c :: r))) (fl (pb (c :: r))), .int .u8 c, .int .i64 ((r.length + 1 : Nat) : Int)] W fun e w' => e = .returned (.complex .f64 (fl (pa r)) (fl (pb r))) ∧ w' = W) := fun W => by
    have := without_any (pa (c :: r)) (pb (c :: r)) c ((r.length + 1 : Nat) : Int) W (pa_range _) (pb_range _) hcb (by omega) (by omega)
    rw [← pa_tail, ← pb_tail] at this
    exact this
  have HS : Hid (∀ W, Below w.heap.size w W → WinR W base g hv hs gone (c :: r)) := fun W hb => h.kept hb
  obtain ⟨a, cap, rfl, h2, h3, c0, c1, c2, hf, sl, own⟩ := h.cells
  have hlen : hs.length ≤ 3000000 := by simp at h3 h4; omega
  have hgl : gone < hs.length := by simp at h3; omega
  have hgc : hs.getD gone 0 = c := by
    have : (hs.drop gone)[0]? = some c := by rw [← h2]; rfl
    rw [List.getElem?_drop, Nat.add_zero] at this
    simp [List.getD, this]
  have TD : Hid (∀ W, Below w.heap.size w W → Calls Tryd.prog 67 #[.pointer (some ⟨g, 0, none⟩)] ((W.setCell ⟨g, 0, none⟩ (.complex .f64 (fl (pa r)) (fl (pb r)))).setCell ⟨g, 2, none⟩ (.int .i64 ((gone : Int) + 1))) fun e w' => e = .returned (.tuple #[]) ∧ ∃ hv', Win w' base g hv' r ∧ Fr g (Value.slice a hs.length cap).ownBlock w w' ∧ (hv'.ownBlock = (Value.slice a hs.length cap).ownBlock ∨ ∀ k, hv'.ownBlock = some k → w.heap.size ≤ k)) := by
    intro W hb
    rw [show (gone : Int) + 1 = ((gone + 1 : Nat) : Int) by omega]
    have hW := HS.out W hb
    have hWh := hW.2.2.2.2.2
    have fr1 : Fr g (Value.slice a hs.length cap).ownBlock w ((W.setCell ⟨g, 0, none⟩ (.complex .f64 (fl (pa r)) (fl (pb r)))).setCell ⟨g, 2, none⟩ (.int .i64 ((gone + 1 : Nat) : Int))) :=
      (Fr.of hb).trans ((Fr.set g 0 _ _ _).trans (Fr.set g 2 _ _ _))
    have hR : WinR ((W.setCell ⟨g, 0, none⟩ (.complex .f64 (fl (pa r)) (fl (pb r)))).setCell ⟨g, 2, none⟩ (.int .i64 ((gone + 1 : Nat) : Int))) base g (.slice a hs.length cap) hs (gone + 1) r := by
      refine ⟨h.1, ?_, ?_, h.2.2.2.1, own_set (own_set hW.2.2.2.2.1 g 0 _ hap) g 2 _ hap, ?_⟩
      · rw [← List.drop_drop, ← h2]; rfl
      · simp at h3; omega
      · rw [heap_setCell_same _ _ _ _ _ _ (heap_setCell_same _ _ _ _ _ _ hWh)]; rfl
    refine (tidy_any base g _ hs (gone + 1) r _ hR hlen).mono ?_
    rintro e w' ⟨rfl, hv', k1, k2, k3⟩
    refine ⟨rfl, hv', k1, fr1.trans k2, ?_⟩
    rcases k3 with k3 | k3
    · exact .inl k3
    · exact .inr fun k hk => Nat.le_trans fr1.size (k3 k hk)
  obtain ⟨b, off, rfl, hbyte⟩ : ∃ b off, a = some ⟨b, off, none⟩ ∧ ∀ W, Below w.heap.size w W → W.cell? ⟨b, off + gone, none⟩ = some (.int .u8 c) := by
    have sl0 := sl
    obtain ⟨a', cap', e, _, _, _, rr⟩ := sl
    cases e
    rcases rr with rr | ⟨_, b, off, rfl, _, _, hc, _⟩
    · omega
    · refine ⟨b, off, rfl, fun W hb => ?_⟩
      rw [(hb.cell (p := ⟨b, off + gone, none⟩) (World.block_lt_of_cell? _ _ (hc gone hgl))), hc gone hgl, hgc]
  have HB : Hid (∀ W, Below w.heap.size w W → W.cell? ⟨b, off + gone, none⟩ = some (.int .u8 c)) := hbyte
  have HC : Hid (∀ W, Below w.heap.size w W → W.cell? ⟨g, 0, none⟩ = some (.complex .f64 (fl (pa (c :: r))) (fl (pb (c :: r)))) ∧ W.cell? ⟨g, 1, none⟩ = some (.slice (some ⟨b, off, none⟩) hs.length cap) ∧ W.cell? ⟨g, 2, none⟩ = some (.int .i64 gone) ∧ W.frozen? ⟨g, 0, none⟩ = false ∧ W.frozen? ⟨g, 2, none⟩ = false) := fun W hb => by
    have hW := (hb.block g hlt).trans hh
    exact ⟨by rw [cell_of_row _ _ _ _ _ _ hW]; rfl, by rw [cell_of_row _ _ _ _ _ _ hW]; rfl, by rw [cell_of_row _ _ _ _ _ _ hW]; rfl, frozen_of_row _ _ _ _ _ hW, frozen_of_row _ _ _ _ _ hW⟩
  have hst := st_complex ⟨g, 0, none⟩ (fl (pa r)) (fl (pb r))
  clear hbyte h2 h3 h4 c0 c1 c2 hf sl own h HS hh hap hgc
  rw [List.length_cons] at cl
  generalize fl (pa r) = A' at *
  generalize fl (pb r) = B' at *
  generalize fl (pa (c :: r)) = A at *
  generalize fl (pb (c :: r)) = B at *
  generalize hs.length = m at *
  obtain ⟨n, hn⟩ : ∃ n, n = r.length + 1 := ⟨_, rfl⟩
  rw [← hn] at cl CW
  have hn0 : (n : Int) ≠ 0 := by omega
  have hnn : ((n : Int) == 0) = false := by simpa using hn0
  have hg1 : (gone : Int) < m := by omega
  clear hn hbig hn0
  go_enter Tryd.func54, Tryd.ntmps54
  go_wp2_with fail
  refine cl.mono ?_
  rintro e w1 ⟨rfl, bel1, _⟩
  clear cl
  obtain ⟨d0, d1, d2, d3, d4⟩ := HC.out w1 bel1
  have d5 := HB.out w1 bel1
  go_wp2_with fail
  go_quiet (fail)
  go_wp2_with fail
  refine (CW.out _).mono ?_
  rintro e w2 ⟨rfl, rfl⟩
  go_wp2_with fail
  refine (TD.out _ (below_drewN bel1 _)).mono ?_
  rintro e w3 ⟨rfl, hF⟩
  have HF : Hid (∃ hv', Win w3 base g hv' r ∧ Fr g (Value.slice (some ⟨b, off, none⟩) m cap).ownBlock w w3 ∧ (hv'.ownBlock = (Value.slice (some ⟨b, off, none⟩) m cap).ownBlock ∨ ∀ k, hv'.ownBlock = some k → w.heap.size ≤ k)) := hF
  clear hF TD CW
  go_wp2_with fail
  go_ret2
  exact ⟨rfl, HF.out⟩

set_option maxHeartbeats 2000000 in
theorem wroll_none (base g : Nat) (hv : Value) (d : Int) (w : World) (h : Win w base g hv []) :
    Calls Tryd.prog 32 #[.pointer (some ⟨g, 0, none⟩), .int .u8 d] w fun e w' => e = .returned (.bool false) ∧ Below w.heap.size w w' ∧ w'.heap = w.heap := by
  have c := wout_none base g hv w h
  clear h
  go_enter Tryd.func32, Tryd.ntmps32
  go_wp2_with fail
  refine c.mono ?_
  rintro e w1 ⟨rfl, hb, hh⟩
  clear c
  go_wp2_with fail
  go_ret
  exact ⟨rfl, hb, hh⟩

set_option maxHeartbeats 2000000 in
theorem wroll_some (base g : Nat) (hv : Value) (c d : Int) (r : List Int) (w : World) (h : Win w base g hv (c :: r)) (hbig : r.length < 1000000) (hd0 : 0 ≤ d) (hd1 : d < 256) :
    Calls Tryd.prog 32 #[.pointer (some ⟨g, 0, none⟩), .int .u8 d] w fun e w' => e = .returned (.bool true) ∧ ∃ hv', Win w' base g hv' (r ++ [d]) ∧ Fr g hv.ownBlock w w' ∧ (hv'.ownBlock = hv.ownBlock ∨ ∀ k, hv'.ownBlock = some k → w.heap.size ≤ k) := by
  have c1 := wout_some base g hv c r w h hbig
  have HI : Hid (∀ W hv', Win W base g hv' r → Fr g hv.ownBlock w W → (hv'.ownBlock = hv.ownBlock ∨ ∀ k, hv'.ownBlock = some k → w.heap.size ≤ k) →
      Calls Tryd.prog 55 #[.pointer (some ⟨g, 0, none⟩), .int .u8 d] W fun e w' => e = .returned (.tuple #[]) ∧ ∃ hv', Win w' base g hv' (r ++ [d]) ∧ Fr g hv.ownBlock w w' ∧ (hv'.ownBlock = hv.ownBlock ∨ ∀ k, hv'.ownBlock = some k → w.heap.size ≤ k)) := by
    intro W hv1 k1 k2 k3
    refine (win_any base g hv1 r d W k1 (by omega) hd0 hd1).mono ?_
    rintro e w' ⟨rfl, hv2, m1, m2, m3⟩
    refine ⟨rfl, hv2, m1, k2.trans' m2 k3, ?_⟩
    rcases m3 with m3 | m3
    · rw [m3]; exact k3
    · exact .inr fun k hk => Nat.le_trans k2.size (m3 k hk)
  clear h hbig hd0 hd1
  go_enter Tryd.func32, Tryd.ntmps32
  go_wp2_with fail
  refine c1.mono ?_
  rintro e w1 ⟨rfl, hv1, k1, k2, k3⟩
  clear c1
  have c2 := HI.out w1 hv1 k1 k2 k3
  clear HI k1 k2 k3
  go_wp2_with fail
  refine c2.mono ?_
  rintro e w2 ⟨rfl, hF⟩
  have HF : Hid (∃ hv', Win w2 base g hv' (r ++ [d]) ∧ Fr g hv.ownBlock w w2 ∧ (hv'.ownBlock = hv.ownBlock ∨ ∀ k, hv'.ownBlock = some k → w.heap.size ≤ k)) := hF
  clear hF c2
  go_wp2_with fail
  go_ret
  exact ⟨rfl, HF.out⟩

theorem Win.base {w : World} {base g : Nat} {hv : Value} {zs : List Int} (h : Win w base g hv zs) : base ≤ g ∧ base ≤ w.heap.size ∧ ∀ k, hv.ownBlock = some k → base ≤ k := by
  have := h.lt
  obtain ⟨hs, gone, h, _⟩ := h
  exact ⟨h.1, by have := h.1; omega, own_base h.2.2.2.2.1⟩
theorem Win.fr {w w' : World} {base g : Nat} {hv : Value} {zs : List Int} (h : Win w base g hv zs) (f : Fr g hv.ownBlock w w') : Below base w w' := f.below h.base.1 h.base.2.2 h.base.2.1
end Go.Proofs.YtlhmpcmlpfffoaaDoor.Ro
