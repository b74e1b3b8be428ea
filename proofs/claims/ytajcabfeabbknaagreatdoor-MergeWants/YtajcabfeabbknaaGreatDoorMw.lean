/-
  What pick answers, at each function that it is handed.
  What pick answers, at each function that it is handed.
-/
import Derived.Test.YtajcabfeabbknaaGreatDoorMu
import Derived.Test.YtajcabfeabbknaaGreatDoorSe
namespace Go.Proofs.YtajcabfeabbknaaGreatDoor
open Go.RowKit

theorem fil_next (l : List En) (f : En → Bool) (j : Nat) (h : j < l.length) : (l.take (j + 1)).filter f = if f (atE l j) then (l.take j).filter f ++ [atE l j] else (l.take j).filter f := by
  rw [take_at l j h, List.filter_append]
  generalize atE l j = x
  cases hb : f x <;> simp [hb]
theorem SE.shape4 {w0 w : World} {B : Nat} {v : Value} {L : List En} (h : SE w0 w B v L) : ∃ a c, v = .slice a L.length c ∧ L.length ≤ c := by
  obtain ⟨U, h1, _⟩ := h
  rcases h1.2 with ⟨h2, h3⟩ | ⟨g, cap, cur, hv, _, _, hl, _⟩
  · exact ⟨none, 0, by rw [h2, h3], by omega⟩
  · exact ⟨_, cap, hv, hl⟩
set_option maxHeartbeats 2000000 in
theorem pickT (v : Value) (l : List En) (f : En → Bool) (g1 g2 g3 : Nat) (w : World) (h : ES w v l) (hl : Lt l)
    (hf : ∀ (W : World) (u : Value) (x : En), Below w.heap.size w W → EV W u x → x.p.size ≤ 1000 → Calls Tryz.prog 50 #[u, .pointer (some ⟨g1, 0, none⟩), .pointer (some ⟨g2, 0, none⟩), .pointer (some ⟨g3, 0, none⟩)] W fun e w' => e = .returned (.bool (f x)) ∧ Below W.heap.size W w') :
    Calls Tryz.prog 22 #[v, .func (.func 50) #[] #[.pointer (some ⟨g1, 0, none⟩), .pointer (some ⟨g2, 0, none⟩), .pointer (some ⟨g3, 0, none⟩)]] w fun e w' => ∃ v', e = .returned v' ∧ SE w w' w.heap.size v' (l.filter f) ∧ Below w.heap.size w w' := by
  obtain ⟨a, c, rfl, h2, h3, h4⟩ := h.shape
  have HS : Hid (ES w (.slice a l.length c) l) := h
  have HL : Hid (Lt l) := hl
  have HF : Hid (∀ (W : World) (u : Value) (x : En), Below w.heap.size w W → EV W u x → x.p.size ≤ 1000 → Calls Tryz.prog 50 #[u, .pointer (some ⟨g1, 0, none⟩), .pointer (some ⟨g2, 0, none⟩), .pointer (some ⟨g3, 0, none⟩)] W fun e w' => e = .returned (.bool (f x)) ∧ Below W.heap.size W w') := hf
  have hn := hl.1
  have HV : Hid (∀ j, ((l.take j).filter f).length ≤ 100) := fun j => by
    have h1 : ((l.take j).filter f).length ≤ (l.take j).length := List.length_filter_le _ _
    rw [List.length_take] at h1
    omega
  obtain ⟨n, hn'⟩ : ∃ n, n = l.length := ⟨_, rfl⟩
  have HN : Hid (n = l.length) := hn'
  rw [← hn'] at HS h2 hn ⊢
  clear h hl h3 h4 hn' hf
  obtain ⟨Z, hZ⟩ : ∃ Z, Z = l.filter f := ⟨_, rfl⟩
  have HZ : Hid (Z = l.filter f) := hZ
  rw [← hZ]
  clear hZ
  go_enter Tryz.func22, Tryz.ntmps22
  go_wp2
  go_loopw [5, 10] (fun s q wr => ∃ j : Nat, j ≤ n ∧ q = .int .i64 j ∧ SE w wr w.heap.size s ((l.take j).filter f) ∧ Below w.heap.size w wr) (fun _ q _ => n - (intOf q).toNat)
  case atStart => exact ⟨0, by omega, rfl, SE.nil _ _ _, Below.refl _ _⟩
  case round =>
    obtain ⟨j, hj, rfl, se, bel⟩ := hrel
    have HB : Hid (Below w.heap.size w wr) := bel
    have HO : Hid (SE w wr w.heap.size u5 ((l.take j).filter f)) := se
    obtain ⟨va, vc, rfl⟩ := se.shape
    obtain ⟨nv, hnv⟩ : ∃ nv, nv = ((l.take j).filter f).length := ⟨_, rfl⟩
    have HJ : Hid (nv = ((l.take j).filter f).length) := hnv
    have hj9 : nv ≤ 100 := by rw [hnv]; exact HV.out j
    rw [← hnv] at HO ⊢
    clear bel se hnv
    by_cases hlt : j < n
    · have lt2 : (j : Int) < (n : Int) := by omega
      obtain ⟨b, off, ua, un, uc, rfl, d1, d2, d3, hun, hsl⟩ := HS.out.at j (by rw [← HN.out]; exact hlt)
      have c1 := (HB.out.cell (World.block_lt_of_cell? _ _ d1)).trans d1
      have c2 := (HB.out.cell (World.block_lt_of_cell? _ _ d2)).trans d2
      have c3 := (HB.out.cell (World.block_lt_of_cell? _ _ d3)).trans d3
      have q1 : IntKind.i64.wrap ((j : Int) + 1) = ((j + 1 : Nat) : Int) := by simp [IntKind.wrap, IntKind.bits, IntKind.signed]; omega
      have HT : Hid ((l.take (j + 1)).filter f = if f (atE l j) then (l.take j).filter f ++ [atE l j] else (l.take j).filter f) := fil_next l f j (by rw [← HN.out]; exact hlt)
      have SX : Hid (Sl w (.slice ua un uc) (atE l j).z) := hsl
      obtain ⟨W1, hW1⟩ : ∃ W1, W1 = wr.alloc (.cells #[.string (atE l j).p, .bool (atE l j).d, .slice ua un uc] 46) := ⟨_, rfl⟩
      have b1 : Below wr.heap.size wr W1 := by rw [hW1]; exact (Below.refl _ _).alloc (Nat.le_refl _) _
      have K1 : W1.heap[wr.heap.size]? = some (.cells #[.string (atE l j).p, .bool (atE l j).d, .slice ua un uc] 46 (0, 0)) := by rw [hW1]; exact heap_alloc_new _ _
      have HK : Hid (∀ W, Below W1.heap.size W1 W → W.heap[wr.heap.size]? = some (.cells #[.string (atE l j).p, .bool (atE l j).d, .slice ua un uc] 46 (0, 0))) := fun W hb => (hb.block _ (lt_of_block K1)).trans K1
      have B1 : Hid (Below w.heap.size w W1) := HB.out.trans (b1.mono HB.out.size)
      have O1 : Hid (SE w W1 w.heap.size (.slice va nv vc) ((l.take j).filter f)) := HO.out.below b1
      have CS := HF.out W1 (.agg #[.string (atE l j).p, .bool (atE l j).d, .slice ua un uc]) (atE l j) B1.out ⟨ua, un, uc, rfl, hsl.kept B1.out⟩ (HL.out.at j).1
      clear hun hsl d1 d2 d3 b1 K1 HO
      generalize atE l j = x at *
      generalize hsb : f x = sb at *
      generalize (l.take j).filter f = L at *
      clear hsb
      go_wp2_with fail
      rw [← hW1]
      clear hW1
      refine CS.mono ?_
      rintro e w2 ⟨rfl, b2⟩
      have B2 : Hid (Below w.heap.size w w2) := B1.out.trans (b2.mono B1.out.size)
      have O2 : Hid (SE w w2 w.heap.size (.slice va nv vc) L) := O1.out.below b2
      obtain ⟨p0, p1, p2, f0, f1, f2⟩ := trio (HK.out w2 b2)
      clear CS b2 O1 c1 c2 c3
      cases sb with
      | false =>
        have NX : Hid ((l.take (j + 1)).filter f = L) := HT.out
        have ON : Hid (SE w w2 w.heap.size (.slice va nv vc) ((l.take (j + 1)).filter f)) := by unfold Hid; rw [NX.out]; exact O2.out
        clear HT
        go_wp2
        go_roundw
        case rel => exact ⟨j + 1, by omega, by go_num, ON.out, B2.out⟩
        case measure => simp [intOf]; omega
      | true =>
        have HT2 : Hid ((l.take (j + 1)).filter f = L ++ [x]) := HT.out
        clear HT
        go_wp2_with (at_builtin; refine wpList_append_se rfl _ _ rfl _ L rfl O2.out x _ SX.out rfl (by rw [← HJ.out]; omega) B2.out (Hid.out ?_))
        unfold Hid
        intro v4 w4 s4 b4
        have S4 : Hid (SE w w4 w.heap.size v4 ((l.take (j + 1)).filter f)) := by unfold Hid; rw [HT2.out]; exact s4
        have B4 : Hid (Below w.heap.size w w4) := b4
        clear s4 b4 O2 p0 p1 p2 f0 f1 f2
        go_wp2
        go_roundw
        case rel => exact ⟨j + 1, by omega, by go_num, S4.out, B4.out⟩
        case measure => simp [intOf]; omega
    · obtain rfl : j = n := by omega
      have HR : Hid (SE w wr w.heap.size (.slice va nv vc) Z) := by
        have h1 := HO.out
        have h2 : l.take j = l := by rw [HN.out, List.take_length]
        rw [h2] at h1
        unfold Hid
        rw [HZ.out]
        exact h1
      go_wp2
      go_ret
      exact ⟨_, rfl, HR.out, HB.out⟩
end Go.Proofs.YtajcabfeabbknaaGreatDoor
namespace Go.Proofs.YtajcabfeabbknaaGreatDoor
open Go.RowKit

set_option maxHeartbeats 2000000 in
theorem pick1 (v : Value) (l : List En) (f : En → Bool) (g1 g2 : Nat) (w : World) (h : ES w v l) (hl : Lt l)
    (hf : ∀ (W : World) (u : Value) (x : En), Below w.heap.size w W → EV W u x → x.p.size ≤ 1000 → Calls Tryz.prog 33 #[u, .pointer (some ⟨g1, 0, none⟩), .pointer (some ⟨g2, 0, none⟩)] W fun e w' => e = .returned (.bool (f x)) ∧ Below W.heap.size W w') :
    Calls Tryz.prog 22 #[v, .func (.func 33) #[] #[.pointer (some ⟨g1, 0, none⟩), .pointer (some ⟨g2, 0, none⟩)]] w fun e w' => ∃ v', e = .returned v' ∧ SE w w' w.heap.size v' (l.filter f) ∧ Below w.heap.size w w' := by
  obtain ⟨a, c, rfl, h2, h3, h4⟩ := h.shape
  have HS : Hid (ES w (.slice a l.length c) l) := h
  have HL : Hid (Lt l) := hl
  have HF : Hid (∀ (W : World) (u : Value) (x : En), Below w.heap.size w W → EV W u x → x.p.size ≤ 1000 → Calls Tryz.prog 33 #[u, .pointer (some ⟨g1, 0, none⟩), .pointer (some ⟨g2, 0, none⟩)] W fun e w' => e = .returned (.bool (f x)) ∧ Below W.heap.size W w') := hf
  have hn := hl.1
  have HV : Hid (∀ j, ((l.take j).filter f).length ≤ 100) := fun j => by
    have h1 : ((l.take j).filter f).length ≤ (l.take j).length := List.length_filter_le _ _
    rw [List.length_take] at h1
    omega
  obtain ⟨n, hn'⟩ : ∃ n, n = l.length := ⟨_, rfl⟩
  have HN : Hid (n = l.length) := hn'
  rw [← hn'] at HS h2 hn ⊢
  clear h hl h3 h4 hn' hf
  obtain ⟨Z, hZ⟩ : ∃ Z, Z = l.filter f := ⟨_, rfl⟩
  have HZ : Hid (Z = l.filter f) := hZ
  rw [← hZ]
  clear hZ
  go_enter Tryz.func22, Tryz.ntmps22
  go_wp2
  go_loopw [5, 10] (fun s q wr => ∃ j : Nat, j ≤ n ∧ q = .int .i64 j ∧ SE w wr w.heap.size s ((l.take j).filter f) ∧ Below w.heap.size w wr) (fun _ q _ => n - (intOf q).toNat)
  case atStart => exact ⟨0, by omega, rfl, SE.nil _ _ _, Below.refl _ _⟩
  case round =>
    obtain ⟨j, hj, rfl, se, bel⟩ := hrel
    have HB : Hid (Below w.heap.size w wr) := bel
    have HO : Hid (SE w wr w.heap.size u5 ((l.take j).filter f)) := se
    obtain ⟨va, vc, rfl⟩ := se.shape
    obtain ⟨nv, hnv⟩ : ∃ nv, nv = ((l.take j).filter f).length := ⟨_, rfl⟩
    have HJ : Hid (nv = ((l.take j).filter f).length) := hnv
    have hj9 : nv ≤ 100 := by rw [hnv]; exact HV.out j
    rw [← hnv] at HO ⊢
    clear bel se hnv
    by_cases hlt : j < n
    · have lt2 : (j : Int) < (n : Int) := by omega
      obtain ⟨b, off, ua, un, uc, rfl, d1, d2, d3, hun, hsl⟩ := HS.out.at j (by rw [← HN.out]; exact hlt)
      have c1 := (HB.out.cell (World.block_lt_of_cell? _ _ d1)).trans d1
      have c2 := (HB.out.cell (World.block_lt_of_cell? _ _ d2)).trans d2
      have c3 := (HB.out.cell (World.block_lt_of_cell? _ _ d3)).trans d3
      have q1 : IntKind.i64.wrap ((j : Int) + 1) = ((j + 1 : Nat) : Int) := by simp [IntKind.wrap, IntKind.bits, IntKind.signed]; omega
      have HT : Hid ((l.take (j + 1)).filter f = if f (atE l j) then (l.take j).filter f ++ [atE l j] else (l.take j).filter f) := fil_next l f j (by rw [← HN.out]; exact hlt)
      have SX : Hid (Sl w (.slice ua un uc) (atE l j).z) := hsl
      obtain ⟨W1, hW1⟩ : ∃ W1, W1 = wr.alloc (.cells #[.string (atE l j).p, .bool (atE l j).d, .slice ua un uc] 46) := ⟨_, rfl⟩
      have b1 : Below wr.heap.size wr W1 := by rw [hW1]; exact (Below.refl _ _).alloc (Nat.le_refl _) _
      have K1 : W1.heap[wr.heap.size]? = some (.cells #[.string (atE l j).p, .bool (atE l j).d, .slice ua un uc] 46 (0, 0)) := by rw [hW1]; exact heap_alloc_new _ _
      have HK : Hid (∀ W, Below W1.heap.size W1 W → W.heap[wr.heap.size]? = some (.cells #[.string (atE l j).p, .bool (atE l j).d, .slice ua un uc] 46 (0, 0))) := fun W hb => (hb.block _ (lt_of_block K1)).trans K1
      have B1 : Hid (Below w.heap.size w W1) := HB.out.trans (b1.mono HB.out.size)
      have O1 : Hid (SE w W1 w.heap.size (.slice va nv vc) ((l.take j).filter f)) := HO.out.below b1
      have CS := HF.out W1 (.agg #[.string (atE l j).p, .bool (atE l j).d, .slice ua un uc]) (atE l j) B1.out ⟨ua, un, uc, rfl, hsl.kept B1.out⟩ (HL.out.at j).1
      clear hun hsl d1 d2 d3 b1 K1 HO
      generalize atE l j = x at *
      generalize hsb : f x = sb at *
      generalize (l.take j).filter f = L at *
      clear hsb
      go_wp2_with fail
      rw [← hW1]
      clear hW1
      refine CS.mono ?_
      rintro e w2 ⟨rfl, b2⟩
      have B2 : Hid (Below w.heap.size w w2) := B1.out.trans (b2.mono B1.out.size)
      have O2 : Hid (SE w w2 w.heap.size (.slice va nv vc) L) := O1.out.below b2
      obtain ⟨p0, p1, p2, f0, f1, f2⟩ := trio (HK.out w2 b2)
      clear CS b2 O1 c1 c2 c3
      cases sb with
      | false =>
        have NX : Hid ((l.take (j + 1)).filter f = L) := HT.out
        have ON : Hid (SE w w2 w.heap.size (.slice va nv vc) ((l.take (j + 1)).filter f)) := by unfold Hid; rw [NX.out]; exact O2.out
        clear HT
        go_wp2
        go_roundw
        case rel => exact ⟨j + 1, by omega, by go_num, ON.out, B2.out⟩
        case measure => simp [intOf]; omega
      | true =>
        have HT2 : Hid ((l.take (j + 1)).filter f = L ++ [x]) := HT.out
        clear HT
        go_wp2_with (at_builtin; refine wpList_append_se rfl _ _ rfl _ L rfl O2.out x _ SX.out rfl (by rw [← HJ.out]; omega) B2.out (Hid.out ?_))
        unfold Hid
        intro v4 w4 s4 b4
        have S4 : Hid (SE w w4 w.heap.size v4 ((l.take (j + 1)).filter f)) := by unfold Hid; rw [HT2.out]; exact s4
        have B4 : Hid (Below w.heap.size w w4) := b4
        clear s4 b4 O2 p0 p1 p2 f0 f1 f2
        go_wp2
        go_roundw
        case rel => exact ⟨j + 1, by omega, by go_num, S4.out, B4.out⟩
        case measure => simp [intOf]; omega
    · obtain rfl : j = n := by omega
      have HR : Hid (SE w wr w.heap.size (.slice va nv vc) Z) := by
        have h1 := HO.out
        have h2 : l.take j = l := by rw [HN.out, List.take_length]
        rw [h2] at h1
        unfold Hid
        rw [HZ.out]
        exact h1
      go_wp2
      go_ret
      exact ⟨_, rfl, HR.out, HB.out⟩
set_option maxHeartbeats 2000000 in
theorem pick2 (v : Value) (l : List En) (f : En → Bool) (g1 : Nat) (w : World) (h : ES w v l) (hl : Lt l)
    (hf : ∀ (W : World) (u : Value) (x : En), Below w.heap.size w W → EV W u x → x.p.size ≤ 1000 → Calls Tryz.prog 35 #[u, .pointer (some ⟨g1, 0, none⟩)] W fun e w' => e = .returned (.bool (f x)) ∧ Below W.heap.size W w') :
    Calls Tryz.prog 22 #[v, .func (.func 35) #[] #[.pointer (some ⟨g1, 0, none⟩)]] w fun e w' => ∃ v', e = .returned v' ∧ SE w w' w.heap.size v' (l.filter f) ∧ Below w.heap.size w w' := by
  obtain ⟨a, c, rfl, h2, h3, h4⟩ := h.shape
  have HS : Hid (ES w (.slice a l.length c) l) := h
  have HL : Hid (Lt l) := hl
  have HF : Hid (∀ (W : World) (u : Value) (x : En), Below w.heap.size w W → EV W u x → x.p.size ≤ 1000 → Calls Tryz.prog 35 #[u, .pointer (some ⟨g1, 0, none⟩)] W fun e w' => e = .returned (.bool (f x)) ∧ Below W.heap.size W w') := hf
  have hn := hl.1
  have HV : Hid (∀ j, ((l.take j).filter f).length ≤ 100) := fun j => by
    have h1 : ((l.take j).filter f).length ≤ (l.take j).length := List.length_filter_le _ _
    rw [List.length_take] at h1
    omega
  obtain ⟨n, hn'⟩ : ∃ n, n = l.length := ⟨_, rfl⟩
  have HN : Hid (n = l.length) := hn'
  rw [← hn'] at HS h2 hn ⊢
  clear h hl h3 h4 hn' hf
  obtain ⟨Z, hZ⟩ : ∃ Z, Z = l.filter f := ⟨_, rfl⟩
  have HZ : Hid (Z = l.filter f) := hZ
  rw [← hZ]
  clear hZ
  go_enter Tryz.func22, Tryz.ntmps22
  go_wp2
  go_loopw [5, 10] (fun s q wr => ∃ j : Nat, j ≤ n ∧ q = .int .i64 j ∧ SE w wr w.heap.size s ((l.take j).filter f) ∧ Below w.heap.size w wr) (fun _ q _ => n - (intOf q).toNat)
  case atStart => exact ⟨0, by omega, rfl, SE.nil _ _ _, Below.refl _ _⟩
  case round =>
    obtain ⟨j, hj, rfl, se, bel⟩ := hrel
    have HB : Hid (Below w.heap.size w wr) := bel
    have HO : Hid (SE w wr w.heap.size u5 ((l.take j).filter f)) := se
    obtain ⟨va, vc, rfl⟩ := se.shape
    obtain ⟨nv, hnv⟩ : ∃ nv, nv = ((l.take j).filter f).length := ⟨_, rfl⟩
    have HJ : Hid (nv = ((l.take j).filter f).length) := hnv
    have hj9 : nv ≤ 100 := by rw [hnv]; exact HV.out j
    rw [← hnv] at HO ⊢
    clear bel se hnv
    by_cases hlt : j < n
    · have lt2 : (j : Int) < (n : Int) := by omega
      obtain ⟨b, off, ua, un, uc, rfl, d1, d2, d3, hun, hsl⟩ := HS.out.at j (by rw [← HN.out]; exact hlt)
      have c1 := (HB.out.cell (World.block_lt_of_cell? _ _ d1)).trans d1
      have c2 := (HB.out.cell (World.block_lt_of_cell? _ _ d2)).trans d2
      have c3 := (HB.out.cell (World.block_lt_of_cell? _ _ d3)).trans d3
      have q1 : IntKind.i64.wrap ((j : Int) + 1) = ((j + 1 : Nat) : Int) := by simp [IntKind.wrap, IntKind.bits, IntKind.signed]; omega
      have HT : Hid ((l.take (j + 1)).filter f = if f (atE l j) then (l.take j).filter f ++ [atE l j] else (l.take j).filter f) := fil_next l f j (by rw [← HN.out]; exact hlt)
      have SX : Hid (Sl w (.slice ua un uc) (atE l j).z) := hsl
      obtain ⟨W1, hW1⟩ : ∃ W1, W1 = wr.alloc (.cells #[.string (atE l j).p, .bool (atE l j).d, .slice ua un uc] 46) := ⟨_, rfl⟩
      have b1 : Below wr.heap.size wr W1 := by rw [hW1]; exact (Below.refl _ _).alloc (Nat.le_refl _) _
      have K1 : W1.heap[wr.heap.size]? = some (.cells #[.string (atE l j).p, .bool (atE l j).d, .slice ua un uc] 46 (0, 0)) := by rw [hW1]; exact heap_alloc_new _ _
      have HK : Hid (∀ W, Below W1.heap.size W1 W → W.heap[wr.heap.size]? = some (.cells #[.string (atE l j).p, .bool (atE l j).d, .slice ua un uc] 46 (0, 0))) := fun W hb => (hb.block _ (lt_of_block K1)).trans K1
      have B1 : Hid (Below w.heap.size w W1) := HB.out.trans (b1.mono HB.out.size)
      have O1 : Hid (SE w W1 w.heap.size (.slice va nv vc) ((l.take j).filter f)) := HO.out.below b1
      have CS := HF.out W1 (.agg #[.string (atE l j).p, .bool (atE l j).d, .slice ua un uc]) (atE l j) B1.out ⟨ua, un, uc, rfl, hsl.kept B1.out⟩ (HL.out.at j).1
      clear hun hsl d1 d2 d3 b1 K1 HO
      generalize atE l j = x at *
      generalize hsb : f x = sb at *
      generalize (l.take j).filter f = L at *
      clear hsb
      go_wp2_with fail
      rw [← hW1]
      clear hW1
      refine CS.mono ?_
      rintro e w2 ⟨rfl, b2⟩
      have B2 : Hid (Below w.heap.size w w2) := B1.out.trans (b2.mono B1.out.size)
      have O2 : Hid (SE w w2 w.heap.size (.slice va nv vc) L) := O1.out.below b2
      obtain ⟨p0, p1, p2, f0, f1, f2⟩ := trio (HK.out w2 b2)
      clear CS b2 O1 c1 c2 c3
      cases sb with
      | false =>
        have NX : Hid ((l.take (j + 1)).filter f = L) := HT.out
        have ON : Hid (SE w w2 w.heap.size (.slice va nv vc) ((l.take (j + 1)).filter f)) := by unfold Hid; rw [NX.out]; exact O2.out
        clear HT
        go_wp2
        go_roundw
        case rel => exact ⟨j + 1, by omega, by go_num, ON.out, B2.out⟩
        case measure => simp [intOf]; omega
      | true =>
        have HT2 : Hid ((l.take (j + 1)).filter f = L ++ [x]) := HT.out
        clear HT
        go_wp2_with (at_builtin; refine wpList_append_se rfl _ _ rfl _ L rfl O2.out x _ SX.out rfl (by rw [← HJ.out]; omega) B2.out (Hid.out ?_))
        unfold Hid
        intro v4 w4 s4 b4
        have S4 : Hid (SE w w4 w.heap.size v4 ((l.take (j + 1)).filter f)) := by unfold Hid; rw [HT2.out]; exact s4
        have B4 : Hid (Below w.heap.size w w4) := b4
        clear s4 b4 O2 p0 p1 p2 f0 f1 f2
        go_wp2
        go_roundw
        case rel => exact ⟨j + 1, by omega, by go_num, S4.out, B4.out⟩
        case measure => simp [intOf]; omega
    · obtain rfl : j = n := by omega
      have HR : Hid (SE w wr w.heap.size (.slice va nv vc) Z) := by
        have h1 := HO.out
        have h2 : l.take j = l := by rw [HN.out, List.take_length]
        rw [h2] at h1
        unfold Hid
        rw [HZ.out]
        exact h1
      go_wp2
      go_ret
      exact ⟨_, rfl, HR.out, HB.out⟩
set_option maxHeartbeats 2000000 in
theorem pick3 (v : Value) (l : List En) (f : En → Bool) (g1 : Nat) (w : World) (h : ES w v l) (hl : Lt l)
    (hf : ∀ (W : World) (u : Value) (x : En), Below w.heap.size w W → EV W u x → x.p.size ≤ 1000 → Calls Tryz.prog 38 #[u, .pointer (some ⟨g1, 0, none⟩)] W fun e w' => e = .returned (.bool (f x)) ∧ Below W.heap.size W w') :
    Calls Tryz.prog 22 #[v, .func (.func 38) #[] #[.pointer (some ⟨g1, 0, none⟩)]] w fun e w' => ∃ v', e = .returned v' ∧ SE w w' w.heap.size v' (l.filter f) ∧ Below w.heap.size w w' := by
  obtain ⟨a, c, rfl, h2, h3, h4⟩ := h.shape
  have HS : Hid (ES w (.slice a l.length c) l) := h
  have HL : Hid (Lt l) := hl
  have HF : Hid (∀ (W : World) (u : Value) (x : En), Below w.heap.size w W → EV W u x → x.p.size ≤ 1000 → Calls Tryz.prog 38 #[u, .pointer (some ⟨g1, 0, none⟩)] W fun e w' => e = .returned (.bool (f x)) ∧ Below W.heap.size W w') := hf
  have hn := hl.1
  have HV : Hid (∀ j, ((l.take j).filter f).length ≤ 100) := fun j => by
    have h1 : ((l.take j).filter f).length ≤ (l.take j).length := List.length_filter_le _ _
    rw [List.length_take] at h1
    omega
  obtain ⟨n, hn'⟩ : ∃ n, n = l.length := ⟨_, rfl⟩
  have HN : Hid (n = l.length) := hn'
  rw [← hn'] at HS h2 hn ⊢
  clear h hl h3 h4 hn' hf
  obtain ⟨Z, hZ⟩ : ∃ Z, Z = l.filter f := ⟨_, rfl⟩
  have HZ : Hid (Z = l.filter f) := hZ
  rw [← hZ]
  clear hZ
  go_enter Tryz.func22, Tryz.ntmps22
  go_wp2
  go_loopw [5, 10] (fun s q wr => ∃ j : Nat, j ≤ n ∧ q = .int .i64 j ∧ SE w wr w.heap.size s ((l.take j).filter f) ∧ Below w.heap.size w wr) (fun _ q _ => n - (intOf q).toNat)
  case atStart => exact ⟨0, by omega, rfl, SE.nil _ _ _, Below.refl _ _⟩
  case round =>
    obtain ⟨j, hj, rfl, se, bel⟩ := hrel
    have HB : Hid (Below w.heap.size w wr) := bel
    have HO : Hid (SE w wr w.heap.size u5 ((l.take j).filter f)) := se
    obtain ⟨va, vc, rfl⟩ := se.shape
    obtain ⟨nv, hnv⟩ : ∃ nv, nv = ((l.take j).filter f).length := ⟨_, rfl⟩
    have HJ : Hid (nv = ((l.take j).filter f).length) := hnv
    have hj9 : nv ≤ 100 := by rw [hnv]; exact HV.out j
    rw [← hnv] at HO ⊢
    clear bel se hnv
    by_cases hlt : j < n
    · have lt2 : (j : Int) < (n : Int) := by omega
      obtain ⟨b, off, ua, un, uc, rfl, d1, d2, d3, hun, hsl⟩ := HS.out.at j (by rw [← HN.out]; exact hlt)
      have c1 := (HB.out.cell (World.block_lt_of_cell? _ _ d1)).trans d1
      have c2 := (HB.out.cell (World.block_lt_of_cell? _ _ d2)).trans d2
      have c3 := (HB.out.cell (World.block_lt_of_cell? _ _ d3)).trans d3
      have q1 : IntKind.i64.wrap ((j : Int) + 1) = ((j + 1 : Nat) : Int) := by simp [IntKind.wrap, IntKind.bits, IntKind.signed]; omega
      have HT : Hid ((l.take (j + 1)).filter f = if f (atE l j) then (l.take j).filter f ++ [atE l j] else (l.take j).filter f) := fil_next l f j (by rw [← HN.out]; exact hlt)
      have SX : Hid (Sl w (.slice ua un uc) (atE l j).z) := hsl
      obtain ⟨W1, hW1⟩ : ∃ W1, W1 = wr.alloc (.cells #[.string (atE l j).p, .bool (atE l j).d, .slice ua un uc] 46) := ⟨_, rfl⟩
      have b1 : Below wr.heap.size wr W1 := by rw [hW1]; exact (Below.refl _ _).alloc (Nat.le_refl _) _
      have K1 : W1.heap[wr.heap.size]? = some (.cells #[.string (atE l j).p, .bool (atE l j).d, .slice ua un uc] 46 (0, 0)) := by rw [hW1]; exact heap_alloc_new _ _
      have HK : Hid (∀ W, Below W1.heap.size W1 W → W.heap[wr.heap.size]? = some (.cells #[.string (atE l j).p, .bool (atE l j).d, .slice ua un uc] 46 (0, 0))) := fun W hb => (hb.block _ (lt_of_block K1)).trans K1
      have B1 : Hid (Below w.heap.size w W1) := HB.out.trans (b1.mono HB.out.size)
      have O1 : Hid (SE w W1 w.heap.size (.slice va nv vc) ((l.take j).filter f)) := HO.out.below b1
      have CS := HF.out W1 (.agg #[.string (atE l j).p, .bool (atE l j).d, .slice ua un uc]) (atE l j) B1.out ⟨ua, un, uc, rfl, hsl.kept B1.out⟩ (HL.out.at j).1
      clear hun hsl d1 d2 d3 b1 K1 HO
      generalize atE l j = x at *
      generalize hsb : f x = sb at *
      generalize (l.take j).filter f = L at *
      clear hsb
      go_wp2_with fail
      rw [← hW1]
      clear hW1
      refine CS.mono ?_
      rintro e w2 ⟨rfl, b2⟩
      have B2 : Hid (Below w.heap.size w w2) := B1.out.trans (b2.mono B1.out.size)
      have O2 : Hid (SE w w2 w.heap.size (.slice va nv vc) L) := O1.out.below b2
      obtain ⟨p0, p1, p2, f0, f1, f2⟩ := trio (HK.out w2 b2)
      clear CS b2 O1 c1 c2 c3
      cases sb with
      | false =>
        have NX : Hid ((l.take (j + 1)).filter f = L) := HT.out
        have ON : Hid (SE w w2 w.heap.size (.slice va nv vc) ((l.take (j + 1)).filter f)) := by unfold Hid; rw [NX.out]; exact O2.out
        clear HT
        go_wp2
        go_roundw
        case rel => exact ⟨j + 1, by omega, by go_num, ON.out, B2.out⟩
        case measure => simp [intOf]; omega
      | true =>
        have HT2 : Hid ((l.take (j + 1)).filter f = L ++ [x]) := HT.out
        clear HT
        go_wp2_with (at_builtin; refine wpList_append_se rfl _ _ rfl _ L rfl O2.out x _ SX.out rfl (by rw [← HJ.out]; omega) B2.out (Hid.out ?_))
        unfold Hid
        intro v4 w4 s4 b4
        have S4 : Hid (SE w w4 w.heap.size v4 ((l.take (j + 1)).filter f)) := by unfold Hid; rw [HT2.out]; exact s4
        have B4 : Hid (Below w.heap.size w w4) := b4
        clear s4 b4 O2 p0 p1 p2 f0 f1 f2
        go_wp2
        go_roundw
        case rel => exact ⟨j + 1, by omega, by go_num, S4.out, B4.out⟩
        case measure => simp [intOf]; omega
    · obtain rfl : j = n := by omega
      have HR : Hid (SE w wr w.heap.size (.slice va nv vc) Z) := by
        have h1 := HO.out
        have h2 : l.take j = l := by rw [HN.out, List.take_length]
        rw [h2] at h1
        unfold Hid
        rw [HZ.out]
        exact h1
      go_wp2
      go_ret
      exact ⟨_, rfl, HR.out, HB.out⟩
set_option maxHeartbeats 2000000 in
theorem pick4 (v : Value) (l : List En) (f : En → Bool) (g1 : Nat) (w : World) (h : ES w v l) (hl : Lt l)
    (hf : ∀ (W : World) (u : Value) (x : En), Below w.heap.size w W → EV W u x → x.p.size ≤ 1000 → Calls Tryz.prog 39 #[u, .pointer (some ⟨g1, 0, none⟩)] W fun e w' => e = .returned (.bool (f x)) ∧ Below W.heap.size W w') :
    Calls Tryz.prog 22 #[v, .func (.func 39) #[] #[.pointer (some ⟨g1, 0, none⟩)]] w fun e w' => ∃ v', e = .returned v' ∧ SE w w' w.heap.size v' (l.filter f) ∧ Below w.heap.size w w' := by
  obtain ⟨a, c, rfl, h2, h3, h4⟩ := h.shape
  have HS : Hid (ES w (.slice a l.length c) l) := h
  have HL : Hid (Lt l) := hl
  have HF : Hid (∀ (W : World) (u : Value) (x : En), Below w.heap.size w W → EV W u x → x.p.size ≤ 1000 → Calls Tryz.prog 39 #[u, .pointer (some ⟨g1, 0, none⟩)] W fun e w' => e = .returned (.bool (f x)) ∧ Below W.heap.size W w') := hf
  have hn := hl.1
  have HV : Hid (∀ j, ((l.take j).filter f).length ≤ 100) := fun j => by
    have h1 : ((l.take j).filter f).length ≤ (l.take j).length := List.length_filter_le _ _
    rw [List.length_take] at h1
    omega
  obtain ⟨n, hn'⟩ : ∃ n, n = l.length := ⟨_, rfl⟩
  have HN : Hid (n = l.length) := hn'
  rw [← hn'] at HS h2 hn ⊢
  clear h hl h3 h4 hn' hf
  obtain ⟨Z, hZ⟩ : ∃ Z, Z = l.filter f := ⟨_, rfl⟩
  have HZ : Hid (Z = l.filter f) := hZ
  rw [← hZ]
  clear hZ
  go_enter Tryz.func22, Tryz.ntmps22
  go_wp2
  go_loopw [5, 10] (fun s q wr => ∃ j : Nat, j ≤ n ∧ q = .int .i64 j ∧ SE w wr w.heap.size s ((l.take j).filter f) ∧ Below w.heap.size w wr) (fun _ q _ => n - (intOf q).toNat)
  case atStart => exact ⟨0, by omega, rfl, SE.nil _ _ _, Below.refl _ _⟩
  case round =>
    obtain ⟨j, hj, rfl, se, bel⟩ := hrel
    have HB : Hid (Below w.heap.size w wr) := bel
    have HO : Hid (SE w wr w.heap.size u5 ((l.take j).filter f)) := se
    obtain ⟨va, vc, rfl⟩ := se.shape
    obtain ⟨nv, hnv⟩ : ∃ nv, nv = ((l.take j).filter f).length := ⟨_, rfl⟩
    have HJ : Hid (nv = ((l.take j).filter f).length) := hnv
    have hj9 : nv ≤ 100 := by rw [hnv]; exact HV.out j
    rw [← hnv] at HO ⊢
    clear bel se hnv
    by_cases hlt : j < n
    · have lt2 : (j : Int) < (n : Int) := by omega
      obtain ⟨b, off, ua, un, uc, rfl, d1, d2, d3, hun, hsl⟩ := HS.out.at j (by rw [← HN.out]; exact hlt)
      have c1 := (HB.out.cell (World.block_lt_of_cell? _ _ d1)).trans d1
      have c2 := (HB.out.cell (World.block_lt_of_cell? _ _ d2)).trans d2
      have c3 := (HB.out.cell (World.block_lt_of_cell? _ _ d3)).trans d3
      have q1 : IntKind.i64.wrap ((j : Int) + 1) = ((j + 1 : Nat) : Int) := by simp [IntKind.wrap, IntKind.bits, IntKind.signed]; omega
      have HT : Hid ((l.take (j + 1)).filter f = if f (atE l j) then (l.take j).filter f ++ [atE l j] else (l.take j).filter f) := fil_next l f j (by rw [← HN.out]; exact hlt)
      have SX : Hid (Sl w (.slice ua un uc) (atE l j).z) := hsl
      obtain ⟨W1, hW1⟩ : ∃ W1, W1 = wr.alloc (.cells #[.string (atE l j).p, .bool (atE l j).d, .slice ua un uc] 46) := ⟨_, rfl⟩
      have b1 : Below wr.heap.size wr W1 := by rw [hW1]; exact (Below.refl _ _).alloc (Nat.le_refl _) _
      have K1 : W1.heap[wr.heap.size]? = some (.cells #[.string (atE l j).p, .bool (atE l j).d, .slice ua un uc] 46 (0, 0)) := by rw [hW1]; exact heap_alloc_new _ _
      have HK : Hid (∀ W, Below W1.heap.size W1 W → W.heap[wr.heap.size]? = some (.cells #[.string (atE l j).p, .bool (atE l j).d, .slice ua un uc] 46 (0, 0))) := fun W hb => (hb.block _ (lt_of_block K1)).trans K1
      have B1 : Hid (Below w.heap.size w W1) := HB.out.trans (b1.mono HB.out.size)
      have O1 : Hid (SE w W1 w.heap.size (.slice va nv vc) ((l.take j).filter f)) := HO.out.below b1
      have CS := HF.out W1 (.agg #[.string (atE l j).p, .bool (atE l j).d, .slice ua un uc]) (atE l j) B1.out ⟨ua, un, uc, rfl, hsl.kept B1.out⟩ (HL.out.at j).1
      clear hun hsl d1 d2 d3 b1 K1 HO
      generalize atE l j = x at *
      generalize hsb : f x = sb at *
      generalize (l.take j).filter f = L at *
      clear hsb
      go_wp2_with fail
      rw [← hW1]
      clear hW1
      refine CS.mono ?_
      rintro e w2 ⟨rfl, b2⟩
      have B2 : Hid (Below w.heap.size w w2) := B1.out.trans (b2.mono B1.out.size)
      have O2 : Hid (SE w w2 w.heap.size (.slice va nv vc) L) := O1.out.below b2
      obtain ⟨p0, p1, p2, f0, f1, f2⟩ := trio (HK.out w2 b2)
      clear CS b2 O1 c1 c2 c3
      cases sb with
      | false =>
        have NX : Hid ((l.take (j + 1)).filter f = L) := HT.out
        have ON : Hid (SE w w2 w.heap.size (.slice va nv vc) ((l.take (j + 1)).filter f)) := by unfold Hid; rw [NX.out]; exact O2.out
        clear HT
        go_wp2
        go_roundw
        case rel => exact ⟨j + 1, by omega, by go_num, ON.out, B2.out⟩
        case measure => simp [intOf]; omega
      | true =>
        have HT2 : Hid ((l.take (j + 1)).filter f = L ++ [x]) := HT.out
        clear HT
        go_wp2_with (at_builtin; refine wpList_append_se rfl _ _ rfl _ L rfl O2.out x _ SX.out rfl (by rw [← HJ.out]; omega) B2.out (Hid.out ?_))
        unfold Hid
        intro v4 w4 s4 b4
        have S4 : Hid (SE w w4 w.heap.size v4 ((l.take (j + 1)).filter f)) := by unfold Hid; rw [HT2.out]; exact s4
        have B4 : Hid (Below w.heap.size w w4) := b4
        clear s4 b4 O2 p0 p1 p2 f0 f1 f2
        go_wp2
        go_roundw
        case rel => exact ⟨j + 1, by omega, by go_num, S4.out, B4.out⟩
        case measure => simp [intOf]; omega
    · obtain rfl : j = n := by omega
      have HR : Hid (SE w wr w.heap.size (.slice va nv vc) Z) := by
        have h1 := HO.out
        have h2 : l.take j = l := by rw [HN.out, List.take_length]
        rw [h2] at h1
        unfold Hid
        rw [HZ.out]
        exact h1
      go_wp2
      go_ret
      exact ⟨_, rfl, HR.out, HB.out⟩
end Go.Proofs.YtajcabfeabbknaaGreatDoor
