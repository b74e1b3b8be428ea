/-
  The document's Count, Has, Trim.
-/
import Derived.Test.YtaghmoddalbepaaDoorRa
namespace Go.Proofs.YtaghmoddalbepaaDoor
open Go.RowKit Go.Shelf
set_option maxRecDepth 100000

theorem cnt_take {l : List Sp} {j : Nat} (h : j < l.length) : cnt (l.take (j + 1)) = cnt (l.take j) + ((atS l j).2 - (atS l j).1 + 1) := by
  rw [List.take_add_one, List.getElem?_eq_getElem h, cnt_app, atS_eq l j h]
  simp [cnt]
theorem cnt_tbd {l : List Sp} (h : Canon l) (hl : l.length ≤ 1000) (j : Nat) : 0 ≤ cnt (l.take j) ∧ cnt (l.take j) ≤ 1099511627777000 := by
  have hc := h.sub (List.take_sublist j l)
  have h1 := cnt_nonneg hc
  have h2 := cnt_le hc
  have h3 : (l.take j).length ≤ 1000 := by rw [List.length_take]; omega
  constructor
  · exact h1
  · omega
set_option maxHeartbeats 2000000 in
theorem rcount_any (w : World) (u : Value) (l : List Sp) (hu : SSp w u l) (hcn : Canon l) (hl : l.length ≤ 1000) :
    Calls Tryd.prog 25 #[.agg #[u]] w fun e w' => e = .returned (.int .i64 (cnt l)) ∧ Below w.heap.size w w' := by
  obtain ⟨a, c, rfl, -, -, -⟩ := hu.shape
  obtain ⟨W0, hW0⟩ : ∃ W0, W0 = w.alloc (.cells #[.slice a l.length c] 30) := ⟨_, rfl⟩
  have b0 : Below w.heap.size w W0 := by rw [hW0]; exact al_below _ _
  have g0 : W0.heap[w.heap.size]? = some (.cells #[.slice a l.length c] 30 (0, 0)) := by rw [hW0]; exact heap_alloc_new _ _
  have HC0 : Hid (∀ W, Below W0.heap.size W0 W → W.cell? ⟨w.heap.size, 0, none⟩ = some (.slice a l.length c)) := fun W hb => by have := blk_kept g0 hb (blk_lt g0); simp [World.cell?, this]
  have HAT : Hid (∀ j, j < l.length → ∀ W, Below W0.heap.size W0 W → ∃ b off, a = some ⟨b, off, none⟩ ∧ W.cell? ⟨b, off + j * 2, none⟩ = some (.int .i64 (atS l j).1) ∧ W.cell? ⟨b, off + j * 2 + 1, none⟩ = some (.int .i64 (atS l j).2)) := fun j hj W hb => by
    obtain ⟨b, off, e, q⟩ := (hu.kept (b0.trans (hb.mono b0.size))).at j hj
    exact ⟨b, off, e, (spC q).1, (spC q).2⟩
  have HB0 : Hid (Below w.heap.size w W0) := b0
  have HST : Hid (∀ j, j < l.length → cnt (l.take (j + 1)) = cnt (l.take j) + ((atS l j).2 - (atS l j).1 + 1) ∧ Okk (atS l j)) := fun j hj => ⟨cnt_take hj, hcn.1 _ (atS_mem l j hj)⟩
  have HBD : Hid (∀ j, 0 ≤ cnt (l.take j) ∧ cnt (l.take j) ≤ 1099511627777000) := cnt_tbd hcn hl
  have HFN : Hid (cnt (l.take l.length) = cnt l) := by unfold Hid; rw [List.take_length]
  have HZ : Hid (cnt (l.take 0) = 0) := by unfold Hid; rfl
  have hw0 := hW0.symm
  clear hu hcn b0 g0 hW0
  generalize hF : (fun j => cnt (l.take j)) = F at *
  have HF : Hid (∀ j, cnt (l.take j) = F j) := fun j => by rw [← hF]
  clear hF
  simp only [HF.out] at HST HBD HFN HZ
  generalize cnt l = C at *
  obtain ⟨n, hn⟩ : ∃ n, n = l.length := ⟨_, rfl⟩
  rw [← hn] at HC0 HAT HST HFN hw0 hl ⊢
  clear hn HF
  go_enter Tryd.func25, Tryd.ntmps25
  go_wp2
  go_loopw [3, 4] (fun u v wr => ∃ j : Nat, j ≤ n ∧ u = .int .i64 (F j) ∧ v = .int .i64 j ∧ Below W0.heap.size W0 wr) (fun _ v _ => n - (intOf v).toNat)
  case atStart => exact ⟨0, by omega, by rw [HZ.out], rfl, by rw [← hw0]; exact Below.refl _ _⟩
  case round =>
    obtain ⟨j, hj, rfl, rfl, bel⟩ := hrel
    have HB : Hid (Below W0.heap.size W0 wr) := bel
    have c0 := HC0.out wr bel
    clear bel
    by_cases hjn : j < n
    · have lt2 : (j : Int) < (n : Int) := by omega
      obtain ⟨b, off, rfl, k1, k2⟩ := HAT.out j hjn wr HB.out
      have b1 := HBD.out j
      have b2 := HBD.out (j + 1)
      obtain ⟨s1, s2⟩ := HST.out j hjn
      have HS1 : Hid (F j + ((atS l j).2 - (atS l j).1 + 1) = F (j + 1)) := s1.symm
      rw [s1] at b2
      unfold Okk at s2
      clear s1
      generalize atS l j = x at *
      have HFJ : Hid (F j = F j) := rfl
      obtain ⟨q, hq⟩ : ∃ q, q = F j := ⟨_, rfl⟩
      rw [← hq] at b1 b2 HS1 ⊢
      clear hq HFJ
      go_wp2_with fail
      go_quiet (fail)
      have BD : Hid (Below W0.heap.size W0 (wr.drewN nq)) := HB.out.trans ((drn wr nq).mono HB.out.size)
      generalize wr.drewN nq = DW at *
      go_wp2
      go_roundw
      case rel => exact ⟨j + 1, by omega, by rw [← HS1.out], by go_num, BD.out⟩
      case measure => simp [intOf]; omega
    · obtain rfl : j = n := by omega
      have lt2 : ¬ (j : Int) < (j : Int) := by omega
      go_wp2
      go_ret
      exact ⟨by rw [HFN.out]; rfl, HB0.out.trans (HB.out.mono HB0.out.size)⟩
set_option maxHeartbeats 2000000 in
theorem rhas_any (w : World) (u : Value) (l : List Sp) (m : Int) (hu : SSp w u l) (hl : l.length ≤ 1000) :
    Calls Tryd.prog 29 #[.agg #[u], .int .i64 m] w fun e w' => e = .returned (.bool (has l m)) ∧ Below w.heap.size w w' := by
  obtain ⟨a, c, rfl, -, -, -⟩ := hu.shape
  obtain ⟨W0, hW0⟩ : ∃ W0, W0 = w.alloc (.cells #[.slice a l.length c] 30) := ⟨_, rfl⟩
  have b0 : Below w.heap.size w W0 := by rw [hW0]; exact al_below _ _
  have g0 : W0.heap[w.heap.size]? = some (.cells #[.slice a l.length c] 30 (0, 0)) := by rw [hW0]; exact heap_alloc_new _ _
  have c0 : W0.cell? ⟨w.heap.size, 0, none⟩ = some (.slice a l.length c) := by simp [World.cell?, g0]
  have HAT : Hid (∀ j, j < l.length → ∃ b off, a = some ⟨b, off, none⟩ ∧ W0.cell? ⟨b, off + j * 2, none⟩ = some (.int .i64 (atS l j).1) ∧ W0.cell? ⟨b, off + j * 2 + 1, none⟩ = some (.int .i64 (atS l j).2)) := fun j hj => by
    obtain ⟨b, off, e, q⟩ := (hu.kept b0).at j hj
    exact ⟨b, off, e, (spC q).1, (spC q).2⟩
  have HB0 : Hid (Below w.heap.size w W0) := b0
  have HYES : Hid (∀ j, j < l.length → (atS l j).1 ≤ m → m ≤ (atS l j).2 → has l m = true) := fun j hj h1 h2 => (has_iff l m).2 ⟨_, atS_mem l j hj, h1, h2⟩
  have HNO : Hid ((∀ k, k < l.length → ¬ ((atS l k).1 ≤ m ∧ m ≤ (atS l k).2)) → has l m = false) := fun h => by
    rw [Bool.eq_false_iff]
    intro e
    obtain ⟨x, hx, h1⟩ := (has_iff l m).1 e
    obtain ⟨k, hk, rfl⟩ := mem_idx hx
    exact h k hk h1
  have hw0 := hW0.symm
  clear hu b0 g0 hW0
  generalize has l m = R at *
  obtain ⟨n, hn⟩ : ∃ n, n = l.length := ⟨_, rfl⟩
  rw [← hn] at c0 HAT HYES HNO hw0 hl ⊢
  clear hn
  go_enter Tryd.func29, Tryd.ntmps29
  go_wp2
  go_loopw [5] (fun v wr => ∃ j : Nat, j ≤ n ∧ v = .int .i64 j ∧ (∀ k, k < j → ¬ ((atS l k).1 ≤ m ∧ m ≤ (atS l k).2)) ∧ wr = W0) (fun v _ => n - (intOf v).toNat)
  case atStart => exact ⟨0, by omega, rfl, fun k hk => by omega, by rw [← hw0]⟩
  case round =>
    obtain ⟨j, hj, rfl, ok, rfl⟩ := hrel
    have OK : Hid (∀ k, k < j → ¬ ((atS l k).1 ≤ m ∧ m ≤ (atS l k).2)) := ok
    clear ok
    by_cases hjn : j < n
    · have lt2 : (j : Int) < (n : Int) := by omega
      obtain ⟨b, off, rfl, k1, k2⟩ := HAT.out j hjn
      have HY : Hid ((atS l j).1 ≤ m → m ≤ (atS l j).2 → R = true) := HYES.out j hjn
      have HN : Hid (¬ ((atS l j).1 ≤ m ∧ m ≤ (atS l j).2) → ∀ k, k < j + 1 → ¬ ((atS l k).1 ≤ m ∧ m ≤ (atS l k).2)) := fun h k hk => by
        rcases Nat.lt_or_ge k j with h' | h'
        · exact OK.out k h'
        · rw [show k = j by omega]; exact h
      clear OK
      generalize atS l j = x at *
      by_cases h1 : x.1 ≤ m
      · by_cases h2 : m ≤ x.2
        · have HR : Hid (R = true) := HY.out h1 h2
          have d1 : decide (x.1 ≤ m) = true := by simpa using h1
          have d2 : decide (m ≤ x.2) = true := by simpa using h2
          clear HY HN
          go_wp2
          go_ret
          exact ⟨by rw [HR.out]; rfl, HB0.out⟩
        · have HN1 : Hid (∀ k, k < j + 1 → ¬ ((atS l k).1 ≤ m ∧ m ≤ (atS l k).2)) := HN.out (fun h => h2 h.2)
          have d1 : decide (x.1 ≤ m) = true := by simpa using h1
          have d2 : decide (m ≤ x.2) = false := by simpa using h2
          clear HY HN
          go_wp2
          go_roundw
          case rel => exact ⟨j + 1, by omega, by go_num, HN1.out, by trivial⟩
          case measure => simp [intOf]; omega
      · have HN1 : Hid (∀ k, k < j + 1 → ¬ ((atS l k).1 ≤ m ∧ m ≤ (atS l k).2)) := HN.out (fun h => h1 h.1)
        have d1 : decide (x.1 ≤ m) = false := by simpa using h1
        clear HY HN
        go_wp2
        go_roundw
        case rel => exact ⟨j + 1, by omega, by go_num, HN1.out, by trivial⟩
        case measure => simp [intOf]; omega
    · obtain rfl : j = n := by omega
      have lt2 : ¬ (j : Int) < (j : Int) := by omega
      have HR : Hid (R = false) := HNO.out OK.out
      clear HYES HNO OK HAT
      go_wp2
      go_ret
      exact ⟨by rw [HR.out]; rfl, HB0.out⟩
end Go.Proofs.YtaghmoddalbepaaDoor
