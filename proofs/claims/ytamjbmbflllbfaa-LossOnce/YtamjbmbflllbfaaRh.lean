/-
  What the document's Has, New, Next, Oldest, Flying answer.
-/
import Derived.Test.YtamjbmbflllbfaaRm
import Derived.Test.YtamjbmbflllbfaaLn
import Derived.Test.YtamjbmbflllbfaaLd
namespace Go.Proofs.Ytamjbmbflllbfaa
open Go.RowKit Go.Shelf
set_option maxRecDepth 100000

theorem inS_yes {l : List Sp} {n : Int} {i : Nat} (hi : i < l.length) (h1 : (atS l i).1 ≤ n) (h2 : n ≤ (atS l i).2) : inS l n = true := by
  unfold inS
  rw [List.any_eq_true]
  exact ⟨_, atS_mem l i hi, by rw [decide_eq_true h1, decide_eq_true h2]; rfl⟩
theorem inS_no {l : List Sp} {n : Int} (h : ∀ i, i < l.length → ¬ ((atS l i).1 ≤ n ∧ n ≤ (atS l i).2)) : inS l n = false := by
  unfold inS
  rw [List.any_eq_false]
  intro x hx
  obtain ⟨k, hk, rfl⟩ := mem_idx hx
  have := h k hk
  simp only [Bool.and_eq_true, decide_eq_true_eq]
  exact this
set_option maxHeartbeats 2000000 in
theorem rhas_any (w : World) (u : Value) (l : List Sp) (n : Int) (hu : SSp w u l) (hl : l.length ≤ 1000) :
    Calls Try.prog 43 #[.agg #[u], .int .i64 n] w fun e w' => e = .returned (.bool (inS l n)) ∧ Below w.heap.size w w' := by
  obtain ⟨W1, hW1⟩ : ∃ W1, W1 = w.alloc (.cells #[u] 82) := ⟨_, rfl⟩
  have b1 : Below w.heap.size w W1 := by rw [hW1]; exact al_b _ _
  have g1 : W1.heap[w.heap.size]? = some (.cells #[u] 82 (0, 0)) := by rw [hW1]; exact heap_alloc_new _ _
  have d0 : W1.cell? ⟨w.heap.size, 0, none⟩ = some u := by simp [World.cell?, g1]
  have HB1 : Hid (Below w.heap.size w W1) := b1
  have hu1 := hu.kept b1
  obtain ⟨a, c, rfl, -⟩ := id hu.shape
  have HC0 : Hid (∀ W, Below W1.heap.size W1 W → W.cell? ⟨w.heap.size, 0, none⟩ = some (.slice a l.length c)) := fun W hb => (hb.cell (World.block_lt_of_cell? _ _ d0)).trans d0
  have HAT : Hid (∀ j, j < l.length → ∀ W, Below W1.heap.size W1 W → ∃ b off, a = some ⟨b, off, none⟩ ∧ W.cell? ⟨b, off + j * 2, none⟩ = some (.int .i64 (atS l j).1) ∧ W.cell? ⟨b, off + j * 2 + 1, none⟩ = some (.int .i64 (atS l j).2)) := fun j hj W hb => by
    obtain ⟨b, off, e, q⟩ := (hu1.kept hb).at j hj
    exact ⟨b, off, e, (spC q).1, (spC q).2⟩
  have HYES : Hid (∀ i, i < l.length → (atS l i).1 ≤ n → n ≤ (atS l i).2 → inS l n = true) := fun i hi h1 h2 => inS_yes hi h1 h2
  have HNO : Hid ((∀ i, i < l.length → ¬ ((atS l i).1 ≤ n ∧ n ≤ (atS l i).2)) → inS l n = false) := fun h => inS_no h
  clear hu hu1 b1 g1
  generalize inS l n = R at *
  generalize hA : atS l = Av at *
  clear hA
  obtain ⟨m, hm⟩ : ∃ m, m = l.length := ⟨_, rfl⟩
  rw [← hm] at HAT HYES HNO HC0 hl d0 hW1 ⊢
  clear hm
  go_enter Try.func43, Try.ntmps43
  go_upto_region 1 with fail
  try rw [← hW1]
  clear hW1
  go_wp2_with fail
  go_loopw [5] (fun u wr => ∃ i : Nat, i ≤ m ∧ u = .int .i64 i ∧ (∀ k, k < i → ¬ ((Av k).1 ≤ n ∧ n ≤ (Av k).2)) ∧ Below W1.heap.size W1 wr) (fun u _ => m - (intOf u).toNat)
  case atStart => exact ⟨0, by omega, rfl, fun k hk => by omega, Below.refl _ _⟩
  case round =>
    obtain ⟨i, hi, rfl, hk, bel⟩ := hrel
    have HB : Hid (Below W1.heap.size W1 wr) := bel
    have HK : Hid (∀ k, k < i → ¬ ((Av k).1 ≤ n ∧ n ≤ (Av k).2)) := hk
    have c0 := HC0.out wr bel
    clear bel hk d0
    by_cases hin : i < m
    · have lt2 : (i : Int) < (m : Int) := by omega
      have l0 : (0 : Int) ≤ (i : Int) := by omega
      obtain ⟨b, off, rfl, k1, k2⟩ := HAT.out i hin wr HB.out
      have HYY : Hid ((Av i).1 ≤ n → n ≤ (Av i).2 → R = true) := fun h1 h2 => HYES.out i hin h1 h2
      have HKN : Hid (¬ ((Av i).1 ≤ n ∧ n ≤ (Av i).2) → ∀ k, k < i + 1 → ¬ ((Av k).1 ≤ n ∧ n ≤ (Av k).2)) := fun h k hk => by
        rcases Nat.lt_or_ge k i with h' | h'
        · exact HK.out k h'
        · rw [show k = i by omega]; exact h
      generalize Av i = x at *
      by_cases h1 : x.1 ≤ n
      · have z1 : decide (x.1 ≤ n) = true := decide_eq_true h1
        by_cases h2 : n ≤ x.2
        · have z2 : decide (n ≤ x.2) = true := decide_eq_true h2
          have HR : Hid (R = true) := HYY.out h1 h2
          clear HYY HKN
          go_wp2
          go_ret
          exact ⟨by rw [HR.out]; rfl, HB1.out.trans (HB.out.mono HB1.out.size)⟩
        · have z2 : decide (n ≤ x.2) = false := decide_eq_false h2
          have HN : Hid (∀ k, k < i + 1 → ¬ ((Av k).1 ≤ n ∧ n ≤ (Av k).2)) := HKN.out (fun e => h2 e.2)
          clear HYY HKN
          go_wp2
          go_roundw
          case rel => exact ⟨i + 1, by omega, by go_num, HN.out, HB.out⟩
          case measure => simp [intOf]; omega
      · have z1 : decide (x.1 ≤ n) = false := decide_eq_false h1
        have HN : Hid (∀ k, k < i + 1 → ¬ ((Av k).1 ≤ n ∧ n ≤ (Av k).2)) := HKN.out (fun e => h1 e.1)
        clear HYY HKN
        go_wp2
        go_roundw
        case rel => exact ⟨i + 1, by omega, by go_num, HN.out, HB.out⟩
        case measure => simp [intOf]; omega
    · obtain rfl : i = m := by omega
      have lt2 : ¬ (i : Int) < (i : Int) := by omega
      have HR : Hid (R = false) := HNO.out HK.out
      go_wp2
      go_ret
      exact ⟨by rw [HR.out]; rfl, HB1.out.trans (HB.out.mono HB1.out.size)⟩
set_option maxHeartbeats 1000000 in
theorem rnew_any (w : World) (B : Nat) : Calls Try.prog 11 #[] w fun e w' => e = .returned (.agg (dc (.slice none 0 0) 0 pk0 (-1))) ∧ Below w.heap.size w w' ∧ DS w' B (.slice none 0 0) 0 pk0 lg0 := by
  obtain ⟨W1, hW1⟩ : ∃ W1, W1 = w.alloc (.cells (dc (.slice none 0 0) 0 pk0 0) 31) := ⟨_, rfl⟩
  have b1 : Below w.heap.size w W1 := by rw [hW1]; exact al_b _ _
  have g1 : DB W1 w.heap.size (.slice none 0 0) 0 pk0 0 := by rw [hW1]; exact DB.new _ _ _ _ _
  have HG1 : Hid (DB W1 w.heap.size (.slice none 0 0) 0 pk0 0) := g1
  obtain ⟨W3, hW3⟩ : ∃ W3, W3 = W1.setRow w.heap.size (dc (.slice none 0 0) 0 pk0 (-1)) := ⟨_, rfl⟩
  have HW3 : Hid (W3 = W1.setRow w.heap.size (dc (.slice none 0 0) 0 pk0 (-1))) := hW3
  have HP3 : Hid (W3.heap[w.heap.size]? = some (.cells (dc (.slice none 0 0) 0 pk0 (-1)) 31 (0, 0))) := by rw [hW3]; exact g1.row _ _ _ _
  have HB3 : Hid (Below w.heap.size w W3) := by rw [hW3]; exact below_setRow b1 (Nat.le_refl _) _
  have HD : Hid (DS W3 B (.slice none 0 0) 0 pk0 lg0) := ⟨RP.nil _ _ _, ⟨by omega, by omega, fun _ => ⟨rfl, rfl⟩, fun h => by omega⟩⟩
  clear b1 g1 hW3
  go_enter Try.func11, Try.ntmps11
  go_upto_region 1 with fail
  try rw [← hW1]
  clear hW1
  go_wp2_with (refine wpList_store_row rfl 31 _ _ rfl w.heap.size (dc (.slice none 0 0) 0 pk0 (-1)) rfl rfl 31 _ HG1.out sizeD rfl (dc_one _ _ _ _ _ _) (Hid.out ?_))
  unfold Hid
  rw [← HW3.out]
  clear HW3
  go_wp2
  refine bodyPost_ret (v := .agg (dc (.slice none 0 0) 0 pk0 (-1))) ?h rfl ?_
  case h => exact results_cell_row rfl _ _ w.heap.size _ _ _ _ rfl HP3.out Try.underlying31 rfl sizeD
  exact ⟨rfl, HB3.out, HD.out⟩
set_option maxHeartbeats 2000000 in
theorem rflying_any (w : World) (B : Nat) (v : Value) (k : Int) (q : Pk) (s : Lg) (h : DS w B v k q s) (hok : s.ok) :
    Calls Try.prog 29 #[.agg (dc v k q s.g)] w fun e w' => e = .returned (.int .i64 (fly s.o)) ∧ Below w.heap.size w w' := by
  have hz : ∀ p ∈ s.o, 1 ≤ p.z ∧ p.z ≤ 1200 := fun p hp => ⟨(hok.ea p hp).z0, (hok.ea p hp).z1⟩
  obtain ⟨W1, hW1⟩ : ∃ W1, W1 = w.alloc (.cells (dc v k q s.g) 31) := ⟨_, rfl⟩
  have b1 : Below w.heap.size w W1 := by rw [hW1]; exact al_b _ _
  have g1 : DB W1 w.heap.size v k q s.g := by rw [hW1]; exact DB.new _ _ _ _ _
  have HB1 : Hid (Below w.heap.size w W1) := b1
  have h1 := h.below b1
  obtain ⟨a, c, rfl, -⟩ := id h.rs.is.shape
  have HC0 : Hid (∀ W, Below W1.heap.size W1 W → W.cell? ⟨w.heap.size, 0, none⟩ = some (.slice a s.o.length c)) := fun W hb => (g1.kept hb).dc.c0
  have HAT : Hid (∀ j, j < s.o.length → ∀ W, Below W1.heap.size W1 W → ∃ b off, a = some ⟨b, off, none⟩ ∧ PC W b (off + j * 4) (atP s.o j)) := fun j hj W hb => (h1.rs.is.kept hb).at j hj
  have HT : Hid (∀ i, i < s.o.length → fly (s.o.take (i + 1)) = fly (s.o.take i) + (if (atP s.o i).a = true then (atP s.o i).z else 0)) := fun i hi => fly_take hi
  have HF : Hid (∀ i, 0 ≤ fly (s.o.take i) ∧ fly (s.o.take i) ≤ 1228800) := fun i => by
    have := fly_tb hz i
    have := hok.ln
    omega
  have HE : Hid (fly (s.o.take s.o.length) = fly s.o) := by unfold Hid; rw [List.take_length]
  have hln := hok.ln
  clear h hz h1 g1 b1 hok
  generalize fly s.o = R at *
  generalize hK : (fun i => fly (s.o.take i)) = K at *
  have HK : Hid (∀ i, fly (s.o.take i) = K i) := fun i => by rw [← hK]
  have HK0 : Hid (K 0 = 0) := by rw [← hK]; rfl
  clear hK
  simp only [HK.out] at HT HF HE
  obtain ⟨n9, hn9⟩ : ∃ n9, n9 = s.o.length := ⟨_, rfl⟩
  rw [← hn9] at HAT HT HE HC0 hln hW1 ⊢
  clear hn9 HK
  go_enter Try.func29, Try.ntmps29
  go_upto_region 1 with fail
  try rw [← hW1]
  clear hW1
  go_wp2_with fail
  go_loopw [3, 4] (fun u3 u wr => ∃ i : Nat, i ≤ n9 ∧ u = .int .i64 i ∧ u3 = .int .i64 (K i) ∧ Below W1.heap.size W1 wr) (fun _ u _ => n9 - (intOf u).toNat)
  case atStart => exact ⟨0, by omega, rfl, by rw [HK0.out], Below.refl _ _⟩
  case round =>
    obtain ⟨i, hi, rfl, rfl, bel⟩ := hrel
    have HB : Hid (Below W1.heap.size W1 wr) := bel
    have c9 := HC0.out wr bel
    clear bel
    by_cases hin : i < n9
    · have lt2 : (i : Int) < (n9 : Int) := by omega
      have l0 : (0 : Int) ≤ (i : Int) := by omega
      obtain ⟨b, off, rfl, c0, c1, c2, c3⟩ := HAT.out i hin wr HB.out
      have ht := HT.out i hin
      obtain ⟨f0, f1⟩ := HF.out i
      obtain ⟨f2, f3⟩ := HF.out (i + 1)
      generalize atP s.o i = p at *
      generalize hk : K i = ki at *
      clear hk
      obtain ⟨pn, pt, pz, pa⟩ := p
      simp only at *
      cases pa with
      | true =>
        have ht2 : K (i + 1) = ki + pz := by simpa using ht
        have HT2 : Hid (K (i + 1) = ki + pz) := ht2
        have x1 : wrap64 (ki + pz) = ki + pz := by unfold wrap64; omega
        clear ht ht2
        go_wp2
        go_roundw
        case rel => exact ⟨i + 1, by omega, by go_num, by rw [HT2.out, x1], HB.out⟩
        case measure => simp [intOf]; omega
      | false =>
        have HT2 : Hid (K (i + 1) = ki) := by unfold Hid; simpa using ht
        clear ht
        go_wp2
        go_roundw
        case rel => exact ⟨i + 1, by omega, by go_num, by rw [HT2.out], HB.out⟩
        case measure => simp [intOf]; omega
    · obtain rfl : i = n9 := by omega
      have lt2 : ¬ (i : Int) < (i : Int) := by omega
      go_wp2
      go_ret
      exact ⟨by rw [← HE.out]; rfl, HB1.out.trans (HB.out.mono HB1.out.size)⟩
set_option maxHeartbeats 2000000 in
theorem roldest_any (w : World) (B : Nat) (v : Value) (k : Int) (q : Pk) (s : Lg) (h : DS w B v k q s) (hln : s.o.length ≤ 1024) :
    Calls Try.prog 28 #[.agg (dc v k q s.g)] w fun e w' => e = .returned (.tuple #[(oldP s.o).v, .bool (oldB s.o)]) ∧ Below w.heap.size w w' := by
  obtain ⟨W1, hW1⟩ : ∃ W1, W1 = w.alloc (.cells (dc v k q s.g) 31) := ⟨_, rfl⟩
  obtain ⟨W2, hW2⟩ : ∃ W2, W2 = W1.alloc (.cells #[.int .i64 0, .int .i64 0, .int .i64 0, .bool false] 29) := ⟨_, rfl⟩
  have b1 : Below w.heap.size w W1 := by rw [hW1]; exact al_b _ _
  have b2 : Below W1.heap.size W1 W2 := by rw [hW2]; exact al_b _ _
  have g1 : DB W2 w.heap.size v k q s.g := DB.kept (by rw [hW1]; exact DB.new _ _ _ _ _) b2
  have p1 : PB W2 W1.heap.size 29 pk0 := by rw [hW2]; exact PB.new _ _ pk0
  have z1 : W1.heap.size = w.heap.size + 1 := by rw [hW1]; simp
  have HB2 : Hid (Below w.heap.size w W2) := b1.trans (b2.mono b1.size)
  have HP2 : Hid (∀ W, Below W2.heap.size W2 W → PB W (w.heap.size + 1) 29 pk0) := fun W hb => by rw [← z1]; exact p1.kept hb
  have HZ1 : Hid (W1.heap.size = w.heap.size + 1) := z1
  have h2 := h.below HB2.out
  obtain ⟨a, c, rfl, -⟩ := id h.rs.is.shape
  have HC0 : Hid (∀ W, Below W2.heap.size W2 W → W.cell? ⟨w.heap.size, 0, none⟩ = some (.slice a s.o.length c)) := fun W hb => (g1.kept hb).dc.c0
  have HAT : Hid (∀ j, j < s.o.length → ∀ W, Below W2.heap.size W2 W → ∃ b off, a = some ⟨b, off, none⟩ ∧ PC W b (off + j * 4) (atP s.o j)) := fun j hj W hb => (h2.rs.is.kept hb).at j hj
  have HY : Hid (∀ i, i < s.o.length → (atP s.o i).a = true → (∀ j, j < i → (atP s.o j).a = false) → oldP s.o = atP s.o i ∧ oldB s.o = true) := fun i hi h1 h3 => by
    have e := oldI_is hi h1 h3
    exact ⟨by unfold oldP; rw [e, if_pos hi], by unfold oldB; rw [e]; exact decide_eq_true hi⟩
  have HN : Hid ((∀ j, j < s.o.length → (atP s.o j).a = false) → oldP s.o = pk0 ∧ oldB s.o = false) := fun h3 => by
    have e := oldI_none h3
    exact ⟨by unfold oldP; rw [e, if_neg (by omega)], by unfold oldB; rw [e]; exact decide_eq_false (by omega)⟩
  clear h h2 g1 b1 b2 p1 z1
  generalize oldP s.o = RP0 at *
  generalize oldB s.o = RB0 at *
  obtain ⟨n9, hn9⟩ : ∃ n9, n9 = s.o.length := ⟨_, rfl⟩
  rw [← hn9] at HAT HY HN HC0 hln hW1 ⊢
  clear hn9
  go_enter Try.func28, Try.ntmps28
  go_upto_region 1 with fail
  try rw [← hW1]
  try rw [← hW2]
  try rw [HZ1.out]
  clear hW1 hW2
  go_wp2_with fail
  go_loopw [4] (fun u wr => ∃ i : Nat, i ≤ n9 ∧ u = .int .i64 i ∧ (∀ j, j < i → (atP s.o j).a = false) ∧ Below W2.heap.size W2 wr) (fun u _ => n9 - (intOf u).toNat)
  case atStart => exact ⟨0, by omega, rfl, fun k hk => by omega, Below.refl _ _⟩
  case round =>
    obtain ⟨i, hi, rfl, hk, bel⟩ := hrel
    have HB : Hid (Below W2.heap.size W2 wr) := bel
    have HK : Hid (∀ j, j < i → (atP s.o j).a = false) := hk
    have c9 := HC0.out wr bel
    have HPW : Hid (PB wr (w.heap.size + 1) 29 pk0) := HP2.out wr bel
    have HBW : Hid (Below w.heap.size w wr) := HB2.out.trans (bel.mono HB2.out.size)
    clear bel hk
    by_cases hin : i < n9
    · have lt2 : (i : Int) < (n9 : Int) := by omega
      have l0 : (0 : Int) ≤ (i : Int) := by omega
      obtain ⟨b, off, rfl, c0, c1, c2, c3⟩ := HAT.out i hin wr HB.out
      have HYY : Hid ((atP s.o i).a = true → RP0 = atP s.o i ∧ RB0 = true) := fun h1 => HY.out i hin h1 HK.out
      have HKN : Hid ((atP s.o i).a = false → ∀ j, j < i + 1 → (atP s.o j).a = false) := fun h j hj => by
        rcases Nat.lt_or_ge j i with h' | h'
        · exact HK.out j h'
        · rw [show j = i by omega]; exact h
      generalize atP s.o i = p at *
      cases hp : p.a with
      | true =>
        obtain ⟨e1, e2⟩ := HYY.out hp
        have HR : Hid (RP0 = p ∧ RB0 = true) := ⟨e1, e2⟩
        have ca : wr.cell? ⟨b, off + i * 4 + 3, none⟩ = some (.bool true) := by rw [← hp]; exact c3
        obtain ⟨W3, hW3⟩ : ∃ W3, W3 = wr.setRow (w.heap.size + 1) #[.int .i64 p.n, .int .i64 p.t, .int .i64 p.z, .bool true] := ⟨_, rfl⟩
        have HW3 : Hid (W3 = wr.setRow (w.heap.size + 1) #[.int .i64 p.n, .int .i64 p.t, .int .i64 p.z, .bool true]) := hW3
        have HP3 : Hid (W3.heap[w.heap.size + 1]? = some (.cells #[.int .i64 p.n, .int .i64 p.t, .int .i64 p.z, .bool true] 29 (0, 0))) := by rw [hW3]; exact setRow_heap _ _ _ _ _ _ HPW.out
        have HB3 : Hid (Below w.heap.size w W3) := by rw [hW3]; exact below_setRow HBW.out (by omega) _
        have HPV : Hid (p.v = .agg #[.int .i64 p.n, .int .i64 p.t, .int .i64 p.z, .bool true]) := by unfold Hid Pk.v; rw [hp]
        clear HYY HKN e1 e2 hW3 c3 hp
        go_wp2_with (refine wpList_store_row rfl 29 _ _ rfl (w.heap.size + 1) #[.int .i64 p.n, .int .i64 p.t, .int .i64 p.z, .bool true] rfl rfl 29 _ HPW.out sizeQ rfl (by simp [Value.oneCell']) (Hid.out ?_))
        unfold Hid
        rw [← HW3.out]
        clear HW3
        go_wp2
        have hld : (loadVar 29 ⟨w.heap.size + 1, 0, none⟩).run Try.prog W3 = .ok (.agg #[.int .i64 p.n, .int .i64 p.t, .int .i64 p.z, .bool true]) W3 := run_loadVar_row W3 _ _ 29 _ _ _ HP3.out Try.underlying29 rfl sizeQ
        have hr : Try.f28.results = #[.cell 2 29, .tmp 3] := rfl
        refine bodyPost_ret (v := .tuple #[.agg #[.int .i64 p.n, .int .i64 p.t, .int .i64 p.z, .bool true], .bool true]) ?h rfl ?_
        case h => simp [results, asAddr, hld]
        exact ⟨by rw [HR.out.1, HR.out.2, HPV.out], HB3.out⟩
      | false =>
        have HN2 : Hid (∀ j, j < i + 1 → (atP s.o j).a = false) := HKN.out hp
        have ca : wr.cell? ⟨b, off + i * 4 + 3, none⟩ = some (.bool false) := by rw [← hp]; exact c3
        clear HYY HKN c3 hp
        go_wp2
        go_roundw
        case rel => exact ⟨i + 1, by omega, by go_num, HN2.out, HB.out⟩
        case measure => simp [intOf]; omega
    · obtain rfl : i = n9 := by omega
      have lt2 : ¬ (i : Int) < (i : Int) := by omega
      have HR : Hid (RP0 = pk0 ∧ RB0 = false) := HN.out HK.out
      obtain ⟨W3, hW3⟩ : ∃ W3, W3 = wr.setRow (w.heap.size + 1) #[.int .i64 0, .int .i64 0, .int .i64 0, .bool false] := ⟨_, rfl⟩
      have HW3 : Hid (W3 = wr.setRow (w.heap.size + 1) #[.int .i64 0, .int .i64 0, .int .i64 0, .bool false]) := hW3
      have HP3 : Hid (W3.heap[w.heap.size + 1]? = some (.cells #[.int .i64 0, .int .i64 0, .int .i64 0, .bool false] 29 (0, 0))) := by rw [hW3]; exact setRow_heap _ _ _ _ _ _ HPW.out
      have HB3 : Hid (Below w.heap.size w W3) := by rw [hW3]; exact below_setRow HBW.out (by omega) _
      clear hW3
      go_wp2_with (refine wpList_store_row rfl 29 _ _ rfl (w.heap.size + 1) #[.int .i64 0, .int .i64 0, .int .i64 0, .bool false] rfl rfl 29 _ HPW.out sizeQ rfl (pk_one4 pk0) (Hid.out ?_))
      unfold Hid
      rw [← HW3.out]
      clear HW3
      go_wp2
      have hld : (loadVar 29 ⟨w.heap.size + 1, 0, none⟩).run Try.prog W3 = .ok (.agg #[.int .i64 0, .int .i64 0, .int .i64 0, .bool false]) W3 := run_loadVar_row W3 _ _ 29 _ _ _ HP3.out Try.underlying29 rfl sizeQ
      have hr : Try.f28.results = #[.cell 2 29, .tmp 3] := rfl
      refine bodyPost_ret (v := .tuple #[.agg #[.int .i64 0, .int .i64 0, .int .i64 0, .bool false], .bool false]) ?h rfl ?_
      case h => simp [results, asAddr, hld]
      exact ⟨by rw [HR.out.1, HR.out.2], HB3.out⟩
end Go.Proofs.Ytamjbmbflllbfaa
