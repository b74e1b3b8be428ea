/-
  What the document's Of answers: the sum.
-/
import Derived.Deep.RegionHeld3
import Derived.Test.YtiollhmbdhepkaaGreatDoorYbk
import Derived.Test.YtiollhmbdhepkaaGreatDoorYbu
namespace Go.Proofs.YtiollhmbdhepkaaGreatDoor.Sh
open Go.RowKit
set_option maxRecDepth 100000

theorem own_empty (w : World) : (w.alloc (.cells #[] 5)).ownsRow w.heap.size 5 1 (.slice (some ⟨w.heap.size, 0, none⟩) 0 0) 0 [] :=
  World.ownsRow_made (base := w.heap.size) (e := 5) (size := 1) w #[] 0 (Nat.le_refl _) (by unfold maxLen; omega) rfl
theorem own_lt' {w : World} {base : Nat} {e : TypeId} {size : Nat} {v : Value} {n : Nat} {xs : List Value} (h : w.ownsRow base e size v n xs) {w' : World} (hk : ∀ g, base ≤ g → g < w.heap.size → w'.heap[g]? = w.heap[g]?) : w'.ownsRow base e size v n xs := by
  obtain ⟨h1, h2⟩ := h
  rcases h2 with h2 | ⟨g, cap, cur, hv, hg, hh, r⟩
  · exact ⟨h1, .inl h2⟩
  · exact ⟨h1, .inr ⟨g, cap, cur, hv, hg, (hk g hg (Array.getElem?_eq_some_iff.1 hh).1).trans hh, r⟩⟩
theorem sl_one (w : World) (z : Int) (h0 : 0 ≤ z) (h1 : z < 256) : Sl (w.alloc (.cells #[.int .u8 z] 5)) (.slice (some ⟨w.heap.size, 0, none⟩) 1 1) [z] := by
  refine ⟨_, 1, rfl, by simp, by simp [maxLen], (fun e => by cases e), .inr ⟨by simp, w.heap.size, 0, rfl, by simp, by simp [maxLen], fun i hi => ?_, byteList _ (by simp; omega)⟩⟩
  obtain rfl : i = 0 := by simpa using hi
  rw [cell_of_row _ _ _ _ _ _ (heap_alloc_new _ _)]
  rfl
/-- The rows that the loop of blocks reads and writes. -/
def R3 (B S0 KB Bs : Nat) (st : Array Value) (p : Value) (Y : List Int) (w wr : World) : Prop :=
  wr.heap[S0]? = some (.cells st 192 (0, 0)) ∧ wr.heap[B]? = some (.cells (u8s (List.replicate 32 0)) 47 (0, 0)) ∧ wr.heap[KB]? = some (.cells (u32s Pl.K) 195 (0, 0)) ∧ wr.ownsRow Bs 5 1 p Y.length (Y.map (Value.int .u8)) ∧ Below B w wr
theorem R3.kept {B S0 KB Bs : Nat} {st : Array Value} {p : Value} {Y : List Int} {w wr w' : World} (h : R3 B S0 KB Bs st p Y w wr) (hb : Below wr.heap.size wr w') : R3 B S0 KB Bs st p Y w w' := by
  obtain ⟨h0, h1, h2, h3, h4⟩ := h
  exact ⟨(hb.block _ (Array.getElem?_eq_some_iff.1 h0).1).trans h0, (hb.block _ (Array.getElem?_eq_some_iff.1 h1).1).trans h1, (hb.block _ (Array.getElem?_eq_some_iff.1 h2).1).trans h2, own_lt' h3 (fun g _ hl => hb.block g hl), h4.trans (hb.mono (Nat.le_of_lt (Array.getElem?_eq_some_iff.1 h1).1))⟩
theorem R3.set {B S0 KB Bs : Nat} {st cs : Array Value} {p : Value} {Y : List Int} {w wr : World} (h : R3 B S0 KB Bs st p Y w wr) (hB : B < S0) (hK : S0 < KB) (hS : S0 < Bs) : R3 B S0 KB Bs cs p Y w (wr.setRow S0 cs) := by
  obtain ⟨h0, h1, h2, h3, h4⟩ := h
  exact ⟨setRow_heap _ _ _ _ _ _ h0, (setRow_other _ _ _ _ (by omega)).trans h1, (setRow_other _ _ _ _ (by omega)).trans h2, own_lt' h3 (fun g hg _ => setRow_other _ _ _ _ (by omega)), below_setRow h4 (by omega) _⟩

/-- What stands ahead of the noughts, and k noughts. -/
def pz (xs : List Int) (k : Nat) : List Int := xs ++ 128 :: List.replicate k 0
theorem pz_len (xs : List Int) (k : Nat) : (pz xs k).length = xs.length + 1 + k := by unfold pz; simp; omega
theorem pz_succ (xs : List Int) (k : Nat) : pz xs k ++ [0] = pz xs (k + 1) := by unfold pz; rw [List.replicate_succ']; simp
theorem pz_zero (xs : List Int) : xs ++ [128] = pz xs 0 := rfl
theorem pz_pad (xs : List Int) : pz xs (Pl.zers xs.length) ++ Pl.count xs.length = xs ++ Pl.pad xs.length := by unfold pz Pl.pad; simp
theorem byt_append {a b : List Int} (ha : Pl.Byt a) (hb : Pl.Byt b) : Pl.Byt (a ++ b) := by
  intro i
  rcases Nat.lt_or_ge i a.length with h | h
  · rw [getD_append_left _ _ _ h]; exact ha i
  · rw [getD_append_right _ _ _ h]; exact hb _
theorem byt_pz {xs : List Int} (h : Pl.Byt xs) (k : Nat) : Pl.Byt (pz xs k) := by
  refine byt_append h ?_
  refine byteList _ ?_
  simp
theorem count_snoc (n t : Nat) (h : t < 8) : (Pl.count n).take t ++ [(Pl.count n).getD t 0] = (Pl.count n).take (t + 1) := by
  rw [List.take_add_one, List.getElem?_eq_getElem (show t < (Pl.count n).length by rw [count_len]; exact h)]
  simp [List.getD, List.getElem?_eq_getElem (show t < (Pl.count n).length by rw [count_len]; exact h)]
theorem byt_count (n t : Nat) : Pl.Byt ((Pl.count n).take t) := bytes_take _ _ (count_byte n)

set_option maxHeartbeats 4000000 in
set_option maxRecDepth 100000 in
theorem rof_any (v : Value) (xs : List Int) (w : World) (sl : Sl w v xs) (hbig : xs.length ≤ 100000) :
    Calls Tryz.prog 114 #[v] w fun e w' => e = .returned (.agg (u8s (Pl.sha xs))) ∧ Below w.heap.size w w' := by
  obtain ⟨wa, hwa⟩ : ∃ wa, wa = w.alloc (.cells (u8s (List.replicate 32 0)) 47) := ⟨_, rfl⟩
  have ba : Below w.heap.size w wa := by rw [hwa]; exact (Below.refl _ _).alloc (Nat.le_refl _) _
  have g0 : wa.heap[w.heap.size]? = some (.cells (u8s (List.replicate 32 0)) 47 (0, 0)) := by rw [hwa]; exact heap_alloc_new _ _
  have hlt : w.heap.size < wa.heap.size := World.block_lt_of_cell? _ _ ((cell_of_row _ _ 0 _ _ _ g0).trans (u8s_get _ 0 (by simp)))
  have hwz : w.alloc (.cells #[.int .u8 0, .int .u8 0, .int .u8 0, .int .u8 0, .int .u8 0, .int .u8 0, .int .u8 0, .int .u8 0, .int .u8 0, .int .u8 0, .int .u8 0, .int .u8 0, .int .u8 0, .int .u8 0, .int .u8 0, .int .u8 0, .int .u8 0, .int .u8 0, .int .u8 0, .int .u8 0, .int .u8 0, .int .u8 0, .int .u8 0, .int .u8 0, .int .u8 0, .int .u8 0, .int .u8 0, .int .u8 0, .int .u8 0, .int .u8 0, .int .u8 0, .int .u8 0] 47) = wa := hwa.symm
  have cf := rfirst_any wa
  have HBA : Hid (Below w.heap.size w wa) := ba
  have HG0 : Hid (wa.heap[w.heap.size]? = some (.cells (u8s (List.replicate 32 0)) 47 (0, 0))) := g0
  have HSL : Hid (Sl w v xs) := sl
  have hby : Pl.Byt xs := sl.bytes
  have HBY : Hid (Pl.Byt xs) := hby
  have HI8 : Hid ((Tryz.prog.info? 192).map (·.size) = some (u32s (Pl.words Pl.init)).size) := size47
  obtain ⟨a, cap, rfl, -⟩ := sl
  obtain ⟨L, hL⟩ : ∃ L, L = xs.length := ⟨_, rfl⟩
  have HL : Hid (L = xs.length) := hL
  rw [← hL] at HSL hbig ⊢
  clear hwa ba g0 hby hL
  go_enter Tryz.func114, Tryz.ntmps114
  go_wp2_with fail
  refine cf.mono ?_
  rintro e w1 ⟨rfl, b1⟩
  have HB1 : Hid (Below wa.heap.size wa w1) := b1
  clear cf b1
  obtain ⟨w2, hw2⟩ : ∃ w2, w2 = w1.alloc (.cells (u32s (Pl.words Pl.init)) 192) := ⟨_, rfl⟩
  have HW2 : Hid (w2 = w1.alloc (.cells (u32s (Pl.words Pl.init)) 192)) := hw2
  have b2 : Below w1.heap.size w1 w2 := by rw [hw2]; exact (Below.refl _ _).alloc (Nat.le_refl _) _
  have s2 : w2.heap.size = w1.heap.size + 1 := by rw [hw2]; show (w1.heap.push _).size = _; simp
  have hs1 := HB1.out.size
  have HB2 : Hid (Below w.heap.size w w2) := (HBA.out.trans (HB1.out.mono (by omega))).trans (b2.mono (by omega))
  have HS0 : Hid (w2.heap[w1.heap.size]? = some (.cells (u32s (Pl.words Pl.init)) 192 (0, 0))) := by unfold Hid; rw [hw2]; exact heap_alloc_new _ _
  have HR0 : Hid (w2.heap[w.heap.size]? = some (.cells (u8s (List.replicate 32 0)) 47 (0, 0))) := ((b2.block _ (by omega)).trans (HB1.out.block _ hlt)).trans HG0.out
  have HLT : Hid (w.heap.size < w1.heap.size) := by unfold Hid; omega
  clear hs1
  obtain ⟨S0, hS0⟩ : ∃ S0, S0 = w1.heap.size := ⟨_, rfl⟩
  have HS0e : Hid (S0 = w1.heap.size) := hS0
  have own0 := own_empty w2
  have bE : Below w2.heap.size w2 (w2.alloc (.cells #[] 5)) := (Below.refl _ _).alloc (Nat.le_refl _) _
  have slE := (HSL.out.kept HB2.out).kept bE
  obtain ⟨Bs, hBs⟩ : ∃ Bs, Bs = w2.heap.size := ⟨_, rfl⟩
  have HBs : Hid (Bs = w2.heap.size) := hBs
  have hle0 : w2.heap.size ≤ (w2.alloc (.cells #[] 5)).heap.size := bE.size
  clear hw2 b2 hS0 s2
  have HOZ : Hid ((u32s (Pl.words Pl.init)).all (·.oneCell') = true) := u32s_one _
  go_wp2_with (first
    | (refine wpList_store_row rfl 192 _ _ rfl w1.heap.size (u32s (Pl.words Pl.init)) rfl rfl 192 _ (heap_alloc_new _ _) HI8.out rfl HOZ.out ?_; rw [World.setRow_alloc_new]; rw [← HW2.out])
    | (at_builtin; refine wpList_append_sl rfl _ _ rfl w2.heap.size _ 0 _ rfl own0 _ xs rfl slE (by rw [← HL.out]; omega) hle0 (Hid.out ?_)))
  unfold Hid
  intro v4 w4 own4 hg4
  have bdummy := trivial
  clear bdummy
  have b4 : Below w2.heap.size w2 w4 := bE.grown hg4 hle0 (own_base own0)
  have b5 : Below w4.heap.size w4 (w4.alloc (.cells #[.int .u8 128] 5)) := (Below.refl _ _).alloc (Nat.le_refl _) _
  have own5 : (w4.alloc (.cells #[.int .u8 128] 5)).ownsRow w2.heap.size 5 1 v4 xs.length (xs.map (Value.int .u8)) := own_lt' own4 fun g _ hl => b5.block g hl
  have sl5 := sl_one w4 128 (by omega) (by omega)
  have hle5 : w2.heap.size ≤ (w4.alloc (.cells #[.int .u8 128] 5)).heap.size := Nat.le_trans b4.size b5.size
  have B5 : Below w2.heap.size w2 (w4.alloc (.cells #[.int .u8 128] 5)) := b4.trans (b5.mono b4.size)
  obtain ⟨ad4, cp4, hv4, -⟩ := sl_owned own4 HBY.out
  rw [← HL.out] at hv4 own5
  subst hv4
  clear own0 bE slE hle0 own4 hg4 b4 b5
  go_wp2_with (at_builtin; refine wpList_append_sl rfl _ _ rfl w2.heap.size _ L _ rfl own5 _ [128] rfl sl5 (by simp; omega) hle5 (Hid.out ?_))
  unfold Hid
  intro v6 w6 own6 hg6
  have b6 : Below w2.heap.size w2 w6 := B5.grown hg6 hle5 (own_base own5)
  have HO6 : Hid (w6.ownsRow w2.heap.size 5 1 v6 (L + 1 + 0) ((pz xs 0).map (Value.int .u8))) := by
    unfold Hid
    rw [← pz_zero, List.map_append]
    exact own6
  have HB6 : Hid (Below w2.heap.size w2 w6) := b6
  clear own5 sl5 hle5 B5 own6 hg6 b6
  obtain ⟨z, hz⟩ : ∃ z, z = Pl.zers xs.length := ⟨_, rfl⟩
  have HZ : Hid (Pl.zers xs.length = z) := hz.symm
  have hzd : z = (64 - (L % 64 + 9) % 64) % 64 := by rw [hz, ← HL.out]; rfl
  have HZD : Hid (z = (64 - (L % 64 + 9) % 64) % 64) := hzd
  have hz64 : z < 64 := by omega
  clear hz hzd
  go_wp2_with fail
  go_loopw [4] (fun v wr => ∃ k : Nat, k ≤ z ∧ wr.ownsRow w2.heap.size 5 1 v (L + 1 + k) ((pz xs k).map (Value.int .u8)) ∧ Below w2.heap.size w2 wr) (fun v _ => 200000 - lenOf' v)
  case atStart => exact ⟨0, by omega, HO6.out, HB6.out⟩
  case round =>
    clear HO6 HB6
    obtain ⟨k, hk, own, bel⟩ := hrel
    have HOW : Hid (wr.ownsRow w2.heap.size 5 1 u4 (L + 1 + k) ((pz xs k).map (Value.int .u8))) := own
    have HBE : Hid (Below w2.heap.size w2 wr) := bel
    have hpb : Pl.Byt (pz xs k) := byt_pz HBY.out k
    have HPB : Hid (Pl.Byt (pz xs k)) := hpb
    obtain ⟨ad, cp, hv, -⟩ := sl_owned own hpb
    rw [pz_len, ← HL.out] at hv
    subst hv
    clear own bel hpb
    have tm : Int.tmod ((L + 1 + k : Nat) : Int) 64 = (((L + 1 + k) % 64 : Nat) : Int) := by rw [Int.tmod_eq_emod_of_nonneg (by omega)]; omega
    by_cases hlt2 : k < z
    · have hne : ¬ (((L + 1 + k) % 64 : Nat) : Int) = 56 := by have := HZD.out; omega
      have hne2 : ((((L + 1 + k) % 64 : Nat) : Int) != 56) = true := by simp; omega
      have sl1 := sl_one wr 0 (by omega) (by omega)
      have bz : Below wr.heap.size wr (wr.alloc (.cells #[.int .u8 0] 5)) := (Below.refl _ _).alloc (Nat.le_refl _) _
      have ownz : (wr.alloc (.cells #[.int .u8 0] 5)).ownsRow w2.heap.size 5 1 (.slice ad (L + 1 + k) cp) (L + 1 + k) ((pz xs k).map (Value.int .u8)) := own_lt' HOW.out fun g _ hl => bz.block g hl
      have hlez : w2.heap.size ≤ (wr.alloc (.cells #[.int .u8 0] 5)).heap.size := Nat.le_trans HBE.out.size bz.size
      have Bz : Below w2.heap.size w2 (wr.alloc (.cells #[.int .u8 0] 5)) := HBE.out.trans (bz.mono HBE.out.size)
      obtain ⟨N, hN⟩ : ∃ N, N = L + 1 + k := ⟨_, rfl⟩
      have HN : Hid (N = L + 1 + k) := hN
      rw [← hN] at tm hne hne2 ownz ⊢
      generalize N % 64 = m at *
      clear bz hN
      have hNb : N ≤ 200000 := by have := HN.out; omega
      go_wp2_with (at_builtin; refine wpList_append_sl rfl _ _ rfl w2.heap.size _ N _ rfl ownz _ [0] rfl sl1 (by simp; omega) hlez (Hid.out ?_))
      unfold Hid
      intro v7 w7 own7 hg7
      have HO7 : Hid (w7.ownsRow w2.heap.size 5 1 v7 (L + 1 + (k + 1)) ((pz xs (k + 1)).map (Value.int .u8))) := by
        unfold Hid
        rw [← pz_succ, List.map_append, show L + 1 + (k + 1) = N + 1 by have := HN.out; omega]
        exact own7
      have HB7 : Hid (Below w2.heap.size w2 w7) := Bz.grown hg7 hlez (own_base ownz)
      obtain ⟨ad7, cp7, hv7, -⟩ := sl_owned HO7.out (byt_pz HBY.out _)
      rw [pz_len, ← HL.out] at hv7
      subst hv7
      clear own7 hg7 ownz sl1 hlez Bz tm hne hne2
      go_wp2
      exact ⟨⟨k + 1, by omega, HO7.out, HB7.out⟩, by simp [lenOf']; have := HN.out; omega⟩
    · obtain rfl : k = z := by omega
      have h56 : (L + 1 + k) % 64 = 56 := by have := HZD.out; omega
      rw [h56] at tm
      have hne2 : (((56 : Nat) : Int) != 56) = false := by simp
      obtain ⟨N, hN⟩ : ∃ N, N = L + 1 + k := ⟨_, rfl⟩
      have HN : Hid (N = L + 1 + k) := hN
      rw [← hN] at tm HOW ⊢
      obtain ⟨c, hc⟩ : ∃ c, c = L * 8 := ⟨_, rfl⟩
      have HCe : Hid (c = xs.length * 8) := by unfold Hid; rw [hc, HL.out]
      have e8 : (8 : Int) * (L : Int) = (c : Int) := by omega
      have hcl : c < 18446744073709551616 := by omega
      clear hN hc h56 hlt2
      obtain ⟨Pz, hPz⟩ : ∃ Pz, Pz = pz xs k := ⟨_, rfl⟩
      have HPz : Hid (Pz = pz xs k) := hPz
      rw [← hPz] at HOW HPB
      obtain ⟨Ct, hCt⟩ : ∃ Ct, Ct = Pl.count xs.length := ⟨_, rfl⟩
      have HCt : Hid (Ct = Pl.count xs.length) := hCt
      have HCL : Hid (Ct.length = 8) := by unfold Hid; rw [hCt]; exact count_len _
      have HCs : Hid (∀ t, t < 8 → Ct.take t ++ [Ct.getD t 0] = Ct.take (t + 1)) := fun t ht => by rw [hCt]; exact count_snoc _ t ht
      have HCg : Hid (∀ t, t < 8 → Ct.getD (7 - t) 0 = ((c / 2 ^ (8 * t) % 256 : Nat) : Int)) := fun t ht => by rw [hCt, HCe.out]; exact count_get _ t ht
      have HCb : Hid (∀ t, Pl.Byt (Ct.take t)) := fun t => by rw [hCt]; exact byt_count _ t
      have hNb : N ≤ 200000 := by have := HN.out; omega
      have HO0 : Hid (wr.ownsRow w2.heap.size 5 1 (.slice ad N cp) (N + 0) ((Pz ++ Ct.take 0).map (Value.int .u8))) := by unfold Hid; rw [List.take_zero, List.append_nil]; exact HOW.out
      clear hPz hCt
      go_wp2_with fail
      go_loopw [4, 6] (fun v i wq => ∃ t : Nat, t ≤ 8 ∧ i = .int .i64 (7 - (t : Int)) ∧ wq.ownsRow w2.heap.size 5 1 v (N + t) ((Pz ++ Ct.take t).map (Value.int .u8)) ∧ Below w2.heap.size w2 wq) (fun _ i _ => (intOf i + 1).toNat)
      case atStart => exact ⟨0, by omega, rfl, HO0.out, HBE.out⟩
      case round =>
        clear HO0 HOW HBE tm
        obtain ⟨t, ht, rfl, own, bel⟩ := hrel
        have HOW : Hid (wr.ownsRow w2.heap.size 5 1 u4 (N + t) ((Pz ++ Ct.take t).map (Value.int .u8))) := own
        have HBE : Hid (Below w2.heap.size w2 wr) := bel
        have hpb : Pl.Byt (Pz ++ Ct.take t) := byt_append HPB.out (HCb.out t)
        have hol := own.1
        obtain ⟨ad2, cp2, hv, -⟩ := sl_owned own hpb
        have hln : (Pz ++ Ct.take t).length = N + t := by simpa using hol
        rw [hln] at hv
        subst hv
        clear own bel hpb hol hln
        by_cases ht8 : t < 8
        · obtain ⟨ii, hii⟩ : ∃ ii : Nat, (7 : Int) - (t : Int) = (ii : Int) := ⟨7 - t, by omega⟩
          have hge : (0 : Int) ≤ (ii : Int) := by omega
          have hi8 : ii < 8 := by omega
          have q1 : IntKind.i64.wrap (8 * (ii : Int)) = ((8 * ii : Nat) : Int) := by simp [IntKind.wrap, IntKind.bits, IntKind.signed]; omega
          have s1 : (c : Int) / 2 ^ min (8 * ii) 64 = ((c / 2 ^ (8 * ii) : Nat) : Int) := by rw [Nat.min_eq_left (by omega)]; simp
          have s2 : ((c / 2 ^ (8 * ii) : Nat) : Int) % 256 = ((c / 2 ^ (8 * ii) % 256 : Nat) : Int) := by omega
          have hcg := HCg.out ii hi8
          rw [show 7 - ii = t by omega] at hcg
          have HCS : Hid (Ct.take t ++ [((c / 2 ^ (8 * ii) % 256 : Nat) : Int)] = Ct.take (t + 1)) := by unfold Hid; rw [← hcg]; exact HCs.out t ht8
          have hyl : c / 2 ^ (8 * ii) % 256 < 256 := Nat.mod_lt _ (by omega)
          have HII : Hid ((7 : Int) - (t : Int) = (ii : Int)) := hii
          rw [hii]
          clear hcg hii
          generalize c / 2 ^ (8 * ii) % 256 = y at *
          generalize c / 2 ^ (8 * ii) = yy at *
          generalize 8 * ii = m8 at *
          have sl1 := sl_one wr (y : Int) (by omega) (by omega)
          have bz : Below wr.heap.size wr (wr.alloc (.cells #[.int .u8 (y : Int)] 5)) := (Below.refl _ _).alloc (Nat.le_refl _) _
          obtain ⟨M, hM⟩ : ∃ M, M = N + t := ⟨_, rfl⟩
          have HM : Hid (M = N + t) := hM
          rw [← hM] at HOW ⊢
          have ownz : (wr.alloc (.cells #[.int .u8 (y : Int)] 5)).ownsRow w2.heap.size 5 1 (.slice ad2 M cp2) M ((Pz ++ Ct.take t).map (Value.int .u8)) := own_lt' HOW.out fun g _ hl => bz.block g hl
          have hlez : w2.heap.size ≤ (wr.alloc (.cells #[.int .u8 (y : Int)] 5)).heap.size := Nat.le_trans HBE.out.size bz.size
          have Bz : Below w2.heap.size w2 (wr.alloc (.cells #[.int .u8 (y : Int)] 5)) := HBE.out.trans (bz.mono HBE.out.size)
          have hMb : M ≤ 300000 := by have := HM.out; omega
          clear bz hM
          generalize hX0 : (Pz ++ Ct.take t).map (Value.int .u8) = X0 at *
          have HX0 : Hid ((Pz ++ Ct.take t).map (Value.int .u8) = X0) := hX0
          clear hX0
          go_wp2_with (at_builtin; refine wpList_append_sl rfl _ _ rfl w2.heap.size _ M _ rfl ownz _ [(y : Int)] rfl sl1 (by simp; omega) hlez (Hid.out ?_))
          unfold Hid
          intro v7 w7 own7 hg7
          have HO7 : Hid (w7.ownsRow w2.heap.size 5 1 v7 (N + (t + 1)) ((Pz ++ Ct.take (t + 1)).map (Value.int .u8))) := by
            unfold Hid
            rw [← HCS.out, ← List.append_assoc, List.map_append, HX0.out, show N + (t + 1) = M + 1 by have := HM.out; omega]
            exact own7
          have HB7 : Hid (Below w2.heap.size w2 w7) := Bz.grown hg7 hlez (own_base ownz)
          have hsub : IntKind.i64.wrap ((ii : Int) - 1) = (ii : Int) - 1 := by simp [IntKind.wrap, IntKind.bits, IntKind.signed]; omega
          clear own7 hg7 ownz sl1 hlez Bz s1 s2 q1
          go_wp2
          exact ⟨⟨t + 1, by omega, by have := HII.out; congr 1; omega, HO7.out, HB7.out⟩, by simp [intOf]⟩
        · obtain rfl : t = 8 := by omega
          have HY : Hid (Pz ++ Ct.take 8 = xs ++ Pl.pad xs.length) := by
            unfold Hid
            rw [List.take_of_length_le (by rw [HCL.out]; omega), HPz.out, HCt.out, ← HZ.out]
            exact pz_pad xs
          have HYL : Hid ((xs ++ Pl.pad xs.length).length = N + 8) := by
            unfold Hid
            rw [← HY.out]
            have := HOW.out.1
            simpa using this
          have HYB : Hid (Pl.Byt (xs ++ Pl.pad xs.length)) := by
            unfold Hid
            rw [← HY.out]
            exact byt_append HPB.out (HCb.out 8)
          have OY : wr.ownsRow w2.heap.size 5 1 (.slice ad2 (N + 8) cp2) (xs ++ Pl.pad xs.length).length ((xs ++ Pl.pad xs.length).map (Value.int .u8)) := by
            rw [HYL.out, ← HY.out]
            exact HOW.out
          have HSH : Hid (Pl.sha xs = Pl.digest (Pl.upto (xs ++ Pl.pad xs.length) ((N + 8) / 64))) := by
            unfold Hid Pl.sha
            rw [Pl.absorb_eq, HYL.out]
          have h64 : 64 * ((N + 8) / 64) = N + 8 := by have h1 := HN.out; have h2 := HZD.out; omega
          obtain ⟨Y, hYe⟩ : ∃ Y, Y = xs ++ Pl.pad xs.length := ⟨_, rfl⟩
          rw [← hYe] at HYL HYB OY HSH
          obtain ⟨YL, hYL⟩ : ∃ YL, YL = N + 8 := ⟨_, rfl⟩
          rw [← hYL] at HYL OY HSH h64 ⊢
          obtain ⟨M, hM⟩ : ∃ M, M = YL / 64 := ⟨_, rfl⟩
          rw [← hM] at HSH h64
          have HM64 : Hid (64 * M = YL) := h64
          have hneg : (7 : Int) - ((8 : Nat) : Int) = -1 := by omega
          have hS0l : w1.heap.size < w2.heap.size := (Array.getElem?_eq_some_iff.1 HS0.out).1
          have K0 : Hid (wr.heap[w1.heap.size]? = some (.cells (u32s (Pl.words Pl.init)) 192 (0, 0)) ∧ wr.heap[w.heap.size]? = some (.cells (u8s (List.replicate 32 0)) 47 (0, 0))) :=
            ⟨(HBE.out.block _ hS0l).trans HS0.out, (HBE.out.block _ (by have := HLT.out; omega)).trans HR0.out⟩
          have HBW : Hid (Below w.heap.size w wr) := HB2.out.trans (HBE.out.mono HB2.out.size)
          have HOY : Hid (wr.ownsRow w2.heap.size 5 1 (.slice ad2 YL cp2) Y.length (Y.map (Value.int .u8))) := OY
          have HYLb : Hid (YL ≤ 300000) := by unfold Hid; omega
          have cw := rwords_any wr
          have HIK : Hid ((Tryz.prog.info? 195).map (·.size) = some (u32s Pl.K).size) := size50
          have HKO : Hid ((u32s Pl.K).all (·.oneCell') = true) := u32s_one _
          clear OY hYe hYL hM h64 HY HCL HCs HCg HCb HPB HPz HCt HOW HCe e8 hcl
          go_wp2_with fail
          refine cw.mono ?_
          rintro e w8 ⟨rfl, b8⟩
          have HB8 : Hid (Below wr.heap.size wr w8) := b8
          clear cw b8
          go_wp2_with (refine wpList_store_row rfl 195 _ _ rfl w8.heap.size (u32s Pl.K) rfl rfl 195 _ (heap_alloc_new _ _) HIK.out rfl HKO.out ?_; rw [World.setRow_alloc_new]; obtain ⟨w9, hw9⟩ : ∃ w9, w9 = w8.alloc (.cells (u32s Pl.K) 195) := ⟨_, rfl⟩; rw [← hw9]; have HW9 : Hid (w9 = w8.alloc (.cells (u32s Pl.K) 195)) := hw9; clear hw9)
          have R9 : Hid (R3 w.heap.size w1.heap.size w8.heap.size w2.heap.size (u32s (Pl.words Pl.init)) (.slice ad2 YL cp2) Y w w9) := by
            have b9 : Below w8.heap.size w8 w9 := by rw [HW9.out]; exact (Below.refl _ _).alloc (Nat.le_refl _) _
            have b89 : Below wr.heap.size wr w9 := HB8.out.trans (b9.mono HB8.out.size)
            have hl1 := (Array.getElem?_eq_some_iff.1 K0.out.1).1
            have hl2 := (Array.getElem?_eq_some_iff.1 K0.out.2).1
            exact ⟨(b89.block _ hl1).trans K0.out.1, (b89.block _ hl2).trans K0.out.2, by rw [HW9.out]; exact heap_alloc_new _ _, own_lt' HOY.out (fun g _ hl => b89.block g hl), HBW.out.trans (b89.mono HBW.out.size)⟩
          have hSK : w1.heap.size < w8.heap.size := by have := HB8.out.size; have := HBE.out.size; omega
          obtain ⟨KB, hKB⟩ : ∃ KB, KB = w8.heap.size := ⟨_, rfl⟩
          rw [← hKB] at R9 hSK ⊢
          clear hKB HW9 HB8 K0 HOY HBW
          go_wp2_with fail
          go_loopw [8] (fun i wq => ∃ k : Nat, k ≤ M ∧ i = .int .i64 ((64 * k : Nat) : Int) ∧ R3 w.heap.size w1.heap.size KB w2.heap.size (u32s (Pl.words (Pl.upto Y k))) (.slice ad2 YL cp2) Y w wq) (fun i _ => YL - (intOf i).toNat)
          case atStart => exact ⟨0, by omega, rfl, R9.out⟩
          case round =>
            clear R9
            obtain ⟨k, hk, rfl, r3⟩ := hrel
            have RR : Hid (R3 w.heap.size w1.heap.size KB w2.heap.size (u32s (Pl.words (Pl.upto Y k))) (.slice ad2 YL cp2) Y w wr) := r3
            clear r3
            obtain ⟨m, hm⟩ : ∃ m, m = 64 * k := ⟨_, rfl⟩
            have HMk : Hid (m = 64 * k) := hm
            rw [← hm]
            clear hm
            by_cases hkM : k < M
            · have hml : m + 64 ≤ YL := by have := HMk.out; have := HM64.out; omega
              have lt2 : (m : Int) < (YL : Int) := by omega
              have sY := sl_owned RR.out.2.2.2.1 HYB.out
              obtain ⟨ap, cq, eq1, q1, q2, q3, q4⟩ := sY
              rw [HYL.out] at eq1
              cases eq1
              rw [HYL.out] at q1
              have HSY : Hid (Sl wr (.slice ad2 YL cp2) Y) := sl_owned RR.out.2.2.2.1 HYB.out
              rcases q4 with q4 | ⟨-, pb, po, rfl, -, -, -, -⟩
              · rw [HYL.out] at q4; omega
              have hcm : cp2 ≤ 9223372036854775807 := by unfold maxLen at q2; omega
              obtain ⟨ml, hml9⟩ : ∃ ml, ml = m + 64 := ⟨_, rfl⟩
              have HMl : Hid (ml = m + 64) := hml9
              have p1' : IntKind.i64.wrap ((m : Int) + 64) = (ml : Int) := by simp [IntKind.wrap, IntKind.bits, IntKind.signed]; omega
              have zz2 : (ml : Int) ≤ (cp2 : Int) := by omega
              have zz5 : ml ≤ cp2 := by omega
              have zz6 : (m : Int) ≤ (ml : Int) := by omega
              have zz4 : m ≤ ml := by omega
              clear hml9
              have HSU : Hid (Sl wr (.slice (some ⟨pb, po + m, none⟩) (ml - m) (cp2 - m)) ((Y.drop m).take 64)) := by
                unfold Hid
                rw [show ml - m = 64 by have := HMl.out; omega]
                exact (HSY.out.drop m (by omega)).take 64 (by omega)
              have cb := fun x (hx : Below wr.heap.size wr x) => rblock_any (Pl.upto Y k) _ _ x (ok_upto Y k) (HSU.out.kept hx) (by rw [List.length_take, List.length_drop, HYL.out]; omega)
              have HUP : Hid (Pl.comp (Pl.upto Y k) ((Y.drop m).take 64) = Pl.upto Y (k + 1)) := by unfold Hid; rw [HMk.out]; exact upto_next Y k
              rw [HUP.out] at cb
              have p1 : IntKind.i64.wrap ((m : Int) + 64) = ((m + 64 : Nat) : Int) := by simp [IntKind.wrap, IntKind.bits, IntKind.signed]; omega
              have hne : ¬ cp2 = m := by omega
              have hne2 : ¬ m = cp2 := by omega
              have le1 : ((m + 64 : Nat) : Int) ≤ (cp2 : Int) := by omega
              have le2 : m + 64 ≤ cp2 := by omega
              have le4 : (m : Int) ≤ ((m + 64 : Nat) : Int) := by omega
              have HRX : Hid (wr.heap[w1.heap.size]? = some (.cells (u32s (Pl.words (Pl.upto Y k))) 192 (0, 0))) := RR.out.1
              have HKX : Hid (wr.heap[KB]? = some (.cells (u32s Pl.K) 195 (0, 0))) := RR.out.2.2.1
              clear q1 q2 q3
              go_wp2_with fail
              have HKR : Hid (∀ x : World, x.heap[KB]? = some (.cells (u32s Pl.K) 195 (0, 0)) → x.rangeAt KB 0 (Pl.K.map fun (n : Nat) => Value.int .u32 (n : Int))) := fun x hx => range_words (fun i hi => (cell_of_row _ _ i _ _ _ hx).trans (u32s_get _ i hi))
              have hu50 := Tryz.underlying195
              have hi50 : (Tryz.prog.info? 195).map (·.size) = some (Pl.K.map fun (n : Nat) => Value.int .u32 (n : Int)).length := size50
              have HI47 : Hid ((Tryz.prog.info? 192).map (·.size) = some (u32s (Pl.words (Pl.upto Y k))).size) := by unfold Hid; rw [u32s_size, words_len]; exact size47
              have HJ47 : Hid ((Tryz.prog.info? 192).map (·.size) = some (u32s (Pl.words (Pl.upto Y (k + 1)))).size) := by unfold Hid; rw [u32s_size, words_len]; exact size47
              have HHO : Hid ((u32s (Pl.words (Pl.upto Y k))).size = (u32s (Pl.words (Pl.upto Y (k + 1)))).size) := by unfold Hid; rw [u32s_size, u32s_size, words_len, words_len]
              have HON : Hid ((u32s (Pl.words (Pl.upto Y (k + 1)))).all (·.oneCell') = true) := u32s_one _
              have cd := cb wr.drew ((Below.refl _ _).drew)
              have Rd : Hid (R3 w.heap.size w1.heap.size KB w2.heap.size (u32s (Pl.words (Pl.upto Y k))) (.slice (some ⟨pb, po, none⟩) YL cp2) Y w wr.drew) := RR.out.kept ((Below.refl _ _).drew)
              clear cb
              obtain ⟨UA, hUA⟩ : ∃ UA, UA = u32s (Pl.words (Pl.upto Y k)) := ⟨_, rfl⟩
              obtain ⟨UB, hUB⟩ : ∃ UB, UB = u32s (Pl.words (Pl.upto Y (k + 1))) := ⟨_, rfl⟩
              have HUB : Hid (UB = u32s (Pl.words (Pl.upto Y (k + 1)))) := hUB
              rw [← hUA] at HRX HI47 HHO cd Rd
              rw [← hUB] at HJ47 HHO HON cd
              clear hUA hUB RR
              obtain ⟨KL, hKL⟩ : ∃ KL, KL = Pl.K.map fun (n : Nat) => Value.int .u32 (n : Int) := ⟨_, rfl⟩
              have hKa : u32s Pl.K = KL.toArray := by rw [hKL]; rfl
              rw [hKa] at cd
              rw [← hKL] at HKR hi50
              clear hKL hKa p1 le1 le2 le4
              refine wp_region_held_drew (S := fun x => x.rangeAt KB 0 KL) (by kernel_rfl) ?_ (fun hHeld => ?_)
              · exact HKR.out _ HKX.out
              refine wpAnyH_take (i := 1) (oi := { dst := some 48, op := Op.move (Operand.tmp 4), type := 34, pos := "ref.go:67", after := #[], guard := none }) (v := ?v1) rfl (by kernel_rfl) (by kernel_rfl) (by kernel_rfl) (fun _ _ _ h => h) (Or.inl ⟨by rfl, ?y1⟩) (by assumption) ?r1
              case y1 => (intro w hSw; go_simp; try with_reducible rfl)
              simp only [Act.put, List.setIfInBounds_toArray, List.set_cons_zero, List.set_cons_succ]
              refine wpAnyH_take (i := 2) (oi := { dst := some 49, op := Op.move (Operand.tmp 8), type := 3, pos := "ref.go:67", after := #[], guard := none }) (v := ?v2) rfl (by kernel_rfl) (by kernel_rfl) (by kernel_rfl) (fun _ _ _ h => h) (Or.inl ⟨by rfl, ?y2⟩) (by assumption) ?r2
              case y2 => (intro w hSw; go_simp; try with_reducible rfl)
              simp only [Act.put, List.setIfInBounds_toArray, List.set_cons_zero, List.set_cons_succ]
              refine wpAnyH_take (i := 3) (oi := { dst := some 50, op := Op.move (Operand.tmp 8), type := 3, pos := "ref.go:67", after := #[], guard := none }) (v := ?v3) rfl (by kernel_rfl) (by kernel_rfl) (by kernel_rfl) (fun _ _ _ h => h) (Or.inl ⟨by rfl, ?y3⟩) (by assumption) ?r3
              case y3 => (intro w hSw; go_simp; try with_reducible rfl)
              simp only [Act.put, List.setIfInBounds_toArray, List.set_cons_zero, List.set_cons_succ]
              refine wpAnyH_take (i := 4) (oi := { dst := some 51, op := Op.binOp BinOp.add 3 (Operand.tmp 50) (Operand.const (Value.int IntKind.i64 64)) 3, type := 3, pos := "ref.go:67", after := #[{ on := 3, ground := Ground.data }], guard := none }) (v := ?v4) rfl (by kernel_rfl) (by kernel_rfl) (by kernel_rfl) (fun _ _ _ h => h) (Or.inl ⟨by rfl, ?y4⟩) (by assumption) ?r4
              case y4 => (intro w hSw; go_simp; try with_reducible rfl)
              simp only [Act.put, List.setIfInBounds_toArray, List.set_cons_zero, List.set_cons_succ]
              refine wpAnyH_take (i := 5) (oi := { dst := some 52, op := Op.slice 34 (Operand.tmp 48) (some (Operand.tmp 49)) (some (Operand.tmp 51)) none, type := 34, pos := "ref.go:67", after := #[{ on := 1, ground := Ground.data }, { on := 2, ground := Ground.data }, { on := 4, ground := Ground.data }], guard := none }) (v := ?v5) rfl (by kernel_rfl) (by kernel_rfl) (by kernel_rfl) (fun _ _ _ h => h) (Or.inl ⟨by rfl, ?y5⟩) (by assumption) ?r5
              case y5 => (intro w hSw; go_simp; try with_reducible rfl)
              simp only [Act.put, List.setIfInBounds_toArray, List.set_cons_zero, List.set_cons_succ]
              refine wpAnyH_take (i := 6) (oi := { dst := some 53, op := Op.load 195 (Operand.tmp 7), type := 195, pos := "ref.go:67", after := #[], guard := none }) (v := .agg KL.toArray) rfl (by kernel_rfl) (by kernel_rfl) (by kernel_rfl) (fun _ _ _ h => h) (yieldsIf_load_mid (by rfl) _ _ rfl KB 0 rfl _ _ (fun _ h => h) hu50 rfl hi50) (by assumption) ?_
              simp only [Act.put, List.setIfInBounds_toArray, List.set_cons_zero, List.set_cons_succ]
              refine wpAnyH_ready (rs := [0]) (by kernel_rfl) (by simp) ?_
              refine AllReadyH.cons (o := { dst := some 47, op := Op.load 192 (Operand.tmp 3), type := 192, pos := "ref.go:67", after := #[], guard := none }) rfl (fun K hK => ?_) ?_
              · rw [if_pos (by rfl)]
                refine wp_load_row 192 _ rfl w1.heap.size rfl 192 UA (0, 0) _ HRX.out Tryz.underlying192 rfl HI47.out ?_
                simp only [Act.put, List.setIfInBounds_toArray, List.set_cons_zero, List.set_cons_succ]
                refine hK.out _ _ ?_ (fun hHeld => ?_)
                · exact HKR.out _ HKX.out
                clear hK K
                refine wpAnyH_ready (rs := [7]) (by kernel_rfl) (by simp) ?_
                refine AllReadyH.cons rfl (fun K hK => ?_) ?_
                · go_simp
                  go_wp2_with (go_at_call 139; refine cd.mono ?_; rintro e w10 ⟨rfl, b10⟩; have R10 := Rd.out.kept b10)
                  refine hK.out _ _ ?_ (fun hHeld => ?_)
                  · exact HKR.out _ R10.2.2.1
                  clear hK K
                  refine wpAnyH_ready (rs := [8]) (by kernel_rfl) (by simp) ?_
                  refine AllReadyH.cons (o := { dst := none, op := Op.store 192 (Operand.tmp 3) (Operand.tmp 54), type := 0, pos := "ref.go:67", after := #[{ on := 7, ground := Ground.data }, { on := 7, ground := Ground.chain }, { on := 0, ground := Ground.phase }, { on := 1, ground := Ground.phase }, { on := 2, ground := Ground.phase }, { on := 3, ground := Ground.phase }, { on := 4, ground := Ground.phase }, { on := 5, ground := Ground.phase }, { on := 6, ground := Ground.phase }, { on := 7, ground := Ground.phase }], guard := none }) rfl (fun K hK => ?_) ?_
                  · rw [if_pos (by rfl)]
                    refine wp_store_row 192 _ _ rfl w1.heap.size UB rfl rfl 192 _ R10.1 HJ47.out HHO.out HON.out ?_
                    have R11 : Hid (R3 w.heap.size w1.heap.size KB w2.heap.size UB (.slice (some ⟨pb, po, none⟩) YL cp2) Y w (w10.setRow w1.heap.size UB)) := R10.set HLT.out hSK hS0l
                    refine hK.out _ _ ?_ (fun hHeld => ?_)
                    · exact HKR.out _ R11.out.2.2.1
                    clear hK K R10 b10 cd Rd
                    refine wpAnyH_done (by kernel_rfl) ?_ _
                    go_wp2
                    exact ⟨⟨k + 1, by omega, by have h1 := HMl.out; have h2 := HMk.out; rw [show ml = 64 * (k + 1) by omega], by rw [← HUB.out]; exact R11.out⟩, by have h1 := HMl.out; simp [intOf]; omega⟩
                  exact AllReadyH.nil
                exact AllReadyH.nil
              exact AllReadyH.nil
            · obtain rfl : k = M := by omega
              have hge : ¬ (m : Int) < (YL : Int) := by have h1 := HMk.out; have h2 := HM64.out; omega
              obtain ⟨X, hX⟩ : ∃ X, X = Pl.words (Pl.upto Y k) := ⟨_, rfl⟩
              obtain ⟨D, hD⟩ : ∃ D, D = Pl.digest (Pl.upto Y k) := ⟨_, rfl⟩
              have HXL : Hid (X.length = 8) := by unfold Hid; rw [hX, words_len]
              have HDL : Hid (D.length = 32) := by unfold Hid; rw [hD]; exact digest_len _
              have HDG : Hid (∀ i, i < 32 → D.getD i 0 = ((X.getD (i / 4) 0 / 2 ^ (24 - 8 * (i % 4)) % 256 : Nat) : Int)) := fun i hi => by
                rw [hD, hX]
                have := digest_get (Pl.upto Y k) (i / 4) (i % 4) (by omega) (by omega)
                rwa [Nat.div_add_mod] at this
              have HSD : Hid (Pl.sha xs = D) := by unfold Hid; rw [HSH.out, hD]
              have KS : Hid (wr.heap[w1.heap.size]? = some (.cells (u32s X) 192 (0, 0))) := by unfold Hid; rw [hX]; exact RR.out.1
              have KR0 : Hid (wr.heap[w.heap.size]? = some (.cells (u8s (List.replicate 32 0)) 47 (0, 0))) := RR.out.2.1
              have KB2 : Hid (Below w.heap.size w wr) := RR.out.2.2.2.2
              clear hX hD RR
              have hO1 : w1.heap.size < wr.heap.size := (Array.getElem?_eq_some_iff.1 KS.out).1
              have hO2 : w.heap.size < wr.heap.size := (Array.getElem?_eq_some_iff.1 KR0.out).1
              obtain ⟨OB, hOB⟩ : ∃ OB, OB = wr.heap.size := ⟨_, rfl⟩
              have HOB : Hid (OB = wr.heap.size) := hOB
              have HST : Hid ((wr.alloc (.cells (u8s (List.replicate 32 0)) 47)).heap[w1.heap.size]? = some (.cells (u32s X) 192 (0, 0)) ∧ (wr.alloc (.cells (u8s (List.replicate 32 0)) 47)).heap[w.heap.size]? = some (.cells (u8s (List.replicate 32 0)) 47 (0, 0)) ∧ (wr.alloc (.cells (u8s (List.replicate 32 0)) 47)).heap[OB]? = some (.cells (u8s (partI D 0)) 47 (0, 0)) ∧ Below w.heap.size w (wr.alloc (.cells (u8s (List.replicate 32 0)) 47))) := by
                refine ⟨?_, ?_, ?_, KB2.out.alloc (Nat.le_of_lt hO2) _⟩
                · rw [Below.heap_alloc _ _ _ hO1]; exact KS.out
                · rw [Below.heap_alloc _ _ _ hO2]; exact KR0.out
                · rw [hOB, partI_zero, HDL.out]; exact heap_alloc_new _ _
              have hn1 : w1.heap.size ≠ OB := by omega
              have hn2 : w.heap.size ≠ OB := by omega
              have hn3 : w.heap.size ≤ OB := by omega
              clear hOB
              go_wp2_with fail
              rw [← HOB.out]
              go_loopw [10] (fun q wq => ∃ i : Nat, i ≤ 32 ∧ q = .int .i64 i ∧ wq.heap[w1.heap.size]? = some (.cells (u32s X) 192 (0, 0)) ∧ wq.heap[w.heap.size]? = some (.cells (u8s (List.replicate 32 0)) 47 (0, 0)) ∧ wq.heap[OB]? = some (.cells (u8s (partI D i)) 47 (0, 0)) ∧ Below w.heap.size w wq) (fun q _ => 32 - (intOf q).toNat)
              case atStart => exact ⟨0, by omega, rfl, HST.out.1, HST.out.2.1, HST.out.2.2.1, HST.out.2.2.2⟩
              case round =>
                clear HST
                obtain ⟨i, hi, rfl, f1, f2, f3, f4⟩ := hrel
                have F : Hid (wr.heap[w1.heap.size]? = some (.cells (u32s X) 192 (0, 0)) ∧ wr.heap[w.heap.size]? = some (.cells (u8s (List.replicate 32 0)) 47 (0, 0)) ∧ wr.heap[OB]? = some (.cells (u8s (partI D i)) 47 (0, 0)) ∧ Below w.heap.size w wr) := ⟨f1, f2, f3, f4⟩
                by_cases hi32 : i < 32
                · have lt2 : (i : Int) < 32 := by omega
                  have kx := (cell_of_row _ _ (i / 4) _ _ _ f1).trans (u32s_get _ (i / 4) (by rw [HXL.out]; omega))
                  have kc := (cell_of_row _ _ i _ _ _ f3).trans (u8s_get _ i (by rw [partI_len, HDL.out]; exact hi32))
                  have kf := frozen_of_row _ _ i _ _ f3
                  have NS : Hid ((wr.setCell ⟨OB, i, none⟩ (.int .u8 (X.getD (i / 4) 0 / 2 ^ (24 - 8 * (i % 4)) % 256 : Nat))).heap[OB]? = some (.cells (u8s (partI D (i + 1))) 47 (0, 0))) := by
                    have := heap_setCell_same _ _ i _ _ (.int .u8 (D.getD i 0)) f3
                    rw [u8s_set, partI_set _ _ (by rw [HDL.out]; exact hi32), HDG.out i hi32] at this
                    exact this
                  have NF : Hid (∀ v, (wr.setCell ⟨OB, i, none⟩ v).heap[w1.heap.size]? = some (.cells (u32s X) 192 (0, 0)) ∧ (wr.setCell ⟨OB, i, none⟩ v).heap[w.heap.size]? = some (.cells (u8s (List.replicate 32 0)) 47 (0, 0)) ∧ Below w.heap.size w (wr.setCell ⟨OB, i, none⟩ v)) := fun v =>
                    ⟨(heap_setCell_other _ _ _ _ hn1).trans F.out.1, (heap_setCell_other _ _ _ _ hn2).trans F.out.2.1, F.out.2.2.2.setCell hn3 v⟩
                  clear f1 f2 f3 f4
                  have d1 : Int.tdiv (i : Int) 4 = ((i / 4 : Nat) : Int) := by rw [Int.tdiv_eq_ediv_of_nonneg (by omega)]; omega
                  have d2 : Int.tmod (i : Int) 4 = ((i % 4 : Nat) : Int) := by rw [Int.tmod_eq_emod_of_nonneg (by omega)]; omega
                  have d3 : IntKind.i64.wrap (8 * ((i % 4 : Nat) : Int)) = ((8 * (i % 4) : Nat) : Int) := by simp [IntKind.wrap, IntKind.bits, IntKind.signed]; omega
                  have d4 : IntKind.i64.wrap (24 - ((8 * (i % 4) : Nat) : Int)) = ((24 - 8 * (i % 4) : Nat) : Int) := by simp [IntKind.wrap, IntKind.bits, IntKind.signed]; omega
                  have d5 : ((i / 4 : Nat) : Int) < 8 := by omega
                  have d6 : IntKind.i64.wrap ((i / 4 : Nat) : Int) = ((i / 4 : Nat) : Int) := by simp [IntKind.wrap, IntKind.bits, IntKind.signed]; omega
                  have s1 := shr32 (X.getD (i / 4) 0) (24 - 8 * (i % 4)) (by omega)
                  have s2 : ((X.getD (i / 4) 0 / 2 ^ (24 - 8 * (i % 4)) : Nat) : Int) % 256 = ((X.getD (i / 4) 0 / 2 ^ (24 - 8 * (i % 4)) % 256 : Nat) : Int) := by omega
                  generalize X.getD (i / 4) 0 / 2 ^ (24 - 8 * (i % 4)) % 256 = y at *
                  generalize X.getD (i / 4) 0 / 2 ^ (24 - 8 * (i % 4)) = yy at *
                  generalize X.getD (i / 4) 0 = x at *
                  generalize (partI D i).getD i 0 = old at *
                  generalize 24 - 8 * (i % 4) = m4 at *
                  generalize 8 * (i % 4) = m8 at *
                  generalize i % 4 = i4 at *
                  generalize i / 4 = iq at *
                  go_wp2
                  exact ⟨⟨i + 1, by omega, by go_num, (NF.out _).1, (NF.out _).2.1, NS.out, (NF.out _).2.2⟩, by simp [intOf]; omega⟩
                · obtain rfl : i = 32 := by omega
                  rw [show partI D 32 = D by rw [← HDL.out]; exact partI_all D] at f3
                  have F3 : Hid (wr.heap[OB]? = some (.cells (u8s D) 47 (0, 0))) := f3
                  have F2 : Hid (wr.heap[w.heap.size]? = some (.cells (u8s (List.replicate 32 0)) 47 (0, 0))) := f2
                  have F4 : Hid (Below w.heap.size w wr) := f4
                  have HI : Hid ((Tryz.prog.info? 47).map (·.size) = some (u8s D).size) := by unfold Hid; rw [u8s_size, HDL.out]; exact size26
                  have HO : Hid ((u8s (List.replicate 32 0)).size = (u8s D).size) := by unfold Hid; rw [u8s_size, u8s_size, HDL.out]; simp
                  clear f1 f2 f3 f4 F
                  go_wp2_with (first
                    | refine wpList_load_row rfl 47 _ rfl OB rfl 47 (u8s D) (0, 0) _ F3.out Tryz.underlying47 rfl HI.out ?_
                    | refine wpList_store_row rfl 47 _ _ rfl w.heap.size (u8s D) rfl rfl 47 _ F2.out HI.out HO.out (u8s_one _) ?_)
                  refine bodyPost_ret (v := .agg (u8s D)) (results_cell_row rfl _ _ w.heap.size 47 (u8s D) (0, 0) _ rfl (setRow_heap _ _ _ _ _ _ F2.out) Tryz.underlying47 rfl HI.out) rfl ⟨by rw [HSD.out], below_setRow F4.out (Nat.le_refl _) _⟩
end Go.Proofs.YtiollhmbdhepkaaGreatDoor.Sh
