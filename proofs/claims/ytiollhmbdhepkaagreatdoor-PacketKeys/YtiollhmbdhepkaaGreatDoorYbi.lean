/-
  What (*sha.Hasher).told answers: the state's words, the highest byte first.
  What sha.padding answers.
  What copy into a hasher's bytes does; a hasher that has been written a list of bytes.
-/
import Derived.Test.YtiollhmbdhepkaaGreatDoorYau
import Derived.Test.YtiollhmbdhepkaaGreatDoorYbh
import Derived.Test.YtiollhmbdhepkaaGreatDoorYaa
namespace Go.Proofs.YtiollhmbdhepkaaGreatDoor.Sh
open Go.RowKit
set_option maxRecDepth 100000

def u8s (l : List Int) : Array Value := (l.map (Value.int .u8)).toArray
theorem u8s_get (l : List Int) (i : Nat) (h : i < l.length) : (u8s l)[i]? = some (.int .u8 (l.getD i 0)) := by
  simp [u8s, List.getElem?_eq_getElem h, List.getD]
theorem u8s_size (l : List Int) : (u8s l).size = l.length := by simp [u8s]
theorem u8s_set (l : List Int) (i : Nat) (z : Int) : (u8s l).setIfInBounds i (.int .u8 z) = u8s (l.set i z) := by
  apply Array.ext'
  simp [u8s, List.map_set]
theorem u8s_one (l : List Int) : (u8s l).all (·.oneCell') = true := by
  simp [u8s]
  intro x _
  rfl
/-- The bytes up to i, noughts behind them. -/
def partI (l : List Int) (i : Nat) : List Int := l.take i ++ List.replicate (l.length - i) 0
theorem partI_len (l : List Int) (i : Nat) : (partI l i).length = l.length := by unfold partI; simp; omega
theorem partI_zero (l : List Int) : partI l 0 = List.replicate l.length 0 := by simp [partI]
theorem partI_all (l : List Int) : partI l l.length = l := by simp [partI]
theorem partI_set (l : List Int) (i : Nat) (h : i < l.length) : (partI l i).set i (l.getD i 0) = partI l (i + 1) := by
  apply List.ext_getElem?
  intro k
  unfold partI
  rw [List.getElem?_set]
  by_cases e : i = k
  · subst e
    have h1 : i < (l.take (i + 1)).length := by simp; omega
    rw [List.getElem?_append_left h1, List.getElem?_take, if_pos rfl, if_pos (by simp; omega), if_pos (show i < i + 1 by omega)]
    simp [List.getD, List.getElem?_eq_getElem h]
  · simp only [e, if_false, List.getElem?_append, List.length_take, List.getElem?_take, List.getElem?_replicate]
    repeat' split
    all_goals first | rfl | omega

theorem map_getI (f : Nat → Int) (n i : Nat) (h : i < n) : ((List.range n).map f).getD i 0 = f i := by simp [List.getD, h]
theorem digest_len (s : Pl.S8) : (Pl.digest s).length = 32 := by unfold Pl.digest; simp
theorem digest_get (s : Pl.S8) (i j : Nat) (hi : i < 8) (hj : j < 4) : (Pl.digest s).getD (4 * i + j) 0 = (((Pl.words s).getD i 0 / 2 ^ (24 - 8 * j) % 256 : Nat) : Int) := by
  unfold Pl.digest
  rw [map_getI _ 32 _ (by omega), show (4 * i + j) / 4 = i by omega, show (4 * i + j) % 4 = j by omega]

set_option maxHeartbeats 1000000 in
set_option maxRecDepth 100000 in
theorem told_any (G : Nat) (s : Pl.S8) (R : List Int) (n : Nat) (w : World) (hh : Hs w G (Pl.words s) R n) :
    Calls Tryz.prog 153 #[.pointer (some ⟨G, 0, none⟩)] w fun e w' => e = .returned (.agg (u8s (Pl.digest s))) ∧ Below w.heap.size w w' := by
  have HG : Hid (∀ i j, i < 8 → j < 4 → (Pl.digest s).getD (4 * i + j) 0 = (((Pl.words s).getD i 0 / 2 ^ (24 - 8 * j) % 256 : Nat) : Int)) := fun i j => digest_get s i j
  have HL : Hid ((Pl.digest s).length = 32) := digest_len s
  have HI : Hid ((Tryz.prog.info? 47).map (·.size) = some (u8s (Pl.digest s)).size) := by unfold Hid; rw [u8s_size, digest_len]; exact size26
  have HR : Hid (w.rangeAt G 0 ((Pl.words s).map fun (n : Nat) => Value.int .u32 (n : Int))) := range_words (fun i hi => hh.word i hi)
  have HR2 : Hid (((w.alloc (.cells (u8s (List.replicate 32 0)) 47)).alloc (.cells (u8s (List.replicate 32 0)) 47)).rangeAt G 0 ((Pl.words s).map fun (n : Nat) => Value.int .u32 (n : Int))) := by
    refine range_words (fun i hi => ?_)
    have b : Below w.heap.size w ((w.alloc (.cells (u8s (List.replicate 32 0)) 47)).alloc (.cells (u8s (List.replicate 32 0)) 47)) := (Rows2.two w 47 _ _).2.2
    exact (b.cell (p := ⟨G, i, none⟩) hh.lt).trans (hh.word i hi)
  have HT : Hid ((Pl.words s).length = 8) := rfl
  have HO : Hid (∀ i, (Pl.words s).getD i 0 < 4294967296 ∨ True) := fun _ => .inr trivial
  clear hh HO HR
  obtain ⟨D, hD⟩ : ∃ D, D = Pl.digest s := ⟨_, rfl⟩
  rw [← hD] at HG HL HI ⊢
  clear hD
  obtain ⟨X, hX⟩ : ∃ X, X = Pl.words s := ⟨_, rfl⟩
  rw [← hX] at HG HR2 HT
  clear hX
  go_enter Tryz.func153, Tryz.ntmps153
  go_wp2_with (refine wpList_load_mid rfl 192 _ rfl G 0 rfl (X.map fun (n : Nat) => Value.int .u32 (n : Int)) _ HR2.out Tryz.underlying192 rfl (by rw [List.length_map, HT.out]; exact size47) ?_)
  go_loopw [11] (fun i wr => ∃ j : Nat, j ≤ 8 ∧ i = .int .i64 j ∧ Rows2 w.heap.size 47 (u8s (List.replicate 32 0)) (u8s (partI D (4 * j))) w wr) (fun i _ => 8 - (intOf i).toNat)
  case atStart =>
    refine ⟨0, by omega, rfl, ?_⟩
    rw [Nat.mul_zero, partI_zero, HL.out]
    exact Rows2.two w 47 _ _
  case round =>
    obtain ⟨i, hi, rfl, g⟩ := hrel
    have GR : Hid (Rows2 w.heap.size 47 (u8s (List.replicate 32 0)) (u8s (partI D (4 * i))) w wr) := g
    clear g
    by_cases hlt : i < 8
    · have lt2 : (i : Int) < 8 := by omega
      have ti : (X.map fun (n : Nat) => Value.int .u32 (n : Int)).toArray[i]? = some (.int .u32 (X.getD i 0 : Nat)) := u32s_get X i (by rw [HT.out]; exact hlt)
      have hix := run_index_agg (P := Tryz.prog) wr 192 191 8 i .i64 (X.map fun (n : Nat) => Value.int .u32 (n : Int)).toArray _ _ Tryz.underlying192 Tryz.underlying191 rfl info46 hlt ti
      clear ti
      have HGi : Hid (∀ j, j < 4 → D.getD (4 * i + j) 0 = ((X.getD i 0 / 2 ^ (24 - 8 * j) % 256 : Nat) : Int)) := fun j hj => HG.out i j hlt hj
      generalize X.getD i 0 = x at *
      go_wp2_with fail
      clear hix
      go_loopw [15] (fun q wr => ∃ j : Nat, j ≤ 4 ∧ q = .int .i64 j ∧ Rows2 w.heap.size 47 (u8s (List.replicate 32 0)) (u8s (partI D (4 * i + j))) w wr) (fun q _ => 4 - (intOf q).toNat)
      case atStart => exact ⟨0, by omega, rfl, GR.out⟩
      case round =>
        clear GR
        obtain ⟨j, hj, rfl, g⟩ := hrel
        have GR : Hid (Rows2 w.heap.size 47 (u8s (List.replicate 32 0)) (u8s (partI D (4 * i + j))) w wr) := g
        clear g
        by_cases hl4 : j < 4
        · have lt4 : (j : Int) < 4 := by omega
          have kf := GR.out.frozen (4 * i + j)
          have kc := (GR.out.cell (4 * i + j)).trans (u8s_get _ (4 * i + j) (by rw [partI_len, HL.out]; omega))
          have NS : Hid (Rows2 w.heap.size 47 (u8s (List.replicate 32 0)) (u8s (partI D (4 * i + (j + 1)))) w (wr.setCell ⟨w.heap.size + 1, 4 * i + j, none⟩ (.int .u8 (x / 2 ^ (24 - 8 * j) % 256 : Nat)))) := by
            have := GR.out.set (4 * i + j) (.int .u8 (D.getD (4 * i + j) 0))
            rw [u8s_set, partI_set _ _ (by rw [HL.out]; omega), HGi.out j hl4] at this
            exact this
          have q1 : IntKind.i64.wrap (4 * (i : Int)) = ((4 * i : Nat) : Int) := by simp [IntKind.wrap, IntKind.bits, IntKind.signed]; omega
          have q2 : IntKind.i64.wrap (((4 * i : Nat) : Int) + (j : Int)) = ((4 * i + j : Nat) : Int) := by simp [IntKind.wrap, IntKind.bits, IntKind.signed]; omega
          have q3 : IntKind.i64.wrap (8 * (j : Int)) = ((8 * j : Nat) : Int) := by simp [IntKind.wrap, IntKind.bits, IntKind.signed]; omega
          have q4 : IntKind.i64.wrap (24 - ((8 * j : Nat) : Int)) = ((24 - 8 * j : Nat) : Int) := by simp [IntKind.wrap, IntKind.bits, IntKind.signed]; omega
          have s1 := shr32 x (24 - 8 * j) (by omega)
          have s2 : ((x / 2 ^ (24 - 8 * j) : Nat) : Int) % 256 = ((x / 2 ^ (24 - 8 * j) % 256 : Nat) : Int) := by omega
          have b1 : ((4 * i + j : Nat) : Int) < 32 := by omega
          have b2 : 4 * i + j < 32 := by omega
          generalize x / 2 ^ (24 - 8 * j) % 256 = y at *
          generalize x / 2 ^ (24 - 8 * j) = yy at *
          generalize 24 - 8 * j = m at *
          generalize 8 * j = m8 at *
          generalize (partI D (4 * i + j)).getD (4 * i + j) 0 = old at *
          generalize 4 * i + j = k at *
          generalize 4 * i = i4 at *
          clear HGi
          go_wp2
          go_roundw
          case rel => exact ⟨j + 1, by omega, by go_num, NS.out⟩
          case measure => simp [intOf]; omega
        · obtain rfl : j = 4 := by omega
          go_wp2
          go_roundw
          case rel => exact ⟨i + 1, by omega, by go_num, GR.out⟩
          case measure => simp [intOf]; omega
    · obtain rfl : i = 8 := by omega
      obtain ⟨g0, g1, gb⟩ := GR.out
      rw [show partI D (4 * 8) = D by rw [show 4 * 8 = D.length by rw [HL.out]]; exact partI_all D] at g1
      have GB : Hid (Below w.heap.size w wr) := gb
      have G0 : Hid (wr.heap[w.heap.size]? = some (.cells (u8s (List.replicate 32 0)) 47 (0, 0))) := g0
      have G1 : Hid (wr.heap[w.heap.size + 1]? = some (.cells (u8s D) 47 (0, 0))) := g1
      have HO : Hid ((u8s (List.replicate 32 0)).size = (u8s D).size) := by unfold Hid; rw [u8s_size, u8s_size, HL.out]; simp
      clear g0 g1 gb GR
      go_wp2_with (first
        | refine wpList_load_row rfl 47 _ rfl (w.heap.size + 1) rfl 47 (u8s D) (0, 0) _ G1.out Tryz.underlying47 rfl HI.out ?_
        | refine wpList_store_row rfl 47 _ _ rfl w.heap.size (u8s D) rfl rfl 47 _ G0.out HI.out HO.out (u8s_one D) ?_)
      refine bodyPost_ret (v := .agg (u8s D)) (results_cell_row rfl _ _ w.heap.size 47 (u8s D) (0, 0) _ rfl (setRow_heap _ _ _ _ _ _ G0.out) Tryz.underlying47 rfl HI.out) rfl ⟨rfl, below_setRow GB.out (Nat.le_refl _) _⟩
end Go.Proofs.YtiollhmbdhepkaaGreatDoor.Sh
namespace Go.Proofs.YtiollhmbdhepkaaGreatDoor.Sh
open Go.RowKit
set_option maxRecDepth 100000

/-- The padding with its last j bytes laid. -/
def ppad (n j : Nat) : List Int := 128 :: (List.replicate (Pl.zers n + (8 - j)) 0 ++ (Pl.count n).drop (8 - j))
theorem count_len (n : Nat) : (Pl.count n).length = 8 := by unfold Pl.count; simp
theorem ppad_len (n j : Nat) (h : j ≤ 8) : (ppad n j).length = Pl.zers n + 9 := by
  unfold ppad
  simp [count_len]
  omega
theorem ppad_all (n : Nat) : ppad n 8 = Pl.pad n := by unfold ppad Pl.pad; simp
theorem ppad_zero (n : Nat) : ppad n 0 = 128 :: List.replicate (Pl.zers n + 8) 0 := by
  unfold ppad
  rw [List.drop_eq_nil_of_le (by rw [count_len]; omega)]
  simp
theorem ppad_set (n j : Nat) (h : j < 8) : (ppad n j).set (Pl.zers n + 8 - j) ((Pl.count n).getD (7 - j) 0) = ppad n (j + 1) := by
  unfold ppad
  have hc := count_len n
  generalize Pl.zers n = z
  generalize Pl.count n = c at *
  rw [show z + 8 - j = (z + (7 - j)) + 1 by omega, List.set_cons_succ, List.set_append_left _ _ (by simp; omega)]
  rw [show 8 - (j + 1) = 7 - j by omega, show z + (8 - j) = (z + (7 - j)) + 1 by omega, List.replicate_succ', List.set_append_right _ _ (by simp)]
  rw [List.drop_eq_getElem_cons (show 7 - j < c.length by omega), show 7 - j + 1 = 8 - j by omega]
  simp [List.getD, List.getElem?_eq_getElem (show 7 - j < c.length by omega)]
theorem count_get (n j : Nat) (h : j < 8) : (Pl.count n).getD (7 - j) 0 = (((n * 8 / 2 ^ (8 * j)) % 256 : Nat) : Int) := by
  unfold Pl.count
  have : ((List.range 8).map fun i => (((n * 8 / 2 ^ (8 * (7 - i))) % 256 : Nat) : Int)).getD (7 - j) 0 = (((n * 8 / 2 ^ (8 * (7 - (7 - j)))) % 256 : Nat) : Int) := by
    simp [List.getD, show 7 - j < 8 by omega]
  rw [this, show 7 - (7 - j) = j by omega]
theorem count_byte (n i : Nat) : 0 ≤ (Pl.count n).getD i 0 ∧ (Pl.count n).getD i 0 < 256 := by
  rcases Nat.lt_or_ge i 8 with h | h
  · have := count_get n (7 - i) (by omega)
    rw [show 7 - (7 - i) = i by omega] at this
    rw [this]
    have h2 := Nat.mod_lt (n * 8 / 2 ^ (8 * (7 - i))) (show 0 < 256 by omega)
    omega
  · rw [List.getD, List.getElem?_eq_none (by rw [count_len]; exact h)]; simp

set_option maxHeartbeats 1000000 in
set_option maxRecDepth 100000 in
theorem padding_any (n : Nat) (w : World) (hn : n ≤ 1000000000000000000) :
    Calls Tryz.prog 152 #[.int .i64 n] w fun e w' => e = .returned (.slice (some ⟨w.heap.size, 0, none⟩) (Pl.zers n + 9) (Pl.zers n + 9)) ∧ Sl w' (.slice (some ⟨w.heap.size, 0, none⟩) (Pl.zers n + 9) (Pl.zers n + 9)) (Pl.pad n) ∧ Below w.heap.size w w' := by
  obtain ⟨i0, hi, hz0, hz1, hz2⟩ := info_parts info5'
  obtain ⟨z, hz⟩ : ∃ z, z = Pl.zers n := ⟨_, rfl⟩
  have HZ : Hid (Pl.zers n = z) := hz.symm
  have hzd : z = (64 - (n % 64 + 9) % 64) % 64 := hz
  rw [← hz]
  have e1 : Int.tmod (n : Int) 64 = ((n % 64 : Nat) : Int) := by rw [Int.tmod_eq_emod_of_nonneg (by omega)]; omega
  have e2 : Int.tmod (((n % 64 : Nat) : Int) + 1 + 8) 64 = (((n % 64 + 9) % 64 : Nat) : Int) := by rw [Int.tmod_eq_emod_of_nonneg (by omega)]; omega
  have e3 : Int.tmod (64 - (((n % 64 + 9) % 64 : Nat) : Int)) 64 = (z : Int) := by rw [Int.tmod_eq_emod_of_nonneg (by omega)]; omega
  have hzl : z < 64 := by omega
  have hc8 : IntKind.u64.wrap ((n : Int) * 8) = ((n * 8 : Nat) : Int) := by rw [wrap64]; omega
  have hm1 : n % 64 < 64 := Nat.mod_lt _ (by omega)
  have hm2 : (n % 64 + 9) % 64 < 64 := Nat.mod_lt _ (by omega)
  clear hz hzd
  generalize hr : n % 64 = r at *
  generalize ho : (r + 9) % 64 = o at *
  clear hr ho
  go_enter Tryz.func152, Tryz.ntmps152
  go_wp2_with (at_make; refine wpList_make_full _ rfl _ _ 34 rfl w.heap.size 5 i0 (.int .u8 0) 1 Tryz.underlying34 hi hz0 hz1 .i64 .i64 _ _ (z + 9) rfl rfl (by congr 1; omega) (by congr 1; omega) (by rw [hz2]; omega) (by unfold maxLen; omega) (Nat.le_refl _) (Hid.out ?_))
  unfold Hid
  intro w1 own1 hgrow
  have b1 : Below w.heap.size w w1 := (Below.refl _ w).grown hgrow (Nat.le_refl _) (fun k hk => by cases hk)
  have hp1 : w1.heap[w.heap.size]? = some (.cells (u8s (List.replicate (z + 9) 0)) 5 (0, 0)) := by
    have e0 : (madeCells #[Value.int .u8 0] (z + 9)).toList = (List.replicate (z + 9) (0 : Int)).map (Value.int .u8) := by
      rw [toList_madeCells_one]
      simp
    rw [e0] at own1
    rcases own1.2 with ⟨hv, _⟩ | ⟨g', cap', cur', hv, hg', hh, hc', hm', hs', ht'⟩
    · cases hv
    · cases hv
      rw [hh]
      congr 2
      apply Array.ext'
      simp only [Nat.mul_one] at hs' ht'
      rw [List.take_of_length_le (by simp only [Array.length_toList]; omega)] at ht'
      rw [ht']
      simp [u8s]
  have BB : Hid (Below w.heap.size w w1) := b1
  have HP : Hid (w1.heap[w.heap.size]? = some (.cells (u8s (List.replicate (z + 9) 0)) 5 (0, 0))) := hp1
  have kc0 := (cell_of_row _ _ 0 _ _ _ hp1).trans (u8s_get _ 0 (by simp))
  have kf0 := frozen_of_row _ _ 0 _ _ hp1
  have HP0 : Hid ((w1.setCell ⟨w.heap.size, 0, none⟩ (.int .u8 128)).heap[w.heap.size]? = some (.cells (u8s (ppad n 0)) 5 (0, 0))) := by
    have := heap_setCell_same _ _ 0 _ _ (.int .u8 128) hp1
    rw [u8s_set] at this
    rw [ppad_zero, HZ.out]
    exact this
  have BB0 : Hid (Below w.heap.size w (w1.setCell ⟨w.heap.size, 0, none⟩ (.int .u8 128))) := b1.setCell (Nat.le_refl _) _
  generalize (List.replicate (z + 9) 0).getD 0 0 = old at *
  clear own1 hgrow b1 hp1 HP BB e1 e2 e3
  have lz : (0 : Int) < ((z + 9 : Nat) : Int) := by omega
  go_wp2_with fail
  clear kc0 kf0
  obtain ⟨c, hc⟩ : ∃ c, c = n * 8 := ⟨_, rfl⟩
  have HC : Hid (c = n * 8) := hc
  have hcl : c < 18446744073709551616 := by omega
  have e8 : (n : Int) * 8 = (c : Int) := by omega
  rw [e8]
  clear hc hc8 e8
  go_loopw [25] (fun i wr => ∃ j : Nat, j ≤ 8 ∧ i = .int .i64 j ∧ wr.heap[w.heap.size]? = some (.cells (u8s (ppad n j)) 5 (0, 0)) ∧ Below w.heap.size w wr) (fun i _ => 8 - (intOf i).toNat)
  case atStart => exact ⟨0, by omega, rfl, HP0.out, BB0.out⟩
  case round =>
    clear HP0 BB0
    obtain ⟨j, hj, rfl, g, b⟩ := hrel
    by_cases hlt : j < 8
    · have lt2 : (j : Int) < 8 := by omega
      have kf := frozen_of_row _ _ (z + 8 - j) _ _ g
      have kc := (cell_of_row _ _ (z + 8 - j) _ _ _ g).trans (u8s_get _ (z + 8 - j) (by rw [ppad_len _ _ hj, HZ.out]; omega))
      have NS : Hid ((wr.setCell ⟨w.heap.size, z + 8 - j, none⟩ (.int .u8 (c / 2 ^ (8 * j) % 256 : Nat))).heap[w.heap.size]? = some (.cells (u8s (ppad n (j + 1))) 5 (0, 0))) := by
        have := heap_setCell_same _ _ (z + 8 - j) _ _ (.int .u8 ((Pl.count n).getD (7 - j) 0)) g
        rw [u8s_set, ← HZ.out, ppad_set _ _ hlt, count_get _ _ hlt, HZ.out, ← HC.out] at this
        exact this
      have NB : Hid (Below w.heap.size w (wr.setCell ⟨w.heap.size, z + 8 - j, none⟩ (.int .u8 (c / 2 ^ (8 * j) % 256 : Nat)))) := b.setCell (Nat.le_refl _) _
      have q0 : IntKind.i64.wrap (((z + 9 : Nat) : Int) - 1) = ((z + 8 : Nat) : Int) := by simp [IntKind.wrap, IntKind.bits, IntKind.signed]; omega
      have q1 : IntKind.i64.wrap (((z + 8 : Nat) : Int) - (j : Int)) = ((z + 8 - j : Nat) : Int) := by simp [IntKind.wrap, IntKind.bits, IntKind.signed]; omega
      have q3 : IntKind.i64.wrap (8 * (j : Int)) = ((8 * j : Nat) : Int) := by simp [IntKind.wrap, IntKind.bits, IntKind.signed]; omega
      have s1 : (c : Int) / 2 ^ min (8 * j) 64 = ((c / 2 ^ (8 * j) : Nat) : Int) := by rw [Nat.min_eq_left (by omega)]; simp
      have s2 : ((c / 2 ^ (8 * j) : Nat) : Int) % 256 = ((c / 2 ^ (8 * j) % 256 : Nat) : Int) := by omega
      have t1 : ((z + 8 - j : Nat) : Int) < ((z + 9 : Nat) : Int) := by omega
      have t2 : z + 8 - j < z + 9 := by omega
      generalize c / 2 ^ (8 * j) % 256 = y at *
      generalize c / 2 ^ (8 * j) = yy at *
      generalize 8 * j = m8 at *
      generalize (ppad n j).getD (z + 8 - j) 0 = old2 at *
      generalize z + 8 - j = k at *
      generalize z + 8 = z8 at *
      generalize z + 9 = z9 at *
      clear g b HC
      go_wp2
      go_roundw
      case rel => exact ⟨j + 1, by omega, by go_num, NS.out, NB.out⟩
      case measure => simp [intOf]; omega
    · obtain rfl : j = 8 := by omega
      have HS : Hid (Sl wr (.slice (some ⟨w.heap.size, 0, none⟩) (z + 9) (z + 9)) (Pl.pad n)) := by
        have hl : (Pl.pad n).length = z + 9 := by rw [← ppad_all, ppad_len n 8 (by omega), HZ.out]
        rw [ppad_all] at g
        refine ⟨some ⟨w.heap.size, 0, none⟩, z + 9, by rw [hl], by omega, by unfold maxLen; omega, (fun h => by cases h), .inr ⟨by omega, w.heap.size, 0, rfl, by omega, by unfold maxLen; omega, fun i hi => ?_, ?_⟩⟩
        · rw [Nat.zero_add, cell_of_row _ _ _ _ _ _ g, u8s_get _ _ hi]
        · intro i
          unfold Pl.pad
          match i with
          | 0 => simp
          | i + 1 =>
            rw [List.getD_cons_succ]
            rcases Nat.lt_or_ge i (Pl.zers n) with h | h
            · simp [List.getD, List.getElem?_append_left, h]
            · rw [List.getD, List.getElem?_append_right (by simpa using h)]
              exact count_byte n _
      have HB : Hid (Below w.heap.size w wr) := b
      clear g b
      go_wp2
      go_ret
      exact ⟨rfl, HS.out, HB.out⟩
end Go.Proofs.YtiollhmbdhepkaaGreatDoor.Sh
namespace Go.Proofs.YtiollhmbdhepkaaGreatDoor.Sh
open Go.RowKit
set_option maxRecDepth 100000

theorem bytes_take (xs : List Int) (m : Nat) (h : ∀ i, 0 ≤ xs.getD i 0 ∧ xs.getD i 0 < 256) : ∀ i, 0 ≤ (xs.take m).getD i 0 ∧ (xs.take m).getD i 0 < 256 := by
  intro i
  by_cases hi : i < m
  · have := h i
    simpa [List.getD, List.getElem?_take, hi] using this
  · simp [List.getD, List.getElem?_take, hi]
theorem size5 : (Tryz.prog.info? 5).map (·.size) = some 1 := by kernel_rfl

/-- copy into a hasher's bytes. -/
theorem wpList_copy_hs {w : World} {ops : Array Oper} {rest : List Oper} {o : Oper} {a : Act} {Q : Exit → Act → World → Prop} (hgd : o.guard = none) (d s : Operand)
    (ho : o.op = .call { callee := .builtin .copy, args := #[d, s], argTypes := #[34, 34] }) (G i dCap : Nat) (hi : i ≤ 64) (hd : a.eval d = .slice (some ⟨G, 8 + i, none⟩) (64 - i) dCap)
    (src : Value) (Z : List Int) (hs : a.eval s = src) (hsl : Sl w src Z) (S : List Nat) (R : List Int) (n : Nat) (hh : Hs w G S R n)
    (h : ∀ w', Hs w' G S (over R i (Z.take (64 - i))) n → But G w w' → wpList Tryz.prog ops Q rest (a.put o.dst (goInt ((min Z.length (64 - i) : Nat) : Int))) w') : wpList Tryz.prog ops Q (o :: rest) a w := by
  obtain ⟨ad, cap, rfl, h1, h2, h3, h4⟩ := hsl
  by_cases h0 : min Z.length (64 - i) = 0
  · refine wpList_copy_nothing hgd d s 34 34 ho 5 Tryz.underlying34 size5 _ ad (64 - i) dCap Z.length cap hd hs h0 ?_
    have e : Z.take (64 - i) = [] := List.eq_nil_of_length_eq_zero (by rw [List.length_take, Nat.min_comm]; exact h0)
    have := h w (by rw [e]; exact hh) (But.refl _ _)
    rw [h0] at this
    exact this
  · rcases h4 with h4 | ⟨hp, b, off, rfl, hlc, hm, hc, hz⟩
    · omega
    · have hlen : ((Z.take (64 - i)).map (Value.int .u8)).length = min Z.length (64 - i) := by rw [List.length_map, List.length_take, Nat.min_comm]
      have hrun := run_copy_cells (P := Tryz.prog) w 34 34 o.type 5 G (8 + i) (64 - i) dCap ⟨b, off, none⟩ Z.length cap ((Z.take (64 - i)).map (Value.int .u8)) Tryz.underlying34 size5 hlen
        (fun j v hv => by
          have hj := (List.getElem?_eq_some_iff.1 hv).1
          rw [hlen] at hj
          rw [Addr.add_lit, hc j (by omega)]
          rw [List.getElem?_map, List.getElem?_take, if_pos (by omega), List.getElem?_eq_getElem (show j < Z.length by omega)] at hv
          simp only [Option.map_some, Option.some.injEq] at hv
          rw [← hv]
          simp [List.getD, List.getElem?_eq_getElem (show j < Z.length by omega)])
        (fun j hj => by
          rw [hlen] at hj
          have := hh.rest (i + j) (by omega)
          rw [show 8 + i + j = 8 + (i + j) by omega, this]; rfl)
        (fun j _ => hh.frozen _)
        (fun v hv => ints_one _ v hv)
      rw [hlen] at hrun
      have hF := h _ (Hs.setBytes (Z.take (64 - i)) i w R hh (by rw [List.length_take]; omega)) (But.cells G _ _ w)
      clear h hlen h0
      generalize (Z.take (64 - i)).map (Value.int .u8) = C at *
      generalize min Z.length (64 - i) = k at *
      refine wpList_plain hgd fun K hK => ?_
      unfold Oper.wp
      simp [execOp, ho, resolve, invoke, builtin, hd, hs, hrun, Result.andThen]
      exact hK _ _ hF

/-- A hasher that has been written l. -/
def HsOf (w : World) (g : Nat) (l : List Int) : Prop := ∃ R, Hs w g (Pl.words (Pl.absorb l)) R l.length ∧ Pl.Byt R ∧ ∀ i, i < l.length % 64 → R.getD i 0 = l.getD (64 * (l.length / 64) + i) 0
theorem HsOf.kept {w w' : World} {g : Nat} {l : List Int} (h : HsOf w g l) (hb : Below w.heap.size w w') : HsOf w' g l := by
  obtain ⟨R, h1, h2⟩ := h
  exact ⟨R, h1.kept hb, h2⟩
theorem HsOf.but {w w' : World} {f g : Nat} {l : List Int} (h : HsOf w g l) (hb : But f w w') (hn : g ≠ f) : HsOf w' g l := by
  obtain ⟨R, h1, h2⟩ := h
  exact ⟨R, h1.but hb hn, h2⟩
theorem HsOf.lt {w : World} {g : Nat} {l : List Int} (h : HsOf w g l) : g < w.heap.size := by
  obtain ⟨R, h1, h2⟩ := h
  exact h1.lt
theorem byt_over {R zs : List Int} {i : Nat} (hR : Pl.Byt R) (hz : Pl.Byt zs) (hl : i + zs.length ≤ R.length) : Pl.Byt (over R i zs) := by
  intro k
  rw [over_get _ _ _ _ hl]
  split
  · exact hz _
  · exact hR _
theorem eq_of_getD (A B : List Int) (hl : A.length = B.length) (h : ∀ i, i < A.length → A.getD i 0 = B.getD i 0) : A = B := by
  apply List.ext_getElem hl
  intro i h1 h2
  have := h i h1
  simpa [List.getD, List.getElem?_eq_getElem h1, List.getElem?_eq_getElem h2] using this
theorem getD_append_left (l m : List Int) (i : Nat) (h : i < l.length) : (l ++ m).getD i 0 = l.getD i 0 := by simp [List.getD, List.getElem?_append_left h]
theorem getD_append_right (l m : List Int) (i : Nat) (h : l.length ≤ i) : (l ++ m).getD i 0 = m.getD (i - l.length) 0 := by simp [List.getD, List.getElem?_append_right h]
theorem getD_take (l : List Int) (n i : Nat) (h : i < n) : (l.take n).getD i 0 = l.getD i 0 := by simp [List.getD, h]
theorem getD_drop (l : List Int) (n i : Nat) : (l.drop n).getD i 0 = l.getD (n + i) 0 := by simp [List.getD, List.getElem?_drop]

/-- The bytes held and what fills them up are the next block. -/
theorem block_full {l xs R : List Int} (hR : R.length = 64) (ht : ∀ i, i < l.length % 64 → R.getD i 0 = l.getD (64 * (l.length / 64) + i) 0) (hm : 64 - l.length % 64 ≤ xs.length) :
    over R (l.length % 64) (xs.take (64 - l.length % 64)) = ((l ++ xs).drop (64 * (l.length / 64))).take 64 := by
  have h64 : l.length % 64 < 64 := Nat.mod_lt _ (by omega)
  have hl : (xs.take (64 - l.length % 64)).length = 64 - l.length % 64 := by rw [List.length_take]; omega
  have hL : 64 * (l.length / 64) + l.length % 64 = l.length := Nat.div_add_mod ..
  apply eq_of_getD
  · rw [over_len, hR, List.length_take, List.length_drop, List.length_append]; omega
  · intro i hi
    rw [over_len, hR] at hi
    rw [over_get _ _ _ _ (by rw [hl, hR]; omega), hl, getD_take _ _ _ hi, getD_drop]
    split
    · rw [getD_take _ _ _ (by omega), getD_append_right _ _ _ (by omega)]
      congr 1
      omega
    · rw [ht i (by omega), getD_append_left _ _ _ (by omega)]
/-- Less than what fills the bytes up. -/
theorem held_more {l xs R : List Int} (hR : R.length = 64) (ht : ∀ i, i < l.length % 64 → R.getD i 0 = l.getD (64 * (l.length / 64) + i) 0) (hm : l.length % 64 + xs.length < 64) (i : Nat) (hi : i < (l ++ xs).length % 64) :
    (over R (l.length % 64) (xs.take (64 - l.length % 64))).getD i 0 = (l ++ xs).getD (64 * ((l ++ xs).length / 64) + i) 0 := by
  have hL : 64 * (l.length / 64) + l.length % 64 = l.length := Nat.div_add_mod ..
  rw [List.length_append] at hi ⊢
  have e1 : (l.length + xs.length) / 64 = l.length / 64 := by omega
  have e2 : (l.length + xs.length) % 64 = l.length % 64 + xs.length := by omega
  rw [e2] at hi
  rw [e1, List.take_of_length_le (by omega), over_get _ _ _ _ (by rw [hR]; omega)]
  split
  · rw [getD_append_right _ _ _ (by omega)]
    congr 1
    omega
  · rw [ht i (by omega), getD_append_left _ _ _ (by omega)]
theorem absorb_held {l xs : List Int} (hm : l.length % 64 + xs.length < 64) : Pl.absorb (l ++ xs) = Pl.absorb l := by
  have hL : 64 * (l.length / 64) + l.length % 64 = l.length := Nat.div_add_mod ..
  rw [Pl.absorb_eq, Pl.absorb_eq, List.length_append, show (l.length + xs.length) / 64 = l.length / 64 by omega]
  exact Pl.upto_append l xs _ (by omega)
theorem sl_rest {w : World} {G : Nat} {S : List Nat} {R : List Int} {n : Nat} (h : Hs w G S R n) (hb : Pl.Byt R) : Sl w (.slice (some ⟨G, 8, none⟩) 64 64) R :=
  ⟨some ⟨G, 8, none⟩, 64, by rw [h.2.2], by rw [h.2.2]; omega, by unfold maxLen; omega, (fun e => by cases e), .inr ⟨by rw [h.2.2]; omega, G, 8, rfl, by rw [h.2.2]; omega, by unfold maxLen; omega, fun i hi => h.rest i (by rw [h.2.2] at hi; exact hi), hb⟩⟩
end Go.Proofs.YtiollhmbdhepkaaGreatDoor.Sh
