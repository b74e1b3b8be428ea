/-
  What (*sha.Hasher).told answers: the state's words, the highest byte first.
-/
import Derived.Test.YtlhmpcmlpfffoaaDoorShNew
import Derived.Test.YtlhmpcmlpfffoaaDoorShWork
namespace Go.Proofs.YtlhmpcmlpfffoaaDoor.Sh
open Go.RowKit
set_option maxRecDepth 100000

def u8s (l : List Int) : Array Value := (l.map (Value.int .u8)).toArray
theorem u8s_get (l : List Int) (i : Nat) (h : i < l.length) : (u8s l)[i]? = some (.int .u8 (l.getD i 0)) := by
  simp [u8s, List.getElem?_eq_getElem h, List.getD]
theorem u8s_size (l : List Int) : (u8s l).size = l.length := by simp [u8s]
theorem u8s_set (l : List Int) (i : Nat) (z : Int) : (u8s l).setIfInBounds i (.int .u8 z) = u8s (l.set i z) := by
  apply Array.ext'
  simp [u8s, List.map_set]
theorem u8s_one (l : List Int) : (u8s l).all (·.oneCell') = true := by
  simp [u8s]
  intro x _
  rfl
/-- The bytes up to i, noughts behind them. -/
def partI (l : List Int) (i : Nat) : List Int := l.take i ++ List.replicate (l.length - i) 0
theorem partI_len (l : List Int) (i : Nat) : (partI l i).length = l.length := by unfold partI; simp; omega
theorem partI_zero (l : List Int) : partI l 0 = List.replicate l.length 0 := by simp [partI]
theorem partI_all (l : List Int) : partI l l.length = l := by simp [partI]
theorem partI_set (l : List Int) (i : Nat) (h : i < l.length) : (partI l i).set i (l.getD i 0) = partI l (i + 1) := by
  apply List.ext_getElem?
  intro k
  unfold partI
  rw [List.getElem?_set]
  by_cases e : i = k
  · subst e
    have h1 : i < (l.take (i + 1)).length := by simp; omega
    rw [List.getElem?_append_left h1, List.getElem?_take, if_pos rfl, if_pos (by simp; omega), if_pos (show i < i + 1 by omega)]
    simp [List.getD, List.getElem?_eq_getElem h]
  · simp only [e, if_false, List.getElem?_append, List.length_take, List.getElem?_take, List.getElem?_replicate]
    repeat' split
    all_goals first | rfl | omega

theorem map_getI (f : Nat → Int) (n i : Nat) (h : i < n) : ((List.range n).map f).getD i 0 = f i := by simp [List.getD, h]
theorem digest_len (s : Pl.S8) : (Pl.digest s).length = 32 := by unfold Pl.digest; simp
theorem digest_get (s : Pl.S8) (i j : Nat) (hi : i < 8) (hj : j < 4) : (Pl.digest s).getD (4 * i + j) 0 = (((Pl.words s).getD i 0 / 2 ^ (24 - 8 * j) % 256 : Nat) : Int) := by
  unfold Pl.digest
  rw [map_getI _ 32 _ (by omega), show (4 * i + j) / 4 = i by omega, show (4 * i + j) % 4 = j by omega]

set_option maxHeartbeats 1000000 in
set_option maxRecDepth 100000 in
theorem told_any (G : Nat) (s : Pl.S8) (R : List Int) (n : Nat) (w : World) (hh : Hs w G (Pl.words s) R n) :
    Calls Tryd.prog 60 #[.pointer (some ⟨G, 0, none⟩)] w fun e w' => e = .returned (.agg (u8s (Pl.digest s))) ∧ Below w.heap.size w w' := by
  have HG : Hid (∀ i j, i < 8 → j < 4 → (Pl.digest s).getD (4 * i + j) 0 = (((Pl.words s).getD i 0 / 2 ^ (24 - 8 * j) % 256 : Nat) : Int)) := fun i j => digest_get s i j
  have HL : Hid ((Pl.digest s).length = 32) := digest_len s
  have HI : Hid ((Tryd.prog.info? 48).map (·.size) = some (u8s (Pl.digest s)).size) := by unfold Hid; rw [u8s_size, digest_len]; exact size26
  have HR : Hid (w.rangeAt G 0 ((Pl.words s).map fun (n : Nat) => Value.int .u32 (n : Int))) := range_words (fun i hi => hh.word i hi)
  have HR2 : Hid (((w.alloc (.cells (u8s (List.replicate 32 0)) 48)).alloc (.cells (u8s (List.replicate 32 0)) 48)).rangeAt G 0 ((Pl.words s).map fun (n : Nat) => Value.int .u32 (n : Int))) := by
    refine range_words (fun i hi => ?_)
    have b : Below w.heap.size w ((w.alloc (.cells (u8s (List.replicate 32 0)) 48)).alloc (.cells (u8s (List.replicate 32 0)) 48)) := (Rows2.two w 48 _ _).2.2
    exact (b.cell (p := ⟨G, i, none⟩) hh.lt).trans (hh.word i hi)
  have HT : Hid ((Pl.words s).length = 8) := rfl
  have HO : Hid (∀ i, (Pl.words s).getD i 0 < 4294967296 ∨ True) := fun _ => .inr trivial
  clear hh HO HR
  obtain ⟨D, hD⟩ : ∃ D, D = Pl.digest s := ⟨_, rfl⟩
  rw [← hD] at HG HL HI ⊢
  clear hD
  obtain ⟨X, hX⟩ : ∃ X, X = Pl.words s := ⟨_, rfl⟩
  rw [← hX] at HG HR2 HT
  clear hX
  go_enter Tryd.func60, Tryd.ntmps60
  go_wp2_with (refine wpList_load_mid rfl 83 _ rfl G 0 rfl (X.map fun (n : Nat) => Value.int .u32 (n : Int)) _ HR2.out Tryd.underlying83 rfl (by rw [List.length_map, HT.out]; exact size47) ?_)
  go_loopw [11] (fun i wr => ∃ j : Nat, j ≤ 8 ∧ i = .int .i64 j ∧ Rows2 w.heap.size 48 (u8s (List.replicate 32 0)) (u8s (partI D (4 * j))) w wr) (fun i _ => 8 - (intOf i).toNat)
  case atStart =>
    refine ⟨0, by omega, rfl, ?_⟩
    rw [Nat.mul_zero, partI_zero, HL.out]
    exact Rows2.two w 48 _ _
  case round =>
    obtain ⟨i, hi, rfl, g⟩ := hrel
    have GR : Hid (Rows2 w.heap.size 48 (u8s (List.replicate 32 0)) (u8s (partI D (4 * i))) w wr) := g
    clear g
    by_cases hlt : i < 8
    · have lt2 : (i : Int) < 8 := by omega
      have ti : (X.map fun (n : Nat) => Value.int .u32 (n : Int)).toArray[i]? = some (.int .u32 (X.getD i 0 : Nat)) := u32s_get X i (by rw [HT.out]; exact hlt)
      have hix := run_index_agg (P := Tryd.prog) wr 83 53 8 i .i64 (X.map fun (n : Nat) => Value.int .u32 (n : Int)).toArray _ _ Tryd.underlying83 Tryd.underlying53 rfl info46 hlt ti
      clear ti
      have HGi : Hid (∀ j, j < 4 → D.getD (4 * i + j) 0 = ((X.getD i 0 / 2 ^ (24 - 8 * j) % 256 : Nat) : Int)) := fun j hj => HG.out i j hlt hj
      generalize X.getD i 0 = x at *
      go_wp2_with fail
      clear hix
      go_loopw [15] (fun q wr => ∃ j : Nat, j ≤ 4 ∧ q = .int .i64 j ∧ Rows2 w.heap.size 48 (u8s (List.replicate 32 0)) (u8s (partI D (4 * i + j))) w wr) (fun q _ => 4 - (intOf q).toNat)
      case atStart => exact ⟨0, by omega, rfl, GR.out⟩
      case round =>
        clear GR
        obtain ⟨j, hj, rfl, g⟩ := hrel
        have GR : Hid (Rows2 w.heap.size 48 (u8s (List.replicate 32 0)) (u8s (partI D (4 * i + j))) w wr) := g
        clear g
        by_cases hl4 : j < 4
        · have lt4 : (j : Int) < 4 := by omega
          have kf := GR.out.frozen (4 * i + j)
          have kc := (GR.out.cell (4 * i + j)).trans (u8s_get _ (4 * i + j) (by rw [partI_len, HL.out]; omega))
          have NS : Hid (Rows2 w.heap.size 48 (u8s (List.replicate 32 0)) (u8s (partI D (4 * i + (j + 1)))) w (wr.setCell ⟨w.heap.size + 1, 4 * i + j, none⟩ (.int .u8 (x / 2 ^ (24 - 8 * j) % 256 : Nat)))) := by
            have := GR.out.set (4 * i + j) (.int .u8 (D.getD (4 * i + j) 0))
            rw [u8s_set, partI_set _ _ (by rw [HL.out]; omega), HGi.out j hl4] at this
            exact this
          have q1 : IntKind.i64.wrap (4 * (i : Int)) = ((4 * i : Nat) : Int) := by simp [IntKind.wrap, IntKind.bits, IntKind.signed]; omega
          have q2 : IntKind.i64.wrap (((4 * i : Nat) : Int) + (j : Int)) = ((4 * i + j : Nat) : Int) := by simp [IntKind.wrap, IntKind.bits, IntKind.signed]; omega
          have q3 : IntKind.i64.wrap (8 * (j : Int)) = ((8 * j : Nat) : Int) := by simp [IntKind.wrap, IntKind.bits, IntKind.signed]; omega
          have q4 : IntKind.i64.wrap (24 - ((8 * j : Nat) : Int)) = ((24 - 8 * j : Nat) : Int) := by simp [IntKind.wrap, IntKind.bits, IntKind.signed]; omega
          have s1 := shr32 x (24 - 8 * j) (by omega)
          have s2 : ((x / 2 ^ (24 - 8 * j) : Nat) : Int) % 256 = ((x / 2 ^ (24 - 8 * j) % 256 : Nat) : Int) := by omega
          have b1 : ((4 * i + j : Nat) : Int) < 32 := by omega
          have b2 : 4 * i + j < 32 := by omega
          generalize x / 2 ^ (24 - 8 * j) % 256 = y at *
          generalize x / 2 ^ (24 - 8 * j) = yy at *
          generalize 24 - 8 * j = m at *
          generalize 8 * j = m8 at *
          generalize (partI D (4 * i + j)).getD (4 * i + j) 0 = old at *
          generalize 4 * i + j = k at *
          generalize 4 * i = i4 at *
          clear HGi
          go_wp2
          go_roundw
          case rel => exact ⟨j + 1, by omega, by go_num, NS.out⟩
          case measure => simp [intOf]; omega
        · obtain rfl : j = 4 := by omega
          go_wp2
          go_roundw
          case rel => exact ⟨i + 1, by omega, by go_num, GR.out⟩
          case measure => simp [intOf]; omega
    · obtain rfl : i = 8 := by omega
      obtain ⟨g0, g1, gb⟩ := GR.out
      rw [show partI D (4 * 8) = D by rw [show 4 * 8 = D.length by rw [HL.out]]; exact partI_all D] at g1
      have GB : Hid (Below w.heap.size w wr) := gb
      have G0 : Hid (wr.heap[w.heap.size]? = some (.cells (u8s (List.replicate 32 0)) 48 (0, 0))) := g0
      have G1 : Hid (wr.heap[w.heap.size + 1]? = some (.cells (u8s D) 48 (0, 0))) := g1
      have HO : Hid ((u8s (List.replicate 32 0)).size = (u8s D).size) := by unfold Hid; rw [u8s_size, u8s_size, HL.out]; simp
      clear g0 g1 gb GR
      go_wp2_with (first
        | refine wpList_load_row rfl 48 _ rfl (w.heap.size + 1) rfl 48 (u8s D) (0, 0) _ G1.out Tryd.underlying48 rfl HI.out ?_
        | refine wpList_store_row rfl 48 _ _ rfl w.heap.size (u8s D) rfl rfl 48 _ G0.out HI.out HO.out (u8s_one D) ?_)
      refine bodyPost_ret (v := .agg (u8s D)) (results_cell_row rfl _ _ w.heap.size 48 (u8s D) (0, 0) _ rfl (setRow_heap _ _ _ _ _ _ G0.out) Tryd.underlying48 rfl HI.out) rfl ⟨rfl, below_setRow GB.out (Nat.le_refl _) _⟩
end Go.Proofs.YtlhmpcmlpfffoaaDoor.Sh
