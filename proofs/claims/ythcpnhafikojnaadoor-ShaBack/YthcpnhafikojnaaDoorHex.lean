/-
  What sha.Hex answers: two digits for each byte of the sum; nothing that was there is changed.
-/
import Derived.Test.YthcpnhafikojnaaDoorBld
import Derived.Test.YthcpnhafikojnaaDoorRParse
import Derived.Test.YthcpnhafikojnaaDoorTold
namespace Go.Proofs.YthcpnhafikojnaaDoor
open Go.RowKit

/-- The digits of bytes. -/
def hexB : List Int → List Int
  | [] => []
  | x :: r => hexd (x / 16).toNat :: hexd (x % 16).toNat :: hexB r
theorem hexB_append : ∀ (a b : List Int), hexB (a ++ b) = hexB a ++ hexB b
  | [], _ => rfl
  | x :: a, b => by simp [hexB, hexB_append a b]
theorem hexB_len : ∀ (a : List Int), (hexB a).length = 2 * a.length
  | [] => rfl
  | x :: a => by simp [hexB, hexB_len a]; omega
theorem hexB_succ (A : List Int) (j : Nat) (h : j < A.length) : hexB (A.take (j + 1)) = hexB (A.take j) ++ [hexd (A.getD j 0 / 16).toNat] ++ [hexd (A.getD j 0 % 16).toNat] := by
  rw [List.take_add_one, List.getElem?_eq_getElem h, hexB_append]
  simp [hexB, List.getD, List.getElem?_eq_getElem h]
theorem hexd_byte (i : Nat) : 0 ≤ hexd i ∧ hexd i < 256 := bl_byt digs i
theorem hexB_byt (A : List Int) : Pl.Byt (hexB A) := by
  have h : ∀ (L : List Int), (hexB L).all (fun z => 0 ≤ z && z < 256) = true := by
    intro L
    induction L with
    | nil => rfl
    | cons x r ih =>
      have h1 := hexd_byte (x / 16).toNat
      have h2 := hexd_byte (x % 16).toNat
      simp only [hexB, List.all_cons, ih, Bool.and_true, Bool.and_eq_true, decide_eq_true_eq]
      exact ⟨h1, h2⟩
  exact byteList _ (h A)
theorem cells_strB {xs : List Int} (h : Pl.Byt xs) : Lib.byteCells (xs.map fun n => UInt8.ofNat n.toNat) = xs.map (Value.int .u8) := by
  unfold Lib.byteCells
  rw [List.map_map]
  refine List.map_congr_left fun x hx => ?_
  obtain ⟨i, hi, rfl⟩ := List.getElem_of_mem hx
  have := h i
  simp only [List.getD, List.getElem?_eq_getElem hi, Option.getD_some] at this
  simp only [Function.comp]
  congr 1
  simp only [UInt8.toNat_ofNat']
  omega

theorem info5s : (Tryd.prog.info? 5).map (·.size) = some 1 := by kernel_rfl
theorem idx_sum (A : List Int) (j : Nat) (hA : A.length = 32) (h : j < 32) (w : World) : (Instr.index 26 (.agg (u8s A)) (.int .i64 (j : Int))).run Tryd.prog w = .ok (.int .u8 (A.getD j 0)) w :=
  run_index_agg w 26 5 32 j .i64 (u8s A) _ _ Tryd.underlying26 Tryd.underlying5 rfl info5s h (u8s_get A j (by omega))

set_option maxHeartbeats 2000000 in
set_option maxRecDepth 100000 in
theorem hex_any (A : List Int) (w : World) (hA : A.length = 32) (hb : Pl.Byt A) :
    Calls Tryd.prog 13 #[.agg (u8s A)] w fun e w' => e = .returned (.string (strB (hexB A))) ∧ Below w.heap.size w w' := by
  have HIX : Hid (∀ (W : World) (i : Nat), i < 16 → (Instr.index 9 (.string ⟨#[48, 49, 50, 51, 52, 53, 54, 55, 56, 57, 97, 98, 99, 100, 101, 102]⟩) (.int .u8 (i : Int))).run Tryd.prog W = .ok (.int .u8 (hexd i)) W) := fun W i hi => run_index_bl digs W .u8 i hi
  obtain ⟨wa, hwa⟩ : ∃ wa, wa = w.alloc (.cells (u8s A) 26) := ⟨_, rfl⟩
  have hwz : w.alloc (.cells (u8s A) 26) = wa := hwa.symm
  have ba : Below w.heap.size w wa := by rw [hwa]; exact (Below.refl _ _).alloc (Nat.le_refl _) _
  have g0 : wa.heap[w.heap.size]? = some (.cells (u8s A) 26 (0, 0)) := by rw [hwa]; exact heap_alloc_new _ _
  obtain ⟨wb, hwb⟩ : ∃ wb, wb = wa.alloc (.cells #[.pointer none, .slice none 0 0] 58) := ⟨_, rfl⟩
  have hwz2 : wa.alloc (.cells #[.pointer none, .slice none 0 0] 58) = wb := hwb.symm
  have bb : Below wa.heap.size wa wb := by rw [hwb]; exact (Below.refl _ _).alloc (Nat.le_refl _) _
  have G0 : Hid (wb.heap[w.heap.size]? = some (.cells (u8s A) 26 (0, 0))) := (bb.block _ (by rw [hwa]; simp)).trans g0
  have HB0 : Hid (Lib.IsBuilder 58 5 wa.heap.size wa.heap.size [] wb) := by unfold Hid; rw [hwb]; exact Lib.fresh_isBuilder _ _ _
  have HBB : Hid (Below wa.heap.size wa wb) := bb
  have HBA : Hid (Below w.heap.size w wa) := ba
  have HI : Hid ((Tryd.prog.info? 26).map (·.size) = some (u8s A).size) := by unfold Hid; rw [u8s_size, hA]; exact size26
  have HAL : Hid (A.length = 32) := hA
  have HAB : Hid (Pl.Byt A) := hb
  have HJX : Hid (∀ (W : World) (j : Nat), j < 32 → (Instr.index 26 (.agg (u8s A)) (.int .i64 (j : Int))).run Tryd.prog W = .ok (.int .u8 (A.getD j 0)) W) := fun W j hj => idx_sum A j hA hj W
  obtain ⟨U, hU⟩ : ∃ U, U = u8s A := ⟨_, rfl⟩
  rw [← hU] at hwz G0 HI HJX ⊢
  clear hU hwa hwb ba bb g0 hA hb
  go_enter Tryd.func13, Tryd.ntmps13
  go_wp2_with (refine wpList_load_row rfl 26 _ rfl w.heap.size rfl 26 U (0, 0) _ G0.out Tryd.underlying26 rfl HI.out ?_)
  obtain ⟨B, hB⟩ : ∃ B, B = wa.heap.size := ⟨_, rfl⟩
  rw [← hB] at HB0 HBB ⊢
  have HBW : Hid (Below w.heap.size w wb) := HBA.out.trans (HBB.out.mono (by rw [hB]; exact HBA.out.size))
  have HWB : Hid (w.heap.size ≤ B) := by unfold Hid; rw [hB]; exact HBA.out.size
  clear G0 HI HBA hwz hwz2 hB
  go_loopw [7] (fun q wr => ∃ j : Nat, j ≤ 32 ∧ q = .int .i64 j ∧ Lib.IsBuilder 58 5 B B ((hexB (A.take j)).map (Value.int .u8)) wr ∧ B ≤ wr.heap.size ∧ Below B wb wr) (fun q _ => 32 - (intOf q).toNat)
  case atStart => exact ⟨0, by omega, rfl, HB0.out, by have := HBB.out.size; rcases HB0.out with h | h <;> exact Nat.le_of_lt h.lt, Below.refl _ _⟩
  case round =>
    clear HB0
    obtain ⟨j, hj, rfl, hI, hBr, bel⟩ := hrel
    have BE : Hid (Below B wb wr) := bel
    by_cases hlt : j < 32
    · have lt2 : (j : Int) < 32 := by omega
      have ix := HJX.out wr j hlt
      have hx := HAB.out j
      have HS : Hid (hexB (A.take (j + 1)) = hexB (A.take j) ++ [hexd (A.getD j 0 / 16).toNat] ++ [hexd (A.getD j 0 % 16).toNat]) := hexB_succ A j (by rw [HAL.out]; exact hlt)
      have hl : (hexB (A.take j)).length ≤ 64 := by rw [hexB_len, List.length_take]; omega
      generalize A.getD j 0 = x at *
      obtain ⟨k1, hk1⟩ : ∃ k1, k1 = (x / 16).toNat := ⟨_, rfl⟩
      obtain ⟨k2, hk2⟩ : ∃ k2, k2 = (x % 16).toNat := ⟨_, rfl⟩
      rw [← hk1, ← hk2] at HS
      have e1 : x / 16 = (k1 : Int) := by omega
      have e2 : bits .and .u8 x 15 = (k2 : Int) := by
        rw [u8_and x 15 hx.1 hx.2 (by omega) (by omega)]
        have : x.toNat &&& (15 : Int).toNat = x.toNat % 16 := Nat.and_two_pow_sub_one_eq_mod x.toNat 4
        rw [this]
        omega
      have i1 := fun W => HIX.out W k1 (by omega)
      have i2 := fun W => HIX.out W k2 (by omega)
      have c1 := wbyte_any B B (hexB (A.take j)) (hexd k1) wr hI hBr (by omega)
      have HC2 : Hid (∀ W, Lib.IsBuilder 58 5 B B ((hexB (A.take j) ++ [hexd k1]).map (Value.int .u8)) W → B ≤ W.heap.size → Calls Tryd.prog 27 #[.pointer (some ⟨B, 0, none⟩), .int .u8 (hexd k2)] W fun e w' => e = .returned .nilIface ∧ Lib.IsBuilder 58 5 B B ((hexB (A.take (j + 1))).map (Value.int .u8)) w' ∧ Below B W w') := fun W h1 h2 => by
        have := wbyte_any B B (hexB (A.take j) ++ [hexd k1]) (hexd k2) W h1 h2 (by rw [List.length_append]; simp; omega)
        rw [← HS.out] at this
        exact this
      generalize hexd k1 = d1 at *
      generalize hexd k2 = d2 at *
      clear hI bel hk1 hk2 hx hl HS
      go_wp2_with fail
      refine c1.mono ?_
      rintro e w2 ⟨rfl, I2, b2⟩
      have c2 := HC2.out w2 I2 (Nat.le_trans hBr b2.size)
      have B2 : Hid (Below B wb w2) := BE.out.trans b2
      have hBr2 : B ≤ w2.heap.size := Nat.le_trans hBr b2.size
      clear c1 I2 b2 HC2 ix
      go_wp2_with fail
      refine c2.mono ?_
      rintro e w3 ⟨rfl, I3, b3⟩
      have I3' : Hid (Lib.IsBuilder 58 5 B B ((hexB (A.take (j + 1))).map (Value.int .u8)) w3) := I3
      have B3 : Hid (Below B wb w3) := B2.out.trans b3
      have hBr3 : B ≤ w3.heap.size := Nat.le_trans hBr2 b3.size
      clear c2 I3 b3
      go_wp2
      go_roundw
      case rel => exact ⟨j + 1, by omega, by go_num, I3'.out, hBr3, B3.out⟩
      case measure => simp [intOf]; omega
    · obtain rfl : j = 32 := by omega
      have e : A.take 32 = A := by rw [← HAL.out, List.take_length]
      rw [e, ← cells_strB (hexB_byt A)] at hI
      have cs := bstr_any B B _ wr hI (by
        intro h
        have := congrArg List.length h
        rw [List.length_map, hexB_len, HAL.out] at this
        simp at this)
      change Calls Tryd.prog 28 #[.pointer (some ⟨B, 0, none⟩)] wr fun e w' => e = .returned (.string (strB (hexB A))) ∧ Below B wr w' at cs
      clear hI bel e
      go_wp2_with fail
      refine cs.mono ?_
      rintro e w2 ⟨rfl, b2⟩
      have B2 : Hid (Below w.heap.size w w2) := HBW.out.trans ((BE.out.trans b2).mono HWB.out)
      clear cs b2
      go_wp2
      go_ret
      exact ⟨rfl, B2.out⟩
end Go.Proofs.YthcpnhafikojnaaDoor
