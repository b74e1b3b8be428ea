/-
  HMAC as a plain function; what mac.masked and mac.sumBehind answer; nothing that was there is changed.
-/
import Derived.Test.YtkblcabibnnmcaaDoorOf
import Derived.Test.YtkblcabibnnmcaaDoorEq
import Derived.Test.YtkblcabibnnmcaaDoorFLay
import Derived.Deep.QuietTactic
import Derived.BigQuiet
namespace Go.Proofs.YtkblcabibnnmcaaDoor
open Go.RowKit

/-- Two bytes exclusive-ored. -/
def xb (a b : Int) : Int := ((a.toNat ^^^ b.toNat : Nat) : Int)
theorem xb_bits (a b : Int) (h1 : 0 ≤ a) (h2 : a < 256) (h3 : 0 ≤ b) (h4 : b < 256) : bits .xor .u8 a b = xb a b := u8_xor a b h1 h2 h3 h4
theorem xb_byte (a b : Int) (h1 : 0 ≤ a) (h2 : a < 256) (h3 : 0 ≤ b) (h4 : b < 256) : 0 ≤ xb a b ∧ xb a b < 256 := by
  unfold xb
  have : a.toNat ^^^ b.toNat < 2 ^ 8 := Nat.xor_lt_two_pow (by omega) (by omega)
  omega
theorem xb_zero (b : Int) (h : 0 ≤ b) : xb 0 b = b := by
  unfold xb
  simp only [Int.toNat_zero, Nat.zero_xor]
  omega
/-- A key of 64 bytes, each exclusive-ored with m. -/
def msk (k : List Int) (m : Int) : List Int := (List.range 64).map fun i => xb (k.getD i 0) m
theorem msk_len (k : List Int) (m : Int) : (msk k m).length = 64 := by simp [msk]
theorem msk_get (k : List Int) (m : Int) (i : Nat) (h : i < 64) : (msk k m).getD i 0 = xb (k.getD i 0) m := map_getI _ 64 i h
theorem msk_byt {k : List Int} {m : Int} (hk : Pl.Byt k) (h0 : 0 ≤ m) (h1 : m < 256) : Pl.Byt (msk k m) := by
  intro i
  rcases Nat.lt_or_ge i 64 with h | h
  · rw [msk_get _ _ _ h]; exact xb_byte _ _ (hk i).1 (hk i).2 h0 h1
  · rw [List.getD, List.getElem?_eq_none (by rw [msk_len]; exact h)]; simp
/-- A key that is too long is its sum. -/
def key0 (k : List Int) : List Int := if 64 < k.length then Pl.sha k else k
def hin (k xs : List Int) : List Int := Pl.sha (msk (key0 k) 54 ++ xs)
/-- The sum with a key. -/
def hmac (k xs : List Int) : List Int := Pl.sha (msk (key0 k) 92 ++ hin k xs)
theorem hmac_len (k xs : List Int) : (hmac k xs).length = 32 := sha_len _
theorem hin_len (k xs : List Int) : (hin k xs).length = 32 := sha_len _
theorem digest_byt (s : Pl.S8) : Pl.Byt (Pl.digest s) := by
  intro i
  rcases Nat.lt_or_ge i 32 with h | h
  · unfold Pl.digest
    rw [map_getI _ 32 _ h]
    have := Nat.mod_lt ((Pl.words s).getD (i / 4) 0 / 2 ^ (24 - 8 * (i % 4))) (show 0 < 256 by omega)
    omega
  · rw [List.getD, List.getElem?_eq_none (by rw [digest_len]; exact h)]; simp
theorem sha_byt (l : List Int) : Pl.Byt (Pl.sha l) := digest_byt _
theorem hmac_byt (k xs : List Int) : Pl.Byt (hmac k xs) := sha_byt _
theorem key0_len (k : List Int) : (key0 k).length ≤ 64 := by
  unfold key0
  split
  · rw [sha_len]; omega
  · omega
theorem key0_byt {k : List Int} (h : Pl.Byt k) : Pl.Byt (key0 k) := by
  unfold key0
  split
  · exact sha_byt _
  · exact h

/-- The first j of the one, the others of the other. -/
def ov (A B : List Int) (j : Nat) : List Int := A.take j ++ B.drop j
theorem ov_len (A B : List Int) (j : Nat) (h : A.length = B.length) : (ov A B j).length = A.length := by unfold ov; simp; omega
theorem ov_zero (A B : List Int) : ov A B 0 = B := by simp [ov]
theorem ov_all (A B : List Int) (h : A.length = B.length) : ov A B A.length = A := by unfold ov; rw [h, List.drop_length, ← h, List.take_length, List.append_nil]
theorem ov_get (A B : List Int) (j : Nat) (hj : j < A.length) : (ov A B j).getD j 0 = B.getD j 0 := by
  unfold ov
  simp [List.getD, List.getElem?_append, List.length_take, List.getElem?_drop, Nat.min_eq_left (Nat.le_of_lt hj)]
theorem ov_set (A B : List Int) (j : Nat) (h : A.length = B.length) (hj : j < A.length) : (ov A B j).set j (A.getD j 0) = ov A B (j + 1) := by
  apply List.ext_getElem?
  intro k
  unfold ov
  rw [List.getElem?_set]
  by_cases e : j = k
  · subst e
    rw [if_pos rfl, if_pos (by simp; omega), List.getElem?_append_left (by simp; omega), List.getElem?_take, if_pos (by omega)]
    simp [List.getD, List.getElem?_eq_getElem hj]
  · simp only [e, if_false, List.getElem?_append, List.length_take, List.getElem?_take, List.getElem?_drop]
    repeat' split
    all_goals first | rfl | omega | (congr 1; omega)

/-- Bytes, noughts behind them up to 64. -/
def p64 (xs : List Int) : List Int := xs ++ List.replicate (64 - xs.length) 0
theorem p64_len (xs : List Int) (h : xs.length ≤ 64) : (p64 xs).length = 64 := by unfold p64; simp; omega
theorem p64_get (xs : List Int) (i : Nat) : (p64 xs).getD i 0 = xs.getD i 0 := by
  unfold p64
  rcases Nat.lt_or_ge i xs.length with h | h
  · rw [getD_append_left _ _ _ h]
  · rw [getD_append_right _ _ _ h, List.getD, List.getElem?_replicate, List.getD, List.getElem?_eq_none h]
    split <;> rfl
theorem splice_p64 (xs : List Int) : splice ((List.replicate 64 (0 : Int)).map (Value.int .u8)) 0 (xs.map (Value.int .u8)) = (p64 xs).map (Value.int .u8) := by
  unfold splice p64
  rw [List.map_append, List.take_zero, List.nil_append, Nat.zero_add, List.length_map, ← List.map_drop, List.drop_replicate]
theorem mk64 : ∀ w : World, (Instr.makeSlice 22 (.int .i64 64) (.int .i64 64)).run Tryd.prog w = .ok (.slice (some ⟨w.heap.size, 0, none⟩) 64 64) (w.alloc (.cells (u8s (List.replicate 64 0)) 5)) := fun _ => by kernel_rfl

/-- 'copy' of a slice of at most 64 bytes into 64 noughts. -/
theorem wpList_copy64 {w w0 : World} {ops : Array Oper} {rest : List Oper} {o : Oper} {a : Act} {Q : Exit → Act → World → Prop} (hgd : o.guard = none) (d s : Operand)
    (ho : o.op = .call { callee := .builtin .copy, args := #[d, s], argTypes := #[22, 22] }) (G : Nat) (hd : a.eval d = .slice (some ⟨G, 0, none⟩) 64 64)
    (src : Value) (Z : List Int) (hs : a.eval s = src) (hsl : Sl w src Z) (hl : Z.length ≤ 64) (hg : w.heap[G]? = some (.cells (u8s (List.replicate 64 0)) 5 (0, 0))) (hb : Below G w0 w)
    (h : ∀ w', w'.heap[G]? = some (.cells (u8s (p64 Z)) 5 (0, 0)) → Below G w0 w' → wpList Tryd.prog ops Q rest (a.put o.dst (goInt Z.length)) w') : wpList Tryd.prog ops Q (o :: rest) a w := by
  obtain ⟨ad, cap, rfl, h1, h2, h3, h4⟩ := hsl
  refine wpList_copy_splice hgd d s 22 22 ho 5 Tryd.underlying22 size5 _ _ _ _ _ _ hd hs G 0 ((List.replicate 64 (0 : Int)).map (Value.int .u8)) 5 hg (Z.map (Value.int .u8)) ?_ (fun hp => ⟨rfl, ?_⟩) ?_ (ints_one _) G w0 hb (Nat.le_refl _) ?_
  · rw [List.length_map]; exact (Nat.min_eq_left hl).symm
  · rcases id h4 with h5 | ⟨_, b, off, rfl, _⟩
    · rw [List.length_map] at hp; omega
    · exact ⟨_, rfl, news_row h4⟩
  · rw [List.length_map, List.length_map, List.length_replicate]; omega
  · intro w' hg' hb'
    have hg2 := hg'.out
    rw [splice_p64] at hg2
    have := h w' hg2 hb'
    rwa [List.length_map]

set_option maxHeartbeats 2000000 in
set_option maxRecDepth 100000 in
theorem masked_any (v : Value) (xs : List Int) (m : Int) (w : World) (sl : Sl w v xs) (hl : xs.length ≤ 64) (h0 : 0 ≤ m) (h1 : m < 256) :
    Calls Tryd.prog 22 #[v, .int .u8 m] w fun e w' => e = .returned (.slice (some ⟨w.heap.size, 0, none⟩) 64 64) ∧ Sl w' (.slice (some ⟨w.heap.size, 0, none⟩) 64 64) (msk xs m) ∧ Below w.heap.size w w' := by
  have mk := mk64 w
  obtain ⟨G, hG⟩ : ∃ G, G = w.heap.size := ⟨_, rfl⟩
  obtain ⟨wa, hwa⟩ : ∃ wa, wa = w.alloc (.cells (u8s (List.replicate 64 0)) 5) := ⟨_, rfl⟩
  have ba : Below G w wa := by rw [hwa, hG]; exact (Below.refl _ _).alloc (Nat.le_refl _) _
  have g0 : wa.heap[G]? = some (.cells ((List.replicate 64 (0 : Int)).map (Value.int .u8)).toArray 5 (0, 0)) := by rw [hwa, hG]; exact heap_alloc_new _ _
  have sla : Sl wa v xs := sl.kept (by rw [← hG]; exact ba)
  rw [← hwa, ← hG] at mk
  rw [← hG]
  have HB : Hid (Pl.Byt xs) := sl.bytes
  have HBA : Hid (Below G w wa) := ba
  have HL : Hid (xs.length ≤ 64) := hl
  have HSL : Hid (Sl wa v xs) := sla
  have HG0 : Hid (wa.heap[G]? = some (.cells (u8s (List.replicate 64 0)) 5 (0, 0))) := g0
  obtain ⟨a, cap, rfl, -⟩ := sla
  obtain ⟨n, hn⟩ : ∃ n, n = xs.length := ⟨_, rfl⟩
  have HN : Hid (n = xs.length) := hn
  rw [← hn] at HSL hl ⊢
  clear hwa hG ba g0 sl hn
  have HAL : Hid ((msk xs m).length = (p64 xs).length) := by unfold Hid; rw [msk_len, p64_len _ HL.out]
  have HA : Hid ((msk xs m).length = 64) := msk_len _ _
  have HGM : Hid (∀ i, i < 64 → (msk xs m).getD i 0 = xb ((p64 xs).getD i 0) m) := fun i hi => by rw [msk_get _ _ _ hi, p64_get]
  have HPB : Hid (Pl.Byt (p64 xs)) := fun i => by rw [p64_get]; exact HB.out i
  have HMB : Hid (Pl.Byt (msk xs m)) := msk_byt HB.out h0 h1
  generalize msk xs m = M at *
  obtain ⟨Z, hZ⟩ : ∃ Z, Z = p64 xs := ⟨_, rfl⟩
  have HZ : Hid (Z = p64 xs) := hZ
  rw [← hZ] at HAL HGM HPB
  clear hZ
  go_enter Tryd.func22, Tryd.ntmps22
  go_wp2_with (refine wpList_copy64 rfl _ _ rfl G rfl _ xs rfl HSL.out HL.out HG0.out HBA.out (Hid.out ?_))
  unfold Hid
  intro w1 HG1 hb1
  have HBB : Hid (Below G w w1) := hb1
  have HG2 : Hid (w1.heap[G]? = some (.cells (u8s (p64 xs)) 5 (0, 0))) := HG1
  clear HG1 hb1 HBA HG0 mk HSL
  go_wp2
  rw [← HZ.out] at HG2
  clear HB HN HL
  go_loopw [13] (fun i wr => ∃ j : Nat, j ≤ 64 ∧ i = .int .i64 j ∧ wr.heap[G]? = some (.cells (u8s (ov M Z j)) 5 (0, 0)) ∧ Below G w wr) (fun i _ => 64 - (intOf i).toNat)
  case atStart => exact ⟨0, by omega, rfl, by rw [ov_zero]; exact HG2.out, HBB.out⟩
  case round =>
    clear HG2 HBB
    obtain ⟨j, hj, rfl, g, b⟩ := hrel
    by_cases hlt : j < 64
    · have lt2 : (j : Int) < 64 := by omega
      have hjm : j < M.length := by rw [HA.out]; exact hlt
      have kf := frozen_of_row _ _ j _ _ g
      have kc := (cell_of_row _ _ j _ _ _ g).trans (u8s_get _ j (by rw [ov_len _ _ _ HAL.out, HA.out]; exact hlt))
      rw [ov_get _ _ _ hjm] at kc
      have NS : Hid ((wr.setCell ⟨G, j, none⟩ (.int .u8 (xb (Z.getD j 0) m))).heap[G]? = some (.cells (u8s (ov M Z (j + 1))) 5 (0, 0))) := by
        have := heap_setCell_same _ _ j _ _ (.int .u8 (M.getD j 0)) g
        rw [u8s_set, ov_set _ _ _ HAL.out hjm, HGM.out j hlt] at this
        exact this
      have NB : Hid (Below G w (wr.setCell ⟨G, j, none⟩ (.int .u8 (xb (Z.getD j 0) m)))) := b.setCell (Nat.le_refl _) _
      have x1 := xb_bits (Z.getD j 0) m (HPB.out j).1 (HPB.out j).2 h0 h1
      generalize xb (Z.getD j 0) m = y at *
      generalize Z.getD j 0 = z at *
      clear g b hjm
      go_wp2
      go_roundw
      case rel => exact ⟨j + 1, by omega, by go_num, NS.out, NB.out⟩
      case measure => simp [intOf]; omega
    · obtain rfl : j = 64 := by omega
      have HS : Hid (Sl wr (.slice (some ⟨G, 0, none⟩) 64 64) M) := by
        have e : ov M Z 64 = M := by have := ov_all M Z HAL.out; rwa [HA.out] at this
        rw [e] at g
        refine ⟨some ⟨G, 0, none⟩, 64, by rw [HA.out], by rw [HA.out]; omega, by unfold maxLen; omega, (fun h => by cases h), .inr ⟨by rw [HA.out]; omega, G, 0, rfl, by rw [HA.out]; omega, by unfold maxLen; omega, fun i hi => ?_, HMB.out⟩⟩
        rw [Nat.zero_add, cell_of_row _ _ _ _ _ _ g, u8s_get _ _ hi]
      have HE : Hid (Below G w wr) := b
      clear g b
      go_wp2
      go_ret
      exact ⟨rfl, HS.out, HE.out⟩
end Go.Proofs.YtkblcabibnnmcaaDoor
