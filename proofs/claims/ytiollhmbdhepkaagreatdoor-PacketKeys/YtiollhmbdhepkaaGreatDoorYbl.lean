/-
  HMAC as a plain function; what mac.masked and mac.sumBehind answer; nothing that was there is changed.
  What mac.sumBehind and mac.Of answer: the sum of the block and the parts; the sum with a key; nothing that was there is changed.
  What mac.Equal answers: whether both are the same; nothing is changed.
-/
import Derived.Deep.QuietTactic
import Derived.BigQuiet
import Derived.Test.YtiollhmbdhepkaaGreatDoorYbk
import Derived.Test.YtiollhmbdhepkaaGreatDoorYay
import Derived.Deep.RegionWith
import Derived.Deep.RegionHeld3
namespace Go.Proofs.YtiollhmbdhepkaaGreatDoor.Mc
open Go.Proofs.YtiollhmbdhepkaaGreatDoor.Sh Go.Proofs.YtiollhmbdhepkaaGreatDoor.Fi
set_option maxRecDepth 100000
open Go.RowKit

/-- Two bytes exclusive-ored. -/
def xb (a b : Int) : Int := ((a.toNat ^^^ b.toNat : Nat) : Int)
theorem xb_bits (a b : Int) (h1 : 0 ≤ a) (h2 : a < 256) (h3 : 0 ≤ b) (h4 : b < 256) : bits .xor .u8 a b = xb a b := u8_xor a b h1 h2 h3 h4
theorem xb_byte (a b : Int) (h1 : 0 ≤ a) (h2 : a < 256) (h3 : 0 ≤ b) (h4 : b < 256) : 0 ≤ xb a b ∧ xb a b < 256 := by
  unfold xb
  have : a.toNat ^^^ b.toNat < 2 ^ 8 := Nat.xor_lt_two_pow (by omega) (by omega)
  omega
theorem xb_zero (b : Int) (h : 0 ≤ b) : xb 0 b = b := by
  unfold xb
  simp only [Int.toNat_zero, Nat.zero_xor]
  omega
/-- A key of 64 bytes, each exclusive-ored with m. -/
def msk (k : List Int) (m : Int) : List Int := (List.range 64).map fun i => xb (k.getD i 0) m
theorem msk_len (k : List Int) (m : Int) : (msk k m).length = 64 := by simp [msk]
theorem msk_get (k : List Int) (m : Int) (i : Nat) (h : i < 64) : (msk k m).getD i 0 = xb (k.getD i 0) m := map_getI _ 64 i h
theorem msk_byt {k : List Int} {m : Int} (hk : Pl.Byt k) (h0 : 0 ≤ m) (h1 : m < 256) : Pl.Byt (msk k m) := by
  intro i
  rcases Nat.lt_or_ge i 64 with h | h
  · rw [msk_get _ _ _ h]; exact xb_byte _ _ (hk i).1 (hk i).2 h0 h1
  · rw [List.getD, List.getElem?_eq_none (by rw [msk_len]; exact h)]; simp
/-- A key that is too long is its sum. -/
def key0 (k : List Int) : List Int := if 64 < k.length then Pl.sha k else k
def hin (k xs : List Int) : List Int := Pl.sha (msk (key0 k) 54 ++ xs)
/-- The sum with a key. -/
def hmac (k xs : List Int) : List Int := Pl.sha (msk (key0 k) 92 ++ hin k xs)
theorem hmac_len (k xs : List Int) : (hmac k xs).length = 32 := sha_len _
theorem hin_len (k xs : List Int) : (hin k xs).length = 32 := sha_len _
theorem digest_byt (s : Pl.S8) : Pl.Byt (Pl.digest s) := by
  intro i
  rcases Nat.lt_or_ge i 32 with h | h
  · unfold Pl.digest
    rw [map_getI _ 32 _ h]
    have := Nat.mod_lt ((Pl.words s).getD (i / 4) 0 / 2 ^ (24 - 8 * (i % 4))) (show 0 < 256 by omega)
    omega
  · rw [List.getD, List.getElem?_eq_none (by rw [digest_len]; exact h)]; simp
theorem sha_byt (l : List Int) : Pl.Byt (Pl.sha l) := digest_byt _
theorem hmac_byt (k xs : List Int) : Pl.Byt (hmac k xs) := sha_byt _
theorem key0_len (k : List Int) : (key0 k).length ≤ 64 := by
  unfold key0
  split
  · rw [sha_len]; omega
  · omega
theorem key0_byt {k : List Int} (h : Pl.Byt k) : Pl.Byt (key0 k) := by
  unfold key0
  split
  · exact sha_byt _
  · exact h

/-- The first j of the one, the others of the other. -/
def ov (A B : List Int) (j : Nat) : List Int := A.take j ++ B.drop j
theorem ov_len (A B : List Int) (j : Nat) (h : A.length = B.length) : (ov A B j).length = A.length := by unfold ov; simp; omega
theorem ov_zero (A B : List Int) : ov A B 0 = B := by simp [ov]
theorem ov_all (A B : List Int) (h : A.length = B.length) : ov A B A.length = A := by unfold ov; rw [h, List.drop_length, ← h, List.take_length, List.append_nil]
theorem ov_get (A B : List Int) (j : Nat) (hj : j < A.length) : (ov A B j).getD j 0 = B.getD j 0 := by
  unfold ov
  simp [List.getD, List.getElem?_append, List.length_take, List.getElem?_drop, Nat.min_eq_left (Nat.le_of_lt hj)]
theorem ov_set (A B : List Int) (j : Nat) (h : A.length = B.length) (hj : j < A.length) : (ov A B j).set j (A.getD j 0) = ov A B (j + 1) := by
  apply List.ext_getElem?
  intro k
  unfold ov
  rw [List.getElem?_set]
  by_cases e : j = k
  · subst e
    rw [if_pos rfl, if_pos (by simp; omega), List.getElem?_append_left (by simp; omega), List.getElem?_take, if_pos (by omega)]
    simp [List.getD, List.getElem?_eq_getElem hj]
  · simp only [e, if_false, List.getElem?_append, List.length_take, List.getElem?_take, List.getElem?_drop]
    repeat' split
    all_goals first | rfl | omega | (congr 1; omega)

/-- Bytes, noughts behind them up to 64. -/
def p64 (xs : List Int) : List Int := xs ++ List.replicate (64 - xs.length) 0
theorem p64_len (xs : List Int) (h : xs.length ≤ 64) : (p64 xs).length = 64 := by unfold p64; simp; omega
theorem p64_get (xs : List Int) (i : Nat) : (p64 xs).getD i 0 = xs.getD i 0 := by
  unfold p64
  rcases Nat.lt_or_ge i xs.length with h | h
  · rw [getD_append_left _ _ _ h]
  · rw [getD_append_right _ _ _ h, List.getD, List.getElem?_replicate, List.getD, List.getElem?_eq_none h]
    split <;> rfl
theorem splice_p64 (xs : List Int) : splice ((List.replicate 64 (0 : Int)).map (Value.int .u8)) 0 (xs.map (Value.int .u8)) = (p64 xs).map (Value.int .u8) := by
  unfold splice p64
  rw [List.map_append, List.take_zero, List.nil_append, Nat.zero_add, List.length_map, ← List.map_drop, List.drop_replicate]
theorem mk64 : ∀ w : World, (Instr.makeSlice 34 (.int .i64 64) (.int .i64 64)).run Tryz.prog w = .ok (.slice (some ⟨w.heap.size, 0, none⟩) 64 64) (w.alloc (.cells (u8s (List.replicate 64 0)) 5)) := fun _ => by kernel_rfl

/-- 'copy' of a slice of at most 64 bytes into 64 noughts. -/
theorem wpList_copy64 {w w0 : World} {ops : Array Oper} {rest : List Oper} {o : Oper} {a : Act} {Q : Exit → Act → World → Prop} (hgd : o.guard = none) (d s : Operand)
    (ho : o.op = .call { callee := .builtin .copy, args := #[d, s], argTypes := #[34, 34] }) (G : Nat) (hd : a.eval d = .slice (some ⟨G, 0, none⟩) 64 64)
    (src : Value) (Z : List Int) (hs : a.eval s = src) (hsl : Sl w src Z) (hl : Z.length ≤ 64) (hg : w.heap[G]? = some (.cells (u8s (List.replicate 64 0)) 5 (0, 0))) (hb : Below G w0 w)
    (h : ∀ w', w'.heap[G]? = some (.cells (u8s (p64 Z)) 5 (0, 0)) → Below G w0 w' → wpList Tryz.prog ops Q rest (a.put o.dst (goInt Z.length)) w') : wpList Tryz.prog ops Q (o :: rest) a w := by
  obtain ⟨ad, cap, rfl, h1, h2, h3, h4⟩ := hsl
  refine wpList_copy_splice hgd d s 34 34 ho 5 Tryz.underlying34 size5 _ _ _ _ _ _ hd hs G 0 ((List.replicate 64 (0 : Int)).map (Value.int .u8)) 5 hg (Z.map (Value.int .u8)) ?_ (fun hp => ⟨rfl, ?_⟩) ?_ (ints_one _) G w0 hb (Nat.le_refl _) ?_
  · rw [List.length_map]; exact (Nat.min_eq_left hl).symm
  · rcases id h4 with h5 | ⟨_, b, off, rfl, _⟩
    · rw [List.length_map] at hp; omega
    · exact ⟨_, rfl, news_row h4⟩
  · rw [List.length_map, List.length_map, List.length_replicate]; omega
  · intro w' hg' hb'
    have hg2 := hg'.out
    rw [splice_p64] at hg2
    have := h w' hg2 hb'
    rwa [List.length_map]

set_option maxHeartbeats 2000000 in
set_option maxRecDepth 100000 in
theorem masked_any (v : Value) (xs : List Int) (m : Int) (w : World) (sl : Sl w v xs) (hl : xs.length ≤ 64) (h0 : 0 ≤ m) (h1 : m < 256) :
    Calls Tryz.prog 113 #[v, .int .u8 m] w fun e w' => e = .returned (.slice (some ⟨w.heap.size, 0, none⟩) 64 64) ∧ Sl w' (.slice (some ⟨w.heap.size, 0, none⟩) 64 64) (msk xs m) ∧ Below w.heap.size w w' := by
  have mk := mk64 w
  obtain ⟨G, hG⟩ : ∃ G, G = w.heap.size := ⟨_, rfl⟩
  obtain ⟨wa, hwa⟩ : ∃ wa, wa = w.alloc (.cells (u8s (List.replicate 64 0)) 5) := ⟨_, rfl⟩
  have ba : Below G w wa := by rw [hwa, hG]; exact (Below.refl _ _).alloc (Nat.le_refl _) _
  have g0 : wa.heap[G]? = some (.cells ((List.replicate 64 (0 : Int)).map (Value.int .u8)).toArray 5 (0, 0)) := by rw [hwa, hG]; exact heap_alloc_new _ _
  have sla : Sl wa v xs := sl.kept (by rw [← hG]; exact ba)
  rw [← hwa, ← hG] at mk
  rw [← hG]
  have HB : Hid (Pl.Byt xs) := sl.bytes
  have HBA : Hid (Below G w wa) := ba
  have HL : Hid (xs.length ≤ 64) := hl
  have HSL : Hid (Sl wa v xs) := sla
  have HG0 : Hid (wa.heap[G]? = some (.cells (u8s (List.replicate 64 0)) 5 (0, 0))) := g0
  obtain ⟨a, cap, rfl, -⟩ := sla
  obtain ⟨n, hn⟩ : ∃ n, n = xs.length := ⟨_, rfl⟩
  have HN : Hid (n = xs.length) := hn
  rw [← hn] at HSL hl ⊢
  clear hwa hG ba g0 sl hn
  have HAL : Hid ((msk xs m).length = (p64 xs).length) := by unfold Hid; rw [msk_len, p64_len _ HL.out]
  have HA : Hid ((msk xs m).length = 64) := msk_len _ _
  have HGM : Hid (∀ i, i < 64 → (msk xs m).getD i 0 = xb ((p64 xs).getD i 0) m) := fun i hi => by rw [msk_get _ _ _ hi, p64_get]
  have HPB : Hid (Pl.Byt (p64 xs)) := fun i => by rw [p64_get]; exact HB.out i
  have HMB : Hid (Pl.Byt (msk xs m)) := msk_byt HB.out h0 h1
  generalize msk xs m = M at *
  obtain ⟨Z, hZ⟩ : ∃ Z, Z = p64 xs := ⟨_, rfl⟩
  have HZ : Hid (Z = p64 xs) := hZ
  rw [← hZ] at HAL HGM HPB
  clear hZ
  go_enter Tryz.func113, Tryz.ntmps113
  go_wp2_with (refine wpList_copy64 rfl _ _ rfl G rfl _ xs rfl HSL.out HL.out HG0.out HBA.out (Hid.out ?_))
  unfold Hid
  intro w1 HG1 hb1
  have HBB : Hid (Below G w w1) := hb1
  have HG2 : Hid (w1.heap[G]? = some (.cells (u8s (p64 xs)) 5 (0, 0))) := HG1
  clear HG1 hb1 HBA HG0 mk HSL
  go_wp2
  rw [← HZ.out] at HG2
  clear HB HN HL
  go_loopw [13] (fun i wr => ∃ j : Nat, j ≤ 64 ∧ i = .int .i64 j ∧ wr.heap[G]? = some (.cells (u8s (ov M Z j)) 5 (0, 0)) ∧ Below G w wr) (fun i _ => 64 - (intOf i).toNat)
  case atStart => exact ⟨0, by omega, rfl, by rw [ov_zero]; exact HG2.out, HBB.out⟩
  case round =>
    clear HG2 HBB
    obtain ⟨j, hj, rfl, g, b⟩ := hrel
    by_cases hlt : j < 64
    · have lt2 : (j : Int) < 64 := by omega
      have hjm : j < M.length := by rw [HA.out]; exact hlt
      have kf := frozen_of_row _ _ j _ _ g
      have kc := (cell_of_row _ _ j _ _ _ g).trans (u8s_get _ j (by rw [ov_len _ _ _ HAL.out, HA.out]; exact hlt))
      rw [ov_get _ _ _ hjm] at kc
      have NS : Hid ((wr.setCell ⟨G, j, none⟩ (.int .u8 (xb (Z.getD j 0) m))).heap[G]? = some (.cells (u8s (ov M Z (j + 1))) 5 (0, 0))) := by
        have := heap_setCell_same _ _ j _ _ (.int .u8 (M.getD j 0)) g
        rw [u8s_set, ov_set _ _ _ HAL.out hjm, HGM.out j hlt] at this
        exact this
      have NB : Hid (Below G w (wr.setCell ⟨G, j, none⟩ (.int .u8 (xb (Z.getD j 0) m)))) := b.setCell (Nat.le_refl _) _
      have x1 := xb_bits (Z.getD j 0) m (HPB.out j).1 (HPB.out j).2 h0 h1
      generalize xb (Z.getD j 0) m = y at *
      generalize Z.getD j 0 = z at *
      clear g b hjm
      go_wp2
      go_roundw
      case rel => exact ⟨j + 1, by omega, by go_num, NS.out, NB.out⟩
      case measure => simp [intOf]; omega
    · obtain rfl : j = 64 := by omega
      have HS : Hid (Sl wr (.slice (some ⟨G, 0, none⟩) 64 64) M) := by
        have e : ov M Z 64 = M := by have := ov_all M Z HAL.out; rwa [HA.out] at this
        rw [e] at g
        refine ⟨some ⟨G, 0, none⟩, 64, by rw [HA.out], by rw [HA.out]; omega, by unfold maxLen; omega, (fun h => by cases h), .inr ⟨by rw [HA.out]; omega, G, 0, rfl, by rw [HA.out]; omega, by unfold maxLen; omega, fun i hi => ?_, HMB.out⟩⟩
        rw [Nat.zero_add, cell_of_row _ _ _ _ _ _ g, u8s_get _ _ hi]
      have HE : Hid (Below G w wr) := b
      clear g b
      go_wp2
      go_ret
      exact ⟨rfl, HS.out, HE.out⟩
end Go.Proofs.YtiollhmbdhepkaaGreatDoor.Mc
namespace Go.Proofs.YtiollhmbdhepkaaGreatDoor.Mc
open Go.Proofs.YtiollhmbdhepkaaGreatDoor.Sh Go.Proofs.YtiollhmbdhepkaaGreatDoor.Fi
set_option maxRecDepth 100000
open Go.RowKit

theorem info22 : (Tryz.prog.info? 34).map (fun i => (i.zero, i.size, i.bytes)) = some (some (.slice none 0 0), 1, 24) := by kernel_rfl

theorem _root_.Go.Proofs.YtiollhmbdhepkaaGreatDoor.Parts.kept {w w' : World} {p : Option Addr} {ZZ : List (List Int)} (h : Parts w p ZZ) (hb : Below w.heap.size w w') : Parts w' p ZZ := by
  obtain ⟨h1, h2⟩ := h
  refine ⟨h1, ?_⟩
  rcases h2 with h2 | ⟨b, off, rfl, hall⟩
  · exact .inl h2
  · refine .inr ⟨b, off, rfl, fun i hi => ?_⟩
    obtain ⟨v, hc, sl⟩ := hall i hi
    exact ⟨v, (hb.cell (p := ⟨b, off + i, none⟩) (World.block_lt_of_cell? _ _ hc)).trans hc, sl.kept hb⟩
/-- The cells of a slice of slices, as a list. -/
theorem _root_.Go.Proofs.YtiollhmbdhepkaaGreatDoor.Parts.vals {w : World} {b off : Nat} {ZZ : List (List Int)} (h : ∀ i, i < ZZ.length → ∃ v, w.cell? ⟨b, off + i, none⟩ = some v ∧ Sl w v (ZZ.getD i [])) :
    ∃ V : List Value, V.length = ZZ.length ∧ (∀ j u, V[j]? = some u → w.cell? ((⟨b, off, none⟩ : Addr).add j) = some u) ∧ (∀ u ∈ V, u.oneCell' = true) ∧ ∀ i, i < ZZ.length → ∃ u, V[i]? = some u ∧ Sl w u (ZZ.getD i []) := by
  classical
  refine ⟨(List.range ZZ.length).map fun i => if h' : i < ZZ.length then (h i h').choose else .bool false, by simp, ?_, ?_, ?_⟩
  · intro j u hj
    rw [List.getElem?_map] at hj
    by_cases hlt : j < ZZ.length
    · simp only [List.getElem?_range hlt, Option.map_some, dif_pos hlt, Option.some.injEq] at hj
      subst hj
      rw [Addr.add_lit]
      exact (h j hlt).choose_spec.1
    · rw [List.getElem?_eq_none (by simpa using hlt)] at hj
      simp at hj
  · intro u hu
    simp only [List.mem_map, List.mem_range] at hu
    obtain ⟨i, hi, rfl⟩ := hu
    rw [dif_pos hi]
    obtain ⟨a, c, e, _⟩ := (h i hi).choose_spec.2
    rw [e]; rfl
  · intro i hi
    exact ⟨_, by simp only [List.getElem?_map, List.getElem?_range hi, Option.map_some, dif_pos hi], (h i hi).choose_spec.2⟩

/-- A row of slices of the call's own is read as a slice of slices. -/
theorem parts_owned {w : World} {base n : Nat} {v : Value} {V : List Value} {ZZ : List (List Int)} (ho : w.ownsRow base 34 1 v n V) (hn : n = ZZ.length) (hm : n ≤ 9223372036854775807)
    (h : ∀ i, i < ZZ.length → ∃ u, V[i]? = some u ∧ Sl w u (ZZ.getD i [])) : ∃ p c, v = .slice p ZZ.length c ∧ Parts w p ZZ := by
  subst hn
  rcases ho.2 with ⟨rfl, h0⟩ | ⟨g, cap, cur, rfl, _⟩
  · refine ⟨none, 0, by rw [h0], hm, .inl (List.length_eq_zero_iff.1 h0)⟩
  · refine ⟨_, cap, rfl, hm, .inr ⟨g, 0, rfl, fun i hi => ?_⟩⟩
    obtain ⟨u, hu, sl⟩ := h i hi
    refine ⟨u, ?_, sl⟩
    have := ho.cells (g := g) rfl i u hu
    rwa [Addr.add_lit] at this

theorem own_lit1 (w : World) (v : Value) : (w.alloc (.cells #[v] 34)).ownsRow w.heap.size 34 1 (.slice (some ⟨w.heap.size, 0, none⟩) 1 1) 1 [v] :=
  ⟨rfl, .inr ⟨w.heap.size, 1, #[v], rfl, Nat.le_refl _, heap_alloc_new _ _, Nat.le_refl _, by unfold maxLen; omega, rfl, rfl⟩⟩

/-- 'append' of a slice of slices onto a list of one of the call's own. -/
theorem wpList_append_parts {w w0 : World} {ops : Array Oper} {rest : List Oper} {o : Oper} {a : Act} {Q : Exit → Act → World → Prop} (hgd : o.guard = none) (s x : Operand)
    (ho : o.op = .call { callee := .builtin .append, args := #[s, x], argTypes := #[100, 100] })
    (base : Nat) (v : Value) (n : Nat) (V : List Value) (XX : List (List Int)) (hs : a.eval s = v) (hown : w.ownsRow base 34 1 v n V) (hb0 : Below base w0 w) (hw0 : base = w0.heap.size) (hn : n = XX.length)
    (hV : ∀ i, i < XX.length → ∃ u, V[i]? = some u ∧ Sl w0 u (XX.getD i []))
    (p : Option Addr) (k c : Nat) (ZZ : List (List Int)) (hx : a.eval x = .slice p k c) (hk : k = ZZ.length) (hc : p = none → c = 0) (hP : Parts w0 p ZZ) (hbig : n + ZZ.length ≤ 1000000000)
    (h : ∀ p' c' w', Parts w' p' (XX ++ ZZ) → Below base w0 w' → wpList Tryz.prog ops Q rest (a.put o.dst (.slice p' (XX ++ ZZ).length c')) w') : wpList Tryz.prog ops Q (o :: rest) a w := by
  obtain ⟨i0, hi, hz0, hz1, hz2⟩ := info_parts info22
  subst hk
  have bw : Below w0.heap.size w0 w := by rw [← hw0]; exact hb0
  have hbase : base ≤ w.heap.size := by rw [hw0]; exact bw.size
  have e0 : ∀ i, (XX ++ ZZ).getD i [] = if i < XX.length then XX.getD i [] else ZZ.getD (i - XX.length) [] := fun i => by
    split
    · next h => simp [List.getD, List.getElem?_append_left h]
    · next h => simp [List.getD, List.getElem?_append_right (show XX.length ≤ i by omega)]
  have hVl : V.length = n := by have := hown.1; simpa using this
  by_cases hz : ZZ = []
  · subst hz
    have hap : (XX ++ ([] : List (List Int))) = XX := List.append_nil _
    rw [hap] at h
    cases p with
    | none =>
      obtain rfl := hc rfl
      refine wpList_append_own_none hgd s x 100 ho base 34 i0 1 Tryz.underlying100 hi v n V hs hown hx ?_
      obtain ⟨p', c', rfl, hp'⟩ := parts_owned hown hn (by omega) (fun i hi => by
        obtain ⟨u, h1, h2⟩ := hV i hi
        exact ⟨u, h1, h2.kept bw⟩)
      exact h p' c' w hp' hb0
    | some y =>
      refine wpList_append_own_wide w hgd s x 100 ho base 34 i0 (.slice none 0 0) 1 24 Tryz.underlying100 hi hz0 hz1 hz2 rfl (by decide) v n V hs hown y 0 c [] hx rfl (fun j u hj => by simp at hj) (fun u hu => by simp at hu) (by unfold maxLen; omega) (by simp at hbig; omega) hbase ?_
      intro v' w' ho' hg _
      have bw' : Below base w0 w' := hb0.grown hg hbase (own_base hown)
      rw [Nat.add_zero, List.append_nil] at ho'
      obtain ⟨p', c', rfl, hp'⟩ := parts_owned ho' hn (by omega) (fun i hi => by
        obtain ⟨u, h1, h2⟩ := hV i hi
        exact ⟨u, h1, h2.kept (by rw [← hw0]; exact bw')⟩)
      exact h p' c' w' hp' bw'
  · rcases hP.2 with h0 | ⟨b, off, rfl, hall⟩
    · exact absurd h0 hz
    · obtain ⟨U, u1, u2, u3, u4⟩ := Parts.vals hall
      have u2' : ∀ j u, U[j]? = some u → w.cell? ((⟨b, off, none⟩ : Addr).add j) = some u := fun j u hj => by
        have h1 := u2 j u hj
        exact (bw.cell (World.block_lt_of_cell? _ _ h1)).trans h1
      refine wpList_append_own_wide w hgd s x 100 ho base 34 i0 (.slice none 0 0) 1 24 Tryz.underlying100 hi hz0 hz1 hz2 rfl (by decide) v n V hs hown ⟨b, off, none⟩ ZZ.length c U hx (by rw [u1, Nat.mul_one]) u2' u3 (by unfold maxLen; omega) (by omega) hbase ?_
      intro v' w' ho' hg _
      have bw' : Below base w0 w' := hb0.grown hg hbase (own_base hown)
      obtain ⟨p', c', rfl, hp'⟩ := parts_owned (ZZ := XX ++ ZZ) ho' (by rw [List.length_append, hn]) (by omega) (fun i hi => by
        rw [e0]
        rw [List.length_append] at hi
        by_cases hlt : i < XX.length
        · rw [if_pos hlt, List.getElem?_append_left (by omega)]
          obtain ⟨u, h1, h2⟩ := hV i hlt
          exact ⟨u, h1, h2.kept (by rw [← hw0]; exact bw')⟩
        · rw [if_neg hlt, List.getElem?_append_right (by omega), hVl, hn]
          obtain ⟨u, h1, h2⟩ := u4 (i - XX.length) (by omega)
          exact ⟨u, h1, h2.kept (by rw [← hw0]; exact bw')⟩)
      exact h p' c' w' hp' bw'

set_option maxHeartbeats 2000000 in
set_option maxRecDepth 100000 in
theorem behind_any (v : Value) (X : List Int) (p : Option Addr) (kc : Nat) (ZZ : List (List Int)) (w : World) (ht : Tab w) (sl : Sl w v X) (hP : Parts w p ZZ) (hc : p = none → kc = 0) (hl : ZZ.length ≤ 1000000) (hbig : X.length + ZZ.flatten.length ≤ 100000000000000000) :
    Calls Tryz.prog 112 #[v, .slice p ZZ.length kc] w fun e w' => e = .returned (.agg (u8s (Pl.sha (X ++ ZZ.flatten)))) ∧ Below w.heap.size w w' := by
  obtain ⟨wa, hwa⟩ : ∃ wa, wa = w.alloc (.cells (u8s (List.replicate 32 0)) 47) := ⟨_, rfl⟩
  have ba : Below w.heap.size w wa := by rw [hwa]; exact (Below.refl _ _).alloc (Nat.le_refl _) _
  have g0 : wa.heap[w.heap.size]? = some (.cells (u8s (List.replicate 32 0)) 47 (0, 0)) := by rw [hwa]; exact heap_alloc_new _ _
  have hlt : w.heap.size < wa.heap.size := by rw [hwa]; simp
  have hwz : w.alloc (.cells #[.int .u8 0, .int .u8 0, .int .u8 0, .int .u8 0, .int .u8 0, .int .u8 0, .int .u8 0, .int .u8 0, .int .u8 0, .int .u8 0, .int .u8 0, .int .u8 0, .int .u8 0, .int .u8 0, .int .u8 0, .int .u8 0, .int .u8 0, .int .u8 0, .int .u8 0, .int .u8 0, .int .u8 0, .int .u8 0, .int .u8 0, .int .u8 0, .int .u8 0, .int .u8 0, .int .u8 0, .int .u8 0, .int .u8 0, .int .u8 0, .int .u8 0, .int .u8 0] 47) = wa := hwa.symm
  have HFL : Hid ([X] ++ ZZ = X :: ZZ) := rfl
  have hfl : (X :: ZZ).flatten = X ++ ZZ.flatten := rfl
  have HI : Hid ((Tryz.prog.info? 47).map (·.size) = some (u8s (Pl.sha (X ++ ZZ.flatten))).size) := by unfold Hid; rw [u8s_size, sha_len]; exact size26
  have HO : Hid ((u8s (List.replicate 32 0)).size = (u8s (Pl.sha (X ++ ZZ.flatten))).size) := by unfold Hid; rw [u8s_size, u8s_size, sha_len]; simp
  have HON : Hid ((u8s (Pl.sha (X ++ ZZ.flatten))).all (·.oneCell') = true) := u8s_one _
  have COF : Hid (∀ p' c' W, Below w.heap.size w W → Parts W p' (X :: ZZ) → Calls Tryz.prog 111 #[.slice p' ([X] ++ ZZ).length c'] W fun e w' => e = .returned (.agg (u8s (Pl.sha (X ++ ZZ.flatten)))) ∧ Below W.heap.size W w') := fun p' c' W hW hp => by
    have := of_any p' c' (X :: ZZ) W (ht.below hW ht.size) hp (by rw [hfl, List.length_append]; exact hbig)
    rw [hfl] at this
    exact this
  have own0 := own_lit1 wa v
  have SLA : Hid (∀ i, i < [X].length → ∃ u, [v][i]? = some u ∧ Sl wa u ([X].getD i [])) := fun i hi => by
    obtain rfl : i = 0 := by simpa using hi
    exact ⟨v, rfl, sl.kept ba⟩
  have HPA : Hid (Parts wa p ZZ) := hP.kept ba
  have bal : Below wa.heap.size wa (wa.alloc (.cells #[v] 34)) := (Below.refl _ _).alloc (Nat.le_refl _) _
  have HC : Hid (p = none → kc = 0) := hc
  have HBA : Hid (Below w.heap.size w wa) := ba
  have HG0 : Hid (wa.heap[w.heap.size]? = some (.cells (u8s (List.replicate 32 0)) 47 (0, 0))) := g0
  obtain ⟨k, hk⟩ : ∃ k, k = ZZ.length := ⟨_, rfl⟩
  have HK : Hid (k = ZZ.length) := hk
  rw [← hk] at hl ⊢
  obtain ⟨av, cv, rfl, -⟩ := sl
  clear hwa ba g0 hP hc hfl hbig ht hk
  generalize u8s (Pl.sha (X ++ ZZ.flatten)) = U at *
  go_enter Tryz.func112, Tryz.ntmps112
  go_wp2_with (at_builtin; refine wpList_append_parts rfl _ _ rfl wa.heap.size _ _ _ [X] rfl own0 bal rfl rfl SLA.out p _ kc ZZ rfl HK.out HC.out HPA.out (by rw [← HK.out]; omega) (Hid.out ?_))
  unfold Hid
  intro p' c' w1 hp1 hb1
  have B1 : Below w.heap.size w w1 := HBA.out.trans (hb1.mono (by omega))
  have c1 := COF.out p' c' w1 B1 hp1
  have HG1 : Hid (w1.heap[w.heap.size]? = some (.cells (u8s (List.replicate 32 0)) 47 (0, 0))) := (hb1.block _ hlt).trans HG0.out
  have HB1 : Hid (Below w.heap.size w w1) := B1
  clear B1 hp1 hb1 own0 bal COF
  go_wp2_with fail
  refine c1.mono ?_
  rintro e w2 ⟨rfl, b2⟩
  have B2 : Hid (Below w.heap.size w w2) := HB1.out.trans (b2.mono HB1.out.size)
  have HG2 : Hid (w2.heap[w.heap.size]? = some (.cells (u8s (List.replicate 32 0)) 47 (0, 0))) := (b2.block _ (Array.getElem?_eq_some_iff.1 HG1.out).1).trans HG1.out
  clear c1 b2
  go_wp2_with (refine wpList_store_row rfl 47 _ _ rfl w.heap.size U rfl rfl 47 _ HG2.out HI.out HO.out HON.out ?_)
  refine bodyPost_ret (v := .agg U) (results_cell_row rfl _ _ w.heap.size 47 U (0, 0) _ rfl (setRow_heap _ _ _ _ _ _ HG2.out) Tryz.underlying47 rfl HI.out) rfl ⟨rfl, below_setRow B2.out (Nat.le_refl _) _⟩
end Go.Proofs.YtiollhmbdhepkaaGreatDoor.Mc
namespace Go.Proofs.YtiollhmbdhepkaaGreatDoor.Mc
open Go.Proofs.YtiollhmbdhepkaaGreatDoor.Sh Go.Proofs.YtiollhmbdhepkaaGreatDoor.Fi
set_option maxRecDepth 100000
open Go.RowKit

/-- What differs of the first j bytes. -/
def dif (xs ys : List Int) : Nat → Nat
  | 0 => 0
  | j + 1 => dif xs ys j ||| ((xs.getD j 0).toNat ^^^ (ys.getD j 0).toNat)
theorem dif_lt {xs ys : List Int} (hx : Pl.Byt xs) (hy : Pl.Byt ys) : ∀ j, dif xs ys j < 256
  | 0 => by simp [dif]
  | j + 1 => by
    have h1 : (xs.getD j 0).toNat ^^^ (ys.getD j 0).toNat < 2 ^ 8 := Nat.xor_lt_two_pow (by have := hx j; omega) (by have := hy j; omega)
    have h2 : dif xs ys j < 2 ^ 8 := dif_lt hx hy j
    exact Nat.or_lt_two_pow h2 h1
theorem dif_zero {xs ys : List Int} (hx : Pl.Byt xs) (hy : Pl.Byt ys) : ∀ j, dif xs ys j = 0 ↔ ∀ i, i < j → xs.getD i 0 = ys.getD i 0
  | 0 => by simp [dif]
  | j + 1 => by
    have h1 := hx j
    have h2 := hy j
    show dif xs ys j ||| ((xs.getD j 0).toNat ^^^ (ys.getD j 0).toNat) = 0 ↔ _
    have hxor : ∀ a b : Nat, a ^^^ b = 0 ↔ a = b := fun a b => ⟨fun h => by
      have e : (a ^^^ b) ^^^ b = a := by rw [Nat.xor_assoc, Nat.xor_self, Nat.xor_zero]
      rw [h, Nat.zero_xor] at e
      exact e.symm, fun h => by rw [h, Nat.xor_self]⟩
    rw [Nat.or_eq_zero_iff, hxor, dif_zero hx hy j]
    constructor
    · rintro ⟨h3, h4⟩ i hi
      rcases Nat.lt_or_ge i j with h | h
      · exact h3 i h
      · obtain rfl : i = j := by omega
        omega
    · intro h
      exact ⟨fun i hi => h i (by omega), by rw [h j (by omega)]⟩
theorem dif_eq {xs ys : List Int} (hx : Pl.Byt xs) (hy : Pl.Byt ys) (hl : xs.length = ys.length) (n : Nat) (hn : n = xs.length) : (((dif xs ys n : Nat) : Int) == 0) = (xs == ys) := by
  subst hn
  by_cases h : xs = ys
  · have : dif xs ys xs.length = 0 := (dif_zero hx hy _).2 (fun i _ => by rw [h])
    rw [this]; simp [h]
  · have hne : dif xs ys xs.length ≠ 0 := fun e => h (eq_of_getD _ _ hl (fun i hi => (dif_zero hx hy _).1 e i hi))
    have h1 : (((dif xs ys xs.length : Nat) : Int) == 0) = false := by simp; exact hne
    rw [h1]; simp [h]

set_option maxHeartbeats 2000000 in
theorem equal_any (u v : Value) (xs ys : List Int) (w : World) (su : Sl w u xs) (sv : Sl w v ys) :
    Calls Tryz.prog 94 #[u, v] w fun e w' => e = .returned (.bool (xs == ys)) ∧ Below w.heap.size w w' := by
  have hx := su.bytes
  have hy := sv.bytes
  obtain ⟨a, ca, rfl, a1, a2, a3, a4⟩ := su
  obtain ⟨b, cb, rfl, b1, b2, b3, b4⟩ := sv
  have hm : xs.length ≤ 9223372036854775807 := by unfold maxLen at a2; omega
  have hm2 : ys.length ≤ 9223372036854775807 := by unfold maxLen at b2; omega
  by_cases hl : xs.length = ys.length
  · have HE : Hid (∀ n, n = xs.length → (((dif xs ys n : Nat) : Int) == 0) = (xs == ys)) := fun n hn => dif_eq hx hy hl n hn
    obtain ⟨n, hn⟩ : ∃ n, n = xs.length := ⟨_, rfl⟩
    have HR : Hid (∀ j, j < n → ∃ p q o r, a = some ⟨p, q, none⟩ ∧ b = some ⟨o, r, none⟩ ∧ w.cell? ⟨p, q + j, none⟩ = some (.int .u8 (xs.getD j 0)) ∧ w.cell? ⟨o, r + j, none⟩ = some (.int .u8 (ys.getD j 0))) := fun j hj => by
      rcases a4 with h | ⟨_, p, q, rfl, _, _, c1, _⟩
      · omega
      · rcases b4 with h | ⟨_, o, r, rfl, _, _, c2, _⟩
        · omega
        · exact ⟨p, q, o, r, rfl, rfl, c1 j (by omega), c2 j (by omega)⟩
    have HB : Hid (∀ j, dif xs ys j < 256) := dif_lt hx hy
    have HX : Hid (Pl.Byt xs) := hx
    have HY : Hid (Pl.Byt ys) := hy
    have en := HE.out n hn
    rw [← hn] at hm a1
    rw [← hl, ← hn] at hm2 b1
    rw [← hl, ← hn]
    have EN : Hid ((((dif xs ys n : Nat) : Int) == 0) = (xs == ys)) := en
    clear hn hl HE a2 a3 a4 b2 b3 b4 hx hy en
    go_enter Tryz.func94, Tryz.ntmps94
    go_wp2
    go_loopw [5, 14] (fun d q wr => ∃ j m : Nat, j ≤ n ∧ q = .int .i64 j ∧ d = .int .u8 ((dif xs ys j : Nat) : Int) ∧ wr = w.drewN m) (fun _ q _ => n - (intOf q).toNat)
    case atStart => exact ⟨0, 0, by omega, rfl, rfl, rfl⟩
    case round =>
      obtain ⟨j, m, hj, rfl, rfl, rfl⟩ := hrel
      by_cases hlt : j < n
      · obtain ⟨p, q, o, r, rfl, rfl, c1, c2⟩ := HR.out j hlt
        have lt2 : (j : Int) < (n : Int) := by omega
        have x1 := xb_bits (xs.getD j 0) (ys.getD j 0) (HX.out j).1 (HX.out j).2 (HY.out j).1 (HY.out j).2
        have x2 := xb_byte (xs.getD j 0) (ys.getD j 0) (HX.out j).1 (HX.out j).2 (HY.out j).1 (HY.out j).2
        have o1 : bits .or .u8 ((dif xs ys j : Nat) : Int) (xb (xs.getD j 0) (ys.getD j 0)) = ((dif xs ys (j + 1) : Nat) : Int) := u8_or_nat _ _ (HB.out j) (by unfold xb at x2; omega)
        generalize xb (xs.getD j 0) (ys.getD j 0) = x at *
        generalize xs.getD j 0 = y at *
        generalize ys.getD j 0 = z at *
        generalize dif xs ys j = d0 at *
        obtain ⟨d1, hd1⟩ : ∃ d1, d1 = dif xs ys (j + 1) := ⟨_, rfl⟩
        have HD1 : Hid (d1 = dif xs ys (j + 1)) := hd1
        rw [← hd1] at o1
        clear hd1 x2
        go_wp2_with fail
        go_quiet (fail)
        go_wp2
        exact ⟨⟨j + 1, _, by omega, by go_num, by rw [HD1.out], rfl⟩, by simp [intOf]; omega⟩
      · obtain rfl : j = n := by omega
        generalize dif xs ys j = d0 at *
        have e1 := EN.out
        cases hR : (xs == ys) with
        | true =>
          rw [hR] at e1
          obtain rfl : d0 = 0 := by simpa using e1
          have HRR : Hid ((xs == ys) = true) := hR
          clear EN HR HB hlt hR e1
          go_wp2
          go_ret
          exact ⟨by rw [HRR.out]; rfl, ⟨rfl, rfl, rfl, Nat.le_refl _, fun _ _ => rfl⟩⟩
        | false =>
          rw [hR] at e1
          have e2 : ¬ d0 = 0 := by simpa using e1
          have HRR : Hid ((xs == ys) = false) := hR
          clear EN HR HB hlt hR
          go_wp2
          go_ret
          exact ⟨by rw [HRR.out]; rfl, ⟨rfl, rfl, rfl, Nat.le_refl _, fun _ _ => rfl⟩⟩
  · have hne : (xs == ys) = false := by simp; intro h; exact hl (by rw [h])
    rw [hne]
    have n1 : ¬ (xs.length : Int) = (ys.length : Int) := by omega
    have n2 : ((xs.length : Int) != (ys.length : Int)) = true := by simp; omega
    clear hx hy a1 a2 a3 a4 b1 b2 b3 b4 hl hne
    generalize xs.length = n at *
    generalize ys.length = m at *
    go_enter Tryz.func94, Tryz.ntmps94
    go_wp2
    go_ret
    exact ⟨rfl, Below.refl _ _⟩
end Go.Proofs.YtiollhmbdhepkaaGreatDoor.Mc
