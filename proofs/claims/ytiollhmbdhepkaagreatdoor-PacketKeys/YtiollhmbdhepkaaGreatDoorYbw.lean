/-
  What the document's pad answers; an append in a region that draws its order.
  What the document's Of, Tag, Seal, Open and Label answer; nothing that was there is changed.
  'append' onto a slice without room: nothing that was there is changed.
-/
import Derived.Test.YtiollhmbdhepkaaGreatDoorYbs
import Derived.Test.YtiollhmbdhepkaaGreatDoorYbv
namespace Go.Proofs.YtiollhmbdhepkaaGreatDoor.Mc
open Go.Proofs.YtiollhmbdhepkaaGreatDoor.Sh Go.Proofs.YtiollhmbdhepkaaGreatDoor.Fi
set_option maxRecDepth 100000
open Go.RowKit

theorem wp_append_sl {w : World} {o : Oper} {a : Act} {KK : Act → World → Prop} {Q : Exit → Act → World → Prop} (s x : Operand)
    (ho : o.op = .call { callee := .builtin .append, args := #[s, x], argTypes := #[34, 34] })
    (base : Nat) (v : Value) (n : Nat) (xs : List Value) (hs : a.eval s = v) (hown : w.ownsRow base 5 1 v n xs)
    (src : Value) (Z : List Int) (hx : a.eval x = src) (hsl : Sl w src Z) (hbig : n + Z.length ≤ 200000000000000) (hbase : base ≤ w.heap.size)
    (h : ∀ v' w', w'.ownsRow base 5 1 v' (n + Z.length) (xs ++ Z.map (Value.int .u8)) → w.grownBy w' v.ownBlock → KK (a.put o.dst v') w') : o.wp Tryz.prog a w KK Q := by
  obtain ⟨i0, hi, hz0, hz1, hz2⟩ := info_parts info5'
  obtain ⟨ad, cap, rfl, h1, h2, h3, h4⟩ := hsl
  cases ad with
  | none =>
    obtain rfl := h3 rfl
    obtain rfl : Z = [] := List.length_eq_zero_iff.1 (by omega)
    have hrun := run_append_owned_none (P := Tryz.prog) (w := w) base 34 o.type 5 i0 1 Tryz.underlying34 hi v n xs hown
    have hx' : a.eval x = .slice none 0 0 := hx
    unfold Oper.wp
    simp [execOp, ho, resolve, invoke, builtin, hs, hx', hrun, Result.andThen]
    exact h v w (by simpa using hown) ⟨rfl, rfl, rfl, Nat.le_refl _, fun _ _ _ => rfl⟩
  | some y =>
    exact wp_append_own_wide w s x 34 ho base 5 i0 (.int .u8 0) 1 1 Tryz.underlying34 hi hz0 hz1 hz2 rfl (by decide) v n xs hs hown y Z.length cap (Z.map (Value.int .u8)) hx (by rw [List.length_map, Nat.mul_one]) (news_row h4) (ints_one Z) (by unfold maxLen; omega) (by omega) hbase
      (fun v' w' ho' hg _ => h v' w' ho' hg)

theorem own_row64 {w : World} {base g : Nat} {xs : List Int} (h : w.heap[g]? = some (.cells (u8s xs) 5 (0, 0))) (hl : xs.length = 64) (hb : base ≤ g) : w.ownsRow base 5 1 (.slice (some ⟨g, 0, none⟩) 64 64) 64 (xs.map (Value.int .u8)) := by
  refine ⟨by rw [List.length_map, hl], .inr ⟨g, 64, u8s xs, rfl, hb, h, Nat.le_refl _, by unfold maxLen; omega, by rw [u8s_size, hl], ?_⟩⟩
  unfold u8s
  rw [List.toList_toArray, List.take_of_length_le (by rw [List.length_map, hl]; omega)]

set_option maxHeartbeats 4000000 in
set_option maxRecDepth 100000 in
theorem rpad_any (v : Value) (K : List Int) (m : Int) (w : World) (sl : Sl w v K) (hk : K.length ≤ 100000) (h0 : 0 ≤ m) (h1 : m < 256) :
    Calls Tryz.prog 115 #[v, .int .u8 m] w fun e w' => ∃ g, e = .returned (.slice (some ⟨g, 0, none⟩) 64 64) ∧ w'.ownsRow w.heap.size 5 1 (.slice (some ⟨g, 0, none⟩) 64 64) 64 ((msk (key0 K) m).map (Value.int .u8)) ∧ Below w.heap.size w w' := by
  have c23 := rof_any v K w sl hk
  have HSL : Hid (∀ W, Below w.heap.size w W → Sl W v K) := fun W h => sl.kept h
  have HI3 : Hid ((Tryz.prog.info? 47).map (·.size) = some (u8s (Pl.sha K)).size) := by unfold Hid; rw [u8s_size, sha_len]; exact size26
  have HO3 : Hid ((u8s (List.replicate 32 0)).size = (u8s (Pl.sha K)).size) := by unfold Hid; rw [u8s_size, u8s_size, sha_len]; simp
  have HKB : Hid (Pl.Byt (key0 K)) := key0_byt sl.bytes
  have HK64 : Hid ((key0 K).length ≤ 64) := key0_len K
  have HM : Hid ((msk (key0 K) m).length = 64) := msk_len _ _
  have HMZ : Hid ((msk (key0 K) m).length = (List.replicate 64 (0 : Int)).length) := by unfold Hid; rw [msk_len]; simp
  have HG : Hid (∀ i, i < 64 → (msk (key0 K) m).getD i 0 = xb ((key0 K).getD i 0) m) := fun i hi => msk_get _ _ _ hi
  obtain ⟨M, hM⟩ : ∃ M, M = msk (key0 K) m := ⟨_, rfl⟩
  rw [← hM] at HM HMZ HG ⊢
  clear hM
  obtain ⟨Z, hZ⟩ : ∃ Z, Z = List.replicate 64 (0 : Int) := ⟨_, rfl⟩
  have HZ : Hid (Z = List.replicate 64 (0 : Int)) := hZ
  rw [← hZ] at HMZ
  clear hZ
  obtain ⟨av, cv, rfl, -⟩ := sl
  obtain ⟨n, hn⟩ : ∃ n, n = K.length := ⟨_, rfl⟩
  have HN : Hid (n = K.length) := hn
  rw [← hn] at c23 HSL hk ⊢
  clear hn
  by_cases h64 : 64 < n
  · have hk0 : Hid (key0 K = Pl.sha K) := by unfold Hid key0; rw [if_pos (by rw [← HN.out]; exact h64)]
    have gt1 : (n : Int) > 64 := by omega
    go_enter Tryz.func115, Tryz.ntmps115
    go_wp2_with fail
    refine c23.mono ?_
    rintro e w1 ⟨rfl, b1⟩
    clear c23
    go_wp2_with (refine wpList_store_row rfl 47 _ _ rfl w1.heap.size (u8s (Pl.sha K)) rfl rfl 47 _ (heap_alloc_new _ _) HI3.out HO3.out (u8s_one _) ?_; rw [World.setRow_alloc_new]; obtain ⟨w3, hw3⟩ : ∃ w3, w3 = w1.alloc (.cells (u8s (Pl.sha K)) 47) := ⟨_, rfl⟩; rw [← hw3]; have HW3 : Hid (w3 = w1.alloc (.cells (u8s (Pl.sha K)) 47)) := hw3; clear hw3; have mk := mk64 w3; obtain ⟨G, hG⟩ : ∃ G, G = w3.heap.size := ⟨_, rfl⟩; obtain ⟨w5, hw5⟩ : ∃ w5, w5 = w3.alloc (.cells (u8s (List.replicate 64 0)) 5) := ⟨_, rfl⟩; have HW5 : Hid (w5 = w3.alloc (.cells (u8s (List.replicate 64 0)) 5)) := hw5; have HGG : Hid (G = w3.heap.size) := hG; rw [← hw5, ← hG] at mk; clear hw5 hG)
    have HB3 : Hid (Below w.heap.size w w3) := by unfold Hid; rw [HW3.out]; exact b1.alloc b1.size _
    have SK : Hid (∀ W, Below w3.heap.size w3 W → Sl W (.slice (some ⟨w1.heap.size, 0, none⟩) 32 32) (key0 K)) := fun W hW => Sl.kept (by rw [HW3.out, hk0.out]; exact sl_sum (heap_alloc_new _ _) (sha_byt _) (sha_len _)) hW
    have HKN : Hid (32 = (key0 K).length) := by unfold Hid; rw [hk0.out, sha_len]
    have HB5 : Hid (Below G w3 w5) := by unfold Hid; rw [HW5.out, HGG.out]; exact al_below _ _
    have HG5 : Hid (w5.heap[G]? = some (.cells (u8s (List.replicate 64 0)) 5 (0, 0))) := by unfold Hid; rw [HW5.out, HGG.out]; exact heap_alloc_new _ _
    have HWG : Hid (w.heap.size ≤ G) := by unfold Hid; rw [HGG.out]; exact HB3.out.size
    clear b1 HW3 HW5 mk gt1 h64 HN hk0
    go_loopw [7] (fun q wr => ∃ j : Nat, j ≤ 64 ∧ q = .int .i64 j ∧ wr.heap[G]? = some (.cells (u8s (ov M Z j)) 5 (0, 0)) ∧ Below G w3 wr) (fun q _ => 64 - (intOf q).toNat)
    case atStart => exact ⟨0, by omega, rfl, by rw [ov_zero, HZ.out]; exact HG5.out, HB5.out⟩
    case round =>
      clear HG5 HB5
      obtain ⟨j, hj, rfl, g, b⟩ := hrel
      by_cases hlt : j < 64
      · have lt2 : (j : Int) < 64 := by omega
        have hjm : j < M.length := by rw [HM.out]; exact hlt
        have kf := frozen_of_row _ _ j _ _ g
        have kc := (cell_of_row _ _ j _ _ _ g).trans (u8s_get _ j (by rw [ov_len _ _ _ HMZ.out, HM.out]; exact hlt))
        have g1 := heap_setCell_same _ _ j _ _ (.int .u8 m) g
        rw [u8s_set] at g1
        have b1 : Below G w3 (wr.setCell ⟨G, j, none⟩ (.int .u8 m)) := b.setCell (Nat.le_refl _) _
        generalize (ov M Z j).getD j 0 = old at *
        by_cases hkn : j < 32
        · have lt3 : (j : Int) < ((32 : Nat) : Int) := by omega
          have kf1 := frozen_of_row _ _ j _ _ g1
          have kc1 := (cell_of_row _ _ j _ _ _ g1).trans (u8s_get _ j (by rw [List.length_set, ov_len _ _ _ HMZ.out, HM.out]; exact hlt))
          have s1 := SK.out _ (by rw [← HGG.out]; exact b1)
          obtain ⟨p, q, hpq, kcell⟩ : ∃ p q, (some ⟨w1.heap.size, 0, none⟩ : Option Addr) = some ⟨p, q, none⟩ ∧ (wr.setCell ⟨G, j, none⟩ (.int .u8 m)).cell? ⟨p, q + j, none⟩ = some (.int .u8 ((key0 K).getD j 0)) := by
            obtain ⟨a', c', e', _, _, _, r⟩ := s1
            rcases r with h | ⟨_, p, q, rfl, _, _, hc, _⟩
            · have := HKN.out; omega
            · simp only [Value.slice.injEq] at e'
              exact ⟨p, q, e'.1, hc j (by have := HKN.out; omega)⟩
          have hpq' := hpq
          simp only [Option.some.injEq, Addr.mk.injEq, and_true] at hpq'
          obtain ⟨rfl, rfl⟩ := hpq'
          clear hpq
          rw [Nat.zero_add] at kcell
          have NS : Hid (((wr.setCell ⟨G, j, none⟩ (.int .u8 m)).setCell ⟨G, j, none⟩ (.int .u8 (xb ((key0 K).getD j 0) m))).heap[G]? = some (.cells (u8s (ov M Z (j + 1))) 5 (0, 0))) := by
            have := heap_setCell_same _ _ j _ _ (.int .u8 (M.getD j 0)) g1
            rw [u8s_set, List.set_set, ov_set _ _ _ HMZ.out hjm, HG.out j hlt] at this
            exact this
          have NB : Hid (Below G w3 ((wr.setCell ⟨G, j, none⟩ (.int .u8 m)).setCell ⟨G, j, none⟩ (.int .u8 (xb ((key0 K).getD j 0) m)))) := b1.setCell (Nat.le_refl _) _
          have x1 := xb_bits ((key0 K).getD j 0) m (HKB.out j).1 (HKB.out j).2 h0 h1
          generalize xb ((key0 K).getD j 0) m = y at *
          generalize (key0 K).getD j 0 = z at *
          generalize ((ov M Z j).set j m).getD j 0 = old1 at *
          clear g b g1 b1 s1 hjm
          go_wp2
          go_roundw
          case rel => exact ⟨j + 1, by omega, by go_num, NS.out, NB.out⟩
          case measure => simp [intOf]; omega
        · have lt3 : ¬ (j : Int) < ((32 : Nat) : Int) := by omega
          have NS : Hid ((wr.setCell ⟨G, j, none⟩ (.int .u8 m)).heap[G]? = some (.cells (u8s (ov M Z (j + 1))) 5 (0, 0))) := by
            have e : M.getD j 0 = m := by
              rw [HG.out j hlt]
              have : (key0 K).getD j 0 = 0 := by rw [List.getD, List.getElem?_eq_none (by have := HKN.out; omega)]; rfl
              rw [this, xb_zero _ h0]
            have h2 := g1
            rw [← e, ov_set _ _ _ HMZ.out hjm, e] at h2
            exact h2
          have NB : Hid (Below G w3 (wr.setCell ⟨G, j, none⟩ (.int .u8 m))) := b1
          clear g b g1 b1 hjm
          go_wp2
          go_roundw
          case rel => exact ⟨j + 1, by omega, by go_num, NS.out, NB.out⟩
          case measure => simp [intOf]; omega
      · obtain rfl : j = 64 := by omega
        have e : ov M Z 64 = M := by have := ov_all M Z HMZ.out; rwa [HM.out] at this
        rw [e] at g
        have HO : Hid (wr.ownsRow w.heap.size 5 1 (.slice (some ⟨G, 0, none⟩) 64 64) 64 (M.map (Value.int .u8))) := own_row64 g HM.out HWG.out
        have HE : Hid (Below w.heap.size w wr) := HB3.out.trans (b.mono HWG.out)
        clear g b e
        go_wp2
        go_ret
        exact ⟨_, rfl, HO.out, HE.out⟩
  · have hk0 : Hid (key0 K = K) := by unfold Hid key0; rw [if_neg (by rw [← HN.out]; exact h64)]
    have gt1 : ¬ (n : Int) > 64 := by omega
    obtain ⟨w3, hw3⟩ : ∃ w3, w3 = w := ⟨_, rfl⟩
    have HB3 : Hid (Below w.heap.size w w3) := by unfold Hid; rw [hw3]; exact Below.refl _ _
    have SK : Hid (∀ W, Below w3.heap.size w3 W → Sl W (.slice av n cv) (key0 K)) := fun W hW => by rw [hk0.out]; rw [hw3] at hW; exact HSL.out W hW
    have mk := mk64 w3
    obtain ⟨G, hG⟩ : ∃ G, G = w3.heap.size := ⟨_, rfl⟩
    obtain ⟨w5, hw5⟩ : ∃ w5, w5 = w3.alloc (.cells (u8s (List.replicate 64 0)) 5) := ⟨_, rfl⟩
    have HW5 : Hid (w5 = w3.alloc (.cells (u8s (List.replicate 64 0)) 5)) := hw5
    have HGG : Hid (G = w3.heap.size) := hG
    rw [← hw5, ← hG] at mk
    clear hw5 hG
    rw [hw3] at mk
    have HB5 : Hid (Below G w3 w5) := by unfold Hid; rw [HW5.out, HGG.out]; exact al_below _ _
    have HG5 : Hid (w5.heap[G]? = some (.cells (u8s (List.replicate 64 0)) 5 (0, 0))) := by unfold Hid; rw [HW5.out, HGG.out]; exact heap_alloc_new _ _
    have HWG : Hid (w.heap.size ≤ G) := by unfold Hid; rw [HGG.out]; exact HB3.out.size
    have HKN : Hid (n = (key0 K).length) := by unfold Hid; rw [hk0.out]; exact HN.out
    clear hw3 c23 hk0 HN
    go_enter Tryz.func115, Tryz.ntmps115
    go_wp2_with fail
    clear HW5 mk gt1
    go_loopw [7] (fun q wr => ∃ j : Nat, j ≤ 64 ∧ q = .int .i64 j ∧ wr.heap[G]? = some (.cells (u8s (ov M Z j)) 5 (0, 0)) ∧ Below G w3 wr) (fun q _ => 64 - (intOf q).toNat)
    case atStart => exact ⟨0, by omega, rfl, by rw [ov_zero, HZ.out]; exact HG5.out, HB5.out⟩
    case round =>
      clear HG5 HB5
      obtain ⟨j, hj, rfl, g, b⟩ := hrel
      by_cases hlt : j < 64
      · have lt2 : (j : Int) < 64 := by omega
        have hjm : j < M.length := by rw [HM.out]; exact hlt
        have kf := frozen_of_row _ _ j _ _ g
        have kc := (cell_of_row _ _ j _ _ _ g).trans (u8s_get _ j (by rw [ov_len _ _ _ HMZ.out, HM.out]; exact hlt))
        have g1 := heap_setCell_same _ _ j _ _ (.int .u8 m) g
        rw [u8s_set] at g1
        have b1 : Below G w3 (wr.setCell ⟨G, j, none⟩ (.int .u8 m)) := b.setCell (Nat.le_refl _) _
        generalize (ov M Z j).getD j 0 = old at *
        by_cases hkn : j < n
        · have lt3 : (j : Int) < ((n : Nat) : Int) := by omega
          have kf1 := frozen_of_row _ _ j _ _ g1
          have kc1 := (cell_of_row _ _ j _ _ _ g1).trans (u8s_get _ j (by rw [List.length_set, ov_len _ _ _ HMZ.out, HM.out]; exact hlt))
          have s1 := SK.out _ (by rw [← HGG.out]; exact b1)
          obtain ⟨p, q, hpq, kcell⟩ : ∃ p q, av = some ⟨p, q, none⟩ ∧ (wr.setCell ⟨G, j, none⟩ (.int .u8 m)).cell? ⟨p, q + j, none⟩ = some (.int .u8 ((key0 K).getD j 0)) := by
            obtain ⟨a', c', e', _, _, _, r⟩ := s1
            rcases r with h | ⟨_, p, q, rfl, _, _, hc, _⟩
            · have := HKN.out; omega
            · simp only [Value.slice.injEq] at e'
              exact ⟨p, q, e'.1, hc j (by have := HKN.out; omega)⟩
          have hpq' := hpq
          subst hpq'
          clear hpq
          have NS : Hid (((wr.setCell ⟨G, j, none⟩ (.int .u8 m)).setCell ⟨G, j, none⟩ (.int .u8 (xb ((key0 K).getD j 0) m))).heap[G]? = some (.cells (u8s (ov M Z (j + 1))) 5 (0, 0))) := by
            have := heap_setCell_same _ _ j _ _ (.int .u8 (M.getD j 0)) g1
            rw [u8s_set, List.set_set, ov_set _ _ _ HMZ.out hjm, HG.out j hlt] at this
            exact this
          have NB : Hid (Below G w3 ((wr.setCell ⟨G, j, none⟩ (.int .u8 m)).setCell ⟨G, j, none⟩ (.int .u8 (xb ((key0 K).getD j 0) m)))) := b1.setCell (Nat.le_refl _) _
          have x1 := xb_bits ((key0 K).getD j 0) m (HKB.out j).1 (HKB.out j).2 h0 h1
          generalize xb ((key0 K).getD j 0) m = y at *
          generalize (key0 K).getD j 0 = z at *
          generalize ((ov M Z j).set j m).getD j 0 = old1 at *
          clear g b g1 b1 s1 hjm
          go_wp2
          go_roundw
          case rel => exact ⟨j + 1, by omega, by go_num, NS.out, NB.out⟩
          case measure => simp [intOf]; omega
        · have lt3 : ¬ (j : Int) < ((n : Nat) : Int) := by omega
          have NS : Hid ((wr.setCell ⟨G, j, none⟩ (.int .u8 m)).heap[G]? = some (.cells (u8s (ov M Z (j + 1))) 5 (0, 0))) := by
            have e : M.getD j 0 = m := by
              rw [HG.out j hlt]
              have : (key0 K).getD j 0 = 0 := by rw [List.getD, List.getElem?_eq_none (by have := HKN.out; omega)]; rfl
              rw [this, xb_zero _ h0]
            have h2 := g1
            rw [← e, ov_set _ _ _ HMZ.out hjm, e] at h2
            exact h2
          have NB : Hid (Below G w3 (wr.setCell ⟨G, j, none⟩ (.int .u8 m))) := b1
          clear g b g1 b1 hjm
          go_wp2
          go_roundw
          case rel => exact ⟨j + 1, by omega, by go_num, NS.out, NB.out⟩
          case measure => simp [intOf]; omega
      · obtain rfl : j = 64 := by omega
        have e : ov M Z 64 = M := by have := ov_all M Z HMZ.out; rwa [HM.out] at this
        rw [e] at g
        have HO : Hid (wr.ownsRow w.heap.size 5 1 (.slice (some ⟨G, 0, none⟩) 64 64) 64 (M.map (Value.int .u8))) := own_row64 g HM.out HWG.out
        have HE : Hid (Below w.heap.size w wr) := HB3.out.trans (b.mono HWG.out)
        clear g b e
        go_wp2
        go_ret
        exact ⟨_, rfl, HO.out, HE.out⟩
end Go.Proofs.YtiollhmbdhepkaaGreatDoor.Mc
namespace Go.Proofs.YtiollhmbdhepkaaGreatDoor.Mc
open Go.Proofs.YtiollhmbdhepkaaGreatDoor.Sh Go.Proofs.YtiollhmbdhepkaaGreatDoor.Fi
set_option maxRecDepth 100000
open Go.RowKit

set_option maxHeartbeats 4000000 in
set_option maxRecDepth 100000 in
theorem rmof_any (v b : Value) (K X : List Int) (w : World) (sl : Sl w v K) (sb : Sl w b X) (hk : K.length ≤ 99000) (hX : X.length ≤ 99000) :
    Calls Tryz.prog 87 #[v, b] w fun e w' => e = .returned (.agg (u8s (hmac K X))) ∧ Below w.heap.size w w' := by
  obtain ⟨wa, hwa⟩ : ∃ wa, wa = w.alloc (.cells (u8s (List.replicate 32 0)) 47) := ⟨_, rfl⟩
  have ba : Below w.heap.size w wa := by rw [hwa]; exact al_below _ _
  have g0 : wa.heap[w.heap.size]? = some (.cells (u8s (List.replicate 32 0)) 47 (0, 0)) := by rw [hwa]; exact heap_alloc_new _ _
  have hlt : w.heap.size < wa.heap.size := by rw [hwa]; simp
  have hwz : w.alloc (.cells #[.int .u8 0, .int .u8 0, .int .u8 0, .int .u8 0, .int .u8 0, .int .u8 0, .int .u8 0, .int .u8 0, .int .u8 0, .int .u8 0, .int .u8 0, .int .u8 0, .int .u8 0, .int .u8 0, .int .u8 0, .int .u8 0, .int .u8 0, .int .u8 0, .int .u8 0, .int .u8 0, .int .u8 0, .int .u8 0, .int .u8 0, .int .u8 0, .int .u8 0, .int .u8 0, .int .u8 0, .int .u8 0, .int .u8 0, .int .u8 0, .int .u8 0, .int .u8 0] 47) = wa := hwa.symm
  have HSA : Hid (∀ W, Below wa.heap.size wa W → Sl W v K) := fun W h => (sl.kept ba).kept h
  have HSB : Hid (∀ W, Below wa.heap.size wa W → Sl W b X) := fun W h => (sb.kept ba).kept h
  have HGA : Hid (∀ W, Below wa.heap.size wa W → W.heap[w.heap.size]? = some (.cells (u8s (List.replicate 32 0)) 47 (0, 0))) := fun W h => (h.block _ hlt).trans g0
  have HBA : Hid (∀ W, Below wa.heap.size wa W → Below w.heap.size w W) := fun W h => ba.trans (h.mono ba.size)
  have HKB : Hid (Pl.Byt K) := sl.bytes
  have HXB : Hid (Pl.Byt X) := sb.bytes
  have HI1 : Hid ((Tryz.prog.info? 47).map (·.size) = some (u8s (hin K X)).size) := by unfold Hid; rw [u8s_size, hin_len]; exact size26
  have HO1 : Hid ((u8s (List.replicate 32 0)).size = (u8s (hin K X)).size) := by unfold Hid; rw [u8s_size, u8s_size, hin_len]; simp
  have HI2 : Hid ((Tryz.prog.info? 47).map (·.size) = some (u8s (hmac K X)).size) := by unfold Hid; rw [u8s_size, hmac_len]; exact size26
  have HO2 : Hid ((u8s (List.replicate 32 0)).size = (u8s (hmac K X)).size) := by unfold Hid; rw [u8s_size, u8s_size, hmac_len]; simp
  have HXL : Hid (X.length ≤ 99000) := hX
  have HKL : Hid (K.length ≤ 99000) := hk
  obtain ⟨av, cv, rfl, -⟩ := sl
  obtain ⟨ab, cb, rfl, -⟩ := sb
  have c24 := rpad_any _ K 54 wa (HSA.out _ (Below.refl _ _)) (by omega) (by omega) (by omega)
  obtain ⟨n, hn⟩ : ∃ n, n = K.length := ⟨_, rfl⟩
  rw [← hn] at HSA c24 ⊢
  obtain ⟨xl, hxl⟩ : ∃ xl, xl = X.length := ⟨_, rfl⟩
  rw [← hxl] at HSB ⊢
  clear hwa ba g0 hn hxl hk hX
  go_enter Tryz.func87, Tryz.ntmps87
  go_wp2_with fail
  refine c24.mono ?_
  rintro e w1 ⟨g1, rfl, own1, b1⟩
  have hob := own_base own1
  have hsz := b1.size
  have sX := HSB.out w1 b1
  have HBB1 : Hid (Below wa.heap.size wa w1) := b1
  clear c24 b1
  go_wp2_with (at_builtin; refine wpList_append_sl rfl _ _ rfl wa.heap.size _ _ _ rfl own1 _ X rfl sX (by have := HXL.out; omega) hsz (Hid.out ?_))
  unfold Hid
  intro v2 w2 own2 hg2
  have b2 : Below wa.heap.size wa w2 := HBB1.out.grown hg2 hsz hob
  have HB2 : Hid (Below wa.heap.size wa w2) := b2
  rw [← List.map_append] at own2
  have own2' : w2.ownsRow wa.heap.size 5 1 v2 (msk (key0 K) 54 ++ X).length ((msk (key0 K) 54 ++ X).map (Value.int .u8)) := by rw [List.length_append, msk_len]; exact own2
  have s2 := sl_owned own2' (byt_app (msk_byt (key0_byt HKB.out) (by omega) (by omega)) HXB.out)
  have c23 := rof_any v2 _ w2 s2 (by rw [List.length_append, msk_len]; have := HXL.out; omega)
  change Calls Tryz.prog 114 #[v2] w2 fun e w' => e = .returned (.agg (u8s (hin K X))) ∧ Below w2.heap.size w2 w' at c23
  obtain ⟨a2, q2, rfl, -⟩ := s2
  clear own1 own2 own2' hg2 b2 hob hsz sX
  generalize (msk (key0 K) 54 ++ X).length = l2 at *
  go_wp2_with fail
  refine c23.mono ?_
  rintro e w5 ⟨rfl, b5⟩
  have D5 : Hid (Below wa.heap.size wa w5) := HB2.out.trans (b5.mono HB2.out.size)
  clear c23 b5
  go_wp2_with (refine wpList_store_row rfl 47 _ _ rfl w5.heap.size (u8s (hin K X)) rfl rfl 47 _ (heap_alloc_new _ _) HI1.out HO1.out (u8s_one _) ?_; rw [World.setRow_alloc_new]; obtain ⟨w7, hw7⟩ : ∃ w7, w7 = w5.alloc (.cells (u8s (hin K X)) 47) := ⟨_, rfl⟩; rw [← hw7]; have HW7 : Hid (w7 = w5.alloc (.cells (u8s (hin K X)) 47)) := hw7; clear hw7)
  have E7 : Hid (Below wa.heap.size wa w7) := by unfold Hid; rw [HW7.out]; exact D5.out.alloc D5.out.size _
  have FK : Hid (∀ x, From w7 x → Sl x (.slice av n cv) K) := fun x hx => HSA.out x (E7.out.trans (Below.mono hx E7.out.size))
  have FI : Hid (∀ x, From w7 x → Sl x (.slice (some ⟨w5.heap.size, 0, none⟩) 32 32) (hin K X)) := fun x hx => Sl.kept (by rw [HW7.out]; exact sl_sum (heap_alloc_new _ _) (sha_byt _) (sha_len _)) hx
  have FG : Hid (∀ x, From w7 x → x.heap[w.heap.size]? = some (.cells (u8s (List.replicate 32 0)) 47 (0, 0))) := fun x hx => HGA.out x (E7.out.trans (Below.mono hx E7.out.size))
  have FB : Hid (∀ x, From w7 x → Below w.heap.size w x) := fun x hx => HBA.out x (E7.out.trans (Below.mono hx E7.out.size))
  clear HSA HSB HGA HBA HB2 HBB1 D5 E7 HW7 HI1 HO1
  refine wp_region_held_drew (S := fun _ => True) (by kernel_rfl) trivial (fun _ => ?_)
  refine wpAnyH_name (fun u0 hu0 => ?_)
  have bu0 : Below w7.heap.size w7 u0 := by rw [hu0.out]; exact (Below.refl _ _).drew
  replace FK := on FK bu0
  replace FI := on FI bu0
  replace FG := on FG bu0
  replace FB := on FB bu0
  have FG0 := FG
  have FB0 := FB
  refine wpAnyH_take (i := 0) (oi := { dst := some 11, op := Op.move (Operand.tmp 0), type := 34, pos := "ref.go:36", after := #[], guard := none }) (v := ?va1) rfl (by kernel_rfl) (by kernel_rfl) (by kernel_rfl) (fun _ _ _ h => h) (Or.inl ⟨by rfl, ?ya1⟩) trivial ?ra1
  case ya1 => (intro w hSw; go_simp; try with_reducible rfl)
  try simp only [Act.put, List.setIfInBounds_toArray, List.set_cons_zero, List.set_cons_succ]
  refine wpAnyH_take (i := 2) (oi := { dst := some 13, op := Op.slice 47 (Operand.tmp 5) none none none, type := 34, pos := "ref.go:36", after := #[], guard := none }) (v := ?va2) rfl (by kernel_rfl) (by kernel_rfl) (by kernel_rfl) (fun _ _ _ h => h) (Or.inl ⟨by rfl, ?ya2⟩) trivial ?ra2
  case ya2 => (intro w hSw; go_simp; try with_reducible rfl)
  try simp only [Act.put, List.setIfInBounds_toArray, List.set_cons_zero, List.set_cons_succ]
  refine wpAnyH_ready (rs := [1]) (by kernel_rfl) (by simp) ?_
  refine AllReadyH.cons (o := { dst := some 12, op := Op.call { callee := Callee.value (Operand.func 115), args := #[Operand.tmp 11, Operand.const (Value.int IntKind.u8 92)], argTypes := #[34, 5] }, type := 34, pos := "ref.go:36", after := #[{ on := 0, ground := Ground.data }], guard := none }) rfl (fun KK hKK => ?_) ?_
  · go_simp
    refine (rpad_any _ K 92 _ (FK.out _ (Below.refl _ _)) (by have := HKL.out; omega) (by omega) (by omega)).mono ?_
    rintro e u3' ⟨g1', rfl, own1, bu3'⟩
    (try go_wp2_with fail)
    refine hKK.out _ _ trivial (fun _ => ?_)
    clear hKK KK
    try simp only [Act.put, List.setIfInBounds_toArray, List.set_cons_zero, List.set_cons_succ]
    refine wpAnyH_name (fun u3 hu3 => ?_)
    have bu3 : Below u0.heap.size u0 u3 := by rw [hu3.out]; exact (bu3')
    replace FK := on FK bu3
    replace FI := on FI bu3
    replace FG := on FG bu3
    replace FB := on FB bu3
    have O1 : Hid (u3.ownsRow u0.heap.size 5 1 (.slice (some ⟨g1', 0, none⟩) 64 64) 64 ((msk (key0 K) 92).map (Value.int .u8))) := by unfold Hid; rw [hu3.out]; exact own1
    clear own1
    refine wpAnyH_ready (rs := [3]) (by kernel_rfl) (by simp) ?_
    refine AllReadyH.cons (o := { dst := some 14, op := Op.call { callee := Callee.builtin Builtin.append, args := #[Operand.tmp 12, Operand.tmp 13], argTypes := #[34, 34] }, type := 34, pos := "ref.go:36", after := #[{ on := 1, ground := Ground.data }, { on := 2, ground := Ground.data }, { on := 1, ground := Ground.chain }], guard := none }) rfl (fun KK hKK => ?_) ?_
    · rw [if_pos (by rfl)]
      refine wp_append_sl _ _ rfl u0.heap.size _ _ _ rfl O1.out _ (hin K X) rfl (FI.out _ (Below.refl _ _)) (by rw [hin_len]; omega) bu3.size ?_
      intro v3 u4' own3 hg3
      refine hKK.out _ _ trivial (fun _ => ?_)
      clear hKK KK
      try simp only [Act.put, List.setIfInBounds_toArray, List.set_cons_zero, List.set_cons_succ]
      refine wpAnyH_name (fun u4 hu4 => ?_)
      have du4 : Below u0.heap.size u0 u4 := by rw [hu4.out]; exact bu3.grown hg3 bu3.size (own_base O1.out)
      replace FG := on FG0 du4
      replace FB := on FB0 du4
      rw [← List.map_append] at own3
      have s3 : Sl u4 v3 (msk (key0 K) 92 ++ hin K X) := by rw [hu4.out]; exact sl_owned (base := u0.heap.size) (n := 64 + (hin K X).length) own3 (byt_app (msk_byt (key0_byt HKB.out) (by omega) (by omega)) (sha_byt _))
      have c23 := rof_any v3 _ u4 s3 (by rw [List.length_append, msk_len, hin_len]; omega)
      change Calls Tryz.prog 114 #[v3] u4 fun e w' => e = .returned (.agg (u8s (hmac K X))) ∧ Below u4.heap.size u4 w' at c23
      clear own3 hg3 s3
      refine wpAnyH_ready (rs := [4]) (by kernel_rfl) (by simp) ?_
      refine AllReadyH.cons (o := { dst := some 15, op := Op.call { callee := Callee.value (Operand.func 114), args := #[Operand.tmp 14], argTypes := #[34] }, type := 47, pos := "ref.go:36", after := #[{ on := 3, ground := Ground.data }, { on := 3, ground := Ground.chain }], guard := none }) rfl (fun KK hKK => ?_) ?_
      · go_simp
        refine c23.mono ?_
        rintro e u5' ⟨rfl, bu5'⟩
        (try go_wp2_with fail)
        refine hKK.out _ _ trivial (fun _ => ?_)
        clear hKK KK
        try simp only [Act.put, List.setIfInBounds_toArray, List.set_cons_zero, List.set_cons_succ]
        refine wpAnyH_name (fun u5 hu5 => ?_)
        have bu5 : Below u4.heap.size u4 u5 := by rw [hu5.out]; exact bu5'
        replace FG := on FG bu5
        replace FB := on FB bu5
        refine wpAnyH_ready (rs := [5]) (by kernel_rfl) (by simp) ?_
        refine AllReadyH.cons (o := { dst := none, op := Op.store 47 (Operand.tmp 4) (Operand.tmp 15), type := 0, pos := "ref.go:36", after := #[{ on := 4, ground := Ground.data }, { on := 4, ground := Ground.chain }, { on := 0, ground := Ground.phase }, { on := 1, ground := Ground.phase }, { on := 2, ground := Ground.phase }, { on := 3, ground := Ground.phase }, { on := 4, ground := Ground.phase }], guard := none }) rfl (fun KK hKK => ?_) ?_
        · rw [if_pos (by rfl)]
          refine wp_store_row 47 _ _ rfl w.heap.size (u8s (hmac K X)) rfl rfl 47 _ (FG.out _ (Below.refl _ _)) HI2.out HO2.out (u8s_one _) ?_
          refine hKK.out _ _ trivial (fun _ => ?_)
          clear hKK KK
          try simp only [Act.put]
          refine wpAnyH_name (fun u6 hu6 => ?_)
          refine wpAnyH_done (by kernel_rfl) ?_ _
          rw [hu6.out]
          go_wp2_with fail
          refine bodyPost_ret (v := .agg (u8s (hmac K X))) (results_cell_row rfl _ _ w.heap.size 47 (u8s (hmac K X)) (0, 0) _ rfl (setRow_heap _ _ _ _ _ _ (FG.out _ (Below.refl _ _))) Tryz.underlying47 rfl HI2.out) rfl ⟨rfl, below_setRow (FB.out _ (Below.refl _ _)) (Nat.le_refl _) _⟩
        exact AllReadyH.nil
      exact AllReadyH.nil
    exact AllReadyH.nil
  exact AllReadyH.nil

end Go.Proofs.YtiollhmbdhepkaaGreatDoor.Mc
namespace Go.Proofs.YtiollhmbdhepkaaGreatDoor.Mc
open Go.Proofs.YtiollhmbdhepkaaGreatDoor.Sh Go.Proofs.YtiollhmbdhepkaaGreatDoor.Fi
set_option maxRecDepth 100000
open Go.RowKit

/-- What 'append([]byte{}, Z...)' is: the empty slice itself, or a row of the call's own. -/
def Emp (w : World) (B : Nat) (v : Value) (Z : List Int) : Prop :=
  (Z = [] ∧ ∃ g, v = .slice (some ⟨g, 0, none⟩) 0 0 ∧ w.heap[g]? = some (.cells #[] 5 (0, 0))) ∨ w.ownsRow B 5 1 v Z.length (Z.map (Value.int .u8))
theorem Emp.sl {w : World} {B : Nat} {v : Value} {Z : List Int} (h : Emp w B v Z) (hb : Pl.Byt Z) : Sl w v Z := by
  rcases h with ⟨rfl, g, rfl, _⟩ | h
  · exact ⟨_, 0, rfl, Nat.le_refl _, by simp [maxLen], fun _ => rfl, .inl rfl⟩
  · exact sl_owned h hb
theorem wp_append_emp {w : World} {o : Oper} {a : Act} {KK : Act → World → Prop} {Q : Exit → Act → World → Prop} (s x : Operand)
    (ho : o.op = .call { callee := .builtin .append, args := #[s, x], argTypes := #[34, 34] })
    (g : Nat) (hs : a.eval s = .slice (some ⟨g, 0, none⟩) 0 0) (hg : w.heap[g]? = some (.cells #[] 5 (0, 0)))
    (src : Value) (Z : List Int) (hx : a.eval x = src) (hsl : Sl w src Z) (hbig : Z.length ≤ 200000000000000)
    (h : ∀ v' w', Emp w' w.heap.size v' Z → Below w.heap.size w w' → KK (a.put o.dst v') w') : o.wp Tryz.prog a w KK Q := by
  obtain ⟨i0, hi, hz0, hz1, hz2⟩ := info_parts info5'
  have own : w.ownsRow 0 5 1 (.slice (some ⟨g, 0, none⟩) 0 0) 0 [] := ⟨rfl, .inr ⟨g, 0, #[], rfl, Nat.zero_le _, hg, Nat.le_refl _, by simp [maxLen], rfl, rfl⟩⟩
  by_cases hZ : Z = []
  · subst hZ
    obtain ⟨ad, cap, rfl, h1, h2, h3, h4⟩ := hsl
    have fin : ∀ w', w'.heap[g]? = some (.cells #[] 5 (0, 0)) → Below w.heap.size w w' → KK (a.put o.dst (.slice (some ⟨g, 0, none⟩) 0 0)) w' := fun w' hg' hb => h _ w' (.inl ⟨rfl, g, rfl, hg'⟩) hb
    cases ad with
    | none =>
      obtain rfl := h3 rfl
      have hrun := run_append_owned_none (P := Tryz.prog) (w := w) 0 34 o.type 5 i0 1 Tryz.underlying34 hi _ 0 [] own
      have hx' : a.eval x = .slice none 0 0 := hx
      unfold Oper.wp
      simp [execOp, ho, resolve, invoke, builtin, hs, hx', hrun, Result.andThen]
      exact fin w hg (Below.refl _ _)
    | some y =>
      have hrun := run_append_room (P := Tryz.prog) w 34 o.type 5 i0 Tryz.underlying34 hi g 0 0 #[] hg y 0 cap [] (by simp) (fun j u hj => by simp at hj) (fun u hu => by simp at hu) (Nat.le_refl _) (by simp)
      have hx' : a.eval x = .slice (some y) 0 cap := hx
      unfold Oper.wp execOp
      simp only [ho, resolve, invoke, builtin, Sem.run_bind, Sem.run_pure, Result.andThen_ok, List.map_toArray, List.map_cons, List.map_nil, hs, hx', hrun]
      refine fin _ ?_ ⟨rfl, rfl, rfl, by simp, fun k hk => ?_⟩
      · simpa using setRow_heap w g #[] #[] 5 _ hg
      · by_cases hkg : k = g
        · subst hkg
          rw [hg]
          simpa using setRow_heap w k #[] #[] 5 _ hg
        · exact setRow_other w g k _ hkg
  · have hzl : 0 < Z.length := List.length_pos_iff.2 hZ
    obtain ⟨ad, cap, rfl, h1, h2, h3, h4⟩ := hsl
    cases ad with
    | none => have := h3 rfl; omega
    | some y =>
      have hr := run_append_grow (P := Tryz.prog) w 34 o.type 5 i0 (.int .u8 0) Tryz.underlying34 hi hz0 ⟨g, 0, none⟩ 0 0 [] (by simp) (fun j u hj => by simp at hj) y Z.length cap (Z.map (Value.int .u8)) (by rw [List.length_map, hz1, Nat.mul_one]) (news_row h4) (by omega) (by omega) (growslice_fits_wide (by omega) (by rw [hz2]; omega))
      have hge := grownCap_ge w (0 + Z.length) 0 5
      have hcm : grownCap w (0 + Z.length) 0 5 ≤ maxLen := grownCap_le_maxLen w (0 + Z.length) 0 5 (by unfold maxLen; omega)
      unfold Oper.wp execOp
      simp only [ho, resolve, invoke, builtin, Sem.run_bind, Sem.run_pure, Result.andThen_ok, List.map_toArray, List.map_cons, List.map_nil, hs, hx, hr]
      refine h _ _ (.inr ?_) ((Below.refl _ w).drew.alloc (Nat.le_refl _) _)
      refine ⟨by simp, .inr ⟨w.heap.size, _, _, by rw [Nat.zero_add], Nat.le_refl _, heap_alloc_new w.drew _, by rw [Nat.zero_add] at hge; rw [Nat.zero_add]; exact hge, hcm, ?_, ?_⟩⟩
      · simp only [Array.size_append, List.size_toArray, size_zeroCells, List.length_map, List.length_nil]
        show 0 + Z.length + (_ - _) * 1 = _
        omega
      · simp only [Array.toList_append, Nat.mul_one, List.nil_append]
        rw [List.take_left' (by simp)]
end Go.Proofs.YtiollhmbdhepkaaGreatDoor.Mc
