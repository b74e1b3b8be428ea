/-
  What mac.Label answers; nothing that was there is changed.
  What the document's pad answers; an append in a region that draws its order.
-/
import Derived.Test.YtiollhmbdhepkaaGreatDoorZbp
import Derived.Test.YtiollhmbdhepkaaGreatDoorZbw
namespace Go.Proofs.YtiollhmbdhepkaaGreatDoor.Mc
open Go.Proofs.YtiollhmbdhepkaaGreatDoor.Sh Go.Proofs.YtiollhmbdhepkaaGreatDoor.Fi
set_option maxRecDepth 100000
open Go.RowKit

/-- Bytes in a row of the call's own. -/
abbrev Own (w : World) (B : Nat) (v : Value) (X : List Int) : Prop := w.ownsRow B 5 1 v X.length (X.map (Value.int .u8))
/-- A list of the first j texts, the list and each of them in a row of the call's own. -/
def Lst (w : World) (B : Nat) (va : Value) (T : Nat → List Int) (j : Nat) : Prop :=
  ∃ VA : List Value, w.ownsRow B 34 1 va j VA ∧ ∀ i, i < j → ∃ v, VA[i]? = some v ∧ Own w B v (T i)

theorem own_tag {w : World} {B x : Nat} {e : TypeId} {size n : Nat} {v : Value} {xs : List Value} (h : w.ownsRow B e size v n xs) (hx : v.ownBlock = some x) : ∃ cur, w.heap[x]? = some (.cells cur e (0, 0)) := by
  rcases h.2 with ⟨rfl, _⟩ | ⟨g, cap, cur, rfl, _, hh, _⟩
  · cases hx
  · cases hx; exact ⟨cur, hh⟩

theorem own_kept {w w' : World} {B : Nat} {v : Value} {X : List Int} {row : Option Nat} (h : Own w B v X) (hg : w.grownBy w' row) (ht : ∀ x, row = some x → ∃ cur, w.heap[x]? = some (.cells cur 34 (0, 0))) : Own w' B v X := by
  refine World.ownsRow.kept h hg ?_
  rcases hr : row with _ | x
  · rcases hu' : Value.ownBlock _ with _ | y
    · exact .inl rfl
    · exact .inr (by simp)
  · refine .inr fun hb => ?_
    obtain ⟨c1, h1⟩ := own_tag h hb
    obtain ⟨c2, h2⟩ := ht x hr
    rw [h1] at h2
    cases h2

theorem Lst.push {W w' : World} {B : Nat} {va v v' : Value} {T : Nat → List Int} {j : Nat} {VA : List Value} (oa : W.ownsRow B 34 1 va j VA) (ea : ∀ i, i < j → ∃ u, VA[i]? = some u ∧ Own W B u (T i))
    (ov : Own W B v (T j)) (oa' : w'.ownsRow B 34 1 v' (j + 1) (VA ++ [v])) (hg : W.grownBy w' va.ownBlock) : Lst w' B v' T (j + 1) := by
  have hl : VA.length = j := by have := oa.1; simpa using this
  have ht : ∀ x, va.ownBlock = some x → ∃ cur, W.heap[x]? = some (.cells cur 34 (0, 0)) := fun x hx => own_tag oa hx
  refine ⟨_, oa', fun i hi => ?_⟩
  rcases Nat.lt_succ_iff_lt_or_eq.1 hi with h | rfl
  · obtain ⟨u, hu, ho⟩ := ea i h
    exact ⟨u, by rw [List.getElem?_append_left (by omega)]; exact hu, own_kept ho hg ht⟩
  · exact ⟨v, by rw [List.getElem?_append_right (by omega), hl]; simp, own_kept ov hg ht⟩

end Go.Proofs.YtiollhmbdhepkaaGreatDoor.Mc
namespace Go.Proofs.YtiollhmbdhepkaaGreatDoor.Mc
open Go.Proofs.YtiollhmbdhepkaaGreatDoor.Sh Go.Proofs.YtiollhmbdhepkaaGreatDoor.Fi
set_option maxRecDepth 100000
open Go.RowKit

theorem wp_append_sl {w : World} {o : Oper} {a : Act} {KK : Act → World → Prop} {Q : Exit → Act → World → Prop} (s x : Operand)
    (ho : o.op = .call { callee := .builtin .append, args := #[s, x], argTypes := #[34, 34] })
    (base : Nat) (v : Value) (n : Nat) (xs : List Value) (hs : a.eval s = v) (hown : w.ownsRow base 5 1 v n xs)
    (src : Value) (Z : List Int) (hx : a.eval x = src) (hsl : Sl w src Z) (hbig : n + Z.length ≤ 200000000000000) (hbase : base ≤ w.heap.size)
    (h : ∀ v' w', w'.ownsRow base 5 1 v' (n + Z.length) (xs ++ Z.map (Value.int .u8)) → w.grownBy w' v.ownBlock → KK (a.put o.dst v') w') : o.wp Tryz.prog a w KK Q := by
  obtain ⟨i0, hi, hz0, hz1, hz2⟩ := info_parts info5'
  obtain ⟨ad, cap, rfl, h1, h2, h3, h4⟩ := hsl
  cases ad with
  | none =>
    obtain rfl := h3 rfl
    obtain rfl : Z = [] := List.length_eq_zero_iff.1 (by omega)
    have hrun := run_append_owned_none (P := Tryz.prog) (w := w) base 34 o.type 5 i0 1 Tryz.underlying34 hi v n xs hown
    have hx' : a.eval x = .slice none 0 0 := hx
    unfold Oper.wp
    simp [execOp, ho, resolve, invoke, builtin, hs, hx', hrun, Result.andThen]
    exact h v w (by simpa using hown) ⟨rfl, rfl, rfl, Nat.le_refl _, fun _ _ _ => rfl⟩
  | some y =>
    exact wp_append_own_wide w s x 34 ho base 5 i0 (.int .u8 0) 1 1 Tryz.underlying34 hi hz0 hz1 hz2 rfl (by decide) v n xs hs hown y Z.length cap (Z.map (Value.int .u8)) hx (by rw [List.length_map, Nat.mul_one]) (news_row h4) (ints_one Z) (by unfold maxLen; omega) (by omega) hbase
      (fun v' w' ho' hg _ => h v' w' ho' hg)

theorem own_row64 {w : World} {base g : Nat} {xs : List Int} (h : w.heap[g]? = some (.cells (u8s xs) 5 (0, 0))) (hl : xs.length = 64) (hb : base ≤ g) : w.ownsRow base 5 1 (.slice (some ⟨g, 0, none⟩) 64 64) 64 (xs.map (Value.int .u8)) := by
  refine ⟨by rw [List.length_map, hl], .inr ⟨g, 64, u8s xs, rfl, hb, h, Nat.le_refl _, by unfold maxLen; omega, by rw [u8s_size, hl], ?_⟩⟩
  unfold u8s
  rw [List.toList_toArray, List.take_of_length_le (by rw [List.length_map, hl]; omega)]

set_option maxHeartbeats 4000000 in
set_option maxRecDepth 100000 in
theorem rpad_any (v : Value) (K : List Int) (m : Int) (w : World) (sl : Sl w v K) (hk : K.length ≤ 100000) (h0 : 0 ≤ m) (h1 : m < 256) :
    Calls Tryz.prog 115 #[v, .int .u8 m] w fun e w' => ∃ g, e = .returned (.slice (some ⟨g, 0, none⟩) 64 64) ∧ w'.ownsRow w.heap.size 5 1 (.slice (some ⟨g, 0, none⟩) 64 64) 64 ((msk (key0 K) m).map (Value.int .u8)) ∧ Below w.heap.size w w' := by
  have c23 := rof_any v K w sl hk
  have HSL : Hid (∀ W, Below w.heap.size w W → Sl W v K) := fun W h => sl.kept h
  have HI3 : Hid ((Tryz.prog.info? 47).map (·.size) = some (u8s (Pl.sha K)).size) := by unfold Hid; rw [u8s_size, sha_len]; exact size26
  have HO3 : Hid ((u8s (List.replicate 32 0)).size = (u8s (Pl.sha K)).size) := by unfold Hid; rw [u8s_size, u8s_size, sha_len]; simp
  have HKB : Hid (Pl.Byt (key0 K)) := key0_byt sl.bytes
  have HK64 : Hid ((key0 K).length ≤ 64) := key0_len K
  have HM : Hid ((msk (key0 K) m).length = 64) := msk_len _ _
  have HMZ : Hid ((msk (key0 K) m).length = (List.replicate 64 (0 : Int)).length) := by unfold Hid; rw [msk_len]; simp
  have HG : Hid (∀ i, i < 64 → (msk (key0 K) m).getD i 0 = xb ((key0 K).getD i 0) m) := fun i hi => msk_get _ _ _ hi
  obtain ⟨M, hM⟩ : ∃ M, M = msk (key0 K) m := ⟨_, rfl⟩
  rw [← hM] at HM HMZ HG ⊢
  clear hM
  obtain ⟨Z, hZ⟩ : ∃ Z, Z = List.replicate 64 (0 : Int) := ⟨_, rfl⟩
  have HZ : Hid (Z = List.replicate 64 (0 : Int)) := hZ
  rw [← hZ] at HMZ
  clear hZ
  obtain ⟨av, cv, rfl, -⟩ := sl
  obtain ⟨n, hn⟩ : ∃ n, n = K.length := ⟨_, rfl⟩
  have HN : Hid (n = K.length) := hn
  rw [← hn] at c23 HSL hk ⊢
  clear hn
  by_cases h64 : 64 < n
  · have hk0 : Hid (key0 K = Pl.sha K) := by unfold Hid key0; rw [if_pos (by rw [← HN.out]; exact h64)]
    have gt1 : (n : Int) > 64 := by omega
    go_enter Tryz.func115, Tryz.ntmps115
    go_wp2_with fail
    refine c23.mono ?_
    rintro e w1 ⟨rfl, b1⟩
    clear c23
    go_wp2_with (refine wpList_store_row rfl 47 _ _ rfl w1.heap.size (u8s (Pl.sha K)) rfl rfl 47 _ (heap_alloc_new _ _) HI3.out HO3.out (u8s_one _) ?_; rw [World.setRow_alloc_new]; obtain ⟨w3, hw3⟩ : ∃ w3, w3 = w1.alloc (.cells (u8s (Pl.sha K)) 47) := ⟨_, rfl⟩; rw [← hw3]; have HW3 : Hid (w3 = w1.alloc (.cells (u8s (Pl.sha K)) 47)) := hw3; clear hw3; have mk := mk64 w3; obtain ⟨G, hG⟩ : ∃ G, G = w3.heap.size := ⟨_, rfl⟩; obtain ⟨w5, hw5⟩ : ∃ w5, w5 = w3.alloc (.cells (u8s (List.replicate 64 0)) 5) := ⟨_, rfl⟩; have HW5 : Hid (w5 = w3.alloc (.cells (u8s (List.replicate 64 0)) 5)) := hw5; have HGG : Hid (G = w3.heap.size) := hG; rw [← hw5, ← hG] at mk; clear hw5 hG)
    have HB3 : Hid (Below w.heap.size w w3) := by unfold Hid; rw [HW3.out]; exact b1.alloc b1.size _
    have SK : Hid (∀ W, Below w3.heap.size w3 W → Sl W (.slice (some ⟨w1.heap.size, 0, none⟩) 32 32) (key0 K)) := fun W hW => Sl.kept (by rw [HW3.out, hk0.out]; exact sl_sum (heap_alloc_new _ _) (sha_byt _) (sha_len _)) hW
    have HKN : Hid (32 = (key0 K).length) := by unfold Hid; rw [hk0.out, sha_len]
    have HB5 : Hid (Below G w3 w5) := by unfold Hid; rw [HW5.out, HGG.out]; exact al_below _ _
    have HG5 : Hid (w5.heap[G]? = some (.cells (u8s (List.replicate 64 0)) 5 (0, 0))) := by unfold Hid; rw [HW5.out, HGG.out]; exact heap_alloc_new _ _
    have HWG : Hid (w.heap.size ≤ G) := by unfold Hid; rw [HGG.out]; exact HB3.out.size
    clear b1 HW3 HW5 mk gt1 h64 HN hk0
    go_loopw [7] (fun q wr => ∃ j : Nat, j ≤ 64 ∧ q = .int .i64 j ∧ wr.heap[G]? = some (.cells (u8s (ov M Z j)) 5 (0, 0)) ∧ Below G w3 wr) (fun q _ => 64 - (intOf q).toNat)
    case atStart => exact ⟨0, by omega, rfl, by rw [ov_zero, HZ.out]; exact HG5.out, HB5.out⟩
    case round =>
      clear HG5 HB5
      obtain ⟨j, hj, rfl, g, b⟩ := hrel
      by_cases hlt : j < 64
      · have lt2 : (j : Int) < 64 := by omega
        have hjm : j < M.length := by rw [HM.out]; exact hlt
        have kf := frozen_of_row _ _ j _ _ g
        have kc := (cell_of_row _ _ j _ _ _ g).trans (u8s_get _ j (by rw [ov_len _ _ _ HMZ.out, HM.out]; exact hlt))
        have g1 := heap_setCell_same _ _ j _ _ (.int .u8 m) g
        rw [u8s_set] at g1
        have b1 : Below G w3 (wr.setCell ⟨G, j, none⟩ (.int .u8 m)) := b.setCell (Nat.le_refl _) _
        generalize (ov M Z j).getD j 0 = old at *
        by_cases hkn : j < 32
        · have lt3 : (j : Int) < ((32 : Nat) : Int) := by omega
          have kf1 := frozen_of_row _ _ j _ _ g1
          have kc1 := (cell_of_row _ _ j _ _ _ g1).trans (u8s_get _ j (by rw [List.length_set, ov_len _ _ _ HMZ.out, HM.out]; exact hlt))
          have s1 := SK.out _ (by rw [← HGG.out]; exact b1)
          obtain ⟨p, q, hpq, kcell⟩ : ∃ p q, (some ⟨w1.heap.size, 0, none⟩ : Option Addr) = some ⟨p, q, none⟩ ∧ (wr.setCell ⟨G, j, none⟩ (.int .u8 m)).cell? ⟨p, q + j, none⟩ = some (.int .u8 ((key0 K).getD j 0)) := by
            obtain ⟨a', c', e', _, _, _, r⟩ := s1
            rcases r with h | ⟨_, p, q, rfl, _, _, hc, _⟩
            · have := HKN.out; omega
            · simp only [Value.slice.injEq] at e'
              exact ⟨p, q, e'.1, hc j (by have := HKN.out; omega)⟩
          have hpq' := hpq
          simp only [Option.some.injEq, Addr.mk.injEq, and_true] at hpq'
          obtain ⟨rfl, rfl⟩ := hpq'
          clear hpq
          rw [Nat.zero_add] at kcell
          have NS : Hid (((wr.setCell ⟨G, j, none⟩ (.int .u8 m)).setCell ⟨G, j, none⟩ (.int .u8 (xb ((key0 K).getD j 0) m))).heap[G]? = some (.cells (u8s (ov M Z (j + 1))) 5 (0, 0))) := by
            have := heap_setCell_same _ _ j _ _ (.int .u8 (M.getD j 0)) g1
            rw [u8s_set, List.set_set, ov_set _ _ _ HMZ.out hjm, HG.out j hlt] at this
            exact this
          have NB : Hid (Below G w3 ((wr.setCell ⟨G, j, none⟩ (.int .u8 m)).setCell ⟨G, j, none⟩ (.int .u8 (xb ((key0 K).getD j 0) m)))) := b1.setCell (Nat.le_refl _) _
          have x1 := xb_bits ((key0 K).getD j 0) m (HKB.out j).1 (HKB.out j).2 h0 h1
          generalize xb ((key0 K).getD j 0) m = y at *
          generalize (key0 K).getD j 0 = z at *
          generalize ((ov M Z j).set j m).getD j 0 = old1 at *
          clear g b g1 b1 s1 hjm
          go_wp2
          go_roundw
          case rel => exact ⟨j + 1, by omega, by go_num, NS.out, NB.out⟩
          case measure => simp [intOf]; omega
        · have lt3 : ¬ (j : Int) < ((32 : Nat) : Int) := by omega
          have NS : Hid ((wr.setCell ⟨G, j, none⟩ (.int .u8 m)).heap[G]? = some (.cells (u8s (ov M Z (j + 1))) 5 (0, 0))) := by
            have e : M.getD j 0 = m := by
              rw [HG.out j hlt]
              have : (key0 K).getD j 0 = 0 := by rw [List.getD, List.getElem?_eq_none (by have := HKN.out; omega)]; rfl
              rw [this, xb_zero _ h0]
            have h2 := g1
            rw [← e, ov_set _ _ _ HMZ.out hjm, e] at h2
            exact h2
          have NB : Hid (Below G w3 (wr.setCell ⟨G, j, none⟩ (.int .u8 m))) := b1
          clear g b g1 b1 hjm
          go_wp2
          go_roundw
          case rel => exact ⟨j + 1, by omega, by go_num, NS.out, NB.out⟩
          case measure => simp [intOf]; omega
      · obtain rfl : j = 64 := by omega
        have e : ov M Z 64 = M := by have := ov_all M Z HMZ.out; rwa [HM.out] at this
        rw [e] at g
        have HO : Hid (wr.ownsRow w.heap.size 5 1 (.slice (some ⟨G, 0, none⟩) 64 64) 64 (M.map (Value.int .u8))) := own_row64 g HM.out HWG.out
        have HE : Hid (Below w.heap.size w wr) := HB3.out.trans (b.mono HWG.out)
        clear g b e
        go_wp2
        go_ret
        exact ⟨_, rfl, HO.out, HE.out⟩
  · have hk0 : Hid (key0 K = K) := by unfold Hid key0; rw [if_neg (by rw [← HN.out]; exact h64)]
    have gt1 : ¬ (n : Int) > 64 := by omega
    obtain ⟨w3, hw3⟩ : ∃ w3, w3 = w := ⟨_, rfl⟩
    have HB3 : Hid (Below w.heap.size w w3) := by unfold Hid; rw [hw3]; exact Below.refl _ _
    have SK : Hid (∀ W, Below w3.heap.size w3 W → Sl W (.slice av n cv) (key0 K)) := fun W hW => by rw [hk0.out]; rw [hw3] at hW; exact HSL.out W hW
    have mk := mk64 w3
    obtain ⟨G, hG⟩ : ∃ G, G = w3.heap.size := ⟨_, rfl⟩
    obtain ⟨w5, hw5⟩ : ∃ w5, w5 = w3.alloc (.cells (u8s (List.replicate 64 0)) 5) := ⟨_, rfl⟩
    have HW5 : Hid (w5 = w3.alloc (.cells (u8s (List.replicate 64 0)) 5)) := hw5
    have HGG : Hid (G = w3.heap.size) := hG
    rw [← hw5, ← hG] at mk
    clear hw5 hG
    rw [hw3] at mk
    have HB5 : Hid (Below G w3 w5) := by unfold Hid; rw [HW5.out, HGG.out]; exact al_below _ _
    have HG5 : Hid (w5.heap[G]? = some (.cells (u8s (List.replicate 64 0)) 5 (0, 0))) := by unfold Hid; rw [HW5.out, HGG.out]; exact heap_alloc_new _ _
    have HWG : Hid (w.heap.size ≤ G) := by unfold Hid; rw [HGG.out]; exact HB3.out.size
    have HKN : Hid (n = (key0 K).length) := by unfold Hid; rw [hk0.out]; exact HN.out
    clear hw3 c23 hk0 HN
    go_enter Tryz.func115, Tryz.ntmps115
    go_wp2_with fail
    clear HW5 mk gt1
    go_loopw [7] (fun q wr => ∃ j : Nat, j ≤ 64 ∧ q = .int .i64 j ∧ wr.heap[G]? = some (.cells (u8s (ov M Z j)) 5 (0, 0)) ∧ Below G w3 wr) (fun q _ => 64 - (intOf q).toNat)
    case atStart => exact ⟨0, by omega, rfl, by rw [ov_zero, HZ.out]; exact HG5.out, HB5.out⟩
    case round =>
      clear HG5 HB5
      obtain ⟨j, hj, rfl, g, b⟩ := hrel
      by_cases hlt : j < 64
      · have lt2 : (j : Int) < 64 := by omega
        have hjm : j < M.length := by rw [HM.out]; exact hlt
        have kf := frozen_of_row _ _ j _ _ g
        have kc := (cell_of_row _ _ j _ _ _ g).trans (u8s_get _ j (by rw [ov_len _ _ _ HMZ.out, HM.out]; exact hlt))
        have g1 := heap_setCell_same _ _ j _ _ (.int .u8 m) g
        rw [u8s_set] at g1
        have b1 : Below G w3 (wr.setCell ⟨G, j, none⟩ (.int .u8 m)) := b.setCell (Nat.le_refl _) _
        generalize (ov M Z j).getD j 0 = old at *
        by_cases hkn : j < n
        · have lt3 : (j : Int) < ((n : Nat) : Int) := by omega
          have kf1 := frozen_of_row _ _ j _ _ g1
          have kc1 := (cell_of_row _ _ j _ _ _ g1).trans (u8s_get _ j (by rw [List.length_set, ov_len _ _ _ HMZ.out, HM.out]; exact hlt))
          have s1 := SK.out _ (by rw [← HGG.out]; exact b1)
          obtain ⟨p, q, hpq, kcell⟩ : ∃ p q, av = some ⟨p, q, none⟩ ∧ (wr.setCell ⟨G, j, none⟩ (.int .u8 m)).cell? ⟨p, q + j, none⟩ = some (.int .u8 ((key0 K).getD j 0)) := by
            obtain ⟨a', c', e', _, _, _, r⟩ := s1
            rcases r with h | ⟨_, p, q, rfl, _, _, hc, _⟩
            · have := HKN.out; omega
            · simp only [Value.slice.injEq] at e'
              exact ⟨p, q, e'.1, hc j (by have := HKN.out; omega)⟩
          have hpq' := hpq
          subst hpq'
          clear hpq
          have NS : Hid (((wr.setCell ⟨G, j, none⟩ (.int .u8 m)).setCell ⟨G, j, none⟩ (.int .u8 (xb ((key0 K).getD j 0) m))).heap[G]? = some (.cells (u8s (ov M Z (j + 1))) 5 (0, 0))) := by
            have := heap_setCell_same _ _ j _ _ (.int .u8 (M.getD j 0)) g1
            rw [u8s_set, List.set_set, ov_set _ _ _ HMZ.out hjm, HG.out j hlt] at this
            exact this
          have NB : Hid (Below G w3 ((wr.setCell ⟨G, j, none⟩ (.int .u8 m)).setCell ⟨G, j, none⟩ (.int .u8 (xb ((key0 K).getD j 0) m)))) := b1.setCell (Nat.le_refl _) _
          have x1 := xb_bits ((key0 K).getD j 0) m (HKB.out j).1 (HKB.out j).2 h0 h1
          generalize xb ((key0 K).getD j 0) m = y at *
          generalize (key0 K).getD j 0 = z at *
          generalize ((ov M Z j).set j m).getD j 0 = old1 at *
          clear g b g1 b1 s1 hjm
          go_wp2
          go_roundw
          case rel => exact ⟨j + 1, by omega, by go_num, NS.out, NB.out⟩
          case measure => simp [intOf]; omega
        · have lt3 : ¬ (j : Int) < ((n : Nat) : Int) := by omega
          have NS : Hid ((wr.setCell ⟨G, j, none⟩ (.int .u8 m)).heap[G]? = some (.cells (u8s (ov M Z (j + 1))) 5 (0, 0))) := by
            have e : M.getD j 0 = m := by
              rw [HG.out j hlt]
              have : (key0 K).getD j 0 = 0 := by rw [List.getD, List.getElem?_eq_none (by have := HKN.out; omega)]; rfl
              rw [this, xb_zero _ h0]
            have h2 := g1
            rw [← e, ov_set _ _ _ HMZ.out hjm, e] at h2
            exact h2
          have NB : Hid (Below G w3 (wr.setCell ⟨G, j, none⟩ (.int .u8 m))) := b1
          clear g b g1 b1 hjm
          go_wp2
          go_roundw
          case rel => exact ⟨j + 1, by omega, by go_num, NS.out, NB.out⟩
          case measure => simp [intOf]; omega
      · obtain rfl : j = 64 := by omega
        have e : ov M Z 64 = M := by have := ov_all M Z HMZ.out; rwa [HM.out] at this
        rw [e] at g
        have HO : Hid (wr.ownsRow w.heap.size 5 1 (.slice (some ⟨G, 0, none⟩) 64 64) 64 (M.map (Value.int .u8))) := own_row64 g HM.out HWG.out
        have HE : Hid (Below w.heap.size w wr) := HB3.out.trans (b.mono HWG.out)
        clear g b e
        go_wp2
        go_ret
        exact ⟨_, rfl, HO.out, HE.out⟩
end Go.Proofs.YtiollhmbdhepkaaGreatDoor.Mc
