/-
  What Check answers.
-/
import Derived.Test.YtfccjeepmhgckaaDoorDc
namespace Go.Proofs.YtfccjeepmhgckaaDoor
open Go.RowKit
set_option maxRecDepth 100000

theorem chk_hit {l : List Xp} {old : Int} (hl : l.length ≤ 4096) (j : Nat) (hj : j < l.length) (h : mayX (atX l j) old = false) : chkX l old = 4 := by
  unfold chkX
  rw [if_neg (by omega), if_neg]
  intro ha
  have := List.all_eq_true.1 ha _ (atX_mem l j hj)
  rw [h] at this
  cases this
theorem chk_all {l : List Xp} {old : Int} (hl : l.length ≤ 4096) (h : ∀ j, j < l.length → mayX (atX l j) old = true) : chkX l old = if 65536 < totX l then 5 else 0 := by
  unfold chkX
  rw [if_neg (by omega), if_pos]
  refine List.all_eq_true.2 fun x hx => ?_
  obtain ⟨j, hj, rfl⟩ := List.getElem_of_mem hx
  have := h j hj
  rwa [atX_eq l j hj] at this
set_option maxHeartbeats 2000000 in
theorem check_any (v : Value) (l : List Xp) (old : Int) (w : World) (h : XS w v l) (hm : l.length ≤ 1000000) (ho : old ≤ 9223372036854775807) :
    Calls Tryd.prog 22 #[v, .int .i64 old] w fun e w' => e = .returned (.int .i64 (chkX l old)) ∧ Below w.heap.size w w' := by
  obtain ⟨a, c, rfl, h2, h3, h4⟩ := h.shape
  by_cases hl : l.length ≤ 4096
  · have HS : Hid (XS w (.slice a l.length c) l) := h
    have HH : Hid (∀ j, j < l.length → mayX (atX l j) old = false → chkX l old = 4) := fun j hj => chk_hit hl j hj
    have HA : Hid ((∀ j, j < l.length → mayX (atX l j) old = true) → chkX l old = if 65536 < totX l then 5 else 0) := chk_all hl
    have HU : Hid (∀ j, j < l.length → totX (l.take (j + 1)) = totX (l.take j) + mkX (atX l j)) := totX_step l
    have HT : Hid (∀ j, totX (l.take j) ≤ totX l) := totX_take l
    have HP : Hid (∀ j, 0 ≤ totX (l.take j)) := fun j => totX_pos _
    have HE : Hid (totX (l.take l.length) = totX l) := by unfold Hid; rw [List.take_length]
    obtain ⟨n, hn⟩ : ∃ n, n = l.length := ⟨_, rfl⟩
    have HN : Hid (n = l.length) := hn
    rw [← hn] at HS HH HA HU HE h2 hl hm ⊢
    generalize chkX l old = r at *
    clear h h3 h4 hn hm
    have nl : ¬ 4096 < (n : Int) := by omega
    go_enter Tryd.func22, Tryd.ntmps22
    go_wp2
    go_loopw [15] (fun q wr => ∃ j : Nat, j ≤ n ∧ q = .int .i64 j ∧ (∀ k, k < j → mayX (atX l k) old = true) ∧ Below w.heap.size w wr) (fun q _ => n - (intOf q).toNat)
    case atStart => exact ⟨0, by omega, rfl, fun k hk => by omega, Below.refl _ _⟩
    case round =>
      obtain ⟨j, hj, rfl, ok, bel⟩ := hrel
      have HB : Hid (Below w.heap.size w wr) := bel
      have OK : Hid (∀ k, k < j → mayX (atX l k) old = true) := ok
      clear bel ok
      by_cases hlt : j < n
      · have lt2 : (j : Int) < (n : Int) := by omega
        obtain ⟨b, off, ua, un, uc, rfl, c0, c1, c2, c3, hun, _⟩ := (HS.out.kept HB.out).at j (by rw [← HN.out]; exact hlt)
        have hh := HH.out j hlt
        have HO : Hid (mayX (atX l j) old = true → ∀ k, k < j + 1 → mayX (atX l k) old = true) := fun e k hk => by
          by_cases hkj : k = j
          · rw [hkj]; exact e
          · exact OK.out k (by omega)
        generalize atX l j = x at *
        have CM := may_any x old ua un uc (wr.alloc (.cells #[.bool x.c, .int .i64 x.a, .int .i64 x.n, .slice ua un uc] 46)) hun ho
        have HH1 : Hid (mayX x old = false → r = 4) := hh
        clear hun hh OK
        generalize mayX x old = m at *
        go_wp2_with fail
        refine CM.mono ?_
        rintro e w2 ⟨rfl, b2⟩
        clear CM
        have B2 : Hid (Below w.heap.size w w2) := (HB.out.alloc HB.out.size _).trans (b2.mono (HB.out.alloc HB.out.size _).size)
        clear b2
        cases m with
        | false =>
          obtain rfl := HH1.out rfl
          go_wp2
          go_ret
          exact ⟨rfl, B2.out⟩
        | true =>
          have HO1 := HO.out rfl
          clear HH1 HO
          have HO : Hid (∀ k, k < j + 1 → mayX (atX l k) old = true) := HO1
          clear HO1
          go_wp2
          go_roundw
          case rel => exact ⟨j + 1, by omega, by go_num, HO.out, B2.out⟩
          case measure => simp [intOf]; omega
      · obtain rfl : j = n := by omega
        have HA1 : Hid (r = if 65536 < totX l then 5 else 0) := HA.out OK.out
        clear HA OK HH
        go_wp2
        obtain ⟨wo, hwo⟩ : ∃ wo, wo = wr := ⟨_, rfl⟩
        rw [← hwo] at HB ⊢
        clear hwo
        go_loopw [7, 26] (fun s q wr => ∃ i : Nat, i ≤ j ∧ q = .int .i64 i ∧ s = .int .i64 (65536 - totX (l.take i)) ∧ totX (l.take i) ≤ 65536 ∧ Below w.heap.size w wr) (fun _ q _ => j - (intOf q).toNat)
        case atStart => exact ⟨0, by omega, rfl, rfl, by simp [totX], HB.out⟩
        case round =>
          clear HB
          obtain ⟨i, hi, rfl, rfl, hti, bel⟩ := hrel
          have HB : Hid (Below w.heap.size w wr) := bel
          clear bel
          have hp := HP.out i
          by_cases hlt : i < j
          · have lt2 : (i : Int) < (j : Int) := by omega
            obtain ⟨b, off, ua, un, uc, rfl, c0, c1, c2, c3, hun, _⟩ := (HS.out.kept HB.out).at i (by rw [← HN.out]; exact hlt)
            have hu := HU.out i hlt
            have ht := HT.out (i + 1)
            have hx0 := mkX_pos (atX l i)
            generalize atX l i = x at *
            have CM : Hid (∀ W, Calls Tryd.prog 25 #[xval x ua un uc] W fun e w' => e = .returned (.int .i64 (mkX x)) ∧ Below W.heap.size W w') := fun W => makes_any x ua un uc W hun
            have c := CM.out (wr.alloc (.cells #[.bool x.c, .int .i64 x.a, .int .i64 x.n, .slice ua un uc] 46))
            obtain ⟨W1, hW1⟩ : ∃ W1, W1 = wr.alloc (.cells #[.bool x.c, .int .i64 x.a, .int .i64 x.n, .slice ua un uc] 46) := ⟨_, rfl⟩
            have G1 : Hid (W1.heap[wr.heap.size]? = some (.cells #[.bool x.c, .int .i64 x.a, .int .i64 x.n, .slice ua un uc] 46 (0, 0))) := by unfold Hid; rw [hW1]; exact heap_alloc_new _ _
            have B1 : Hid (Below w.heap.size w W1) := by unfold Hid; rw [hW1]; exact HB.out.alloc HB.out.size _
            rw [← hW1] at c
            have L1 : Hid (wr.heap.size < W1.heap.size) := by unfold Hid; rw [hW1]; simp
            clear hun
            generalize totX (l.take i) = s at *
            generalize mkX x = m at *
            go_wp2_with fail
            rw [← hW1]
            clear hW1
            refine c.mono ?_
            rintro e w2 ⟨rfl, b2⟩
            clear c
            have B2 : Hid (Below w.heap.size w w2) := B1.out.trans (b2.mono B1.out.size)
            have g2 := (b2.block _ L1.out).trans G1.out
            have d0 : w2.cell? ⟨wr.heap.size, 0, none⟩ = some (.bool x.c) := by rw [cell_of_row _ _ _ _ _ _ g2]; rfl
            have d1 : w2.cell? ⟨wr.heap.size, 1, none⟩ = some (.int .i64 x.a) := by rw [cell_of_row _ _ _ _ _ _ g2]; rfl
            have d2 : w2.cell? ⟨wr.heap.size, 2, none⟩ = some (.int .i64 x.n) := by rw [cell_of_row _ _ _ _ _ _ g2]; rfl
            have d3 : w2.cell? ⟨wr.heap.size, 3, none⟩ = some (.slice ua un uc) := by rw [cell_of_row _ _ _ _ _ _ g2]; rfl
            clear b2 g2
            by_cases hlong : 65536 - s < m
            · obtain rfl : r = 5 := by have := HA1.out; rwa [if_pos (by omega)] at this
              go_wp2
              go_ret
              exact ⟨rfl, B2.out⟩
            · have c := CM.out w2
              go_wp2_with fail
              refine c.mono ?_
              rintro e w3 ⟨rfl, b3⟩
              clear c
              have B3 : Hid (Below w.heap.size w w3) := B2.out.trans (b3.mono B2.out.size)
              clear b3
              have HU2 : Hid (totX (l.take (i + 1)) = s + m) := hu
              clear hu
              go_wp2
              go_roundw
              case rel => exact ⟨i + 1, by omega, by go_num, by rw [HU2.out]; congr 1; omega, by rw [HU2.out]; omega, B3.out⟩
              case measure => simp [intOf]; omega
          · obtain rfl : i = j := by omega
            have he := HE.out
            obtain rfl : r = 0 := by have := HA1.out; rwa [if_neg (by omega)] at this
            go_wp2
            go_ret
            exact ⟨rfl, HB.out⟩
  · have HR : Hid (chkX l old = 5) := by unfold Hid chkX; rw [if_pos (by omega)]
    have hl2 : 4096 < (l.length : Int) := by omega
    clear h h3 h4 h2
    generalize l.length = n at *
    generalize chkX l old = r at *
    obtain rfl := HR.out
    go_enter Tryd.func22, Tryd.ntmps22
    go_wp2
    go_ret
    exact ⟨rfl, Below.refl _ _⟩
end Go.Proofs.YtfccjeepmhgckaaDoor
