/-
  What Find answers.
-/
import Derived.Test.YtcenchnmibdebaaDoorCh
namespace Go.Proofs.YtcenchnmibdebaaDoor
open Go.RowKit
set_option maxRecDepth 100000

theorem retI {tmps : Array Value} {w : World} {g : Nat} {x : Pa} {b : Bool} (hx : x.ok) (hp : tmps.getD 4 undef = .pointer (some ⟨g, 0, none⟩)) (he : tmps.getD 5 undef = .bool b)
    (hg : w.heap[g]? = some (.cells x.cells.toArray 58 (0, 0))) : (results Tryd.f16 tmps).run Tryd.prog w = .ok (.tuple #[x.val, .bool b]) w := by
  have hld : (loadVar 58 ⟨g, 0, none⟩).run Tryd.prog w = .ok x.val w := run_loadVar_row w g 58 58 x.cells.toArray (0, 0) _ hg Tryd.underlying58 rfl (Pa.infoA x hx)
  rw [results_cell_tmp rfl, hp, he]
  simp [asAddr, Result.andThen, hld]
set_option maxHeartbeats 2000000 in
theorem find_any (v : Value) (l : List Pa) (m : Int) (q : ByteArray) (w : World) (h : PS w v l) (hl : l.length ≤ 100000) :
    Calls Tryd.prog 16 #[.agg #[v, .int .i64 m], .string q] w fun e w' => e = .returned (.tuple #[((fnd l q).getD pa0).val, .bool (fnd l q).isSome]) ∧ Below w.heap.size w w' := by
  obtain ⟨a, c, rfl, h2, h3, h4⟩ := h.shape
  obtain ⟨WS, hWS⟩ : ∃ WS, WS = w.alloc (.cells #[.slice a l.length c, .int .i64 m] 43) := ⟨_, rfl⟩
  have bS : Below w.heap.size w WS := by rw [hWS]; exact al_below _ _
  have sS : WS.heap.size = w.heap.size + 1 := by rw [hWS]; simp
  obtain ⟨W0, hW0⟩ : ∃ W0, W0 = WS.alloc (.cells pzc 58) := ⟨_, rfl⟩
  have bZ : Below WS.heap.size WS W0 := by rw [hW0]; exact al_below _ _
  have b0 : Below w.heap.size w W0 := bS.trans (bZ.mono bS.size)
  have s0 : W0.heap.size = w.heap.size + 2 := by rw [hW0]; simp [sS]
  have g0 : W0.heap[WS.heap.size]? = some (.cells pzc 58 (0, 0)) := by rw [hW0]; exact heap_alloc_new _ _
  have kv : W0.cell? ⟨w.heap.size, 0, none⟩ = some (.slice a l.length c) := by
    have h1 : WS.heap[w.heap.size]? = some (.cells #[.slice a l.length c, .int .i64 m] 43 (0, 0)) := by rw [hWS]; exact heap_alloc_new _ _
    have h2 : WS.cell? ⟨w.heap.size, 0, none⟩ = some (.slice a l.length c) := by simp [World.cell?, h1]
    exact (bZ.cell (World.block_lt_of_cell? _ _ h2)).trans h2
  have hws := hWS.symm
  have hwz : WS.alloc (.cells #[.int .i64 0, .string ⟨#[]⟩, .int .u8 0, .int .u8 0, .int .u8 0, .int .u8 0, .int .u8 0, .int .u8 0, .int .u8 0, .int .u8 0, .int .u8 0, .int .u8 0, .int .u8 0, .int .u8 0, .int .u8 0, .int .u8 0, .int .u8 0, .int .u8 0, .int .u8 0, .int .u8 0, .int .u8 0, .int .u8 0, .int .u8 0, .int .u8 0, .int .u8 0, .int .u8 0, .int .u8 0, .int .u8 0, .int .u8 0, .int .u8 0, .int .u8 0, .int .u8 0, .int .u8 0, .int .u8 0, .int .i64 0, .int .i64 0] 58) = W0 := hW0.symm
  have HS : Hid (PS W0 (.slice a l.length c) l) := h.kept b0
  have HOK : Hid (∀ x ∈ l, x.ok) := h.2
  have G0 : Hid (∀ W, Below W0.heap.size W0 W → W.heap[WS.heap.size]? = some (.cells pzc 58 (0, 0)) ∧ Below w.heap.size w W) := fun W hb => ⟨(hb.block _ (by omega)).trans g0, b0.trans (hb.mono b0.size)⟩
  have hn := hl
  obtain ⟨n, hn'⟩ : ∃ n, n = l.length := ⟨_, rfl⟩
  have HN : Hid (n = l.length) := hn'
  have HSS : Hid (WS.heap.size = w.heap.size + 1) := sS
  rw [← hn'] at HS h2 hn kv hws ⊢
  have HH : Hid (∀ j, j < l.length → (∀ k, k < j → ¬ (atP l k).p = q) → (atP l j).p = q → fnd l q = some (atP l j)) := fun j hj h1 h2 => fnd_hit l q j hj h1 h2
  have HE : Hid ((∀ k, k < l.length → ¬ (atP l k).p = q) → fnd l q = none) := fnd_none l q
  have BZ : Hid (Tryd.prog.built 58 [] = some pa0.cells.toArray) := bPZ
  clear h hl h3 h4 hn' hW0 b0 s0 g0 hWS bS bZ sS
  generalize fnd l q = R at *
  go_enter Tryd.func16, Tryd.ntmps16
  go_wp2_with fail
  try rw [hwz]
  try clear hwz
  try clear hws
  try clear kv
  go_loopw [11] (fun z wr => ∃ j : Nat, j ≤ n ∧ z = .int .i64 j ∧ (∀ k, k < j → ¬ (atP l k).p = q) ∧ Below W0.heap.size W0 wr) (fun z _ => n - (intOf z).toNat)
  case atStart => exact ⟨0, by omega, rfl, fun k hk => by omega, Below.refl _ _⟩
  case round =>
    obtain ⟨j, hj, rfl, ok, bel⟩ := hrel
    have HB : Hid (Below W0.heap.size W0 wr) := bel
    have OK : Hid (∀ k, k < j → ¬ (atP l k).p = q) := ok
    clear bel ok
    by_cases hlt : j < n
    · have lt2 : (j : Int) < (n : Int) := by omega
      obtain ⟨b, off, rfl, hr⟩ := (HS.out.kept HB.out).at j (by rw [← HN.out]; exact hlt)
      have hx : (atP l j).ok := Pa.at l HOK.out j
      have HF : Hid ((atP l j).p = q → R = some (atP l j)) := HH.out j (by rw [← HN.out]; exact hlt) OK.out
      have NX : Hid (¬ (atP l j).p = q → ∀ k, k < j + 1 → ¬ (atP l k).p = q) := fun h k hk => by
        rcases Nat.lt_or_ge k j with h' | h'
        · exact OK.out k h'
        · rw [show k = j by omega]; exact h
      clear OK HH
      generalize atP l j = x at *
      have RN : Hid (wr.rangeAt b (off + j * 36) x.cells) := hr
      have HZ : Hid ((Tryd.prog.info? 58).map (·.size) = some x.cells.length) := Pa.infoL x hx
      have HI : Hid ((Tryd.prog.info? 58).map (·.size) = some x.cells.toArray.size) := Pa.infoA x hx
      have HE2 : Hid (pzc.size = x.cells.toArray.size) := pzc_size.trans (Pa.size x hx).symm
      obtain ⟨W1, hW1⟩ : ∃ W1, W1 = wr.alloc (.cells x.cells.toArray 58) := ⟨_, rfl⟩
      have b1 : Below wr.heap.size wr W1 := by rw [hW1]; exact al_below _ _
      have r1 : W1.rangeAt wr.heap.size 0 x.cells := by rw [hW1]; exact pa_new wr x
      have R1 : Hid (W1.rangeAt wr.heap.size 0 x.cells) := r1
      obtain ⟨-, k0, -, -, -⟩ := paC r1 hx
      simp only [Nat.zero_add] at k0
      have B1 : Hid (Below W0.heap.size W0 W1) := HB.out.trans (b1.mono HB.out.size)
      have e1 := alloc_pa wr x
      rw [← hW1] at e1
      have HE1 : Hid ((wr.alloc (.cells #[.int .i64 0, .string ⟨#[]⟩, .int .u8 0, .int .u8 0, .int .u8 0, .int .u8 0, .int .u8 0, .int .u8 0, .int .u8 0, .int .u8 0, .int .u8 0, .int .u8 0, .int .u8 0, .int .u8 0, .int .u8 0, .int .u8 0, .int .u8 0, .int .u8 0, .int .u8 0, .int .u8 0, .int .u8 0, .int .u8 0, .int .u8 0, .int .u8 0, .int .u8 0, .int .u8 0, .int .u8 0, .int .u8 0, .int .u8 0, .int .u8 0, .int .u8 0, .int .u8 0, .int .u8 0, .int .u8 0, .int .i64 0, .int .i64 0] 58)).setRow wr.heap.size x.cells.toArray = W1) := e1
      have H1 : Hid (∀ v ∈ x.cells, v.oneCell' = true) := Pa.one x
      have HX : Hid x.ok := hx
      clear b1 hr e1 hW1 r1 hx
      obtain ⟨cs, hcs⟩ : ∃ cs, cs = x.cells := ⟨_, rfl⟩
      have HCS : Hid (cs = x.cells) := hcs
      rw [← hcs] at RN HZ HI HE2 R1 HE1 H1
      clear hcs
      go_wp2_with (refine wpList_load_mid rfl 58 _ rfl b (off + j * 36) rfl cs _ RN.out Tryd.underlying58 rfl HZ.out (Hid.out ?_))
      unfold Hid
      go_wp2_with (refine wpList_store_row rfl 58 _ _ rfl wr.heap.size cs.toArray rfl rfl 58 pzc (new_pa wr) HI.out HE2.out (all_oneCell_toArray H1.out) (Hid.out ?_))
      unfold Hid
      rw [HE1.out]
      by_cases hq : x.p = q
      · have t0 : (x.p.toList == q.toList) = true := by rw [tl_beq]; simp [hq]
        have HR : Hid (R = some x) := HF.out hq
        have GG : Hid (W1.heap[WS.heap.size]? = some (.cells pzc 58 (0, 0)) ∧ Below w.heap.size w W1) := G0.out W1 B1.out
        clear HF NX hq G0
        generalize x.p = xp at *
        go_wp2_with (first
          | refine wpList_load_mid rfl 58 _ rfl wr.heap.size 0 rfl cs _ R1.out Tryd.underlying58 rfl HZ.out ?_
          | refine wpList_store_row rfl 58 _ _ rfl WS.heap.size cs.toArray rfl rfl 58 pzc GG.out.1 HI.out HE2.out (all_oneCell_toArray H1.out) ?_)
        have hc := HCS.out
        subst hc
        refine bodyPost_ret (v := .tuple #[x.val, .bool true]) (retI HX.out rfl rfl (setRow_heap _ _ _ _ _ _ GG.out.1)) rfl ⟨by rw [HR.out]; rfl, below_setRow GG.out.2 (by rw [HSS.out]; exact Nat.le_succ _) _⟩
      · have t0 : (x.p.toList == q.toList) = false := by rw [tl_beq]; simp [hq]
        have NX2 : Hid (∀ k, k < j + 1 → ¬ (atP l k).p = q) := NX.out hq
        clear HF NX hq G0
        generalize x.p = xp at *
        go_wp2
        go_roundw
        case rel => exact ⟨j + 1, by omega, by go_num, NX2.out, B1.out⟩
        case measure => simp [intOf]; omega
    · obtain rfl : j = n := by omega
      have HR : Hid (R = none) := HE.out (by rw [← HN.out]; exact OK.out)
      have GG : Hid (wr.heap[WS.heap.size]? = some (.cells pzc 58 (0, 0)) ∧ Below w.heap.size w wr) := G0.out wr HB.out
      clear HE HH OK G0
      go_wp2_with (first
          | refine wpList_built rfl 58 [] rfl [] rfl pa0.cells.toArray BZ.out ?_
          | refine wpList_store_row rfl 58 _ _ rfl WS.heap.size pa0.cells.toArray rfl rfl 58 pzc GG.out.1 (Pa.infoA _ pa0_ok) rfl (Pa.ones _) ?_)
      refine bodyPost_ret (v := .tuple #[pa0.val, .bool false]) (retI pa0_ok rfl rfl (setRow_heap _ _ _ _ _ _ GG.out.1)) rfl ⟨by rw [HR.out]; rfl, below_setRow GG.out.2 (by rw [HSS.out]; exact Nat.le_succ _) _⟩
end Go.Proofs.YtcenchnmibdebaaDoor
