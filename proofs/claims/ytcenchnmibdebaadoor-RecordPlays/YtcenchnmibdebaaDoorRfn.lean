/-
  What the document's Find answers.
-/
import Derived.Test.YtcenchnmibdebaaDoorFd
namespace Go.Proofs.YtcenchnmibdebaaDoor
open Go.RowKit
set_option maxRecDepth 100000

theorem sizePq : (Tryd.prog.info? 61).map (·.size) = some 36 := by kernel_rfl
theorem Pa.infoAq (x : Pa) (h : x.ok) : (Tryd.prog.info? 61).map (·.size) = some x.cells.toArray.size := by rw [sizePq]; simp [Pa.len h]
theorem Pa.infoLq (x : Pa) (h : x.ok) : (Tryd.prog.info? 61).map (·.size) = some x.cells.length := by rw [sizePq, Pa.len h]
theorem bPZq : Tryd.prog.built 61 [] = some pa0.cells.toArray := by kernel_rfl
theorem retIq {tmps : Array Value} {w : World} {g : Nat} {x : Pa} {b : Bool} (hx : x.ok) (hp : tmps.getD 4 undef = .pointer (some ⟨g, 0, none⟩)) (he : tmps.getD 5 undef = .bool b)
    (hg : w.heap[g]? = some (.cells x.cells.toArray 61 (0, 0))) : (results Tryd.f17 tmps).run Tryd.prog w = .ok (.tuple #[x.val, .bool b]) w := by
  have hld : (loadVar 61 ⟨g, 0, none⟩).run Tryd.prog w = .ok x.val w := run_loadVar_row w g 61 61 x.cells.toArray (0, 0) _ hg Tryd.underlying61 rfl (Pa.infoAq x hx)
  rw [results_cell_tmp rfl, hp, he]
  simp [asAddr, Result.andThen, hld]
set_option maxHeartbeats 2000000 in
theorem rfind_any (v : Value) (l : List Pa) (m : Int) (q : ByteArray) (w : World) (h : PS w v l) (hl : l.length ≤ 100000) :
    Calls Tryd.prog 17 #[.agg #[v, .int .i64 m], .string q] w fun e w' => e = .returned (.tuple #[((fnd l q).getD pa0).val, .bool (fnd l q).isSome]) ∧ Below w.heap.size w w' := by
  obtain ⟨a, c, rfl, h2, h3, h4⟩ := h.shape
  obtain ⟨WS, hWS⟩ : ∃ WS, WS = w.alloc (.cells #[.slice a l.length c, .int .i64 m] 46) := ⟨_, rfl⟩
  have bS : Below w.heap.size w WS := by rw [hWS]; exact al_below _ _
  have sS : WS.heap.size = w.heap.size + 1 := by rw [hWS]; simp
  obtain ⟨W0, hW0⟩ : ∃ W0, W0 = WS.alloc (.cells pzc 61) := ⟨_, rfl⟩
  have bZ : Below WS.heap.size WS W0 := by rw [hW0]; exact al_below _ _
  have b0 : Below w.heap.size w W0 := bS.trans (bZ.mono bS.size)
  have g0 : W0.heap[WS.heap.size]? = some (.cells pzc 61 (0, 0)) := by rw [hW0]; exact heap_alloc_new _ _
  have kv : W0.cell? ⟨w.heap.size, 0, none⟩ = some (.slice a l.length c) := by
    have h1 : WS.heap[w.heap.size]? = some (.cells #[.slice a l.length c, .int .i64 m] 46 (0, 0)) := by rw [hWS]; exact heap_alloc_new _ _
    have h2 : WS.cell? ⟨w.heap.size, 0, none⟩ = some (.slice a l.length c) := by simp [World.cell?, h1]
    exact (bZ.cell (World.block_lt_of_cell? _ _ h2)).trans h2
  have hws := hWS.symm
  have hwz : WS.alloc (.cells #[.int .i64 0, .string ⟨#[]⟩, .int .u8 0, .int .u8 0, .int .u8 0, .int .u8 0, .int .u8 0, .int .u8 0, .int .u8 0, .int .u8 0, .int .u8 0, .int .u8 0, .int .u8 0, .int .u8 0, .int .u8 0, .int .u8 0, .int .u8 0, .int .u8 0, .int .u8 0, .int .u8 0, .int .u8 0, .int .u8 0, .int .u8 0, .int .u8 0, .int .u8 0, .int .u8 0, .int .u8 0, .int .u8 0, .int .u8 0, .int .u8 0, .int .u8 0, .int .u8 0, .int .u8 0, .int .u8 0, .int .i64 0, .int .i64 0] 61) = W0 := hW0.symm
  have HS : Hid (PS W0 (.slice a l.length c) l) := h.kept b0
  have HOK : Hid (∀ x ∈ l, x.ok) := h.2
  have GG : Hid (W0.heap[WS.heap.size]? = some (.cells pzc 61 (0, 0)) ∧ Below w.heap.size w W0) := ⟨g0, b0⟩
  have hn := hl
  obtain ⟨n, hn'⟩ : ∃ n, n = l.length := ⟨_, rfl⟩
  have HN : Hid (n = l.length) := hn'
  have HSS : Hid (WS.heap.size = w.heap.size + 1) := sS
  rw [← hn'] at HS h2 hn kv hws ⊢
  have HH : Hid (∀ j, j < l.length → (∀ k, k < j → ¬ (atP l k).p = q) → (atP l j).p = q → fnd l q = some (atP l j)) := fun j hj h1 h2 => fnd_hit l q j hj h1 h2
  have HE : Hid ((∀ k, k < l.length → ¬ (atP l k).p = q) → fnd l q = none) := fnd_none l q
  have BZ : Hid (Tryd.prog.built 61 [] = some pa0.cells.toArray) := bPZq
  clear h hl h3 h4 hn' hW0 b0 g0 hWS bS bZ sS
  generalize fnd l q = R at *
  go_enter Tryd.func17, Tryd.ntmps17
  go_wp2_with fail
  try rw [hwz]
  try clear hwz
  try clear hws
  go_loopw [6] (fun z wr => ∃ j : Nat, j ≤ n ∧ z = .int .i64 j ∧ (∀ k, k < j → ¬ (atP l k).p = q) ∧ wr = W0) (fun z _ => n - (intOf z).toNat)
  case atStart => exact ⟨0, by omega, rfl, fun k hk => by omega, rfl⟩
  case round =>
    obtain ⟨j, hj, rfl, ok, rfl⟩ := hrel
    have OK : Hid (∀ k, k < j → ¬ (atP l k).p = q) := ok
    clear ok
    by_cases hlt : j < n
    · have lt2 : (j : Int) < (n : Int) := by omega
      obtain ⟨b, off, rfl, hr⟩ := HS.out.at j (by rw [← HN.out]; exact hlt)
      have hx : (atP l j).ok := Pa.at l HOK.out j
      have HF : Hid ((atP l j).p = q → R = some (atP l j)) := HH.out j (by rw [← HN.out]; exact hlt) OK.out
      have NX : Hid (¬ (atP l j).p = q → ∀ k, k < j + 1 → ¬ (atP l k).p = q) := fun h k hk => by
        rcases Nat.lt_or_ge k j with h' | h'
        · exact OK.out k h'
        · rw [show k = j by omega]; exact h
      clear OK HH
      generalize atP l j = x at *
      obtain ⟨-, k0, -, -, -⟩ := paC hr hx
      have RN : Hid (wr.rangeAt b (off + j * 36) x.cells) := hr
      have HZ : Hid ((Tryd.prog.info? 61).map (·.size) = some x.cells.length) := Pa.infoLq x hx
      have HI : Hid ((Tryd.prog.info? 61).map (·.size) = some x.cells.toArray.size) := Pa.infoAq x hx
      have HE2 : Hid (pzc.size = x.cells.toArray.size) := pzc_size.trans (Pa.size x hx).symm
      have H1 : Hid (∀ v ∈ x.cells, v.oneCell' = true) := Pa.one x
      have HX : Hid x.ok := hx
      clear hr hx
      obtain ⟨cs, hcs⟩ : ∃ cs, cs = x.cells := ⟨_, rfl⟩
      have HCS : Hid (cs = x.cells) := hcs
      rw [← hcs] at RN HZ HI HE2 H1
      clear hcs
      by_cases hq : x.p = q
      · have t0 : (x.p.toList == q.toList) = true := by rw [tl_beq]; simp [hq]
        have HR : Hid (R = some x) := HF.out hq
        clear HF NX hq
        generalize x.p = xp at *
        go_wp2_with (first
          | refine wpList_load_mid rfl 61 _ rfl b (off + j * 36) rfl cs _ RN.out Tryd.underlying61 rfl HZ.out ?_
          | refine wpList_store_row rfl 61 _ _ rfl WS.heap.size cs.toArray rfl rfl 61 pzc GG.out.1 HI.out HE2.out (all_oneCell_toArray H1.out) ?_)
        have hc := HCS.out
        subst hc
        refine bodyPost_ret (v := .tuple #[x.val, .bool true]) (retIq HX.out rfl rfl (setRow_heap _ _ _ _ _ _ GG.out.1)) rfl ⟨by rw [HR.out]; rfl, below_setRow GG.out.2 (by rw [HSS.out]; exact Nat.le_succ _) _⟩
      · have t0 : (x.p.toList == q.toList) = false := by rw [tl_beq]; simp [hq]
        have NX2 : Hid (∀ k, k < j + 1 → ¬ (atP l k).p = q) := NX.out hq
        clear HF NX hq
        generalize x.p = xp at *
        go_wp2
        go_roundw
        case rel => exact ⟨j + 1, by omega, by go_num, NX2.out, trivial⟩
        case measure => simp [intOf]; omega
    · obtain rfl : j = n := by omega
      have HR : Hid (R = none) := HE.out (by rw [← HN.out]; exact OK.out)
      clear HE HH OK
      go_wp2_with (first
          | refine wpList_built rfl 61 [] rfl [] rfl pa0.cells.toArray BZ.out ?_
          | refine wpList_store_row rfl 61 _ _ rfl WS.heap.size pa0.cells.toArray rfl rfl 61 pzc GG.out.1 (Pa.infoAq _ pa0_ok) rfl (Pa.ones _) ?_)
      refine bodyPost_ret (v := .tuple #[pa0.val, .bool false]) (retIq pa0_ok rfl rfl (setRow_heap _ _ _ _ _ _ GG.out.1)) rfl ⟨by rw [HR.out]; rfl, below_setRow GG.out.2 (by rw [HSS.out]; exact Nat.le_succ _) _⟩
end Go.Proofs.YtcenchnmibdebaaDoor
