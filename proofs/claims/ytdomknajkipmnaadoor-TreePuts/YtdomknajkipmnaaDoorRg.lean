/-
  What the document's Get, Size and Same answer.
-/
import Derived.Test.YtdomknajkipmnaaDoorCe
import Derived.Test.YtdomknajkipmnaaDoorLg
import Derived.Test.YtdomknajkipmnaaDoorSz
namespace Go.Proofs.YtdomknajkipmnaaDoor
open Go.RowKit

set_option maxHeartbeats 1000000 in
theorem rget_any (v : Value) (l : List En) (q : ByteArray) (w : World) (h : ES w v l) (hl : Lt l) :
    Calls Tryd.prog 20 #[v, .string q] w fun e w' => ∃ u, e = .returned (.tuple #[u, .bool (gotB l (dl q))]) ∧ EV w' u (got l (dl q)) ∧ Below w.heap.size w w' := by
  obtain ⟨a, c, rfl, g2, _, _⟩ := h.shape
  have HS : Hid (ES w (.slice a l.length c) l) := h
  have hn := hl.1
  obtain ⟨W1, hW1⟩ : ∃ W1, W1 = w.alloc (.cells #[.string ⟨#[]⟩, .bool false, .slice none 0 0] 32) := ⟨_, rfl⟩
  have b1 : Below w.heap.size w W1 := by rw [hW1]; exact (Below.refl _ _).alloc (Nat.le_refl _) _
  have K1 : W1.heap[w.heap.size]? = some (.cells #[.string ⟨#[]⟩, .bool false, .slice none 0 0] 32 (0, 0)) := by rw [hW1]; exact heap_alloc_new _ _
  obtain ⟨p0, p1, p2, f0, f1, f2⟩ := trio K1
  have B1 : Hid (Below w.heap.size w W1) := b1
  have S1 : Hid (ES W1 (.slice a l.length c) l) := h.kept b1
  have HHIT : Hid (∀ j, j < l.length → (∀ k, k < j → decide ((atE l k).p = q) = false) → decide ((atE l j).p = q) = true → got l (dl q) = atE l j ∧ gotB l (dl q) = true) := fun j hj h1 h2 => by
    have hf : fnd l (dl q) = j := by
      unfold fnd
      rw [← fp_eq]
      exact findIdx_of l _ j hj h1 h2
    unfold got gotB
    rw [hf]
    exact ⟨if_neg (by omega), decide_eq_true (by omega)⟩
  have HNO : Hid ((∀ k, k < l.length → decide ((atE l k).p = q) = false) → got l (dl q) = e0 ∧ gotB l (dl q) = false) := fun h1 => by
    have hf : fnd l (dl q) = l.length := by
      unfold fnd
      rw [← fp_eq]
      exact findIdx_none l _ h1
    unfold got gotB
    rw [hf]
    exact ⟨if_pos rfl, decide_eq_false (by simp)⟩
  generalize got l (dl q) = r at *
  generalize gotB l (dl q) = rb at *
  obtain ⟨n, hn'⟩ : ∃ n, n = l.length := ⟨_, rfl⟩
  have HN : Hid (n = l.length) := hn'
  rw [← hn'] at HS S1 HHIT HNO g2 hn ⊢
  clear h hl hn' b1 K1
  go_enter Tryd.func20, Tryd.ntmps20
  go_wp2_with fail
  rw [← hW1]
  clear hW1
  go_loop [6] (fun qv => ∃ j : Nat, j ≤ n ∧ qv = .int .i64 j ∧ ∀ k, k < j → decide ((atE l k).p = q) = false) (fun qv => n - (intOf qv).toNat)
  case atStart => exact ⟨0, by omega, rfl, fun k hk => by omega⟩
  case round =>
    obtain ⟨j, hj, rfl, ok⟩ := hrel
    have OK : Hid (∀ k, k < j → decide ((atE l k).p = q) = false) := ok
    clear ok
    by_cases hlt : j < n
    · have lt2 : (j : Int) < (n : Int) := by omega
      obtain ⟨b, off, ua, un, uc, rfl, c1, c2, c3, hun, s1⟩ := S1.out.at j (by rw [← HN.out]; exact hlt)
      have q1 : IntKind.i64.wrap ((j : Int) + 1) = ((j + 1 : Nat) : Int) := by simp [IntKind.wrap, IntKind.bits, IntKind.signed]; omega
      have tq := tl_beq (atE l j).p q
      have HT : Hid (decide ((atE l j).p = q) = true → r = atE l j ∧ rb = true) := HHIT.out j hlt OK.out
      have NX : Hid (decide ((atE l j).p = q) = false → ∀ k, k < j + 1 → decide ((atE l k).p = q) = false) := fun h k hk => by
        rcases Nat.lt_or_ge k j with h' | h'
        · exact OK.out k h'
        · rw [show k = j by omega]; exact h
      have SX : Hid (EV W1 (.agg #[.string (atE l j).p, .bool (atE l j).d, .slice ua un uc]) (atE l j)) := ⟨ua, un, uc, rfl, s1⟩
      have SL : Hid (Sl w (.slice ua un uc) (atE l j).z) := by
        obtain ⟨b', off', ua', un', uc', e1, -, -, c3', -, s1'⟩ := HS.out.at j (by rw [← HN.out]; exact hlt)
        cases e1
        have e2 := (B1.out.cell (World.block_lt_of_cell? _ _ c3')).trans c3'
        rw [c3] at e2
        cases e2
        exact s1'
      clear hun s1 OK HHIT
      generalize atE l j = x at *
      generalize decide (x.p = q) = sb at *
      cases sb with
      | true =>
        obtain ⟨hr, hrb⟩ := HT.out rfl
        have HR1 : Hid (r = x) := hr
        have HR2 : Hid (rb = true) := hrb
        clear HT NX hr hrb HNO
        go_wp2
        refine bodyPost_ret (v := .tuple #[.agg #[.string x.p, .bool x.d, .slice ua un uc], .bool true]) ?hres rfl ?_
        case hres => simp [results, Tryd.results20, go_sem, *]
        have bb : Below w.heap.size w (((W1.setCell ⟨w.heap.size, 0, none⟩ (.string x.p)).setCell ⟨w.heap.size, 1, none⟩ (.bool x.d)).setCell ⟨w.heap.size, 2, none⟩ (.slice ua un uc)) := ((B1.out.setCell (Nat.le_refl _) _).setCell (Nat.le_refl _) _).setCell (Nat.le_refl _) _
        refine ⟨_, by rw [HR2.out], ?_, bb⟩
        rw [HR1.out]
        exact ⟨ua, un, uc, rfl, SL.out.kept bb⟩
      | false =>
        have NX2 : Hid (∀ k, k < j + 1 → decide ((atE l k).p = q) = false) := NX.out rfl
        clear NX HT
        go_wp2
        exact ⟨⟨j + 1, by omega, by go_num, NX2.out⟩, by simp [intOf]; omega⟩
    · obtain rfl : j = n := by omega
      obtain ⟨hr, hrb⟩ := HNO.out OK.out
      have HR1 : Hid (r = e0) := hr
      have HR2 : Hid (rb = false) := hrb
      clear HNO HHIT OK hr hrb
      go_wp2
      refine bodyPost_ret (v := .tuple #[.agg #[.string ⟨#[]⟩, .bool false, .slice none 0 0], .bool false]) ?hres2 rfl ?_
      case hres2 => simp [results, Tryd.results20, go_sem, *]
      refine ⟨_, by rw [HR2.out], ?_, ?_⟩
      · rw [HR1.out]
        exact ⟨none, 0, 0, rfl, Sl.none _⟩
      · exact ((B1.out.setCell (Nat.le_refl _) _).setCell (Nat.le_refl _) _).setCell (Nat.le_refl _) _
set_option maxHeartbeats 1000000 in
theorem rsize_any (v : Value) (l : List En) (w : World) (h : ES w v l) (hl : Lt l) :
    Calls Tryd.prog 13 #[v] w fun e w' => e = .returned (.int .i64 (siz l)) ∧ w' = w := by
  obtain ⟨a, c, rfl, h2, h3, h4⟩ := h.shape
  have HS : Hid (ES w (.slice a l.length c) l) := h
  have hn := hl.1
  have HR : Hid (siz l = siz (l.take l.length)) := by unfold Hid; rw [List.take_length]
  have HZ : Hid (∀ j, siz (l.take j) ≤ j * 100000) := fun j => by
    induction j with
    | zero => simp [siz]
    | succ j ih =>
      by_cases hj : j < l.length
      · rw [siz_succ l j hj]
        have := (hl.at j).2
        omega
      · rw [List.take_of_length_le (by omega)]
        rw [List.take_of_length_le (by omega)] at ih
        exact Nat.le_trans ih (Nat.mul_le_mul_right _ (Nat.le_succ j))
  obtain ⟨n, hn'⟩ : ∃ n, n = l.length := ⟨_, rfl⟩
  have HN : Hid (n = l.length) := hn'
  rw [← hn'] at HS HR h2 hn ⊢
  generalize siz l = r at *
  clear h hl h3 h4 hn'
  go_enter Tryd.func13, Tryd.ntmps13
  go_wp2
  go_loop [3, 4] (fun s q => ∃ j : Nat, j ≤ n ∧ q = .int .i64 j ∧ s = .int .i64 (siz (l.take j))) (fun _ q => n - (intOf q).toNat)
  case atStart => exact ⟨0, by omega, rfl, rfl⟩
  case round =>
    obtain ⟨j, hj, rfl, rfl⟩ := hrel
    by_cases hlt : j < n
    · have lt2 : (j : Int) < (n : Int) := by omega
      obtain ⟨b, off, ua, un, uc, rfl, c1, c2, c3, hun, _⟩ := HS.out.at j (by rw [← HN.out]; exact hlt)
      have HU : Hid (siz (l.take (j + 1)) = siz (l.take j) + un) := by unfold Hid; rw [hun]; exact siz_succ l j (by rw [← HN.out]; exact hlt)
      have hz := HZ.out (j + 1)
      rw [HU.out] at hz
      have q1 : IntKind.i64.wrap ((j : Int) + 1) = ((j + 1 : Nat) : Int) := by simp [IntKind.wrap, IntKind.bits, IntKind.signed]; omega
      generalize siz (l.take j) = s at *
      generalize (atE l j).p = pp at *
      generalize (atE l j).d = dd at *
      clear hun
      go_wp2
      exact ⟨⟨j + 1, by omega, by go_num, by rw [HU.out]; go_num⟩, by simp [intOf]; omega⟩
    · obtain rfl : j = n := by omega
      go_wp2
      go_ret
      exact ⟨by rw [HR.out]; rfl, rfl⟩
set_option maxHeartbeats 2000000 in
theorem rsame_any (v u : Value) (l m : List En) (w : World) (h1 : ES w v l) (h2 : ES w u m) (hl : l.length ≤ 100000) (hm : m.length ≤ 100000) :
    Calls Tryd.prog 15 #[v, u] w fun e w' => e = .returned (.bool (sam l m)) ∧ Below w.heap.size w w' := by
  obtain ⟨a, c, rfl, g2, _, _⟩ := h1.shape
  obtain ⟨a', c', rfl, g2', _, _⟩ := h2.shape
  have H1 : Hid (ES w (.slice a l.length c) l) := h1
  have H2 : Hid (ES w (.slice a' m.length c') m) := h2
  have HHIT : Hid (∀ j, samE (atE l j) (atE m j) = false → sam l m = false) := sam_hit l m
  have HOK : Hid (l.length = m.length → (∀ k, k < l.length → samE (atE l k) (atE m k) = true) → sam l m = true) := sam_ok l m
  have HNE : Hid (l.length ≠ m.length → sam l m = false) := fun h => by unfold sam; rw [decide_eq_false h]; rfl
  obtain ⟨n, hn⟩ : ∃ n, n = l.length := ⟨_, rfl⟩
  obtain ⟨k, hk⟩ : ∃ k, k = m.length := ⟨_, rfl⟩
  have HN : Hid (n = l.length) := hn
  have HK : Hid (k = m.length) := hk
  rw [← hn] at H1 HOK HNE hl g2 ⊢
  rw [← hk] at H2 HOK HNE hm g2' ⊢
  clear h1 h2 hn hk
  generalize sam l m = r at *
  by_cases hnk : n = k
  · subst hnk
    have HOK2 : Hid ((∀ k, k < n → samE (atE l k) (atE m k) = true) → r = true) := HOK.out rfl
    clear HOK HNE
    go_enter Tryd.func15, Tryd.ntmps15
    go_wp2
    go_loopw [5] (fun q wr => ∃ j : Nat, j ≤ n ∧ q = .int .i64 j ∧ (∀ k, k < j → samE (atE l k) (atE m k) = true) ∧ Below w.heap.size w wr) (fun q _ => n - (intOf q).toNat)
    case atStart => exact ⟨0, by omega, rfl, fun k hk => by omega, Below.refl _ _⟩
    case round =>
      obtain ⟨j, hj, rfl, ok, bel⟩ := hrel
      have HB : Hid (Below w.heap.size w wr) := bel
      have OK : Hid (∀ k, k < j → samE (atE l k) (atE m k) = true) := ok
      clear bel ok
      by_cases hlt : j < n
      · have lt2 : (j : Int) < (n : Int) := by omega
        have g0 : (0 : Int) ≤ (j : Int) := by omega
        obtain ⟨b, off, ua, un, uc, rfl, c1, c2, c3, hun, s1⟩ := (H1.out.kept HB.out).at j (by rw [← HN.out]; exact hlt)
        obtain ⟨b', off', va, vn, vc, rfl, d1, d2, d3, hvn, s2⟩ := (H2.out.kept HB.out).at j (by rw [← HK.out]; exact hlt)
        have q1 : IntKind.i64.wrap ((j : Int) + 1) = ((j + 1 : Nat) : Int) := by simp [IntKind.wrap, IntKind.bits, IntKind.signed]; omega
        have CS : Hid (∀ W, Below wr.heap.size wr W → Calls Tryd.prog 23 #[.agg #[.string (atE l j).p, .bool (atE l j).d, .slice ua un uc], .agg #[.string (atE m j).p, .bool (atE m j).d, .slice va vn vc]] W fun e w' => e = .returned (.bool (samE (atE l j) (atE m j))) ∧ Below W.heap.size W w') := fun W hb => rsameEntry_any _ _ _ _ W ⟨ua, un, uc, rfl, s1.kept hb⟩ ⟨va, vn, vc, rfl, s2.kept hb⟩
        have HF : Hid (samE (atE l j) (atE m j) = false → r = false) := HHIT.out j
        have NX : Hid (samE (atE l j) (atE m j) = true → ∀ k, k < j + 1 → samE (atE l k) (atE m k) = true) := fun h k hk => by
          rcases Nat.lt_or_ge k j with h' | h'
          · exact OK.out k h'
          · rw [show k = j by omega]; exact h
        clear s1 s2 OK hun hvn HHIT
        generalize atE l j = x at *
        generalize atE m j = y at *
        generalize hsb : samE x y = sb at *
        clear hsb
        generalize x.p = xp at *
        generalize x.d = xd at *
        generalize y.p = yp at *
        generalize y.d = yd at *
        have HP : Hid (∀ W, Below wr.heap.size wr W → (W.cell? ⟨b, off + j * 3, none⟩ = some (.string xp) ∧ W.cell? ⟨b, off + j * 3 + 1, none⟩ = some (.bool xd) ∧ W.cell? ⟨b, off + j * 3 + 2, none⟩ = some (.slice ua un uc)) ∧ W.cell? ⟨b', off' + j * 3, none⟩ = some (.string yp) ∧ W.cell? ⟨b', off' + j * 3 + 1, none⟩ = some (.bool yd) ∧ W.cell? ⟨b', off' + j * 3 + 2, none⟩ = some (.slice va vn vc)) := fun W hb => ⟨⟨(hb.cell (World.block_lt_of_cell? _ _ c1)).trans c1, (hb.cell (World.block_lt_of_cell? _ _ c2)).trans c2, (hb.cell (World.block_lt_of_cell? _ _ c3)).trans c3⟩, (hb.cell (World.block_lt_of_cell? _ _ d1)).trans d1, (hb.cell (World.block_lt_of_cell? _ _ d2)).trans d2, (hb.cell (World.block_lt_of_cell? _ _ d3)).trans d3⟩
        have cs := CS.out wr.drew (Below.refl _ _).drew
        clear CS
        go_wp2_with fail
        go_region_held3 (fun W => (W.cell? ⟨b, off + j * 3, none⟩ = some (.string xp) ∧ W.cell? ⟨b, off + j * 3 + 1, none⟩ = some (.bool xd) ∧ W.cell? ⟨b, off + j * 3 + 2, none⟩ = some (.slice ua un uc)) ∧ W.cell? ⟨b', off' + j * 3, none⟩ = some (.string yp) ∧ W.cell? ⟨b', off' + j * 3 + 1, none⟩ = some (.bool yd) ∧ W.cell? ⟨b', off' + j * 3 + 2, none⟩ = some (.slice va vn vc)) (first | exact HP.out _ (Below.refl _ _) | exact HP.out _ (Below.refl _ _).drew | exact HP.out _ d5) (first
          | (go_at_call 23; refine cs.mono ?_; rintro e w3 ⟨rfl, b3⟩; have d5 : Below wr.heap.size wr w3 := (Below.refl wr.heap.size wr).drew.trans b3))
        have B3 : Hid (Below w.heap.size w w3) := HB.out.trans (d5.mono HB.out.size)
        clear b3 d5 cs HP c1 c2 c3 d1 d2 d3
        cases sb with
        | true =>
          have NX2 : Hid (∀ k, k < j + 1 → samE (atE l k) (atE m k) = true) := NX.out rfl
          clear NX HF
          go_wp2
          go_roundw
          case rel => exact ⟨j + 1, by omega, by go_num, NX2.out, B3.out⟩
          case measure => simp [intOf]; omega
        | false =>
          have HF2 : Hid (r = false) := HF.out rfl
          clear NX HF
          go_wp2
          go_ret
          exact ⟨by rw [HF2.out]; rfl, B3.out⟩
      · obtain rfl : j = n := by omega
        have hr := HOK2.out OK.out
        have HR : Hid (r = true) := hr
        clear hr HOK2 HHIT OK
        go_wp2
        go_ret
        exact ⟨by rw [HR.out]; rfl, HB.out⟩
  · have hr := HNE.out hnk
    have HR : Hid (r = false) := hr
    have t0 : ((n : Int) != (k : Int)) = true := by simp; omega
    clear hr HNE HOK HHIT
    go_enter Tryd.func15, Tryd.ntmps15
    go_wp2
    go_ret
    exact ⟨by rw [HR.out]; rfl, Below.refl _ _⟩
end Go.Proofs.YtdomknajkipmnaaDoor
