/-
  A state in a block of the call's own; what place, pass and mark answer.
-/
import Derived.Test.YtcenchnmibdebaaDoorFd
import Derived.Test.YtcenchnmibdebaaDoorCs
namespace Go.Proofs.YtcenchnmibdebaaDoor
open Go.RowKit
set_option maxRecDepth 100000

abbrev RP := RPt 58
abbrev RR := RRt 33
/-- A state at block g, its parts in a row of the call's own. -/
def SV (w : World) (B g : Nat) (v : Value) (s : Ste) : Prop := w.heap[g]? = some (.cells #[v, .int .i64 s.n] 43 (0, 0)) ∧ RP w B v s.l
def SB (w : World) (B g : Nat) (s : Ste) : Prop := ∃ v, SV w B g v s
theorem SV.cells {w : World} {B g : Nat} {v : Value} {s : Ste} (h : SV w B g v s) : w.cell? ⟨g, 0, none⟩ = some v ∧ w.cell? ⟨g, 1, none⟩ = some (.int .i64 s.n) ∧ (∀ i, w.frozen? ⟨g, i, none⟩ = false) := by
  have h1 := h.1
  refine ⟨by simp [World.cell?, h1], by simp [World.cell?, h1], fun i => by simp [World.frozen?, h1]⟩
theorem SV.kept {w w' : World} {B g : Nat} {v : Value} {s : Ste} (h : SV w B g v s) (hb : Below w.heap.size w w') : SV w' B g v s := ⟨blk_kept h.1 hb (blk_lt h.1), h.2.below hb⟩
theorem SV.lt {w : World} {B g : Nat} {v : Value} {s : Ste} (h : SV w B g v s) : g < w.heap.size := blk_lt h.1
theorem own_ne {w : World} {B n s : Nat} {e : TypeId} {v : Value} {xs : List Value} {g : Nat} {cs : Array Value} {T : TypeId} {fr : Nat × Nat} (h : w.ownsRow B e s v n xs) (hg : w.heap[g]? = some (.cells cs T fr)) (hT : T ≠ e) : v.ownBlock ≠ some g := by
  rcases h.2 with ⟨rfl, _⟩ | ⟨g', cap, cur, rfl, hb, hh, q⟩
  · intro e; cases e
  · intro e
    cases e
    rw [hg] at hh
    cases hh
    exact hT rfl
theorem own_set {w : World} {B n s : Nat} {e : TypeId} {v : Value} {xs : List Value} {g i : Nat} {x : Value} (h : w.ownsRow B e s v n xs) (hg : v.ownBlock ≠ some g) : (w.setCell ⟨g, i, none⟩ x).ownsRow B e s v n xs := by
  obtain ⟨h1, h2⟩ := h
  refine ⟨h1, ?_⟩
  rcases h2 with h2 | ⟨g', cap, cur, rfl, hb, hh, q⟩
  · exact .inl h2
  · refine .inr ⟨g', cap, cur, rfl, hb, ?_, q⟩
    rw [heap_setCell_other _ _ _ _ (fun e => hg (by rw [show g' = g from e]; rfl))]
    exact hh
/-- Next is set. -/
theorem SV.next {w : World} {B g : Nat} {v : Value} {s : Ste} (h : SV w B g v s) (n : Int) : SV (w.setCell ⟨g, 1, none⟩ (.int .i64 n)) B g v ⟨s.l, n⟩ := by
  refine ⟨?_, ⟨own_set h.2.1.1 (own_ne h.2.1.1 h.1 (by decide)), h.2.1.2⟩, h.2.2⟩
  have h1 := h.1
  rw [heap_setCell_same _ _ _ _ _ _ h1]
  rfl
theorem set_below {w : World} {B g i : Nat} {x : Value} (h : B ≤ g) : Below B w (w.setCell ⟨g, i, none⟩ x) :=
  ⟨rfl, rfl, rfl, by simp [World.setCell], fun k hk => heap_setCell_other _ _ _ _ (fun e => by simp at e; omega)⟩
/-- Whether an ID may be passed. -/
def pss (s : Ste) (i : Int) : Bool := decide (s.n ≤ i)
def pnx (s : Ste) (i : Int) : Ste := ⟨s.l, if s.n ≤ i then i + 1 else s.n⟩
set_option maxHeartbeats 1000000 in
theorem pass_any (B g : Nat) (v : Value) (s : Ste) (i : Int) (w : World) (h : SV w B g v s) (hB : B ≤ g) (hi : i ≤ 4611686018427387904) (hi2 : -9223372036854775808 ≤ i) :
    Calls Tryd.prog 47 #[.pointer (some ⟨g, 0, none⟩), .int .i64 i] w fun e w' => e = .returned (.bool (pss s i)) ∧ SV w' B g v (pnx s i) ∧ Below B w w' := by
  have HP : Hid (pss s i = decide (s.n ≤ i)) := rfl
  obtain ⟨k0, k1, kf⟩ := h.cells
  have f1 := kf 1
  have yw : wrap64 (i + 1) = i + 1 := by unfold wrap64; omega
  have yp : IntKind.i64.wrap (i + 1) = i + 1 := by rw [IntKind.wrap_i64]; omega
  have HN : Hid (SV (w.setCell ⟨g, 1, none⟩ (.int .i64 (i + 1))) B g v ⟨s.l, i + 1⟩ ∧ Below B w (w.setCell ⟨g, 1, none⟩ (.int .i64 (i + 1)))) := ⟨h.next _, set_below hB⟩
  have HH : Hid (SV w B g v s) := h
  clear h hB hi hi2 kf k0
  have HX : Hid (pnx s i = ⟨s.l, if s.n ≤ i then i + 1 else s.n⟩) := rfl
  generalize pnx s i = t at *
  generalize pss s i = q at *
  by_cases hlt : i < s.n
  · have HT : Hid (t = s) := by unfold Hid; rw [HX.out, if_neg (by omega)]
    have HR : Hid (q = false) := by unfold Hid; rw [HP.out]; simp; omega
    have d1 : decide (i < s.n) = true := by simpa using hlt
    go_enter Tryd.func47, Tryd.ntmps47
    go_wp2
    go_ret
    exact ⟨by rw [HR.out]; rfl, by rw [HT.out]; exact HH.out, Below.refl _ _⟩
  · have HT : Hid (t = ⟨s.l, i + 1⟩) := by unfold Hid; rw [HX.out, if_pos (by omega)]
    have HR : Hid (q = true) := by unfold Hid; rw [HP.out]; simp; omega
    have d1 : decide (i < s.n) = false := by simpa using hlt
    go_enter Tryd.func47, Tryd.ntmps47
    go_wp2
    go_ret
    exact ⟨by rw [HR.out]; rfl, by rw [HT.out]; exact HN.out.1, HN.out.2⟩
theorem place1_any (x : Pa) (i : Int) (g : Nat) (w : World) (hc : w.cell? ⟨g, 0, none⟩ = some (.int .i64 i)) (hx : x.ok) :
    Calls Tryd.prog 80 #[x.val, .pointer (some ⟨g, 0, none⟩)] w fun e w' => e = .returned (.bool (decide (x.i = i))) ∧ Below w.heap.size w w' := by
  have HR : Hid ((x.i == i) = decide (x.i = i)) := by unfold Hid; by_cases h : x.i = i <;> simp [h]
  obtain ⟨W1, hW1⟩ : ∃ W1, W1 = w.alloc (.cells x.cells.toArray 58) := ⟨_, rfl⟩
  have b1 : Below w.heap.size w W1 := by rw [hW1]; exact al_below _ _
  have r1 : W1.rangeAt w.heap.size 0 x.cells := by rw [hW1]; exact pa_new w x
  obtain ⟨k0, -, -, -, -⟩ := paC r1 hx
  have c1 : W1.cell? ⟨g, 0, none⟩ = some (.int .i64 i) := (b1.cell (World.block_lt_of_cell? _ _ hc)).trans hc
  have B1 : Hid (Below w.heap.size w W1) := b1
  have hw1 := hW1.symm
  unfold Pa.val
  clear b1 r1 hc hx hW1
  generalize decide (x.i = i) = r at *
  generalize x.cells.toArray = cs at *
  generalize x.i = xi at *
  go_enter Tryd.func80, Tryd.ntmps80
  go_wp2
  go_ret
  exact ⟨by rw [← HR.out]; rfl, B1.out⟩
def plI (l : List Pa) (i : Int) : Int := if plc l i < l.length then (plc l i : Int) else -1
set_option maxHeartbeats 1000000 in
theorem index_any (v : Value) (l : List Pa) (i : Int) (g : Nat) (w : World) (h : PS w v l) (hl : l.length ≤ 100000) (hc : w.cell? ⟨g, 0, none⟩ = some (.int .i64 i)) :
    Calls Tryd.prog 79 #[v, .func (.func 80) #[] #[.pointer (some ⟨g, 0, none⟩)]] w fun e w' => e = .returned (.int .i64 (plI l i)) ∧ Below w.heap.size w w' := by
  obtain ⟨a, c, rfl, h2, h3, h4⟩ := h.shape
  have HS : Hid (PS w (.slice a l.length c) l) := h
  have HOK : Hid (∀ x ∈ l, x.ok) := h.2
  have HC : Hid (∀ W, Below w.heap.size w W → W.cell? ⟨g, 0, none⟩ = some (.int .i64 i)) := fun W hb => (hb.cell (World.block_lt_of_cell? _ _ hc)).trans hc
  have HHIT : Hid (∀ j, j < l.length → (∀ k, k < j → ¬ (atP l k).i = i) → (atP l j).i = i → plI l i = j) := fun j hj h1 h2 => by unfold plI; rw [plc_hit l i j hj h1 h2, if_pos hj]
  have HNO : Hid ((∀ k, k < l.length → ¬ (atP l k).i = i) → plI l i = -1) := fun h => by unfold plI; rw [plc_none l i h, if_neg (Nat.lt_irrefl _)]
  obtain ⟨n, hn'⟩ : ∃ n, n = l.length := ⟨_, rfl⟩
  have HN : Hid (n = l.length) := hn'
  have hn := hl
  rw [← hn'] at HS h2 hn HHIT HNO ⊢
  clear h hl h3 h4 hn' hc
  generalize plI l i = r at *
  go_enter Tryd.func79, Tryd.ntmps79
  go_wp2
  go_loopw [8] (fun q wr => ∃ j : Nat, j ≤ n ∧ q = .int .i64 j ∧ (∀ k, k < j → ¬ (atP l k).i = i) ∧ Below w.heap.size w wr) (fun q _ => n - (intOf q).toNat)
  case atStart => exact ⟨0, by omega, rfl, fun k hk => by omega, Below.refl _ _⟩
  case round =>
    obtain ⟨j, hj, rfl, ok, bel⟩ := hrel
    have HB : Hid (Below w.heap.size w wr) := bel
    have OK : Hid (∀ k, k < j → ¬ (atP l k).i = i) := ok
    clear bel ok
    by_cases hlt : j < n
    · have lt2 : (j : Int) < (n : Int) := by omega
      obtain ⟨b, off, rfl, hr⟩ := (HS.out.kept HB.out).at j (by rw [← HN.out]; exact hlt)
      have hx : (atP l j).ok := Pa.at l HOK.out j
      have HF : Hid ((atP l j).i = i → r = j) := HHIT.out j hlt OK.out
      have NX : Hid (¬ (atP l j).i = i → ∀ k, k < j + 1 → ¬ (atP l k).i = i) := fun h k hk => by
        rcases Nat.lt_or_ge k j with h' | h'
        · exact OK.out k h'
        · rw [show k = j by omega]; exact h
      generalize atP l j = x at *
      have RN : Hid (wr.rangeAt b (off + j * 36) x.cells) := hr
      have HZ : Hid ((Tryd.prog.info? 58).map (·.size) = some x.cells.length) := Pa.infoL x hx
      have CS := place1_any x i g wr (HC.out wr HB.out) hx
      unfold Pa.val at CS
      clear hr hx HHIT OK HNO
      by_cases hq : x.i = i
      · have HF2 : Hid (r = j) := HF.out hq
        rw [decide_eq_true hq] at CS
        clear NX HF hq
        generalize x.cells = cs at *
        go_wp2_with (refine wpList_load_mid rfl 58 _ rfl b (off + j * 36) rfl cs _ RN.out Tryd.underlying58 rfl HZ.out (Hid.out ?_))
        unfold Hid
        go_wp2_with fail
        refine CS.mono ?_
        rintro e w3 ⟨rfl, b3⟩
        have B3 : Hid (Below w.heap.size w w3) := HB.out.trans (b3.mono HB.out.size)
        clear b3 CS
        go_wp2
        go_ret
        exact ⟨by rw [HF2.out]; rfl, B3.out⟩
      · have NX2 : Hid (∀ k, k < j + 1 → ¬ (atP l k).i = i) := NX.out hq
        rw [decide_eq_false hq] at CS
        clear NX HF hq
        generalize x.cells = cs at *
        go_wp2_with (refine wpList_load_mid rfl 58 _ rfl b (off + j * 36) rfl cs _ RN.out Tryd.underlying58 rfl HZ.out (Hid.out ?_))
        unfold Hid
        go_wp2_with fail
        refine CS.mono ?_
        rintro e w3 ⟨rfl, b3⟩
        have B3 : Hid (Below w.heap.size w w3) := HB.out.trans (b3.mono HB.out.size)
        clear b3 CS
        go_wp2
        go_roundw
        case rel => exact ⟨j + 1, by omega, by go_num, NX2.out, B3.out⟩
        case measure => simp [intOf]; omega
    · obtain rfl : j = n := by omega
      have HR : Hid (r = -1) := HNO.out OK.out
      clear HNO HHIT OK
      go_wp2
      go_ret
      exact ⟨by rw [HR.out]; rfl, HB.out⟩
set_option maxHeartbeats 1000000 in
theorem place_any (B g : Nat) (v : Value) (s : Ste) (i : Int) (w : World) (h : SV w B g v s) (hl : s.l.length ≤ 100000) :
    Calls Tryd.prog 62 #[.pointer (some ⟨g, 0, none⟩), .int .i64 i] w fun e w' => e = .returned (.int .i64 (plI s.l i)) ∧ Below w.heap.size w w' := by
  have hmf : ∀ (fn : Fn) (first cap : Array Value) (w : World), (Instr.makeFunc fn first cap).run Tryd.prog w = .ok (.func fn first cap) w := fun _ _ _ _ => rfl
  obtain ⟨W1, hW1⟩ : ∃ W1, W1 = w.alloc (.cells #[.int .i64 i] 3) := ⟨_, rfl⟩
  have b1 : Below w.heap.size w W1 := by rw [hW1]; exact al_below _ _
  have c1 : W1.cell? ⟨w.heap.size, 0, none⟩ = some (.int .i64 i) := by rw [hW1, World.cell?_alloc_at _ _ _ _ rfl]; rfl
  have CI := index_any v s.l i w.heap.size W1 (h.kept b1).2.is hl c1
  have k0 := ((h.kept b1).cells).1
  have B1 : Hid (Below w.heap.size w W1) := b1
  obtain ⟨a, c, rfl, _, _, _⟩ := h.2.is.shape
  have hw1 := hW1.symm
  clear h hl b1 c1 hW1
  generalize plI s.l i = r at *
  generalize s.l.length = n at *
  go_enter Tryd.func62, Tryd.ntmps62
  go_wp2_with fail
  refine CI.mono ?_
  rintro e w2 ⟨rfl, b2⟩
  have B2 : Hid (Below w.heap.size w w2) := B1.out.trans (b2.mono B1.out.size)
  clear CI b2
  go_wp2
  go_ret
  exact ⟨rfl, B2.out⟩
end Go.Proofs.YtcenchnmibdebaaDoor
