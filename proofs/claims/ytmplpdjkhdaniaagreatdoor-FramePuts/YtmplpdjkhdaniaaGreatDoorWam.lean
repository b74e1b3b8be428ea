/-
  Sets in memory; where numbers stand in them.
-/
import Derived.Test.YtmplpdjkhdaniaaGreatDoorWal
namespace Go.Proofs.YtmplpdjkhdaniaaGreatDoor
open Go.RowKit
set_option maxRecDepth 100000

def spc (x : Sp) : List Value := [.int .i64 x.1, .int .i64 x.2]
/-- A slice of spans, as it is read; a row of the call's own. -/
def SSp (w : World) (v : Value) (l : List Sp) : Prop := IS 2 w v (l.map spc)
def RSp (w : World) (B : Nat) (v : Value) (l : List Sp) : Prop := RI 89 2 w B v (l.map spc)
theorem spc_cl (l : List Sp) : CL 2 (l.map spc) := fun c hc => by
  obtain ⟨x, _, rfl⟩ := List.mem_map.1 hc
  exact ⟨rfl, fun v hv => by simp only [spc, List.mem_cons, List.not_mem_nil, or_false] at hv; rcases hv with rfl | rfl <;> rfl⟩
theorem atC_sp (l : List Sp) (i : Nat) (h : i < l.length) : atC (l.map spc) i = spc (atS l i) := by
  rw [atC_eq _ _ (by rw [List.length_map]; exact h), atS_eq l i h, List.getElem_map]
theorem SSp.kept {w w' : World} {v : Value} {l : List Sp} (h : SSp w v l) (hb : Below w.heap.size w w') : SSp w' v l := IS.kept h hb
theorem SSp.shape {w : World} {v : Value} {l : List Sp} (h : SSp w v l) : ∃ a c, v = .slice a l.length c ∧ l.length ≤ c ∧ c ≤ maxLen ∧ (a = none → c = 0) := by
  have := IS.shape h
  rwa [List.length_map] at this
theorem SSp.nil (w : World) : SSp w (.slice none 0 0) [] := IS.nil 2 w
theorem SSp.at {w : World} {a : Option Addr} {n c : Nat} {l : List Sp} (h : SSp w (.slice a n c) l) (i : Nat) (hi : i < l.length) :
    ∃ b off, a = some ⟨b, off, none⟩ ∧ w.rangeAt b (off + i * 2) (spc (atS l i)) := by
  obtain ⟨b, off, e, hr⟩ := IS.at h i (by rw [List.length_map]; exact hi)
  rw [atC_sp l i hi] at hr
  exact ⟨b, off, e, hr⟩
theorem spC {w : World} {b o : Nat} {x : Sp} (h : w.rangeAt b o (spc x)) : w.cell? ⟨b, o, none⟩ = some (.int .i64 x.1) ∧ w.cell? ⟨b, o + 1, none⟩ = some (.int .i64 x.2) := ⟨h 0 _ rfl, h 1 _ rfl⟩
theorem RSp.is {w : World} {B : Nat} {v : Value} {l : List Sp} (h : RSp w B v l) : SSp w v l := RI.is h
theorem RSp.below {w w' : World} {B : Nat} {v : Value} {l : List Sp} (h : RSp w B v l) (hb : Below w.heap.size w w') : RSp w' B v l := RI.below h hb
theorem RSp.mono {w : World} {B B' : Nat} {v : Value} {l : List Sp} (h : RSp w B v l) (hb : B' ≤ B) : RSp w B' v l := RI.mono h hb
theorem RSp.nil (w : World) (B : Nat) : RSp w B (.slice none 0 0) [] := RI.nil _ 2 w B
theorem RSp.own {w : World} {B : Nat} {v : Value} {l : List Sp} (h : RSp w B v l) : w.ownsRow B 89 2 v l.length (l.map spc).flatten := by
  have := h.1
  rwa [List.length_map] at this
theorem RSp.of {w : World} {B : Nat} {v : Value} {l : List Sp} (h : w.ownsRow B 89 2 v l.length (l.map spc).flatten) : RSp w B v l := ⟨by rw [List.length_map]; exact h, spc_cl l⟩
theorem flat_take (l : List Sp) (i : Nat) : (l.map spc).flatten.take (i * 2) = ((l.take i).map spc).flatten := by rw [(spc_cl l).flat_take i, List.map_take]
theorem flat_drop (l : List Sp) (i : Nat) : (l.map spc).flatten.drop (i * 2) = ((l.drop i).map spc).flatten := by rw [(spc_cl l).flat_drop i, List.map_drop]
/-- A set. -/
def SB (w : World) (g : Nat) (v : Value) : Prop := w.heap[g]? = some (.cells #[v] 131 (0, 0))
theorem SB.cell {w : World} {g : Nat} {v : Value} (h : SB w g v) : w.cell? ⟨g, 0, none⟩ = some v := by unfold SB at h; simp [World.cell?, h]
theorem SB.kept {w w' : World} {g : Nat} {v : Value} (h : SB w g v) (hb : Below w.heap.size w w') : SB w' g v := blk_kept h hb (blk_lt h)
/-- Two variables that a closure captured: a set and a number. -/
def C2 (w : World) (b g : Nat) (n : Int) : Prop := w.heap[b]? = some (.cells #[.pointer (some ⟨g, 0, none⟩)] 93 (0, 0)) ∧ w.heap[b + 1]? = some (.cells #[.int .i64 n] 3 (0, 0))
theorem C2.kept {w w' : World} {b g : Nat} {n : Int} (h : C2 w b g n) (hb : Below w.heap.size w w') : C2 w' b g n := ⟨blk_kept h.1 hb (blk_lt h.1), blk_kept h.2 hb (blk_lt h.2)⟩
theorem drn (w : World) (n : Nat) : Below w.heap.size w (w.drewN n) := ⟨rfl, rfl, rfl, Nat.le_refl _, fun _ _ => rfl⟩
set_option maxHeartbeats 2000000 in
theorem ea1_any (w : World) (b g : Nat) (v : Value) (l : List Sp) (n : Int) (i : Nat) (hc : C2 w b g n) (hs : SB w g v) (hv : SSp w v l) (_ : l.length ≤ 100000) (hi : i < l.length) :
    Calls Tryz.prog 91 #[.int .i64 (i : Int), .pointer (some ⟨b, 0, none⟩), .pointer (some ⟨b + 1, 0, none⟩)] w fun e w' => e = .returned (.bool (decide (n ≤ (atS l i).2))) ∧ Below w.heap.size w w' := by
  obtain ⟨a, c, rfl, h2, h3, h4⟩ := hv.shape
  obtain ⟨bb, off, rfl, hr⟩ := hv.at i hi
  obtain ⟨k0, k1⟩ := spC hr
  have c0 := hs.cell
  have d0 : w.cell? ⟨b, 0, none⟩ = some (.pointer (some ⟨g, 0, none⟩)) := by have := hc.1; simp [World.cell?, this]
  have d1 : w.cell? ⟨b + 1, 0, none⟩ = some (.int .i64 n) := by have := hc.2; simp [World.cell?, this]
  have hlt : (i : Int) < (l.length : Int) := by omega
  have hl0 : (0 : Int) ≤ (i : Int) := by omega
  clear hc hs hv hr h4
  generalize atS l i = x at *
  generalize l.length = n9 at *
  go_enter Tryz.func91, Tryz.ntmps91
  go_wp2_with fail
  go_quiet (fail)
  have BD : Hid (Below w.heap.size w (w.drewN nq)) := drn w nq
  generalize w.drewN nq = DW at *
  go_wp2
  go_ret
  exact ⟨rfl, BD.out⟩
set_option maxHeartbeats 2000000 in
theorem eaS_any (w : World) (b g : Nat) (v : Value) (l : List Sp) (n : Int) (hc : C2 w b g n) (hs : SB w g v) (hv : SSp w v l) (hcn : Canon l) (hl : l.length ≤ 100000) :
    Calls Tryz.prog 90 #[.int .i64 (l.length : Int), .func (.func 91) #[] #[.pointer (some ⟨b, 0, none⟩), .pointer (some ⟨b + 1, 0, none⟩)]] w fun e w' => e = .returned (.int .i64 (fE l n : Nat)) ∧ Below w.heap.size w w' := by
  have q1 : fE l n ≤ l.length := fE_le l n
  have CF : Hid (∀ W i, Below w.heap.size w W → i < l.length → Calls Tryz.prog 91 #[.int .i64 (i : Int), .pointer (some ⟨b, 0, none⟩), .pointer (some ⟨b + 1, 0, none⟩)] W fun e w' => e = .returned (.bool (decide (fE l n ≤ i))) ∧ Below W.heap.size W w') := fun W i hb hi => by
    have := ea1_any W b g v l n i (hc.kept hb) (hs.kept hb) (hv.kept hb) hl hi
    have e : (decide (n ≤ (atS l i).2)) = decide (fE l n ≤ i) := by rw [Bool.eq_iff_iff, decide_eq_true_eq, decide_eq_true_eq, fE_lt hcn n hi]
    rwa [e] at this
  clear hc hs hv hcn
  generalize fE l n = m at *
  generalize l.length = n9 at *
  go_enter Tryz.func90, Tryz.ntmps90
  go_wp2
  go_loopw [5, 6] (fun u v wr => ∃ i j : Nat, i ≤ m ∧ m ≤ j ∧ j ≤ n9 ∧ u = .int .i64 i ∧ v = .int .i64 j ∧ Below w.heap.size w wr) (fun u v _ => (intOf v).toNat - (intOf u).toNat)
  case atStart => exact ⟨0, n9, by omega, q1, Nat.le_refl _, rfl, rfl, Below.refl _ _⟩
  case round =>
    obtain ⟨i, j, h1, h2, h3, rfl, rfl, bel⟩ := hrel
    have HB : Hid (Below w.heap.size w wr) := bel
    clear bel
    by_cases hlt : i < j
    · have lt2 : (i : Int) < (j : Int) := by omega
      have CS := CF.out wr ((i + j) / 2) HB.out (by omega)
      rw [show (((i + j) / 2 : Nat) : Int) = ((i : Int) + (j : Int)) / 2 by omega] at CS
      by_cases hm : m ≤ (i + j) / 2
      · rw [decide_eq_true hm] at CS
        go_wp2_with fail
        refine CS.mono ?_
        rintro e w2 ⟨rfl, b2⟩
        have B2 : Hid (Below w.heap.size w w2) := HB.out.trans (b2.mono HB.out.size)
        clear CS b2
        go_wp2
        go_roundw
        case rel => exact ⟨i, (i + j) / 2, h1, hm, by omega, rfl, by rw [show (((i + j) / 2 : Nat) : Int) = ((i : Int) + (j : Int)) / 2 by omega], B2.out⟩
        case measure => simp [intOf]; omega
      · rw [decide_eq_false hm] at CS
        go_wp2_with fail
        refine CS.mono ?_
        rintro e w2 ⟨rfl, b2⟩
        have B2 : Hid (Below w.heap.size w w2) := HB.out.trans (b2.mono HB.out.size)
        clear CS b2
        go_wp2
        go_roundw
        case rel => exact ⟨(i + j) / 2 + 1, j, by omega, h2, h3, by rw [show (((i + j) / 2 + 1 : Nat) : Int) = ((i : Int) + (j : Int)) / 2 + 1 by omega], rfl, B2.out⟩
        case measure => simp [intOf]; omega
    · obtain rfl : i = j := by omega
      obtain rfl : m = i := by omega
      have lt2 : ¬ (m : Int) < (m : Int) := by omega
      go_wp2
      go_ret
      exact ⟨rfl, HB.out⟩
set_option maxHeartbeats 2000000 in
theorem ea_any (w : World) (g : Nat) (v : Value) (l : List Sp) (n : Int) (hs : SB w g v) (hv : SSp w v l) (hcn : Canon l) (hl : l.length ≤ 100000) :
    Calls Tryz.prog 80 #[.pointer (some ⟨g, 0, none⟩), .int .i64 n] w fun e w' => e = .returned (.int .i64 (fE l n : Nat)) ∧ Below w.heap.size w w' := by
  obtain ⟨W0, hW0⟩ : ∃ W0, W0 = w.alloc (.cells #[.pointer (some ⟨g, 0, none⟩)] 93) := ⟨_, rfl⟩
  obtain ⟨W1, hW1⟩ : ∃ W1, W1 = W0.alloc (.cells #[.int .i64 n] 3) := ⟨_, rfl⟩
  have z0 : W0.heap.size = w.heap.size + 1 := by rw [hW0]; simp
  have b0 : Below w.heap.size w W0 := by rw [hW0]; exact al_below _ _
  have b1 : Below W0.heap.size W0 W1 := by rw [hW1]; exact al_below _ _
  have g0 : W0.heap[w.heap.size]? = some (.cells #[.pointer (some ⟨g, 0, none⟩)] 93 (0, 0)) := by rw [hW0]; exact heap_alloc_new _ _
  have c2 : C2 W1 w.heap.size g n := ⟨blk_kept g0 b1 (blk_lt g0), by rw [hW1, ← z0]; exact heap_alloc_new _ _⟩
  have b01 : Below w.heap.size w W1 := b0.trans (b1.mono b0.size)
  have s1 := hs.kept b01
  have v1 := hv.kept b01
  have cs := eaS_any W1 w.heap.size g v l n c2 s1 v1 hcn hl
  obtain ⟨a, c, rfl, h2, h3, h4⟩ := hv.shape
  have k0 := s1.cell
  have d0 : W1.cell? ⟨w.heap.size, 0, none⟩ = some (.pointer (some ⟨g, 0, none⟩)) := by have := c2.1; simp [World.cell?, this]
  have HB : Hid (Below w.heap.size w W1) := b01
  have hw0 := hW0.symm
  have hw1 := hW1.symm
  have HZ : Hid (W0.heap.size = w.heap.size + 1) := z0
  clear hs hv hcn s1 v1 c2 g0 b0 b1 b01 hW0 hW1 z0
  generalize fE l n = m at *
  generalize l.length = n9 at *
  go_enter Tryz.func80, Tryz.ntmps80
  go_wp2_with fail
  try rw [hw0]
  try rw [hw1]
  try rw [HZ.out]
  refine cs.mono ?_
  rintro e w2 ⟨rfl, b2⟩
  have B2 : Hid (Below w.heap.size w w2) := HB.out.trans (b2.mono HB.out.size)
  clear cs b2
  go_wp2
  go_ret
  exact ⟨rfl, B2.out⟩
set_option maxHeartbeats 2000000 in
theorem bu1_any (w : World) (b g : Nat) (v : Value) (l : List Sp) (n : Int) (i : Nat) (hc : C2 w b g n) (hs : SB w g v) (hv : SSp w v l) (_ : l.length ≤ 100000) (hi : i < l.length) :
    Calls Tryz.prog 92 #[.int .i64 (i : Int), .pointer (some ⟨b, 0, none⟩), .pointer (some ⟨b + 1, 0, none⟩)] w fun e w' => e = .returned (.bool (decide (n < (atS l i).1))) ∧ Below w.heap.size w w' := by
  obtain ⟨a, c, rfl, h2, h3, h4⟩ := hv.shape
  obtain ⟨bb, off, rfl, hr⟩ := hv.at i hi
  obtain ⟨k0, k1⟩ := spC hr
  have c0 := hs.cell
  have d0 : w.cell? ⟨b, 0, none⟩ = some (.pointer (some ⟨g, 0, none⟩)) := by have := hc.1; simp [World.cell?, this]
  have d1 : w.cell? ⟨b + 1, 0, none⟩ = some (.int .i64 n) := by have := hc.2; simp [World.cell?, this]
  have hlt : (i : Int) < (l.length : Int) := by omega
  have hl0 : (0 : Int) ≤ (i : Int) := by omega
  clear hc hs hv hr h4
  generalize atS l i = x at *
  generalize l.length = n9 at *
  go_enter Tryz.func92, Tryz.ntmps92
  go_wp2_with fail
  go_quiet (fail)
  have BD : Hid (Below w.heap.size w (w.drewN nq)) := drn w nq
  generalize w.drewN nq = DW at *
  go_wp2
  go_ret
  exact ⟨rfl, BD.out⟩
set_option maxHeartbeats 2000000 in
theorem buS_any (w : World) (b g : Nat) (v : Value) (l : List Sp) (n : Int) (hc : C2 w b g n) (hs : SB w g v) (hv : SSp w v l) (hcn : Canon l) (hl : l.length ≤ 100000) :
    Calls Tryz.prog 90 #[.int .i64 (l.length : Int), .func (.func 92) #[] #[.pointer (some ⟨b, 0, none⟩), .pointer (some ⟨b + 1, 0, none⟩)]] w fun e w' => e = .returned (.int .i64 (bU l n : Nat)) ∧ Below w.heap.size w w' := by
  have q1 : bU l n ≤ l.length := bU_le l n
  have CF : Hid (∀ W i, Below w.heap.size w W → i < l.length → Calls Tryz.prog 92 #[.int .i64 (i : Int), .pointer (some ⟨b, 0, none⟩), .pointer (some ⟨b + 1, 0, none⟩)] W fun e w' => e = .returned (.bool (decide (bU l n ≤ i))) ∧ Below W.heap.size W w') := fun W i hb hi => by
    have := bu1_any W b g v l n i (hc.kept hb) (hs.kept hb) (hv.kept hb) hl hi
    have e : (decide (n < (atS l i).1)) = decide (bU l n ≤ i) := by rw [Bool.eq_iff_iff, decide_eq_true_eq, decide_eq_true_eq, bU_lt hcn n hi]
    rwa [e] at this
  clear hc hs hv hcn
  generalize bU l n = m at *
  generalize l.length = n9 at *
  go_enter Tryz.func90, Tryz.ntmps90
  go_wp2
  go_loopw [5, 6] (fun u v wr => ∃ i j : Nat, i ≤ m ∧ m ≤ j ∧ j ≤ n9 ∧ u = .int .i64 i ∧ v = .int .i64 j ∧ Below w.heap.size w wr) (fun u v _ => (intOf v).toNat - (intOf u).toNat)
  case atStart => exact ⟨0, n9, by omega, q1, Nat.le_refl _, rfl, rfl, Below.refl _ _⟩
  case round =>
    obtain ⟨i, j, h1, h2, h3, rfl, rfl, bel⟩ := hrel
    have HB : Hid (Below w.heap.size w wr) := bel
    clear bel
    by_cases hlt : i < j
    · have lt2 : (i : Int) < (j : Int) := by omega
      have CS := CF.out wr ((i + j) / 2) HB.out (by omega)
      rw [show (((i + j) / 2 : Nat) : Int) = ((i : Int) + (j : Int)) / 2 by omega] at CS
      by_cases hm : m ≤ (i + j) / 2
      · rw [decide_eq_true hm] at CS
        go_wp2_with fail
        refine CS.mono ?_
        rintro e w2 ⟨rfl, b2⟩
        have B2 : Hid (Below w.heap.size w w2) := HB.out.trans (b2.mono HB.out.size)
        clear CS b2
        go_wp2
        go_roundw
        case rel => exact ⟨i, (i + j) / 2, h1, hm, by omega, rfl, by rw [show (((i + j) / 2 : Nat) : Int) = ((i : Int) + (j : Int)) / 2 by omega], B2.out⟩
        case measure => simp [intOf]; omega
      · rw [decide_eq_false hm] at CS
        go_wp2_with fail
        refine CS.mono ?_
        rintro e w2 ⟨rfl, b2⟩
        have B2 : Hid (Below w.heap.size w w2) := HB.out.trans (b2.mono HB.out.size)
        clear CS b2
        go_wp2
        go_roundw
        case rel => exact ⟨(i + j) / 2 + 1, j, by omega, h2, h3, by rw [show (((i + j) / 2 + 1 : Nat) : Int) = ((i : Int) + (j : Int)) / 2 + 1 by omega], rfl, B2.out⟩
        case measure => simp [intOf]; omega
    · obtain rfl : i = j := by omega
      obtain rfl : m = i := by omega
      have lt2 : ¬ (m : Int) < (m : Int) := by omega
      go_wp2
      go_ret
      exact ⟨rfl, HB.out⟩
set_option maxHeartbeats 2000000 in
theorem bu_any (w : World) (g : Nat) (v : Value) (l : List Sp) (n : Int) (hs : SB w g v) (hv : SSp w v l) (hcn : Canon l) (hl : l.length ≤ 100000) :
    Calls Tryz.prog 81 #[.pointer (some ⟨g, 0, none⟩), .int .i64 n] w fun e w' => e = .returned (.int .i64 (bU l n : Nat)) ∧ Below w.heap.size w w' := by
  obtain ⟨W0, hW0⟩ : ∃ W0, W0 = w.alloc (.cells #[.pointer (some ⟨g, 0, none⟩)] 93) := ⟨_, rfl⟩
  obtain ⟨W1, hW1⟩ : ∃ W1, W1 = W0.alloc (.cells #[.int .i64 n] 3) := ⟨_, rfl⟩
  have z0 : W0.heap.size = w.heap.size + 1 := by rw [hW0]; simp
  have b0 : Below w.heap.size w W0 := by rw [hW0]; exact al_below _ _
  have b1 : Below W0.heap.size W0 W1 := by rw [hW1]; exact al_below _ _
  have g0 : W0.heap[w.heap.size]? = some (.cells #[.pointer (some ⟨g, 0, none⟩)] 93 (0, 0)) := by rw [hW0]; exact heap_alloc_new _ _
  have c2 : C2 W1 w.heap.size g n := ⟨blk_kept g0 b1 (blk_lt g0), by rw [hW1, ← z0]; exact heap_alloc_new _ _⟩
  have b01 : Below w.heap.size w W1 := b0.trans (b1.mono b0.size)
  have s1 := hs.kept b01
  have v1 := hv.kept b01
  have cs := buS_any W1 w.heap.size g v l n c2 s1 v1 hcn hl
  obtain ⟨a, c, rfl, h2, h3, h4⟩ := hv.shape
  have k0 := s1.cell
  have d0 : W1.cell? ⟨w.heap.size, 0, none⟩ = some (.pointer (some ⟨g, 0, none⟩)) := by have := c2.1; simp [World.cell?, this]
  have HB : Hid (Below w.heap.size w W1) := b01
  have hw0 := hW0.symm
  have hw1 := hW1.symm
  have HZ : Hid (W0.heap.size = w.heap.size + 1) := z0
  clear hs hv hcn s1 v1 c2 g0 b0 b1 b01 hW0 hW1 z0
  generalize bU l n = m at *
  generalize l.length = n9 at *
  go_enter Tryz.func81, Tryz.ntmps81
  go_wp2_with fail
  try rw [hw0]
  try rw [hw1]
  try rw [HZ.out]
  refine cs.mono ?_
  rintro e w2 ⟨rfl, b2⟩
  have B2 : Hid (Below w.heap.size w w2) := HB.out.trans (b2.mono HB.out.size)
  clear cs b2
  go_wp2
  go_ret
  exact ⟨rfl, B2.out⟩
end Go.Proofs.YtmplpdjkhdaniaaGreatDoor
