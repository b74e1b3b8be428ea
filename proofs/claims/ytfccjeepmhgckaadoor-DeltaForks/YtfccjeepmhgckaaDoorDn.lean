/-
  What numberAhead, dataAhead, copyAhead and opAhead answer: a part, nothing yet, or a panic.
-/
import Derived.Test.YtfccjeepmhgckaaDoorLf
import Derived.Test.YtfccjeepmhgckaaDoorDc
import Derived.Defers
import Derived.Recover
namespace Go.Proofs.YtfccjeepmhgckaaDoor
open Go.RowKit
set_option maxRecDepth 100000

/-- A panic with an error. -/
abbrev pan (k : Int) : Ending := .panicked [{ v := .iface 30 (.int .i64 k), recovered := false }]
theorem Wid.kept {w w' : World} (h : Fi.Wid w) (hb : Below w.heap.size w w') : Fi.Wid w' := h.below hb h.pos
theorem SlX.facts {w : World} {a : Option Addr} {L cap : Nat} {b : List Int} (h : SlX w (.slice a L cap) b) : b.length = L ∧ L ≤ cap ∧ cap ≤ maxLen ∧ (a = none → cap = 0) := by
  obtain ⟨a', c', e, h1, h2, h3, -⟩ := h.1
  cases e
  exact ⟨rfl, h1, h2, h3⟩
theorem SlX.drop {w : World} {a : Option Addr} {L cap : Nat} {b : List Int} (h : SlX w (.slice a L cap) b) (n : Nat) (hn : n ≤ L) : SlX w (cuv a L cap n) (b.drop n) := by
  refine ⟨cuv_sl h.1 hn (fun x hx hc => h.2 x L cap (by rw [hx]) hc), fun x m c e hc => ?_⟩
  unfold cuv at e
  split at e
  · cases e; omega
  · cases a with
    | none => cases e
    | some y => cases e; rfl
set_option maxHeartbeats 1000000 in
theorem number_cut (v : Value) (b : List Int) (w : World) (h : SlX w v b) (ht : Fi.Wid w) (he : nE b = 3) :
    Calls Tryd.prog 45 #[v] w fun e w' => e = .returned (.tuple #[.int .i64 0, .slice none 0 0, .bool false]) ∧ w' = w := by
  obtain ⟨a, c, rfl, h2, h3, h4, h5⟩ := id h.1
  have CS := Fi.shortest_any a b.length c b w ht h5
  unfold nE at he
  rw [he] at CS
  clear h h2 h3 h4 h5 ht he
  generalize Fi.shN b.length b = n at *
  generalize Fi.shU b.length b = u at *
  generalize b.length = L at *
  go_enter Tryd.func45, Tryd.ntmps45
  go_wp2_with fail
  refine CS.mono ?_
  rintro e w1 ⟨rfl, rfl⟩
  clear CS
  go_wp2
  go_ret3
  exact ⟨rfl, rfl⟩
set_option maxHeartbeats 1000000 in
theorem number_bad (v : Value) (b : List Int) (w : World) (h : SlX w v b) (ht : Fi.Wid w) (he : nE b ≠ 3) (h0 : nE b ≠ 0) :
    Calls Tryd.prog 45 #[v] w fun e w' => e = pan (nE b) ∧ w' = w := by
  obtain ⟨a, c, rfl, h2, h3, h4, h5⟩ := id h.1
  have CS := Fi.shortest_any a b.length c b w ht h5
  unfold nE at he h0 ⊢
  have t0 : (Fi.shE b.length b == 0) = false := by simpa using h0
  have t3 : (Fi.shE b.length b == 3) = false := by simpa using he
  clear h h2 h3 h4 h5 ht he h0
  generalize Fi.shN b.length b = n at *
  generalize Fi.shU b.length b = u at *
  generalize Fi.shE b.length b = k at *
  generalize b.length = L at *
  go_enter Tryd.func45, Tryd.ntmps45
  go_wp2_with fail
  refine CS.mono ?_
  rintro e w1 ⟨rfl, rfl⟩
  clear CS
  go_wp2
  exact ⟨rfl, rfl, rfl⟩
theorem cuv_shape (a : Option Addr) (L c n : Nat) (hn : n ≤ L) (hc : L ≤ c) (ha : a = none → c = 0) : ∃ a' c', cuv a L c n = .slice a' (L - n) c' := by
  unfold cuv
  split
  · exact ⟨a, 0, by rw [show L - n = 0 by omega]⟩
  · cases a with
    | none => have := ha rfl; exact ⟨none, 0, by rw [show L - n = 0 by omega]⟩
    | some x => exact ⟨_, _, rfl⟩
theorem cuv_own {a a' : Option Addr} {L c n L' c' : Nat} (h : cuv a L c n = .slice a' L' c') (ha : a = none → c = 0) (hn : n ≤ c) : ∀ p q r s, (Value.slice a' p q).ownBlock = (Value.slice a r s).ownBlock := fun p q r s => by
  unfold cuv at h
  split at h
  · cases h
    cases a <;> rfl
  · cases a with
    | none => have := ha rfl; omega
    | some x => cases h; rfl
set_option maxHeartbeats 1000000 in
theorem number_ok (a : Option Addr) (c : Nat) (b : List Int) (w : World) (h : SlX w (.slice a b.length c) b) (ht : Fi.Wid w) (he : nE b = 0) :
    Calls Tryd.prog 45 #[.slice a b.length c] w fun e w' => e = .returned (.tuple #[.int .i64 (nN b), cuv a b.length c (nU b).toNat, .bool true]) ∧ Below w.heap.size w w' := by
  obtain ⟨a', c', e, h2, h3, h4, h5⟩ := id h.1
  cases e
  have CS := Fi.shortest_any a b.length c b w ht h5
  obtain ⟨-, -, u0, u1⟩ := nU_le b h.1.bytes
  unfold nE at he
  rw [he] at CS
  have hsp := h.2
  clear h h3 h5 ht he
  unfold nN nU at *
  obtain ⟨u, hu⟩ : ∃ u : Nat, Fi.shU b.length b = u := ⟨_, (Int.toNat_of_nonneg u0).symm⟩
  rw [hu] at CS u1 ⊢
  rw [Int.toNat_natCast]
  clear u0 hu
  generalize Fi.shN b.length b = n at *
  generalize b.length = L at *
  have e1 : (u : Int) ≤ (L : Int) := by omega
  have e2 : (L : Int) ≤ (c : Int) := by omega
  have e3 : (u : Int) ≤ (c : Int) := by omega
  have e4 : (0 : Int) ≤ (u : Int) := by omega
  unfold cuv
  by_cases hc : c = u
  · subst hc
    obtain rfl : c = L := by omega
    rw [if_pos rfl]
    clear hsp h4
    go_enter Tryd.func45, Tryd.ntmps45
    go_wp2_with fail
    refine CS.mono ?_
    rintro e w1 ⟨rfl, rfl⟩
    clear CS
    go_wp2_with fail
    go_quiet (fail)
    go_wp2_with fail
    go_ret3
    exact ⟨rfl, below_drewN (Below.refl _ _) _⟩
  · rw [if_neg hc]
    cases a with
    | none => have := h4 rfl; omega
    | some x =>
      obtain ⟨xb, xo, sp⟩ := x
      obtain rfl : sp = none := hsp _ _ _ rfl (by omega)
      simp only
      clear h4 hsp
      go_enter Tryd.func45, Tryd.ntmps45
      go_wp2_with fail
      refine CS.mono ?_
      rintro e w1 ⟨rfl, rfl⟩
      clear CS
      go_wp2_with fail
      go_quiet (fail)
      go_wp2_with fail
      go_ret3
      exact ⟨rfl, below_drewN (Below.refl _ _) _⟩
/-- Four cells of a block, written anew. -/
def st4 (W : World) (g : Nat) (v0 v1 v2 v3 : Value) : World := (((W.setCell ⟨g, 0, none⟩ v0).setCell ⟨g, 1, none⟩ v1).setCell ⟨g, 2, none⟩ v2).setCell ⟨g, 3, none⟩ v3
theorem st4_eq (W : World) (g : Nat) (v0 v1 v2 v3 : Value) : (((W.setCell ⟨g, 0, none⟩ v0).setCell ⟨g, 1, none⟩ v1).setCell ⟨g, 2, none⟩ v2).setCell ⟨g, 3, none⟩ v3 = st4 W g v0 v1 v2 v3 := rfl
theorem st4_size (W : World) (g : Nat) (v0 v1 v2 v3 : Value) : (st4 W g v0 v1 v2 v3).heap.size = W.heap.size := by simp [st4, World.setCell]
theorem st4_other (W : World) (g : Nat) (v0 v1 v2 v3 : Value) (k : Nat) (h : k ≠ g) : (st4 W g v0 v1 v2 v3).heap[k]? = W.heap[k]? := by
  unfold st4
  rw [heap_setCell_other _ _ _ _ h, heap_setCell_other _ _ _ _ h, heap_setCell_other _ _ _ _ h, heap_setCell_other _ _ _ _ h]
theorem st4_block (W : World) (g : Nat) (v0 v1 v2 v3 : Value) {a b c d : Value} {T : TypeId} (h : W.heap[g]? = some (.cells #[a, b, c, d] T (0, 0))) : (st4 W g v0 v1 v2 v3).heap[g]? = some (.cells #[v0, v1, v2, v3] T (0, 0)) := by
  have h1 : (W.setCell ⟨g, 0, none⟩ v0).heap[g]? = some (.cells #[v0, b, c, d] T (0, 0)) := by rw [heap_setCell_same _ _ _ _ _ _ h]; rfl
  have h2 : ((W.setCell ⟨g, 0, none⟩ v0).setCell ⟨g, 1, none⟩ v1).heap[g]? = some (.cells #[v0, v1, c, d] T (0, 0)) := by rw [heap_setCell_same _ _ _ _ _ _ h1]; rfl
  have h3 : (((W.setCell ⟨g, 0, none⟩ v0).setCell ⟨g, 1, none⟩ v1).setCell ⟨g, 2, none⟩ v2).heap[g]? = some (.cells #[v0, v1, v2, d] T (0, 0)) := by rw [heap_setCell_same _ _ _ _ _ _ h2]; rfl
  unfold st4
  rw [heap_setCell_same _ _ _ _ _ _ h3]
  rfl
theorem st4_below (B : Nat) (W : World) (g : Nat) (v0 v1 v2 v3 : Value) (h : B ≤ g) : Below B W (st4 W g v0 v1 v2 v3) :=
  ⟨rfl, rfl, rfl, by rw [st4_size]; exact Nat.le_refl _, fun k hk => st4_other W g v0 v1 v2 v3 k (by omega)⟩
theorem cell4 {W : World} {g : Nat} {v0 v1 v2 v3 : Value} {T : TypeId} {fr : Nat × Nat} (h : W.heap[g]? = some (.cells #[v0, v1, v2, v3] T fr)) : W.cell? ⟨g, 0, none⟩ = some v0 ∧ W.cell? ⟨g, 1, none⟩ = some v1 ∧ W.cell? ⟨g, 2, none⟩ = some v2 ∧ W.cell? ⟨g, 3, none⟩ = some v3 :=
  ⟨by rw [cell_of_row _ _ _ _ _ _ h]; rfl, by rw [cell_of_row _ _ _ _ _ _ h]; rfl, by rw [cell_of_row _ _ _ _ _ _ h]; rfl, by rw [cell_of_row _ _ _ _ _ _ h]; rfl⟩
/-- What is told of the beginning. -/
def TP (t : Tk) (v : Value) (b : List Int) (w : World) (e : Ending) (w' : World) : Prop :=
  Below w.heap.size w w' ∧ match t with
    | .wait => e = .returned (.tuple #[.agg #[.bool false, .int .i64 0, .int .i64 0, .slice none 0 0], .slice none 0 0, .bool false])
    | .bad k => e = pan k
    | .op x k => ∃ ua uc v', e = .returned (.tuple #[xval x ua x.d.length uc, v', .bool true]) ∧ Ow w' w.heap.size (.slice ua x.d.length uc) x.d ∧ SlX w' v' (b.drop k) ∧ v'.ownBlock = v.ownBlock
/-- Bytes stay where a block of another kind is written. -/
theorem slx_off {w w' : World} {v : Value} {b : List Int} (h : SlX w v b) {g : Nat} {cs : Array Value} {T : TypeId} {fr : Nat × Nat} (ho : ∀ k, k ≠ g → w'.heap[k]? = w.heap[k]?) (hg : w.heap[g]? = some (.cells cs T fr)) (hcs : ∀ (i : Nat) (z : Int), cs[i]? ≠ some (Value.int .u8 z)) : SlX w' v b := by
  refine ⟨?_, h.2⟩
  obtain ⟨a, c, rfl, h1, h2, h3, h4⟩ := h.1
  refine ⟨a, c, rfl, h1, h2, h3, ?_⟩
  rcases h4 with h4 | ⟨hp, bb, off, rfl, k1, k2, k3, k4⟩
  · exact .inl h4
  · refine .inr ⟨hp, bb, off, rfl, k1, k2, fun i hi => ?_, k4⟩
    have k5 := k3 i hi
    by_cases hb : bb = g
    · subst hb
      rw [cell_of_row _ _ _ _ _ _ hg] at k5
      exact absurd k5 (hcs _ _)
    · rw [← k5]
      exact World.cell?_of_block (w := w) (ho bb hb)
theorem no_u8 {v0 v1 v2 v3 : Value} (h0 : ∀ z, v0 ≠ .int .u8 z) (h1 : ∀ z, v1 ≠ .int .u8 z) (h2 : ∀ z, v2 ≠ .int .u8 z) (h3 : ∀ z, v3 ≠ .int .u8 z) : ∀ (i : Nat) (z : Int), #[v0, v1, v2, v3][i]? ≠ some (Value.int .u8 z) := fun i z h => by
  match i with
  | 0 => exact h0 z (by simpa using h)
  | 1 => exact h1 z (by simpa using h)
  | 2 => exact h2 z (by simpa using h)
  | 3 => exact h3 z (by simpa using h)
  | n + 4 => simp at h
theorem op_u8 (c : Bool) (a n : Int) (ua : Option Addr) (un uc : Nat) : ∀ (i : Nat) (z : Int), #[Value.bool c, .int .i64 a, .int .i64 n, .slice ua un uc][i]? ≠ some (Value.int .u8 z) :=
  no_u8 (fun z e => by cases e) (fun z e => by cases e) (fun z e => by cases e) (fun z e => by cases e)
theorem ow_off {w w' : World} {B : Nat} {v : Value} {X : List Int} (h : Ow w B v X) {g : Nat} {cs : Array Value} {T : TypeId} {fr : Nat × Nat} (ho : ∀ k, k ≠ g → w'.heap[k]? = w.heap[k]?) (hg : w.heap[g]? = some (.cells cs T fr)) (hT : T ≠ 5) : Ow w' B v X := by
  refine ⟨?_, h.2⟩
  obtain ⟨h1, h2⟩ := h.1
  refine ⟨h1, ?_⟩
  rcases h2 with h2 | ⟨k, cap, cur, rfl, hk, hh, r⟩
  · exact .inl h2
  · refine .inr ⟨k, cap, cur, rfl, hk, ?_, r⟩
    rw [← hh]
    refine ho k fun e => ?_
    subst e
    rw [hg] at hh
    cases hh
    exact hT rfl
abbrev zop : Array Value := #[.bool false, .int .i64 0, .int .i64 0, .slice none 0 0]
set_option maxHeartbeats 2000000 in
theorem copyA_any (v : Value) (b : List Int) (old : Int) (w : World) (h : SlX w v b) (ht : Fi.Wid w) (ho : old ≤ 9223372036854775807) :
    Calls Tryd.prog 41 #[v, .int .i64 old] w fun e w' => TP (copA old b) v b w e w' := by
  obtain ⟨W0, hW0⟩ : ∃ W0, W0 = w.alloc (.cells zop 46) := ⟨_, rfl⟩
  have b0 : Below w.heap.size w W0 := by rw [hW0]; exact al_below _ _
  have g0 : W0.heap[w.heap.size]? = some (.cells zop 46 (0, 0)) := by rw [hW0]; exact heap_alloc_new _ _
  have l0 : w.heap.size < W0.heap.size := by rw [hW0]; simp
  have h0 := h.kept b0
  have t0 := Wid.kept ht b0
  obtain ⟨a, c, rfl, -⟩ := id h.1
  have hR : copA old b = if nE b = 3 then .wait else if nE b = 0 then (copB old (nN b) (b.drop (nU b).toNat)).on (nU b).toNat else .bad (nE b) := rfl
  have B0 : Hid (Below w.heap.size w W0) := b0
  have HD : Hid (∀ W, Below W0.heap.size W0 W → W.cell? ⟨w.heap.size, 0, none⟩ = some (.bool false) ∧ W.cell? ⟨w.heap.size, 1, none⟩ = some (.int .i64 0) ∧ W.cell? ⟨w.heap.size, 2, none⟩ = some (.int .i64 0) ∧ W.cell? ⟨w.heap.size, 3, none⟩ = some (.slice none 0 0) ∧ W.heap[w.heap.size]? = some (.cells zop 46 (0, 0))) := fun W hb => by
    have g2 := (hb.block _ l0).trans g0
    exact ⟨by rw [cell_of_row _ _ _ _ _ _ g2]; rfl, by rw [cell_of_row _ _ _ _ _ _ g2]; rfl, by rw [cell_of_row _ _ _ _ _ _ g2]; rfl, by rw [cell_of_row _ _ _ _ _ _ g2]; rfl, g2⟩
  by_cases e3 : nE b = 3
  · rw [if_pos e3] at hR
    have CN := number_cut _ b W0 h0 t0 e3
    have HR : Hid (copA old b = .wait) := hR
    clear h ht h0 t0 hR e3 b0 g0 l0
    generalize copA old b = R at *
    generalize b.length = L at *
    go_enter Tryd.func41, Tryd.ntmps41
    go_wp2_with fail
    rw [← hW0]
    clear hW0
    refine CN.mono ?_
    rintro e w1 ⟨rfl, hq⟩
    replace hq := hq.symm
    subst hq
    clear CN
    obtain ⟨d0, d1, d2, d3, gg⟩ := HD.out W0 (Below.refl _ _)
    have f0 : ∀ i, W0.frozen? ⟨w.heap.size, i, none⟩ = false := fun i => frozen_of_row _ _ _ _ _ gg
    have GG : Hid (W0.heap[w.heap.size]? = some (.cells zop 46 (0, 0))) := gg
    clear gg
    go_wp2
    rw [st4_eq]
    have BZ : Hid (Below w.heap.size w (st4 W0 w.heap.size (.bool false) (.int .i64 0) (.int .i64 0) (.slice none 0 0))) := B0.out.trans (st4_below _ _ _ _ _ _ _ (Nat.le_refl _))
    have gz := st4_block W0 w.heap.size (.bool false) (.int .i64 0) (.int .i64 0) (.slice none 0 0) GG.out
    obtain ⟨z0, z1, z2, z3⟩ := cell4 gz
    generalize st4 W0 w.heap.size (.bool false) (.int .i64 0) (.int .i64 0) (.slice none 0 0) = WZ at *
    refine bodyPost_ret (v := .tuple #[.agg #[.bool false, .int .i64 0, .int .i64 0, .slice none 0 0], .slice none 0 0, .bool false]) ?h rfl ?_
    case h => simp [results, Tryd.results41, go_sem, z0, z1, z2, z3]
    rw [HR.out]
    exact ⟨BZ.out, rfl⟩
  · rw [if_neg e3] at hR
    by_cases e0 : nE b = 0
    · rw [if_pos e0] at hR
      have CN := number_ok a c b W0 h0 t0 e0
      obtain ⟨_, _, hee, hLc, -, hac, -⟩ := id h.1
      cases hee
      obtain ⟨n0, n1, u0, u1⟩ := nU_le b h.1.bytes
      have HB2 : Hid (∀ i, 0 ≤ (b.drop (nU b).toNat).getD i 0 ∧ (b.drop (nU b).toNat).getD i 0 < 256) := bytes_drop b _ h.1.bytes
      have HW : Hid (∀ W, Below w.heap.size w W → Fi.Wid W) := fun W hb => Wid.kept ht hb
      have HR0 : Hid (copA old b = (copB old (nN b) (b.drop (nU b).toNat)).on (nU b).toNat) := hR
      have HDD : Hid (∀ k, (b.drop (nU b).toNat).drop k = b.drop ((nU b).toNat + k)) := fun k => by rw [List.drop_drop]
      have HSX : Hid (∀ W, Below W0.heap.size W0 W → SlX W (cuv a b.length c (nU b).toNat) (b.drop (nU b).toNat)) := fun W hb => (h0.kept hb).drop _ (by omega)
      obtain ⟨a1, c1, hcu⟩ := cuv_shape a b.length c (nU b).toNat (by omega) hLc hac
      have HO1 : Hid (∀ p q r s, (Value.slice a1 p q).ownBlock = (Value.slice a r s).ownBlock) := cuv_own hcu hac (by omega)
      rw [hcu] at CN HSX
      clear h ht h0 t0 hR e3 b0 g0 l0 e0 u0 u1 hcu hac hLc
      generalize b.length - (nU b).toNat = L2 at *
      generalize copA old b = R at *
      generalize (nU b).toNat = u at *
      generalize nN b = n at *
      generalize hb2 : b.drop u = b2 at *
      clear hb2
      generalize b.length = L at *
      go_enter Tryd.func41, Tryd.ntmps41
      go_wp2_with fail
      rw [← hW0]
      clear hW0
      refine CN.mono ?_
      rintro e w1 ⟨rfl, b1⟩
      clear CN
      have B1 : Hid (Below W0.heap.size W0 w1) := b1
      have S1 : Hid (SlX w1 (.slice a1 L2 c1) b2) := HSX.out _ b1
      have BW1 : Hid (Below w.heap.size w w1) := B0.out.trans (b1.mono B0.out.size)
      have hR2 : copB old n b2 = if nE b2 = 3 then .wait else if nE b2 = 0 then (if mayX ⟨true, n, nN b2, []⟩ old = true then .op ⟨true, n, nN b2, []⟩ (nU b2).toNat else .bad 4) else .bad (nE b2) := rfl
      clear b1 HSX
      by_cases e3 : nE b2 = 3
      · rw [if_pos e3] at hR2
        have CN := number_cut _ b2 w1 S1.out (HW.out _ BW1.out) e3
        have HR : Hid (R = .wait) := by unfold Hid; rw [HR0.out, hR2]; rfl
        clear hR2 HR0 e3
        go_wp2_with fail
        refine CN.mono ?_
        rintro e w2 ⟨rfl, hq⟩
        replace hq := hq.symm
        subst hq
        clear CN
        obtain ⟨d0, d1, d2, d3, gg⟩ := HD.out w1 B1.out
        have f0 : ∀ i, w1.frozen? ⟨w.heap.size, i, none⟩ = false := fun i => frozen_of_row _ _ _ _ _ gg
        have GG : Hid (w1.heap[w.heap.size]? = some (.cells zop 46 (0, 0))) := gg
        clear gg
        go_wp2
        rw [st4_eq]
        have BZ : Hid (Below w.heap.size w (st4 w1 w.heap.size (.bool false) (.int .i64 0) (.int .i64 0) (.slice none 0 0))) := BW1.out.trans (st4_below _ _ _ _ _ _ _ (Nat.le_refl _))
        have gz := st4_block w1 w.heap.size (.bool false) (.int .i64 0) (.int .i64 0) (.slice none 0 0) GG.out
        obtain ⟨z0, z1, z2, z3⟩ := cell4 gz
        generalize st4 w1 w.heap.size (.bool false) (.int .i64 0) (.int .i64 0) (.slice none 0 0) = WZ at *
        refine bodyPost_ret (v := .tuple #[.agg #[.bool false, .int .i64 0, .int .i64 0, .slice none 0 0], .slice none 0 0, .bool false]) ?h rfl ?_
        case h => simp [results, Tryd.results41, go_sem, z0, z1, z2, z3]
        rw [HR.out]
        exact ⟨BZ.out, rfl⟩
      · rw [if_neg e3] at hR2
        by_cases e0 : nE b2 = 0
        · rw [if_pos e0] at hR2
          obtain ⟨_, _, hee, hLc, -, hac, -⟩ := id S1.out.1
          cases hee
          have CN := number_ok a1 c1 b2 w1 S1.out (HW.out _ BW1.out) e0
          have HU2 := nU_le b2 HB2.out
          have HSX : Hid (∀ W, Below w1.heap.size w1 W → SlX W (cuv a1 b2.length c1 (nU b2).toNat) (b2.drop (nU b2).toNat)) := fun W hb => (S1.out.kept hb).drop _ (by omega)
          obtain ⟨a2, c2, hcu⟩ := cuv_shape a1 b2.length c1 (nU b2).toNat (by omega) hLc hac
          have HO2 : Hid (∀ p q r s, (Value.slice a2 p q).ownBlock = (Value.slice a1 r s).ownBlock) := cuv_own hcu hac (by omega)
          rw [hcu] at CN HSX
          clear hcu hac hLc HU2
          obtain ⟨m0, m1, -, -⟩ := nU_le b2 HB2.out
          have HR1 : Hid (R = (if mayX ⟨true, n, nN b2, []⟩ old = true then Tk.op ⟨true, n, nN b2, []⟩ (nU b2).toNat else Tk.bad 4).on u) := by unfold Hid; rw [HR0.out, hR2]
          clear hR2 HR0 e3 e0
          generalize b2.length - (nU b2).toNat = L3 at *
          generalize (nU b2).toNat = u2 at *
          generalize nN b2 = m at *
          go_wp2_with fail
          refine CN.mono ?_
          rintro e w2 ⟨rfl, b2'⟩
          clear CN
          have B2 : Hid (Below W0.heap.size W0 w2) := B1.out.trans (b2'.mono B1.out.size)
          have BW2 : Hid (Below w.heap.size w w2) := BW1.out.trans (b2'.mono BW1.out.size)
          have S2 : Hid (SlX w2 (.slice a2 L3 c2) (b2.drop u2)) := HSX.out _ b2'
          clear b2' S1 HSX
          have CM : Hid (∀ W, Calls Tryd.prog 31 #[xval ⟨true, n, m, []⟩ none 0 0, .int .i64 old] W fun e w' => e = .returned (.bool (mayX ⟨true, n, m, []⟩ old)) ∧ Below W.heap.size W w') := fun W => may_any ⟨true, n, m, []⟩ old none 0 0 W rfl ho
          generalize mayX ⟨true, n, m, []⟩ old = mb at *
          obtain ⟨d0, d1, d2, d3, gg⟩ := HD.out w2 B2.out
          have f0 : ∀ i, w2.frozen? ⟨w.heap.size, i, none⟩ = false := fun i => frozen_of_row _ _ _ _ _ gg
          have GG : Hid (w2.heap[w.heap.size]? = some (.cells zop 46 (0, 0))) := gg
          clear gg
          go_wp2_with fail
          rw [st4_eq]
          have g3 := st4_block w2 w.heap.size (.bool true) (.int .i64 n) (.int .i64 m) (.slice none 0 0) GG.out
          have B3 : Hid (Below w.heap.size w (st4 w2 w.heap.size (.bool true) (.int .i64 n) (.int .i64 m) (.slice none 0 0))) := BW2.out.trans (st4_below _ _ _ _ _ _ _ (Nat.le_refl _))
          have S3 : Hid (SlX (st4 w2 w.heap.size (.bool true) (.int .i64 n) (.int .i64 m) (.slice none 0 0)) (.slice a2 L3 c2) (b2.drop u2)) := slx_off S2.out (fun k hk => st4_other _ _ _ _ _ _ k hk) GG.out (op_u8 _ _ _ _ _ _)
          have l3 : w.heap.size < (st4 w2 w.heap.size (.bool true) (.int .i64 n) (.int .i64 m) (.slice none 0 0)).heap.size := (Array.getElem?_eq_some_iff.1 g3).1
          generalize st4 w2 w.heap.size (.bool true) (.int .i64 n) (.int .i64 m) (.slice none 0 0) = W3 at *
          refine (CM.out W3).mono ?_
          rintro e w4 ⟨rfl, b4⟩
          clear CM d0 d1 d2 d3 f0 GG S2
          have BW4 : Hid (Below w.heap.size w w4) := B3.out.trans (b4.mono B3.out.size)
          have S4 : Hid (SlX w4 (.slice a2 L3 c2) (b2.drop u2)) := S3.out.kept b4
          have g4 := (b4.block _ l3).trans g3
          have G4 : Hid (w4.heap[w.heap.size]? = some (.cells #[.bool true, .int .i64 n, .int .i64 m, .slice none 0 0] 46 (0, 0))) := g4
          obtain ⟨d0, d1, d2, d3⟩ := cell4 g4
          have f0 : ∀ i, w4.frozen? ⟨w.heap.size, i, none⟩ = false := fun i => frozen_of_row _ _ _ _ _ g4
          clear b4 g4 g3 l3 S3
          cases mb with
          | false =>
            have HR : Hid (R = .bad 4) := by unfold Hid; rw [HR1.out, if_neg (by simp)]; rfl
            clear HR1
            go_wp2
            refine ⟨rfl, ?_⟩
            rw [HR.out]
            exact ⟨BW4.out, rfl⟩
          | true =>
            have HR : Hid (R = .op ⟨true, n, m, []⟩ (u + u2)) := by unfold Hid; rw [HR1.out, if_pos rfl]; rfl
            clear HR1
            go_wp2
            rw [st4_eq]
            have g5 := st4_block w4 w.heap.size (.bool true) (.int .i64 n) (.int .i64 m) (.slice none 0 0) G4.out
            have B5 : Hid (Below w.heap.size w (st4 w4 w.heap.size (.bool true) (.int .i64 n) (.int .i64 m) (.slice none 0 0))) := BW4.out.trans (st4_below _ _ _ _ _ _ _ (Nat.le_refl _))
            have S5 : Hid (SlX (st4 w4 w.heap.size (.bool true) (.int .i64 n) (.int .i64 m) (.slice none 0 0)) (.slice a2 L3 c2) (b2.drop u2)) := slx_off S4.out (fun k hk => st4_other _ _ _ _ _ _ k hk) G4.out (op_u8 _ _ _ _ _ _)
            generalize st4 w4 w.heap.size (.bool true) (.int .i64 n) (.int .i64 m) (.slice none 0 0) = W5 at *
            clear d0 d1 d2 d3 f0
            obtain ⟨z0, z1, z2, z3⟩ := cell4 g5
            refine bodyPost_ret (v := .tuple #[.agg #[.bool true, .int .i64 n, .int .i64 m, .slice none 0 0], .slice a2 L3 c2, .bool true]) ?h rfl ?_
            case h => simp [results, Tryd.results41, go_sem, z0, z1, z2, z3]
            rw [HR.out]
            refine ⟨B5.out, none, 0, _, rfl, Ow.nil _ _, ?_, (HO2.out _ _ 0 0).trans (HO1.out _ _ _ _)⟩
            rw [← HDD.out]
            exact S5.out
        · rw [if_neg e0] at hR2
          have CN := number_bad _ b2 w1 S1.out (HW.out _ BW1.out) e3 e0
          have HR : Hid (R = .bad (nE b2)) := by unfold Hid; rw [HR0.out, hR2]; rfl
          clear hR2 HR0 e3 e0
          generalize nE b2 = k2 at *
          go_wp2_with fail
          refine CN.mono ?_
          rintro e w2 ⟨rfl, hq⟩
          replace hq := hq.symm
          subst hq
          clear CN
          go_wp2
          refine ⟨rfl, ?_⟩
          rw [HR.out]
          exact ⟨BW1.out, rfl⟩
    · rw [if_neg e0] at hR
      have CN := number_bad _ b W0 h0 t0 e3 e0
      have HR : Hid (copA old b = .bad (nE b)) := hR
      clear h ht h0 t0 hR e3 e0 b0 g0 l0
      generalize copA old b = R at *
      generalize nE b = k at *
      generalize b.length = L at *
      go_enter Tryd.func41, Tryd.ntmps41
      go_wp2_with fail
      rw [← hW0]
      clear hW0
      refine CN.mono ?_
      rintro e w1 ⟨rfl, hq⟩
      replace hq := hq.symm
      subst hq
      clear CN
      go_wp2
      refine ⟨rfl, ?_⟩
      rw [HR.out]
      exact ⟨B0.out, rfl⟩
end Go.Proofs.YtfccjeepmhgckaaDoor
