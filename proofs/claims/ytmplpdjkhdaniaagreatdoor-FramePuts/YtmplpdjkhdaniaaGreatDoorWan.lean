/-
  What goes over a set's spans: the iterator.
  What count answers.
-/
import Derived.RangeFuncNested
import Derived.RangeFuncBound
import Derived.RangeFuncCalls
import Derived.RangeFuncLeaves
import Derived.Shelf.Abstract
import Derived.Shelf.RegionOpen
import Derived.WalkKit
import Derived.OwnWalkIn
import Derived.TacticsInMore
import Derived.LoopNIn
import Derived.LoopIn
import Derived.Test.YtmplpdjkhdaniaaGreatDoorWaa
import Derived.Test.YtmplpdjkhdaniaaGreatDoorWam
namespace Go.Proofs.YtmplpdjkhdaniaaGreatDoor
open Go.RowKit Go.Shelf
set_option maxRecDepth 100000

/-- A span that may be. -/
abbrev Al := { x : Sp // Okk x }
abbrev aenc (x : Al) : Array Value := #[.agg #[.int .i64 x.1.1, .int .i64 x.1.2]]
theorem al_of : ∀ (l : List Sp), (∀ x ∈ l, Okk x) → ∃ c : List Al, c.map (·.1) = l
  | [], _ => ⟨[], rfl⟩
  | x :: l, h => by
    obtain ⟨c, hc⟩ := al_of l (fun y hy => h y (List.mem_cons_of_mem _ hy))
    exact ⟨⟨x, h x (List.mem_cons_self ..)⟩ :: c, by rw [List.map_cons, hc]⟩
/-- What a round keeps: what lay below n, but some blocks. -/
def Kt (n : Nat) (X : Nat → Prop) (A B : World) : Prop := ∀ (k : Nat) (o : Obj), k < n → ¬ X k → A.heap[k]? = some o → o.isCells = true → B.heap[k]? = some o
theorem Kt.refl (n : Nat) (X : Nat → Prop) (A : World) : Kt n X A A := fun _ _ _ _ h _ => h
theorem Kt.trans {n : Nat} {X : Nat → Prop} {A B C : World} (h : Kt n X A B) (h' : Kt n X B C) : Kt n X A C := fun k o a b c d => h' k o a b (h k o a b c d) d
theorem Kt.put {n : Nat} {X : Nat → Prop} (W : World) (l : Nat) (o o' : Obj) (h : W.heap[l]? = some o) (hc : o.isCells = false) : Kt n X W (W.putObj l o') := fun k q _ _ hq hqc => by
  by_cases e : k = l
  · subst e
    rw [h] at hq
    cases hq
    rw [hc] at hqc
    cases hqc
  · rw [World.putObj_heap_other e]
    exact hq
theorem Kt.below {n : Nat} {X : Nat → Prop} {A B : World} (h : Below n A B) : Kt n X A B := fun k _ a _ c _ => (h.block k a).trans c
theorem Kt.from {n : Nat} {X : Nat → Prop} {A B : World} (h : Below A.heap.size A B) : Kt n X A B := fun k _ _ _ c _ => (h.block k (blk_lt c)).trans c
theorem Kt.blk {n : Nat} {X : Nat → Prop} {A B : World} (h : Kt n X A B) {k : Nat} {cs : Array Value} {t : TypeId} {fr : Nat × Nat} (hk : k < n) (hx : ¬ X k) (hb : A.heap[k]? = some (.cells cs t fr)) : B.heap[k]? = some (.cells cs t fr) := h k _ hk hx hb rfl
theorem below_grown {w w' : World} (h : Below w.heap.size w w') : w.grownBy w' none := ⟨h.os, h.tape, h.output, h.size, fun k hk _ => h.block k hk⟩
/-- Three variables that a closure captured: a set and two numbers. -/
def C3 (w : World) (b g : Nat) (f t : Int) : Prop := w.heap[b]? = some (.cells #[.pointer (some ⟨g, 0, none⟩)] 93 (0, 0)) ∧ w.heap[b + 1]? = some (.cells #[.int .i64 f] 3 (0, 0)) ∧ w.heap[b + 2]? = some (.cells #[.int .i64 t] 3 (0, 0))
/-- The block in which a slice lies. -/
def rowB (v : Value) : Option Nat := match v with
  | .slice (some a) _ _ => some a.block
  | _ => none
theorem SSp.blk {w : World} {v : Value} {l : List Sp} (h : SSp w v l) (k : Nat) (hk : rowB v = some k) (hl : l ≠ []) : ∃ cs t fr, w.heap[k]? = some (.cells cs t fr) := by
  obtain ⟨a, c, rfl, _⟩ := h.shape
  obtain ⟨b, off, rfl, hr⟩ := h.at 0 (List.length_pos_iff.2 hl)
  have e : b = k := by simpa [rowB] using hk
  subst e
  have c0 := (spC hr).1
  unfold World.cell? at c0
  split at c0
  · next cs t fr hb => exact ⟨cs, t, fr, hb⟩
  · cases c0
theorem SSp.kt {w w' : World} {n : Nat} {X : Nat → Prop} {v : Value} {l : List Sp} (h : SSp w v l) (hk : Kt n X w w') (hn : ∀ k, rowB v = some k → k < n ∧ ¬ X k) : SSp w' v l := by
  by_cases hl : l = []
  · subst hl
    obtain ⟨a, c, e, h1, h2, h3, h4, h5⟩ := id h
    exact ⟨a, c, e, h1, h2, h3, h4, .inl rfl⟩
  · obtain ⟨a, c, rfl, _⟩ := h.shape
    obtain ⟨b, off, rfl, _⟩ := h.at 0 (List.length_pos_iff.2 hl)
    obtain ⟨cs, t, fr, hb⟩ := h.blk b rfl hl
    obtain ⟨q1, q2⟩ := hn b rfl
    have hb' := hk.blk q1 q2 hb
    obtain ⟨a, c', e, h1, h2, h3, h4, h5 | ⟨b', off', e', h6⟩⟩ := id h
    · exact absurd (List.map_eq_nil_iff.1 h5) hl
    · rw [List.length_map] at e h1
      cases e
      cases e'
      refine ⟨_, _, by rw [List.length_map], by rw [List.length_map]; exact h1, h2, h3, h4, .inr ⟨b, off, rfl, fun i hi j u hu => ?_⟩⟩
      have := h6 i hi j u hu
      unfold World.cell? at this ⊢
      rw [hb'] 
      rw [hb] at this
      exact this
set_option maxHeartbeats 4000000 in
theorem within_stops (w0 : World) (b g : Nat) (v : Value) (l : List Sp) (f t : Int) (X : Nat → Prop) (n : Nat) (hn : 1 ≤ n) (hc : C3 w0 b g f t) (hs : SB w0 g v) (hv : SSp w0 v l) (hcn : Canon l) (hl : l.length ≤ 100000) (hft : f ≤ t)
    (hX : ¬ X b ∧ ¬ X (b + 1) ∧ ¬ X (b + 2) ∧ ¬ X g) (hXr : ∀ k, rowB v = some k → k < w0.heap.size ∧ ¬ X k) (hva : v = .slice none 0 0 ∨ ∃ bb off m c, v = .slice (some ⟨bb, off, none⟩) m c) :
    SeqStopsK Fence.wide n Tryz.prog 84 #[.pointer (some ⟨b, 0, none⟩), .pointer (some ⟨b + 1, 0, none⟩), .pointer (some ⟨b + 2, 0, none⟩)] aenc (Kt w0.heap.size X) (fun xs => xs.map (·.1) = clip l f t) (fun _ => True) (clip l f t).length w0 := by
  intro lp J Jx W hW hJ hJx hY h0
  show CallsIn Fence.wide n Tryz.prog 84 #[.func (.yield lp) #[] #[], .pointer (some ⟨b, 0, none⟩), .pointer (some ⟨b + 1, 0, none⟩), .pointer (some ⟨b + 2, 0, none⟩)] W _
  refine callsIn_wide.2 ?_
  obtain ⟨cl, hcl⟩ := al_of (clip l f t) (clip_canon hcn hft).1
  have hcll : cl.length = (clip l f t).length := by rw [← hcl, List.length_map]
  have hlen : (clip l f t).length = bU l t - fE l f := by
    have := bU_le l t
    unfold clip mid
    rw [List.length_map, List.length_drop, List.length_take]
    omega
  have hel : ∀ k, k < bU l t - fE l f → ∀ y : Al, cl[k]? = some y → y.1 = (max (atS l (fE l f + k)).1 f, min (atS l (fE l f + k)).2 t) := fun k hk y hy => by
    have h1 : (clip l f t)[k]? = some y.1 := by rw [← hcl, List.getElem?_map, hy]; rfl
    have h2 := bU_le l t
    unfold clip mid at h1
    rw [List.getElem?_map, List.getElem?_drop, List.getElem?_take, if_pos (by omega), List.getElem?_eq_getElem (by omega)] at h1
    rw [atS_eq l _ (by omega)]
    have := Option.some.inj h1
    rw [← this]
    rfl
  have KW : Kt w0.heap.size X w0 W := Kt.below hW
  obtain ⟨x0, x1, x2, x3⟩ := hX
  have FF : Hid (∀ V : World, Kt w0.heap.size X w0 V → C3 V b g f t ∧ SB V g v ∧ SSp V v l) := fun V hk => ⟨⟨hk.blk (blk_lt hc.1) x0 hc.1, hk.blk (blk_lt hc.2.1) x1 hc.2.1, hk.blk (blk_lt hc.2.2) x2 hc.2.2⟩, hk.blk (blk_lt hs) x3 hs, hv.kt hk hXr⟩
  have hle : fE l f ≤ bU l t := fE_bU hcn (by omega)
  have hbl : bU l t ≤ l.length := bU_le l t
  have CE : Hid (∀ V, From W V → Calls Tryz.prog 80 #[.pointer (some ⟨g, 0, none⟩), .int .i64 f] V fun e w' => e = .returned (.int .i64 (fE l f : Nat)) ∧ Below V.heap.size V w') := fun V hb => by
    obtain ⟨-, q2, q3⟩ := FF.out V (KW.trans (Kt.from hb))
    exact ea_any V g v l f q2 q3 hcn hl
  have CB : Hid (∀ V, From W V → Calls Tryz.prog 81 #[.pointer (some ⟨g, 0, none⟩), .int .i64 t] V fun e w' => e = .returned (.int .i64 (bU l t : Nat)) ∧ Below V.heap.size V w') := fun V hb => by
    obtain ⟨-, q2, q3⟩ := FF.out V (KW.trans (Kt.from hb))
    exact bu_any V g v l t q2 q3 hcn hl
  obtain ⟨a, c, rfl, h2, h3, h4⟩ := hv.shape
  have FK : Hid (∀ V, From W V → V.cell? ⟨b, 0, none⟩ = some (.pointer (some ⟨g, 0, none⟩)) ∧ V.cell? ⟨b + 1, 0, none⟩ = some (.int .i64 f) ∧ V.cell? ⟨b + 2, 0, none⟩ = some (.int .i64 t) ∧ V.cell? ⟨g, 0, none⟩ = some (.slice a l.length c)) := fun V hb => by
    obtain ⟨q1, q2, -⟩ := FF.out V (KW.trans (Kt.from hb))
    exact ⟨by have := q1.1; simp [World.cell?, this], by have := q1.2.1; simp [World.cell?, this], by have := q1.2.2; simp [World.cell?, this], q2.cell⟩
  have HJ0 : Hid (J [] W) := h0
  have HJ : Hid (∀ s A B, J s A → Below A.heap.size A B → J s B) := fun s A B h hb => hJ s A B none h (below_grown hb) (fun r e => by cases e)
  have HY : Hid (∀ pre x W1, J pre W1 → pre.length < (clip l f t).length → YieldAt Fence.wide (n - 1) Tryz.prog lp (aenc x) W1 fun e W' => (e = .returned (.bool true) ∧ J (pre ++ [x]) W' ∧ Kt w0.heap.size X W1 W') ∨ (e = .returned (.bool false) ∧ Jx (pre ++ [x]) W')) := hY
  have HKW : Hid (Kt w0.heap.size X w0 W) := KW
  have HCL : Hid (cl.map (·.1) = clip l f t) := hcl
  have HEL : Hid (∀ k, k < bU l t - fE l f → ∀ y : Al, cl[k]? = some y → y.1 = (max (atS l (fE l f + k)).1 f, min (atS l (fE l f + k)).2 t)) := hel
  have HLN : Hid (cl.length = bU l t - fE l f) := by unfold Hid; rw [hcll, hlen]
  have HLC : Hid ((clip l f t).length = bU l t - fE l f) := hlen
  have HVA : Hid (Value.slice a l.length c = .slice none 0 0 ∨ ∃ bb off m c', Value.slice a l.length c = .slice (some ⟨bb, off, none⟩) m c') := hva
  obtain ⟨k0, k1, k2, k3⟩ := FK.out W (Below.refl _ _)
  have HDR : Hid (∀ s, J s W → J s W) := fun s h => h
  clear hva hY hJ hJx h0 hcl hcll hlen hel hc hs hv hcn hft x0 x1 x2 x3 hXr hW KW HDR
  generalize fE l f = E at *
  generalize bU l t = U at *
  obtain ⟨nl, hnl⟩ : ∃ nl, nl = l.length := ⟨_, rfl⟩
  have HNL : Hid (nl = l.length) := hnl
  rw [← hnl] at hbl h2 hl FK k3 FF HVA
  clear hnl
  have y1 : (E : Int) ≤ (U : Int) := by omega
  have y2 : (U : Int) ≤ (c : Int) := by omega
  have y3 : c ≤ 9223372036854775807 := by unfold maxLen at h3; omega
  have y4 : (0 : Int) ≤ (E : Int) := by omega
  go_enter Tryz.func84, Tryz.ntmps84
  go_upto_region 1 with fail
  go_cut [19, 20, 21] (fun s19 s20 s21 wx => ∃ a' c', s19 = .slice a' (U - E) c' ∧ s20 = .int .i64 ((U - E : Nat) : Int) ∧ s21 = .int .i64 0 ∧ (0 < U - E → ∃ bb off, a = some ⟨bb, off, none⟩ ∧ a' = some ⟨bb, off + E * 2, none⟩) ∧ From W wx)
  case first =>
    by_cases hce : c = E
    · obtain rfl : U = E := by omega
      subst hce
      have y5 : nl = c := by omega
      subst y5
      refine wp_region_held_drew (S := From W) (by kernel_rfl) (Below.drew (Below.refl _ _)) (fun _ => ?_)
      refine wpAnyH_name (fun u0 hu0 => ?_)
      have bu0 : Below W.heap.size W u0 := by rw [hu0.out]; exact Below.drew (Below.refl _ _)
      refine wpAnyH_take (i := 0) (oi := { dst := some 9, op := Op.load 93 (Operand.tmp 1), type := 93, pos := "ranges.go:201", after := #[], guard := none }) (v := .pointer (some ⟨g, 0, none⟩)) rfl (by kernel_rfl) (by kernel_rfl) (by kernel_rfl) (fun _ _ _ h => h) (Or.inl ⟨by rfl, ?yp1⟩) bu0 ?rp1
      case yp1 => (intro w hSw; obtain ⟨t0, -, -, -⟩ := FK.out w hSw; go_simp; try with_reducible rfl)
      try simp only [Act.put, List.setIfInBounds_toArray, List.set_cons_zero, List.set_cons_succ]
      refine wpAnyH_take (i := 1) (oi := { dst := some 10, op := Op.nilCheck (Operand.tmp 9), type := 0, pos := "ranges.go:201", after := #[{ on := 0, ground := Ground.data }], guard := none }) (v := ?vp2) rfl (by kernel_rfl) (by kernel_rfl) (by kernel_rfl) (fun _ _ _ h => h) (Or.inl ⟨by rfl, ?yp2⟩) bu0 ?rp2
      case yp2 => (intro w hSw; go_simp; try with_reducible rfl)
      try simp only [Act.put, List.setIfInBounds_toArray, List.set_cons_zero, List.set_cons_succ]
      refine wpAnyH_take (i := 2) (oi := { dst := some 11, op := Op.fieldAddr 131 (Operand.tmp 10) 0, type := 0, pos := "ranges.go:201", after := #[{ on := 1, ground := Ground.data }], guard := none }) (v := ?vp3) rfl (by kernel_rfl) (by kernel_rfl) (by kernel_rfl) (fun _ _ _ h => h) (Or.inl ⟨by rfl, ?yp3⟩) bu0 ?rp3
      case yp3 => (intro w hSw; go_simp; try with_reducible rfl)
      try simp only [Act.put, List.setIfInBounds_toArray, List.set_cons_zero, List.set_cons_succ]
      refine wpAnyH_take (i := 3) (oi := { dst := some 12, op := Op.load 23 (Operand.tmp 11), type := 23, pos := "ranges.go:201", after := #[{ on := 2, ground := Ground.data }], guard := none }) (v := .slice a nl nl) rfl (by kernel_rfl) (by kernel_rfl) (by kernel_rfl) (fun _ _ _ h => h) (Or.inl ⟨by rfl, ?yp4⟩) bu0 ?rp4
      case yp4 => (intro w hSw; obtain ⟨-, -, -, t3⟩ := FK.out w hSw; go_simp; try with_reducible rfl)
      try simp only [Act.put, List.setIfInBounds_toArray, List.set_cons_zero, List.set_cons_succ]
      refine wpAnyH_take (i := 4) (oi := { dst := some 13, op := Op.load 93 (Operand.tmp 1), type := 93, pos := "ranges.go:201", after := #[], guard := none }) (v := .pointer (some ⟨g, 0, none⟩)) rfl (by kernel_rfl) (by kernel_rfl) (by kernel_rfl) (fun _ _ _ h => h) (Or.inl ⟨by rfl, ?yp5⟩) bu0 ?rp5
      case yp5 => (intro w hSw; obtain ⟨t0, -, -, -⟩ := FK.out w hSw; go_simp; try with_reducible rfl)
      try simp only [Act.put, List.setIfInBounds_toArray, List.set_cons_zero, List.set_cons_succ]
      refine wpAnyH_take (i := 5) (oi := { dst := some 14, op := Op.load 3 (Operand.tmp 2), type := 3, pos := "ranges.go:201", after := #[], guard := none }) (v := .int .i64 f) rfl (by kernel_rfl) (by kernel_rfl) (by kernel_rfl) (fun _ _ _ h => h) (Or.inl ⟨by rfl, ?yp6⟩) bu0 ?rp6
      case yp6 => (intro w hSw; obtain ⟨-, t1, -, -⟩ := FK.out w hSw; go_simp; try with_reducible rfl)
      try simp only [Act.put, List.setIfInBounds_toArray, List.set_cons_zero, List.set_cons_succ]
      refine wpAnyH_take (i := 7) (oi := { dst := some 16, op := Op.load 93 (Operand.tmp 1), type := 93, pos := "ranges.go:201", after := #[], guard := none }) (v := .pointer (some ⟨g, 0, none⟩)) rfl (by kernel_rfl) (by kernel_rfl) (by kernel_rfl) (fun _ _ _ h => h) (Or.inl ⟨by rfl, ?yp7⟩) bu0 ?rp7
      case yp7 => (intro w hSw; obtain ⟨t0, -, -, -⟩ := FK.out w hSw; go_simp; try with_reducible rfl)
      try simp only [Act.put, List.setIfInBounds_toArray, List.set_cons_zero, List.set_cons_succ]
      refine wpAnyH_take (i := 8) (oi := { dst := some 17, op := Op.load 3 (Operand.tmp 3), type := 3, pos := "ranges.go:201", after := #[], guard := none }) (v := .int .i64 t) rfl (by kernel_rfl) (by kernel_rfl) (by kernel_rfl) (fun _ _ _ h => h) (Or.inl ⟨by rfl, ?yp8⟩) bu0 ?rp8
      case yp8 => (intro w hSw; obtain ⟨-, -, t2, -⟩ := FK.out w hSw; go_simp; try with_reducible rfl)
      try simp only [Act.put, List.setIfInBounds_toArray, List.set_cons_zero, List.set_cons_succ]
      refine wpAnyH_take (i := 12) (oi := { dst := some 21, op := Op.move (Operand.const (Value.int IntKind.i64 0)), type := 3, pos := "ranges.go:201", after := #[], guard := none }) (v := ?vp9) rfl (by kernel_rfl) (by kernel_rfl) (by kernel_rfl) (fun _ _ _ h => h) (Or.inl ⟨by rfl, ?yp9⟩) bu0 ?rp9
      case yp9 => (intro w hSw; go_simp; try with_reducible rfl)
      try simp only [Act.put, List.setIfInBounds_toArray, List.set_cons_zero, List.set_cons_succ]
      refine wpAnyH_ready (rs := [6]) (by kernel_rfl) (by simp) ?_
      refine AllReadyH.cons (o := { dst := some 15, op := Op.call { callee := Callee.value (Operand.func 80), args := #[Operand.tmp 13, Operand.tmp 14], argTypes := #[93, 3] }, type := 3, pos := "ranges.go:201", after := #[{ on := 4, ground := Ground.data }, { on := 5, ground := Ground.data }], guard := none }) rfl (fun KK hKK => ?_) ?_
      · go_simp
        refine (CE.out _ bu0).mono ?_
        rintro e u10' ⟨rfl, bu10'⟩
        (try go_wp2_with fail)
        refine hKK.out _ _ (bu0.trans (Below.mono (bu10') bu0.size)) (fun _ => ?_)
        clear hKK KK
        try simp only [Act.put, List.setIfInBounds_toArray, List.set_cons_zero, List.set_cons_succ]
        refine wpAnyH_name (fun u10 hu10 => ?_)
        have bu10 : Below W.heap.size W u10 := by rw [hu10.out]; exact (bu0.trans (Below.mono (bu10') bu0.size))
        refine wpAnyH_ready (rs := [9]) (by kernel_rfl) (by simp) ?_
        refine AllReadyH.cons (o := { dst := some 18, op := Op.call { callee := Callee.value (Operand.func 81), args := #[Operand.tmp 16, Operand.tmp 17], argTypes := #[93, 3] }, type := 3, pos := "ranges.go:201", after := #[{ on := 7, ground := Ground.data }, { on := 8, ground := Ground.data }, { on := 6, ground := Ground.chain }], guard := none }) rfl (fun KK hKK => ?_) ?_
        · go_simp
          refine (CB.out _ bu10).mono ?_
          rintro e u11' ⟨rfl, bu11'⟩
          (try go_wp2_with fail)
          refine hKK.out _ _ (bu10.trans (Below.mono (bu11') bu10.size)) (fun _ => ?_)
          clear hKK KK
          try simp only [Act.put, List.setIfInBounds_toArray, List.set_cons_zero, List.set_cons_succ]
          refine wpAnyH_name (fun u11 hu11 => ?_)
          have bu11 : Below W.heap.size W u11 := by rw [hu11.out]; exact (bu10.trans (Below.mono (bu11') bu10.size))
          refine wpAnyH_take (i := 10) (oi := { dst := some 19, op := Op.slice 23 (Operand.tmp 12) (some (Operand.tmp 15)) (some (Operand.tmp 18)) none, type := 23, pos := "ranges.go:201", after := #[{ on := 3, ground := Ground.data }, { on := 6, ground := Ground.data }, { on := 9, ground := Ground.data }], guard := none }) (v := .slice a 0 0) rfl (by kernel_rfl) (by kernel_rfl) (by kernel_rfl) (fun _ _ _ h => h) (Or.inl ⟨by rfl, ?yp12⟩) bu11 ?rp12
          case yp12 => (intro w hSw; go_simp; try with_reducible rfl)
          try simp only [Act.put, List.setIfInBounds_toArray, List.set_cons_zero, List.set_cons_succ]
          refine wpAnyH_take (i := 11) (oi := { dst := some 20, op := Op.call { callee := Callee.builtin Builtin.len, args := #[Operand.tmp 19], argTypes := #[23] }, type := 3, pos := "ranges.go:201", after := #[{ on := 10, ground := Ground.data }], guard := none }) (v := ?vp13) rfl (by kernel_rfl) (by kernel_rfl) (by kernel_rfl) (fun _ _ _ h => h) (Or.inl ⟨by rfl, ?yp13⟩) bu11 ?rp13
          case yp13 => (intro w hSw; go_simp; try with_reducible rfl)
          try simp only [Act.put, List.setIfInBounds_toArray, List.set_cons_zero, List.set_cons_succ]
          refine wpAnyH_done (by kernel_rfl) ?_ _
          have HZ : Hid (From W u11) := bu11
          clear FK CE CB
          go_wp2_with fail
          go_meet
          exact ⟨a, 0, by rw [Nat.sub_self], by rw [Nat.sub_self]; rfl, rfl, fun h => by omega, HZ.out⟩
        exact AllReadyH.nil
      exact AllReadyH.nil
    · obtain ⟨bb, off, rfl⟩ : ∃ bb off, a = some ⟨bb, off, none⟩ := by
        cases a with
        | none => have := h4 rfl; omega
        | some x =>
          rcases HVA.out with e | ⟨bb, off, m', c', e⟩
          · cases e
          · cases e
            exact ⟨bb, off, rfl⟩
      refine wp_region_held_drew (S := From W) (by kernel_rfl) (Below.drew (Below.refl _ _)) (fun _ => ?_)
      refine wpAnyH_name (fun u0 hu0 => ?_)
      have bu0 : Below W.heap.size W u0 := by rw [hu0.out]; exact Below.drew (Below.refl _ _)
      refine wpAnyH_take (i := 0) (oi := { dst := some 9, op := Op.load 93 (Operand.tmp 1), type := 93, pos := "ranges.go:201", after := #[], guard := none }) (v := .pointer (some ⟨g, 0, none⟩)) rfl (by kernel_rfl) (by kernel_rfl) (by kernel_rfl) (fun _ _ _ h => h) (Or.inl ⟨by rfl, ?yq1⟩) bu0 ?rq1
      case yq1 => (intro w hSw; obtain ⟨t0, -, -, -⟩ := FK.out w hSw; go_simp; try with_reducible rfl)
      try simp only [Act.put, List.setIfInBounds_toArray, List.set_cons_zero, List.set_cons_succ]
      refine wpAnyH_take (i := 1) (oi := { dst := some 10, op := Op.nilCheck (Operand.tmp 9), type := 0, pos := "ranges.go:201", after := #[{ on := 0, ground := Ground.data }], guard := none }) (v := ?vq2) rfl (by kernel_rfl) (by kernel_rfl) (by kernel_rfl) (fun _ _ _ h => h) (Or.inl ⟨by rfl, ?yq2⟩) bu0 ?rq2
      case yq2 => (intro w hSw; go_simp; try with_reducible rfl)
      try simp only [Act.put, List.setIfInBounds_toArray, List.set_cons_zero, List.set_cons_succ]
      refine wpAnyH_take (i := 2) (oi := { dst := some 11, op := Op.fieldAddr 131 (Operand.tmp 10) 0, type := 0, pos := "ranges.go:201", after := #[{ on := 1, ground := Ground.data }], guard := none }) (v := ?vq3) rfl (by kernel_rfl) (by kernel_rfl) (by kernel_rfl) (fun _ _ _ h => h) (Or.inl ⟨by rfl, ?yq3⟩) bu0 ?rq3
      case yq3 => (intro w hSw; go_simp; try with_reducible rfl)
      try simp only [Act.put, List.setIfInBounds_toArray, List.set_cons_zero, List.set_cons_succ]
      refine wpAnyH_take (i := 3) (oi := { dst := some 12, op := Op.load 23 (Operand.tmp 11), type := 23, pos := "ranges.go:201", after := #[{ on := 2, ground := Ground.data }], guard := none }) (v := .slice (some ⟨bb, off, none⟩) nl c) rfl (by kernel_rfl) (by kernel_rfl) (by kernel_rfl) (fun _ _ _ h => h) (Or.inl ⟨by rfl, ?yq4⟩) bu0 ?rq4
      case yq4 => (intro w hSw; obtain ⟨-, -, -, t3⟩ := FK.out w hSw; go_simp; try with_reducible rfl)
      try simp only [Act.put, List.setIfInBounds_toArray, List.set_cons_zero, List.set_cons_succ]
      refine wpAnyH_take (i := 4) (oi := { dst := some 13, op := Op.load 93 (Operand.tmp 1), type := 93, pos := "ranges.go:201", after := #[], guard := none }) (v := .pointer (some ⟨g, 0, none⟩)) rfl (by kernel_rfl) (by kernel_rfl) (by kernel_rfl) (fun _ _ _ h => h) (Or.inl ⟨by rfl, ?yq5⟩) bu0 ?rq5
      case yq5 => (intro w hSw; obtain ⟨t0, -, -, -⟩ := FK.out w hSw; go_simp; try with_reducible rfl)
      try simp only [Act.put, List.setIfInBounds_toArray, List.set_cons_zero, List.set_cons_succ]
      refine wpAnyH_take (i := 5) (oi := { dst := some 14, op := Op.load 3 (Operand.tmp 2), type := 3, pos := "ranges.go:201", after := #[], guard := none }) (v := .int .i64 f) rfl (by kernel_rfl) (by kernel_rfl) (by kernel_rfl) (fun _ _ _ h => h) (Or.inl ⟨by rfl, ?yq6⟩) bu0 ?rq6
      case yq6 => (intro w hSw; obtain ⟨-, t1, -, -⟩ := FK.out w hSw; go_simp; try with_reducible rfl)
      try simp only [Act.put, List.setIfInBounds_toArray, List.set_cons_zero, List.set_cons_succ]
      refine wpAnyH_take (i := 7) (oi := { dst := some 16, op := Op.load 93 (Operand.tmp 1), type := 93, pos := "ranges.go:201", after := #[], guard := none }) (v := .pointer (some ⟨g, 0, none⟩)) rfl (by kernel_rfl) (by kernel_rfl) (by kernel_rfl) (fun _ _ _ h => h) (Or.inl ⟨by rfl, ?yq7⟩) bu0 ?rq7
      case yq7 => (intro w hSw; obtain ⟨t0, -, -, -⟩ := FK.out w hSw; go_simp; try with_reducible rfl)
      try simp only [Act.put, List.setIfInBounds_toArray, List.set_cons_zero, List.set_cons_succ]
      refine wpAnyH_take (i := 8) (oi := { dst := some 17, op := Op.load 3 (Operand.tmp 3), type := 3, pos := "ranges.go:201", after := #[], guard := none }) (v := .int .i64 t) rfl (by kernel_rfl) (by kernel_rfl) (by kernel_rfl) (fun _ _ _ h => h) (Or.inl ⟨by rfl, ?yq8⟩) bu0 ?rq8
      case yq8 => (intro w hSw; obtain ⟨-, -, t2, -⟩ := FK.out w hSw; go_simp; try with_reducible rfl)
      try simp only [Act.put, List.setIfInBounds_toArray, List.set_cons_zero, List.set_cons_succ]
      refine wpAnyH_take (i := 12) (oi := { dst := some 21, op := Op.move (Operand.const (Value.int IntKind.i64 0)), type := 3, pos := "ranges.go:201", after := #[], guard := none }) (v := ?vq9) rfl (by kernel_rfl) (by kernel_rfl) (by kernel_rfl) (fun _ _ _ h => h) (Or.inl ⟨by rfl, ?yq9⟩) bu0 ?rq9
      case yq9 => (intro w hSw; go_simp; try with_reducible rfl)
      try simp only [Act.put, List.setIfInBounds_toArray, List.set_cons_zero, List.set_cons_succ]
      refine wpAnyH_ready (rs := [6]) (by kernel_rfl) (by simp) ?_
      refine AllReadyH.cons (o := { dst := some 15, op := Op.call { callee := Callee.value (Operand.func 80), args := #[Operand.tmp 13, Operand.tmp 14], argTypes := #[93, 3] }, type := 3, pos := "ranges.go:201", after := #[{ on := 4, ground := Ground.data }, { on := 5, ground := Ground.data }], guard := none }) rfl (fun KK hKK => ?_) ?_
      · go_simp
        refine (CE.out _ bu0).mono ?_
        rintro e u10' ⟨rfl, bu10'⟩
        (try go_wp2_with fail)
        refine hKK.out _ _ (bu0.trans (Below.mono (bu10') bu0.size)) (fun _ => ?_)
        clear hKK KK
        try simp only [Act.put, List.setIfInBounds_toArray, List.set_cons_zero, List.set_cons_succ]
        refine wpAnyH_name (fun u10 hu10 => ?_)
        have bu10 : Below W.heap.size W u10 := by rw [hu10.out]; exact (bu0.trans (Below.mono (bu10') bu0.size))
        refine wpAnyH_ready (rs := [9]) (by kernel_rfl) (by simp) ?_
        refine AllReadyH.cons (o := { dst := some 18, op := Op.call { callee := Callee.value (Operand.func 81), args := #[Operand.tmp 16, Operand.tmp 17], argTypes := #[93, 3] }, type := 3, pos := "ranges.go:201", after := #[{ on := 7, ground := Ground.data }, { on := 8, ground := Ground.data }, { on := 6, ground := Ground.chain }], guard := none }) rfl (fun KK hKK => ?_) ?_
        · go_simp
          refine (CB.out _ bu10).mono ?_
          rintro e u11' ⟨rfl, bu11'⟩
          (try go_wp2_with fail)
          refine hKK.out _ _ (bu10.trans (Below.mono (bu11') bu10.size)) (fun _ => ?_)
          clear hKK KK
          try simp only [Act.put, List.setIfInBounds_toArray, List.set_cons_zero, List.set_cons_succ]
          refine wpAnyH_name (fun u11 hu11 => ?_)
          have bu11 : Below W.heap.size W u11 := by rw [hu11.out]; exact (bu10.trans (Below.mono (bu11') bu10.size))
          refine wpAnyH_take (i := 10) (oi := { dst := some 19, op := Op.slice 23 (Operand.tmp 12) (some (Operand.tmp 15)) (some (Operand.tmp 18)) none, type := 23, pos := "ranges.go:201", after := #[{ on := 3, ground := Ground.data }, { on := 6, ground := Ground.data }, { on := 9, ground := Ground.data }], guard := none }) (v := .slice (some ⟨bb, off + E * 2, none⟩) (U - E) (c - E)) rfl (by kernel_rfl) (by kernel_rfl) (by kernel_rfl) (fun _ _ _ h => h) (Or.inl ⟨by rfl, ?yq12⟩) bu11 ?rq12
          case yq12 => (intro w hSw; go_simp; try with_reducible rfl)
          try simp only [Act.put, List.setIfInBounds_toArray, List.set_cons_zero, List.set_cons_succ]
          refine wpAnyH_take (i := 11) (oi := { dst := some 20, op := Op.call { callee := Callee.builtin Builtin.len, args := #[Operand.tmp 19], argTypes := #[23] }, type := 3, pos := "ranges.go:201", after := #[{ on := 10, ground := Ground.data }], guard := none }) (v := ?vq13) rfl (by kernel_rfl) (by kernel_rfl) (by kernel_rfl) (fun _ _ _ h => h) (Or.inl ⟨by rfl, ?yq13⟩) bu11 ?rq13
          case yq13 => (intro w hSw; go_simp; try with_reducible rfl)
          try simp only [Act.put, List.setIfInBounds_toArray, List.set_cons_zero, List.set_cons_succ]
          refine wpAnyH_done (by kernel_rfl) ?_ _
          have HZ : Hid (From W u11) := bu11
          clear FK CE CB
          go_wp2_with fail
          go_meet
          exact ⟨_, _, rfl, rfl, rfl, fun _ => ⟨bb, off, rfl, rfl⟩, HZ.out⟩
        exact AllReadyH.nil
      exact AllReadyH.nil
  case rest =>
    obtain ⟨a', c', rfl, rfl, rfl, hsl, hf⟩ := hcut
    have HSL : Hid (0 < U - E → ∃ bb off, a = some ⟨bb, off, none⟩ ∧ a' = some ⟨bb, off + E * 2, none⟩) := hsl
    have HJW : Hid (J [] wc) := HJ.out [] W wc HJ0.out hf
    have HKC : Hid (Kt w0.heap.size X w0 wc) := HKW.out.trans (Kt.from hf)
    clear hsl hf FK CE CB HKW HJ0 k0 k1 k2 k3 HVA
    obtain ⟨N, hN⟩ : ∃ N, N = U - E := ⟨_, rfl⟩
    rw [← hN] at HSL HEL HLN HLC ⊢
    have hUE : E + N ≤ nl := by omega
    have hN5 : N ≤ 100000 := by omega
    clear hN hle hbl y1 y2
    go_wp2_with fail
    refine (wpIn_wide (n := n)).1 ?_
    gi_loopw [21] (fun i wr => ∃ k : Nat, k ≤ N ∧ i = .int .i64 k ∧ J (cl.take k) wr ∧ Kt w0.heap.size X w0 wr) (fun i _ => N - (intOf i).toNat)
    case atStart => exact ⟨0, Nat.zero_le _, rfl, by rw [List.take_zero]; exact HJW.out, HKC.out⟩
    case round =>
      obtain ⟨k, hk, rfl, hJs, hKs⟩ := hrel
      have HJS : Hid (J (cl.take k) wr) := hJs
      have HKS : Hid (Kt w0.heap.size X w0 wr) := hKs
      clear hJs hKs HJW HKC
      by_cases hlt : k < N
      · have lt2 : (k : Int) < (N : Int) := by omega
        obtain ⟨bb, off, rfl, rfl⟩ := HSL.out (by omega)
        obtain ⟨q1, q2, q3⟩ := FF.out wr HKS.out
        have q3' : SSp wr (.slice (some ⟨bb, off, none⟩) nl c) l := q3
        obtain ⟨bb', off', e', hr⟩ := q3'.at (E + k) (by rw [← HNL.out]; omega)
        cases e'
        obtain ⟨r0, r1⟩ := spC hr
        rw [show off + (E + k) * 2 = off + E * 2 + k * 2 by omega] at r0 r1
        have d1 : wr.cell? ⟨b + 1, 0, none⟩ = some (.int .i64 f) := by have := q1.2.1; simp [World.cell?, this]
        have d2 : wr.cell? ⟨b + 2, 0, none⟩ = some (.int .i64 t) := by have := q1.2.2; simp [World.cell?, this]
        have hkc : k < cl.length := by rw [HLN.out]; exact hlt
        obtain ⟨y, hy⟩ : ∃ y : Al, cl[k]? = some y := ⟨cl[k], List.getElem?_eq_getElem hkc⟩
        have ye := HEL.out k hlt y hy
        have htk : cl.take (k + 1) = cl.take k ++ [y] := by rw [List.take_add_one, hy]; rfl
        have HTK : Hid (cl.take (k + 1) = cl.take k ++ [y]) := htk
        obtain ⟨x, hx⟩ : ∃ x, x = atS l (E + k) := ⟨_, rfl⟩
        rw [← hx] at ye r0 r1
        have HB3 : Hid (Below wr.heap.size wr (wr.alloc (.cells #[.int .i64 x.1, .int .i64 x.2] 89))) := al_below _ _
        have e1 : (wr.alloc (.cells #[.int .i64 x.1, .int .i64 x.2] 89)).cell? ⟨b + 1, 0, none⟩ = some (.int .i64 f) := (HB3.out.cell (World.block_lt_of_cell? _ _ d1)).trans d1
        have e2 : (wr.alloc (.cells #[.int .i64 x.1, .int .i64 x.2] 89)).cell? ⟨b + 2, 0, none⟩ = some (.int .i64 t) := (HB3.out.cell (World.block_lt_of_cell? _ _ d2)).trans d2
        have HJ3 := HJ.out _ _ _ HJS.out HB3.out
        have HK3 : Hid (Kt w0.heap.size X w0 (wr.alloc (.cells #[.int .i64 x.1, .int .i64 x.2] 89))) := HKS.out.trans (Kt.from HB3.out)
        obtain ⟨fn, tmps, assign, body, hyy, hR⟩ := HY.out (cl.take k) y _ HJ3 (by rw [HLC.out, List.length_take]; omega)
        dsimp only [aenc] at hyy
        rw [ye] at hyy
        have HR : Hid (RoundIn Fence.wide (n - 1) Tryz.prog lp fn tmps assign body (wr.alloc (.cells #[.int .i64 x.1, .int .i64 x.2] 89)) _) := hR
        clear hR ye hy htk hx hr q1 q2 q3 q3' hkc HJ3 HB3
        gi_wp2
        refine HR.out.mono ?_
        rintro e W4 (⟨rfl, hJ4, hk4⟩ | ⟨rfl, hJx4⟩)
        · have HJ4 : Hid (J (cl.take (k + 1)) W4) := by unfold Hid; rw [HTK.out]; exact hJ4
          have HK4 : Hid (Kt w0.heap.size X w0 W4) := HK3.out.trans hk4
          clear hJ4 hk4 hyy
          gi_wp2
          go_roundw
          case rel => exact ⟨k + 1, by omega, by go_num, HJ4.out, HK4.out⟩
          case measure => simp [intOf]; omega
        · have HX4 : Hid (Jx (cl.take k ++ [y]) W4) := hJx4
          clear hJx4 hyy
          gi_wp2
          refine bodyPost_ret (results_none rfl _ _ _) rfl ?_
          exact ⟨⟨_, rfl⟩, .inr ⟨_, trivial, HX4.out⟩⟩
      · obtain rfl : k = N := by omega
        have HJE : Hid (J cl wr) := by unfold Hid; have := HJS.out; rwa [List.take_of_length_le (by rw [HLN.out]; exact Nat.le_refl _)] at this
        clear HJS
        gi_wp2
        go_end0
        exact ⟨⟨_, rfl⟩, .inl ⟨cl, HCL.out, HJE.out⟩⟩
end Go.Proofs.YtmplpdjkhdaniaaGreatDoor
namespace Go.Proofs.YtmplpdjkhdaniaaGreatDoor
open Go.RowKit Go.Shelf
set_option maxRecDepth 100000

attribute [local go_sem] Oper.semAt_some

theorem blk_own {β : Type} (B k : Nat) (F : β → Array Value) (t : TypeId) : OwnFrom B (fun (s : β) (W : World) => W.heap[k]? = some (.cells (F s) t (0, 0))) := fun s W W' row hs hg hr =>
  (hg.block k (blk_lt hs) (fun e => by
    obtain ⟨_, o, ho, hc⟩ := hr k e.symm
    rw [hs] at ho
    cases ho
    cases hc)).trans hs
def WW (w : World) (p : Value) (f t : Int) : World := ((w.alloc (.cells #[p] 93)).alloc (.cells #[.int .i64 f] 3)).alloc (.cells #[.int .i64 t] 3)
theorem WW.below (w : World) (p : Value) (f t : Int) : Below w.heap.size w (WW w p f t) := (((Below.refl _ w).alloc (Nat.le_refl _) _).alloc (by simp) _).alloc (by simp; omega) _
theorem WW.size (w : World) (p : Value) (f t : Int) : (WW w p f t).heap.size = w.heap.size + 3 := by simp [WW]
set_option maxHeartbeats 400000 in
theorem within_any (p : Option Addr) (f t : Int) (w : World) :
    Calls Tryz.prog 65 #[.pointer p, .int .i64 f, .int .i64 t] w fun e w' => e = .returned (.func (.func 84) #[] #[.pointer (some ⟨w.heap.size, 0, none⟩), .pointer (some ⟨w.heap.size + 1, 0, none⟩), .pointer (some ⟨w.heap.size + 2, 0, none⟩)]) ∧ w' = WW w (.pointer p) f t := by
  go_enter Tryz.func65, Tryz.ntmps65
  go_wp2
  go_ret
  exact ⟨rfl, rfl⟩
set_option maxHeartbeats 400000 in
theorem size_any (a b : Int) (w : World) (h : -9223372036854775808 ≤ b - a + 1 ∧ b - a + 1 ≤ 9223372036854775807 ∧ -9223372036854775808 ≤ b - a ∧ b - a ≤ 9223372036854775807) :
    Calls Tryz.prog 79 #[.agg #[.int .i64 a, .int .i64 b]] w fun e w' => e = .returned (.int .i64 (b - a + 1)) ∧ Below w.heap.size w w' := by
  have B1 : Hid (Below w.heap.size w (w.alloc (.cells #[.int .i64 a, .int .i64 b] 89))) := al_below _ _
  have w1 : IntKind.i64.wrap (b - a) = b - a := by rw [IntKind.wrap_i64]; omega
  have w2 : IntKind.i64.wrap (b - a + 1) = b - a + 1 := by rw [IntKind.wrap_i64]; omega
  clear h
  go_enter Tryz.func79, Tryz.ntmps79
  go_wp2
  go_ret
  exact ⟨rfl, B1.out⟩
theorem keeps_below {W W' : World} (h : Below W.heap.size W W') : KeepsOthers W W' := ⟨h.size, fun k _ hk _ => (h.block k (blk_lt hk)).trans hk⟩
theorem Kt.setC {n : Nat} {X : Nat → Prop} {W : World} (k : Nat) (v : Value) (hk : X k) : Kt n X W (W.setCell ⟨k, 0, none⟩ v) := fun j o _ hj h _ => by
  rw [Below.heap_setCell _ _ _ _ (fun e => hj (by rw [e]; exact hk))]
  exact h
theorem set_one {W : World} {k : Nat} {u v : Value} {t : TypeId} (h : W.heap[k]? = some (.cells #[u] t (0, 0))) : (W.setCell ⟨k, 0, none⟩ v).heap[k]? = some (.cells #[v] t (0, 0)) := by
  simp [World.setCell, Array.getElem?_modify, h]
def cntA (pre : List Al) : Int := cnt (pre.map (·.1))
theorem cntA_snoc (pre : List Al) (x : Al) : cntA (pre ++ [x]) = cntA pre + (x.1.2 - x.1.1 + 1) := by
  unfold cntA
  rw [List.map_append, cnt_app]
  simp [cnt]
theorem cntA_bd (pre : List Al) : 0 ≤ cntA pre ∧ cntA pre ≤ 1099511627777 * (pre.length : Int) := by
  induction pre with
  | nil => simp [cntA, cnt]
  | cons x l ih =>
    have hx := x.2
    unfold Okk at hx
    unfold cntA at ih ⊢
    rw [List.map_cons, cnt, List.length_cons]
    omega
/-- Three variables that a closure captured, whatever the set. -/
def C3p (w : World) (b : Nat) (p : Option Addr) (f t : Int) : Prop := w.heap[b]? = some (.cells #[.pointer p] 93 (0, 0)) ∧ w.heap[b + 1]? = some (.cells #[.int .i64 f] 3 (0, 0)) ∧ w.heap[b + 2]? = some (.cells #[.int .i64 t] 3 (0, 0))
theorem C3p.kept {w w' : World} {b : Nat} {p : Option Addr} {f t : Int} (h : C3p w b p f t) (hb : Below w.heap.size w w') : C3p w' b p f t := ⟨blk_kept h.1 hb (blk_lt h.1), blk_kept h.2.1 hb (blk_lt h.2.1), blk_kept h.2.2 hb (blk_lt h.2.2)⟩
theorem WW.c3 (w : World) (p : Option Addr) (f t : Int) : C3p (WW w (.pointer p) f t) w.heap.size p f t := by
  unfold WW
  have h0 := heap_alloc_new w (.cells #[.pointer p] 93)
  have h1 := heap_alloc_new (w.alloc (.cells #[.pointer p] 93)) (.cells #[.int .i64 f] 3)
  have h2 := heap_alloc_new ((w.alloc (.cells #[.pointer p] 93)).alloc (.cells #[.int .i64 f] 3)) (.cells #[.int .i64 t] 3)
  have s1 : (w.alloc (.cells #[.pointer p] 93)).heap.size = w.heap.size + 1 := by simp
  have s2 : ((w.alloc (.cells #[.pointer p] 93)).alloc (.cells #[.int .i64 f] 3)).heap.size = w.heap.size + 2 := by simp
  refine ⟨blk_kept (blk_kept h0 (al_below _ _) (blk_lt h0)) (al_below _ _) (by rw [s2]; omega), ?_, ?_⟩
  · rw [s1] at h1
    exact blk_kept h1 (al_below _ _) (by rw [s2]; omega)
  · rw [s2] at h2
    exact h2
/-- What a set's iterator gives: these spans. -/
def Sq (w : World) (p : Option Addr) (f t : Int) (c : List Sp) : Prop := c.length ≤ 1000 ∧ (∀ x ∈ c, Okk x) ∧ ∀ (W0 : World) (b : Nat) (X : Nat → Prop), Below w.heap.size w W0 → C3p W0 b p f t → (∀ k, k < w.heap.size → ¬ X k) → ¬ X b → ¬ X (b + 1) → ¬ X (b + 2) →
  SeqStopsK Fence.wide 8 Tryz.prog 84 #[.pointer (some ⟨b, 0, none⟩), .pointer (some ⟨b + 1, 0, none⟩), .pointer (some ⟨b + 2, 0, none⟩)] aenc (Kt W0.heap.size X) (fun xs => xs.map (·.1) = c) (fun _ => True) c.length W0
theorem Sq.kept {w w' : World} {p : Option Addr} {f t : Int} {c : List Sp} (h : Sq w p f t c) (hb : Below w.heap.size w w') : Sq w' p f t c :=
  ⟨h.1, h.2.1, fun W0 b X h0 h1 h2 h3 h4 h5 => h.2.2 W0 b X (hb.trans (h0.mono hb.size)) h1 (fun k hk => h2 k (Nat.lt_of_lt_of_le hk hb.size)) h3 h4 h5⟩
theorem sq_some {w : World} {g : Nat} {v : Value} {l : List Sp} {f t : Int} (hs : SB w g v) (hv : SSp w v l) (hcn : Canon l) (hl : l.length ≤ 1000) (hft : f ≤ t) (hva : v = .slice none 0 0 ∨ ∃ bb off m c, v = .slice (some ⟨bb, off, none⟩) m c) (hvr : ∀ k, rowB v = some k → k < w.heap.size) : Sq w (some ⟨g, 0, none⟩) f t (clip l f t) :=
  ⟨by have := clip_len l f t; omega, (clip_canon hcn hft).1, fun W0 b X h0 h1 h2 h3 h4 h5 => within_stops W0 b g v l f t X 8 (by omega) h1 (hs.kept h0) (hv.kept h0) hcn (by omega) hft ⟨h3, h4, h5, h2 g (blk_lt hs)⟩ (fun k hk => ⟨Nat.lt_of_lt_of_le (hvr k hk) h0.size, h2 k (hvr k hk)⟩) hva⟩
set_option maxHeartbeats 4000000 in
theorem count_any (w : World) (p : Option Addr) (f t : Int) (c : List Sp) (hq : Sq w p f t c) :
    Calls Tryz.prog 78 #[.pointer p, .int .i64 f, .int .i64 t] w fun e w' => e = .returned (.int .i64 (cnt c)) ∧ Below w.heap.size w w' := by
  refine (callsIn_wide (n := 9)).1 ?_
  refine callsIn_of_wp_marks Tryz.func78 rfl trivial ?_ rfl
  simp only [Tryz.ntmps78, List.size_toArray, List.length_cons, List.length_nil, Nat.reduceAdd, Nat.reduceSub, Array.replicate_succ, Array.replicate_zero, List.push_toArray, List.append_toArray, List.nil_append, List.cons_append]
  gi_wp2_with (refine ⟨trivial, ?_⟩; gi_at_call 65; refine (callsIn_wide.2 (within_any p f t _)).mono ?_; rintro e w' ⟨rfl, rfl⟩)
  obtain ⟨W0, hW0⟩ : ∃ W0, W0 = WW (w.alloc (.cells #[.int .i64 0] 3)) (.pointer p) f t := ⟨_, rfl⟩
  have bA : Below w.heap.size w (w.alloc (.cells #[.int .i64 0] 3)) := al_below _ _
  have bB := WW.below (w.alloc (.cells #[.int .i64 0] 3)) (.pointer p) f t
  have hsz : W0.heap.size = w.heap.size + 4 := by rw [hW0, WW.size]; simp
  have hc3 := WW.c3 (w.alloc (.cells #[.int .i64 0] 3)) p f t
  rw [← hW0] at bB hc3
  have hB0 : Below w.heap.size w W0 := bA.trans (bB.mono bA.size)
  have g0 : W0.heap[w.heap.size]? = some (.cells #[.int .i64 0] 3 (0, 0)) := blk_kept (heap_alloc_new w _) bB (by simp)
  rw [show (w.alloc (.cells #[.int .i64 0] 3)).heap.size = w.heap.size + 1 by simp] at hc3
  have hstops := hq.2.2 W0 (w.heap.size + 1) (fun k => k = w.heap.size) hB0 hc3 (fun k hk => by omega) (by omega) (by omega) (by omega)
  have hNl : c.length ≤ 1000 := hq.1
  rw [← hW0]
  clear hW0 bA bB hc3 hq
  refine wpIn_rangeFunc_ownH (F := Fence.wide) rfl (by omega) (gf := 84) (lb := #[.pointer (some ⟨w.heap.size + 1, 0, none⟩), .pointer (some ⟨w.heap.size + 2, 0, none⟩), .pointer (some ⟨w.heap.size + 3, 0, none⟩)]) rfl trivial (enters_of Tryz.func84 (by kernel_rfl) rfl)
    hstops (fun h h' => h.trans h') (fun W l o o' _ h hc _ => Kt.put W l o o' h hc) (Below.refl _ _) (fun _ => rfl)
    (fun pre W => W.heap[w.heap.size]? = some (.cells #[.int .i64 (cntA pre)] 3 (0, 0)) ∧ Below w.heap.size w W)
    (fun _ _ _ => False)
    (OwnFrom.and (blk_own _ _ (fun pre => #[.int .i64 (cntA pre)]) 3) (ownFrom_below (Nat.le_refl _) (by omega)))
    (fun _ _ _ _ _ hs _ _ => hs)
    ⟨g0, hB0⟩
    (fun x a' W => ∃ Bx, W.heap[Bx]? = some (.cells #[.int .i64 x.1.1, .int .i64 x.1.2] 89 (0, 0)) ∧ a' = { tmps := #[.pointer p, .int .i64 f, .int .i64 t, undef, undef, undef, .int .i64 0, .pointer (some ⟨w.heap.size, 0, none⟩), .pointer (some ⟨Bx, 0, none⟩), .pointer p, .int .i64 f, .int .i64 t, .func (.func 84) #[] #[.pointer (some ⟨w.heap.size + 1, 0, none⟩), .pointer (some ⟨w.heap.size + 2, 0, none⟩), .pointer (some ⟨w.heap.size + 3, 0, none⟩)], .agg #[.int .i64 x.1.1, .int .i64 x.1.2], undef, undef, undef, undef, undef], defers := [] })
    (fun x a' _ X Y row hs hg hr => by
      obtain ⟨Bx, h2, h3⟩ := hs
      exact ⟨Bx, blk_own W0.heap.size Bx (fun (_ : Unit) => #[.int .i64 x.1.1, .int .i64 x.1.2]) 89 () X Y row h2 hg hr, h3⟩)
    ?assign ?body ?done ?stop
  case assign =>
    rintro lp pre x W K ⟨h1, h2⟩ hK
    gi_wp2
    exact hK _ _ ((KeepsOthers.alloc _ _).from _) (Kt.from (al_below _ _)) ⟨blk_kept h1 (al_below _ _) (blk_lt h1), h2.alloc h2.size _⟩ ⟨W.heap.size, heap_alloc_new _ _, by rfl⟩
  case body =>
    rintro lp pre x a' W _ _ ⟨h1, h2⟩ ⟨Bx, bX, rfl⟩ hlt
    have cb := cntA_bd pre
    have hx := x.2
    unfold Okk at hx
    have c0 : W.cell? ⟨w.heap.size, 0, none⟩ = some (.int .i64 (cntA pre)) := by simp [World.cell?, h1]
    have f0 : W.frozen? ⟨w.heap.size, 0, none⟩ = false := by simp [World.frozen?, h1]
    have x0 : W.cell? ⟨Bx, 0, none⟩ = some (.int .i64 x.1.1) := by simp [World.cell?, bX]
    have x1 : W.cell? ⟨Bx, 1, none⟩ = some (.int .i64 x.1.2) := by simp [World.cell?, bX]
    have hle : (pre.length : Int) ≤ 1000 := by omega
    have h1' : 1 ≤ 9 - 1 - 1 := by omega
    have mixed : Tryz.prog.follows Departure.mixedOrders = true := by kernel_rfl
    have HS : ∀ V : World, CallsIn Fence.wide (9 - 1 - 1 - 1) Tryz.prog 79 #[.agg #[.int .i64 x.1.1, .int .i64 x.1.2]] V fun e w' => e = .returned (.int .i64 (x.1.2 - x.1.1 + 1)) ∧ Below V.heap.size V w' := fun V => callsIn_wide.2 (size_any x.1.1 x.1.2 V (by omega))
    have HSS : Hid (∀ V : World, CallsIn Fence.wide (9 - 1 - 1 - 1) Tryz.prog 79 #[.agg #[.int .i64 x.1.1, .int .i64 x.1.2]] V fun e w' => e = .returned (.int .i64 (x.1.2 - x.1.1 + 1)) ∧ Below V.heap.size V w') := HS
    clear HS
    have HFN : Hid (∀ w2 : World, Below W.heap.size W.drew w2 → KeepsFrom W0.heap.size W (w2.setCell ⟨w.heap.size, 0, none⟩ (.int .i64 (IntKind.i64.wrap (cntA pre + (x.1.2 - x.1.1 + 1))))) ∧ Kt W0.heap.size (fun k => k = w.heap.size) W (w2.setCell ⟨w.heap.size, 0, none⟩ (.int .i64 (IntKind.i64.wrap (cntA pre + (x.1.2 - x.1.1 + 1))))) ∧ (w2.setCell ⟨w.heap.size, 0, none⟩ (.int .i64 (IntKind.i64.wrap (cntA pre + (x.1.2 - x.1.1 + 1))))).heap[w.heap.size]? = some (.cells #[.int .i64 (cntA (pre ++ [x]))] 3 (0, 0)) ∧ Below w.heap.size w (w2.setCell ⟨w.heap.size, 0, none⟩ (.int .i64 (IntKind.i64.wrap (cntA pre + (x.1.2 - x.1.1 + 1)))))) := fun w2 b2 => by
      have b2' : Below W.heap.size W w2 := ⟨b2.os, b2.tape, b2.output, b2.size, b2.block⟩
      have z2 := blk_kept h1 b2' (blk_lt h1)
      have e : IntKind.i64.wrap (cntA pre + (x.1.2 - x.1.1 + 1)) = cntA (pre ++ [x]) := by rw [cntA_snoc, IntKind.wrap_i64]; omega
      rw [e]
      refine ⟨((keeps_below b2').trans (KeepsOthers.setCell _ _ _)).from _, (Kt.from b2').trans (Kt.setC _ _ rfl), set_one z2, (h2.trans (b2'.mono h2.size)).setCell (p := ⟨w.heap.size, 0, none⟩) (Nat.le_refl _) _⟩
    gi_wp2
    gi_region_with_o (refine ⟨trivial, ?_⟩; gi_at_call 79; refine (CallsIn.inRound lp (HSS.out W.drew)).mono ?_; rintro e w2 ⟨rfl, b2⟩; (have z2 : w2.heap[w.heap.size]? = some (.cells #[.int .i64 (cntA pre)] 3 (0, 0)) := (b2.block _ (show w.heap.size < W.heap.size from blk_lt h1)).trans h1); (have y0 : w2.cell? ⟨w.heap.size, 0, none⟩ = some (.int .i64 (cntA pre)) := (by simp [World.cell?, z2])); (have y1 : w2.frozen? ⟨w.heap.size, 0, none⟩ = false := (by simp [World.frozen?, z2])))
    all_goals (gi_wp2; exact HFN.out w2 b2)
  case done =>
    rintro D xs W hD hS ⟨h1, h2⟩ hK
    have c0 : W.cell? ⟨w.heap.size, 0, none⟩ = some (.int .i64 (cntA xs)) := by simp [World.cell?, h1]
    gi_wp2
    refine ⟨by simp, .inl ⟨_, _, rfl, run_takeDeferred hK, ?_⟩⟩
    exact ⟨_, results_tmp rfl _ _ _, by rw [← hS]; rfl, h2.trans (belowK_b (w := w) (Nat.le_refl _) W D _ _ (by omega) hK rfl rfl)⟩
  case stop =>
    rintro D c pre W _ _ h _
    exact h.elim
end Go.Proofs.YtmplpdjkhdaniaaGreatDoor
