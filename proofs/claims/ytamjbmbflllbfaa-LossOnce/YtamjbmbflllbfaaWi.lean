/-
  What goes over a set's spans: the iterator.
-/
import Derived.Test.YtamjbmbflllbfaaSw
import Derived.Test.YtamjbmbflllbfaaOrd
import Derived.RangeFuncNested
import Derived.RangeFuncBound
import Derived.RangeFuncCalls
import Derived.RangeFuncLeaves
import Derived.Shelf.Abstract
import Derived.Shelf.RegionOpen
import Derived.WalkKit
import Derived.OwnWalkIn
import Derived.TacticsInMore
import Derived.LoopNIn
import Derived.LoopIn
namespace Go.Proofs.Ytamjbmbflllbfaa
open Go.RowKit Go.Shelf
set_option maxRecDepth 100000

/-- A span that may be. -/
abbrev Al := { x : Sp // Okk x }
abbrev aenc (x : Al) : Array Value := #[.agg #[.int .i64 x.1.1, .int .i64 x.1.2]]
theorem al_of : ∀ (l : List Sp), (∀ x ∈ l, Okk x) → ∃ c : List Al, c.map (·.1) = l
  | [], _ => ⟨[], rfl⟩
  | x :: l, h => by
    obtain ⟨c, hc⟩ := al_of l (fun y hy => h y (List.mem_cons_of_mem _ hy))
    exact ⟨⟨x, h x (List.mem_cons_self ..)⟩ :: c, by rw [List.map_cons, hc]⟩
/-- What a round keeps: what lay below n, but some blocks. -/
def Kt (n : Nat) (X : Nat → Prop) (A B : World) : Prop := ∀ (k : Nat) (o : Obj), k < n → ¬ X k → A.heap[k]? = some o → o.isCells = true → B.heap[k]? = some o
theorem Kt.refl (n : Nat) (X : Nat → Prop) (A : World) : Kt n X A A := fun _ _ _ _ h _ => h
theorem Kt.trans {n : Nat} {X : Nat → Prop} {A B C : World} (h : Kt n X A B) (h' : Kt n X B C) : Kt n X A C := fun k o a b c d => h' k o a b (h k o a b c d) d
theorem Kt.put {n : Nat} {X : Nat → Prop} (W : World) (l : Nat) (o o' : Obj) (h : W.heap[l]? = some o) (hc : o.isCells = false) : Kt n X W (W.putObj l o') := fun k q _ _ hq hqc => by
  by_cases e : k = l
  · subst e
    rw [h] at hq
    cases hq
    rw [hc] at hqc
    cases hqc
  · rw [World.putObj_heap_other e]
    exact hq
theorem Kt.below {n : Nat} {X : Nat → Prop} {A B : World} (h : Below n A B) : Kt n X A B := fun k _ a _ c _ => (h.block k a).trans c
theorem Kt.from {n : Nat} {X : Nat → Prop} {A B : World} (h : Below A.heap.size A B) : Kt n X A B := fun k _ _ _ c _ => (h.block k (blk_lt c)).trans c
theorem Kt.blk {n : Nat} {X : Nat → Prop} {A B : World} (h : Kt n X A B) {k : Nat} {cs : Array Value} {t : TypeId} {fr : Nat × Nat} (hk : k < n) (hx : ¬ X k) (hb : A.heap[k]? = some (.cells cs t fr)) : B.heap[k]? = some (.cells cs t fr) := h k _ hk hx hb rfl
theorem below_grown {w w' : World} (h : Below w.heap.size w w') : w.grownBy w' none := ⟨h.os, h.tape, h.output, h.size, fun k hk _ => h.block k hk⟩
/-- Three variables that a closure captured: a set and two numbers. -/
def C3 (w : World) (b g : Nat) (f t : Int) : Prop := w.heap[b]? = some (.cells #[.pointer (some ⟨g, 0, none⟩)] 88 (0, 0)) ∧ w.heap[b + 1]? = some (.cells #[.int .i64 f] 3 (0, 0)) ∧ w.heap[b + 2]? = some (.cells #[.int .i64 t] 3 (0, 0))
/-- The block in which a slice lies. -/
def rowB (v : Value) : Option Nat := match v with
  | .slice (some a) _ _ => some a.block
  | _ => none
theorem SSp.blk {w : World} {v : Value} {l : List Sp} (h : SSp w v l) (k : Nat) (hk : rowB v = some k) (hl : l ≠ []) : ∃ cs t fr, w.heap[k]? = some (.cells cs t fr) := by
  obtain ⟨a, c, rfl, _⟩ := h.shape
  obtain ⟨b, off, rfl, hr⟩ := h.at 0 (List.length_pos_iff.2 hl)
  have e : b = k := by simpa [rowB] using hk
  subst e
  have c0 := (spC hr).1
  unfold World.cell? at c0
  split at c0
  · next cs t fr hb => exact ⟨cs, t, fr, hb⟩
  · cases c0
theorem SSp.kt {w w' : World} {n : Nat} {X : Nat → Prop} {v : Value} {l : List Sp} (h : SSp w v l) (hk : Kt n X w w') (hn : ∀ k, rowB v = some k → k < n ∧ ¬ X k) : SSp w' v l := by
  by_cases hl : l = []
  · subst hl
    obtain ⟨a, c, e, h1, h2, h3, h4, h5⟩ := id h
    exact ⟨a, c, e, h1, h2, h3, h4, .inl rfl⟩
  · obtain ⟨a, c, rfl, _⟩ := h.shape
    obtain ⟨b, off, rfl, _⟩ := h.at 0 (List.length_pos_iff.2 hl)
    obtain ⟨cs, t, fr, hb⟩ := h.blk b rfl hl
    obtain ⟨q1, q2⟩ := hn b rfl
    have hb' := hk.blk q1 q2 hb
    obtain ⟨a, c', e, h1, h2, h3, h4, h5 | ⟨b', off', e', h6⟩⟩ := id h
    · exact absurd (List.map_eq_nil_iff.1 h5) hl
    · rw [List.length_map] at e h1
      cases e
      cases e'
      refine ⟨_, _, by rw [List.length_map], by rw [List.length_map]; exact h1, h2, h3, h4, .inr ⟨b, off, rfl, fun i hi j u hu => ?_⟩⟩
      have := h6 i hi j u hu
      unfold World.cell? at this ⊢
      rw [hb'] 
      rw [hb] at this
      exact this
set_option maxHeartbeats 4000000 in
theorem within_stops (w0 : World) (b g : Nat) (v : Value) (l : List Sp) (f t : Int) (X : Nat → Prop) (n : Nat) (hn : 1 ≤ n) (hc : C3 w0 b g f t) (hs : SB w0 g v) (hv : SSp w0 v l) (hcn : Canon l) (hl : l.length ≤ 100000) (hft : f ≤ t)
    (hX : ¬ X b ∧ ¬ X (b + 1) ∧ ¬ X (b + 2) ∧ ¬ X g) (hXr : ∀ k, rowB v = some k → k < w0.heap.size ∧ ¬ X k) (hva : v = .slice none 0 0 ∨ ∃ bb off m c, v = .slice (some ⟨bb, off, none⟩) m c) :
    SeqStopsK Fence.wide n Try.prog 64 #[.pointer (some ⟨b, 0, none⟩), .pointer (some ⟨b + 1, 0, none⟩), .pointer (some ⟨b + 2, 0, none⟩)] aenc (Kt w0.heap.size X) (fun xs => xs.map (·.1) = clip l f t) (fun _ => True) (clip l f t).length w0 := by
  intro lp J Jx W hW hJ hJx hY h0
  show CallsIn Fence.wide n Try.prog 64 #[.func (.yield lp) #[] #[], .pointer (some ⟨b, 0, none⟩), .pointer (some ⟨b + 1, 0, none⟩), .pointer (some ⟨b + 2, 0, none⟩)] W _
  refine callsIn_wide.2 ?_
  obtain ⟨cl, hcl⟩ := al_of (clip l f t) (clip_canon hcn hft).1
  have hcll : cl.length = (clip l f t).length := by rw [← hcl, List.length_map]
  have hlen : (clip l f t).length = bU l t - fE l f := by
    have := bU_le l t
    unfold clip mid
    rw [List.length_map, List.length_drop, List.length_take]
    omega
  have hel : ∀ k, k < bU l t - fE l f → ∀ y : Al, cl[k]? = some y → y.1 = (max (atS l (fE l f + k)).1 f, min (atS l (fE l f + k)).2 t) := fun k hk y hy => by
    have h1 : (clip l f t)[k]? = some y.1 := by rw [← hcl, List.getElem?_map, hy]; rfl
    have h2 := bU_le l t
    unfold clip mid at h1
    rw [List.getElem?_map, List.getElem?_drop, List.getElem?_take, if_pos (by omega), List.getElem?_eq_getElem (by omega)] at h1
    rw [atS_eq l _ (by omega)]
    have := Option.some.inj h1
    rw [← this]
    rfl
  have KW : Kt w0.heap.size X w0 W := Kt.below hW
  obtain ⟨x0, x1, x2, x3⟩ := hX
  have FF : Hid (∀ V : World, Kt w0.heap.size X w0 V → C3 V b g f t ∧ SB V g v ∧ SSp V v l) := fun V hk => ⟨⟨hk.blk (blk_lt hc.1) x0 hc.1, hk.blk (blk_lt hc.2.1) x1 hc.2.1, hk.blk (blk_lt hc.2.2) x2 hc.2.2⟩, hk.blk (blk_lt hs) x3 hs, hv.kt hk hXr⟩
  have hle : fE l f ≤ bU l t := fE_bU hcn (by omega)
  have hbl : bU l t ≤ l.length := bU_le l t
  have CE : Hid (∀ V, From W V → Calls Try.prog 60 #[.pointer (some ⟨g, 0, none⟩), .int .i64 f] V fun e w' => e = .returned (.int .i64 (fE l f : Nat)) ∧ Below V.heap.size V w') := fun V hb => by
    obtain ⟨-, q2, q3⟩ := FF.out V (KW.trans (Kt.from hb))
    exact ea_any V g v l f q2 q3 hcn hl
  have CB : Hid (∀ V, From W V → Calls Try.prog 61 #[.pointer (some ⟨g, 0, none⟩), .int .i64 t] V fun e w' => e = .returned (.int .i64 (bU l t : Nat)) ∧ Below V.heap.size V w') := fun V hb => by
    obtain ⟨-, q2, q3⟩ := FF.out V (KW.trans (Kt.from hb))
    exact bu_any V g v l t q2 q3 hcn hl
  obtain ⟨a, c, rfl, h2, h3, h4⟩ := hv.shape
  have FK : Hid (∀ V, From W V → V.cell? ⟨b, 0, none⟩ = some (.pointer (some ⟨g, 0, none⟩)) ∧ V.cell? ⟨b + 1, 0, none⟩ = some (.int .i64 f) ∧ V.cell? ⟨b + 2, 0, none⟩ = some (.int .i64 t) ∧ V.cell? ⟨g, 0, none⟩ = some (.slice a l.length c)) := fun V hb => by
    obtain ⟨q1, q2, -⟩ := FF.out V (KW.trans (Kt.from hb))
    exact ⟨by have := q1.1; simp [World.cell?, this], by have := q1.2.1; simp [World.cell?, this], by have := q1.2.2; simp [World.cell?, this], q2.cell⟩
  have HJ0 : Hid (J [] W) := h0
  have HJ : Hid (∀ s A B, J s A → Below A.heap.size A B → J s B) := fun s A B h hb => hJ s A B none h (below_grown hb) (fun r e => by cases e)
  have HY : Hid (∀ pre x W1, J pre W1 → pre.length < (clip l f t).length → YieldAt Fence.wide (n - 1) Try.prog lp (aenc x) W1 fun e W' => (e = .returned (.bool true) ∧ J (pre ++ [x]) W' ∧ Kt w0.heap.size X W1 W') ∨ (e = .returned (.bool false) ∧ Jx (pre ++ [x]) W')) := hY
  have HKW : Hid (Kt w0.heap.size X w0 W) := KW
  have HCL : Hid (cl.map (·.1) = clip l f t) := hcl
  have HEL : Hid (∀ k, k < bU l t - fE l f → ∀ y : Al, cl[k]? = some y → y.1 = (max (atS l (fE l f + k)).1 f, min (atS l (fE l f + k)).2 t)) := hel
  have HLN : Hid (cl.length = bU l t - fE l f) := by unfold Hid; rw [hcll, hlen]
  have HLC : Hid ((clip l f t).length = bU l t - fE l f) := hlen
  have HVA : Hid (Value.slice a l.length c = .slice none 0 0 ∨ ∃ bb off m c', Value.slice a l.length c = .slice (some ⟨bb, off, none⟩) m c') := hva
  obtain ⟨k0, k1, k2, k3⟩ := FK.out W (Below.refl _ _)
  have HDR : Hid (∀ s, J s W → J s W) := fun s h => h
  clear hva hY hJ hJx h0 hcl hcll hlen hel hc hs hv hcn hft x0 x1 x2 x3 hXr hW KW HDR
  generalize fE l f = E at *
  generalize bU l t = U at *
  obtain ⟨nl, hnl⟩ : ∃ nl, nl = l.length := ⟨_, rfl⟩
  have HNL : Hid (nl = l.length) := hnl
  rw [← hnl] at hbl h2 hl FK k3 FF HVA
  clear hnl
  have y1 : (E : Int) ≤ (U : Int) := by omega
  have y2 : (U : Int) ≤ (c : Int) := by omega
  have y3 : c ≤ 9223372036854775807 := by unfold maxLen at h3; omega
  have y4 : (0 : Int) ≤ (E : Int) := by omega
  go_enter Try.func64, Try.ntmps64
  go_upto_region 1 with fail
  go_cut [19, 20, 21] (fun s19 s20 s21 wx => ∃ a' c', s19 = .slice a' (U - E) c' ∧ s20 = .int .i64 ((U - E : Nat) : Int) ∧ s21 = .int .i64 0 ∧ (0 < U - E → ∃ bb off, a = some ⟨bb, off, none⟩ ∧ a' = some ⟨bb, off + E * 2, none⟩) ∧ From W wx)
  case first =>
    by_cases hce : c = E
    · obtain rfl : U = E := by omega
      subst hce
      have y5 : nl = c := by omega
      subst y5
      refine wp_region_held_drew (S := From W) (by kernel_rfl) (Below.drew (Below.refl _ _)) (fun _ => ?_)
      refine wpAnyH_name (fun u0 hu0 => ?_)
      have bu0 : Below W.heap.size W u0 := by rw [hu0.out]; exact Below.drew (Below.refl _ _)
      refine wpAnyH_take (i := 0) (oi := { dst := some 9, op := Op.load 88 (Operand.tmp 1), type := 88, pos := "ranges.go:201", after := #[], guard := none }) (v := .pointer (some ⟨g, 0, none⟩)) rfl (by kernel_rfl) (by kernel_rfl) (by kernel_rfl) (fun _ _ _ h => h) (Or.inl ⟨by rfl, ?yp1⟩) bu0 ?rp1
      case yp1 => (intro w hSw; obtain ⟨t0, -, -, -⟩ := FK.out w hSw; go_simp; try with_reducible rfl)
      try simp only [Act.put, List.setIfInBounds_toArray, List.set_cons_zero, List.set_cons_succ]
      refine wpAnyH_take (i := 1) (oi := { dst := some 10, op := Op.nilCheck (Operand.tmp 9), type := 0, pos := "ranges.go:201", after := #[{ on := 0, ground := Ground.data }], guard := none }) (v := ?vp2) rfl (by kernel_rfl) (by kernel_rfl) (by kernel_rfl) (fun _ _ _ h => h) (Or.inl ⟨by rfl, ?yp2⟩) bu0 ?rp2
      case yp2 => (intro w hSw; go_simp; try with_reducible rfl)
      try simp only [Act.put, List.setIfInBounds_toArray, List.set_cons_zero, List.set_cons_succ]
      refine wpAnyH_take (i := 2) (oi := { dst := some 11, op := Op.fieldAddr 98 (Operand.tmp 10) 0, type := 0, pos := "ranges.go:201", after := #[{ on := 1, ground := Ground.data }], guard := none }) (v := ?vp3) rfl (by kernel_rfl) (by kernel_rfl) (by kernel_rfl) (fun _ _ _ h => h) (Or.inl ⟨by rfl, ?yp3⟩) bu0 ?rp3
      case yp3 => (intro w hSw; go_simp; try with_reducible rfl)
      try simp only [Act.put, List.setIfInBounds_toArray, List.set_cons_zero, List.set_cons_succ]
      refine wpAnyH_take (i := 3) (oi := { dst := some 12, op := Op.load 35 (Operand.tmp 11), type := 35, pos := "ranges.go:201", after := #[{ on := 2, ground := Ground.data }], guard := none }) (v := .slice a nl nl) rfl (by kernel_rfl) (by kernel_rfl) (by kernel_rfl) (fun _ _ _ h => h) (Or.inl ⟨by rfl, ?yp4⟩) bu0 ?rp4
      case yp4 => (intro w hSw; obtain ⟨-, -, -, t3⟩ := FK.out w hSw; go_simp; try with_reducible rfl)
      try simp only [Act.put, List.setIfInBounds_toArray, List.set_cons_zero, List.set_cons_succ]
      refine wpAnyH_take (i := 4) (oi := { dst := some 13, op := Op.load 88 (Operand.tmp 1), type := 88, pos := "ranges.go:201", after := #[], guard := none }) (v := .pointer (some ⟨g, 0, none⟩)) rfl (by kernel_rfl) (by kernel_rfl) (by kernel_rfl) (fun _ _ _ h => h) (Or.inl ⟨by rfl, ?yp5⟩) bu0 ?rp5
      case yp5 => (intro w hSw; obtain ⟨t0, -, -, -⟩ := FK.out w hSw; go_simp; try with_reducible rfl)
      try simp only [Act.put, List.setIfInBounds_toArray, List.set_cons_zero, List.set_cons_succ]
      refine wpAnyH_take (i := 5) (oi := { dst := some 14, op := Op.load 3 (Operand.tmp 2), type := 3, pos := "ranges.go:201", after := #[], guard := none }) (v := .int .i64 f) rfl (by kernel_rfl) (by kernel_rfl) (by kernel_rfl) (fun _ _ _ h => h) (Or.inl ⟨by rfl, ?yp6⟩) bu0 ?rp6
      case yp6 => (intro w hSw; obtain ⟨-, t1, -, -⟩ := FK.out w hSw; go_simp; try with_reducible rfl)
      try simp only [Act.put, List.setIfInBounds_toArray, List.set_cons_zero, List.set_cons_succ]
      refine wpAnyH_take (i := 7) (oi := { dst := some 16, op := Op.load 88 (Operand.tmp 1), type := 88, pos := "ranges.go:201", after := #[], guard := none }) (v := .pointer (some ⟨g, 0, none⟩)) rfl (by kernel_rfl) (by kernel_rfl) (by kernel_rfl) (fun _ _ _ h => h) (Or.inl ⟨by rfl, ?yp7⟩) bu0 ?rp7
      case yp7 => (intro w hSw; obtain ⟨t0, -, -, -⟩ := FK.out w hSw; go_simp; try with_reducible rfl)
      try simp only [Act.put, List.setIfInBounds_toArray, List.set_cons_zero, List.set_cons_succ]
      refine wpAnyH_take (i := 8) (oi := { dst := some 17, op := Op.load 3 (Operand.tmp 3), type := 3, pos := "ranges.go:201", after := #[], guard := none }) (v := .int .i64 t) rfl (by kernel_rfl) (by kernel_rfl) (by kernel_rfl) (fun _ _ _ h => h) (Or.inl ⟨by rfl, ?yp8⟩) bu0 ?rp8
      case yp8 => (intro w hSw; obtain ⟨-, -, t2, -⟩ := FK.out w hSw; go_simp; try with_reducible rfl)
      try simp only [Act.put, List.setIfInBounds_toArray, List.set_cons_zero, List.set_cons_succ]
      refine wpAnyH_take (i := 12) (oi := { dst := some 21, op := Op.move (Operand.const (Value.int IntKind.i64 0)), type := 3, pos := "ranges.go:201", after := #[], guard := none }) (v := ?vp9) rfl (by kernel_rfl) (by kernel_rfl) (by kernel_rfl) (fun _ _ _ h => h) (Or.inl ⟨by rfl, ?yp9⟩) bu0 ?rp9
      case yp9 => (intro w hSw; go_simp; try with_reducible rfl)
      try simp only [Act.put, List.setIfInBounds_toArray, List.set_cons_zero, List.set_cons_succ]
      refine wpAnyH_ready (rs := [6]) (by kernel_rfl) (by simp) ?_
      refine AllReadyH.cons (o := { dst := some 15, op := Op.call { callee := Callee.value (Operand.func 60), args := #[Operand.tmp 13, Operand.tmp 14], argTypes := #[88, 3] }, type := 3, pos := "ranges.go:201", after := #[{ on := 4, ground := Ground.data }, { on := 5, ground := Ground.data }], guard := none }) rfl (fun KK hKK => ?_) ?_
      · go_simp
        refine (CE.out _ bu0).mono ?_
        rintro e u10' ⟨rfl, bu10'⟩
        (try go_wp2_with fail)
        refine hKK.out _ _ (bu0.trans (Below.mono (bu10') bu0.size)) (fun _ => ?_)
        clear hKK KK
        try simp only [Act.put, List.setIfInBounds_toArray, List.set_cons_zero, List.set_cons_succ]
        refine wpAnyH_name (fun u10 hu10 => ?_)
        have bu10 : Below W.heap.size W u10 := by rw [hu10.out]; exact (bu0.trans (Below.mono (bu10') bu0.size))
        refine wpAnyH_ready (rs := [9]) (by kernel_rfl) (by simp) ?_
        refine AllReadyH.cons (o := { dst := some 18, op := Op.call { callee := Callee.value (Operand.func 61), args := #[Operand.tmp 16, Operand.tmp 17], argTypes := #[88, 3] }, type := 3, pos := "ranges.go:201", after := #[{ on := 7, ground := Ground.data }, { on := 8, ground := Ground.data }, { on := 6, ground := Ground.chain }], guard := none }) rfl (fun KK hKK => ?_) ?_
        · go_simp
          refine (CB.out _ bu10).mono ?_
          rintro e u11' ⟨rfl, bu11'⟩
          (try go_wp2_with fail)
          refine hKK.out _ _ (bu10.trans (Below.mono (bu11') bu10.size)) (fun _ => ?_)
          clear hKK KK
          try simp only [Act.put, List.setIfInBounds_toArray, List.set_cons_zero, List.set_cons_succ]
          refine wpAnyH_name (fun u11 hu11 => ?_)
          have bu11 : Below W.heap.size W u11 := by rw [hu11.out]; exact (bu10.trans (Below.mono (bu11') bu10.size))
          refine wpAnyH_take (i := 10) (oi := { dst := some 19, op := Op.slice 35 (Operand.tmp 12) (some (Operand.tmp 15)) (some (Operand.tmp 18)) none, type := 35, pos := "ranges.go:201", after := #[{ on := 3, ground := Ground.data }, { on := 6, ground := Ground.data }, { on := 9, ground := Ground.data }], guard := none }) (v := .slice a 0 0) rfl (by kernel_rfl) (by kernel_rfl) (by kernel_rfl) (fun _ _ _ h => h) (Or.inl ⟨by rfl, ?yp12⟩) bu11 ?rp12
          case yp12 => (intro w hSw; go_simp; try with_reducible rfl)
          try simp only [Act.put, List.setIfInBounds_toArray, List.set_cons_zero, List.set_cons_succ]
          refine wpAnyH_take (i := 11) (oi := { dst := some 20, op := Op.call { callee := Callee.builtin Builtin.len, args := #[Operand.tmp 19], argTypes := #[35] }, type := 3, pos := "ranges.go:201", after := #[{ on := 10, ground := Ground.data }], guard := none }) (v := ?vp13) rfl (by kernel_rfl) (by kernel_rfl) (by kernel_rfl) (fun _ _ _ h => h) (Or.inl ⟨by rfl, ?yp13⟩) bu11 ?rp13
          case yp13 => (intro w hSw; go_simp; try with_reducible rfl)
          try simp only [Act.put, List.setIfInBounds_toArray, List.set_cons_zero, List.set_cons_succ]
          refine wpAnyH_done (by kernel_rfl) ?_ _
          have HZ : Hid (From W u11) := bu11
          clear FK CE CB
          go_wp2_with fail
          go_meet
          exact ⟨a, 0, by rw [Nat.sub_self], by rw [Nat.sub_self]; rfl, rfl, fun h => by omega, HZ.out⟩
        exact AllReadyH.nil
      exact AllReadyH.nil
    · obtain ⟨bb, off, rfl⟩ : ∃ bb off, a = some ⟨bb, off, none⟩ := by
        cases a with
        | none => have := h4 rfl; omega
        | some x =>
          rcases HVA.out with e | ⟨bb, off, m', c', e⟩
          · cases e
          · cases e
            exact ⟨bb, off, rfl⟩
      refine wp_region_held_drew (S := From W) (by kernel_rfl) (Below.drew (Below.refl _ _)) (fun _ => ?_)
      refine wpAnyH_name (fun u0 hu0 => ?_)
      have bu0 : Below W.heap.size W u0 := by rw [hu0.out]; exact Below.drew (Below.refl _ _)
      refine wpAnyH_take (i := 0) (oi := { dst := some 9, op := Op.load 88 (Operand.tmp 1), type := 88, pos := "ranges.go:201", after := #[], guard := none }) (v := .pointer (some ⟨g, 0, none⟩)) rfl (by kernel_rfl) (by kernel_rfl) (by kernel_rfl) (fun _ _ _ h => h) (Or.inl ⟨by rfl, ?yq1⟩) bu0 ?rq1
      case yq1 => (intro w hSw; obtain ⟨t0, -, -, -⟩ := FK.out w hSw; go_simp; try with_reducible rfl)
      try simp only [Act.put, List.setIfInBounds_toArray, List.set_cons_zero, List.set_cons_succ]
      refine wpAnyH_take (i := 1) (oi := { dst := some 10, op := Op.nilCheck (Operand.tmp 9), type := 0, pos := "ranges.go:201", after := #[{ on := 0, ground := Ground.data }], guard := none }) (v := ?vq2) rfl (by kernel_rfl) (by kernel_rfl) (by kernel_rfl) (fun _ _ _ h => h) (Or.inl ⟨by rfl, ?yq2⟩) bu0 ?rq2
      case yq2 => (intro w hSw; go_simp; try with_reducible rfl)
      try simp only [Act.put, List.setIfInBounds_toArray, List.set_cons_zero, List.set_cons_succ]
      refine wpAnyH_take (i := 2) (oi := { dst := some 11, op := Op.fieldAddr 98 (Operand.tmp 10) 0, type := 0, pos := "ranges.go:201", after := #[{ on := 1, ground := Ground.data }], guard := none }) (v := ?vq3) rfl (by kernel_rfl) (by kernel_rfl) (by kernel_rfl) (fun _ _ _ h => h) (Or.inl ⟨by rfl, ?yq3⟩) bu0 ?rq3
      case yq3 => (intro w hSw; go_simp; try with_reducible rfl)
      try simp only [Act.put, List.setIfInBounds_toArray, List.set_cons_zero, List.set_cons_succ]
      refine wpAnyH_take (i := 3) (oi := { dst := some 12, op := Op.load 35 (Operand.tmp 11), type := 35, pos := "ranges.go:201", after := #[{ on := 2, ground := Ground.data }], guard := none }) (v := .slice (some ⟨bb, off, none⟩) nl c) rfl (by kernel_rfl) (by kernel_rfl) (by kernel_rfl) (fun _ _ _ h => h) (Or.inl ⟨by rfl, ?yq4⟩) bu0 ?rq4
      case yq4 => (intro w hSw; obtain ⟨-, -, -, t3⟩ := FK.out w hSw; go_simp; try with_reducible rfl)
      try simp only [Act.put, List.setIfInBounds_toArray, List.set_cons_zero, List.set_cons_succ]
      refine wpAnyH_take (i := 4) (oi := { dst := some 13, op := Op.load 88 (Operand.tmp 1), type := 88, pos := "ranges.go:201", after := #[], guard := none }) (v := .pointer (some ⟨g, 0, none⟩)) rfl (by kernel_rfl) (by kernel_rfl) (by kernel_rfl) (fun _ _ _ h => h) (Or.inl ⟨by rfl, ?yq5⟩) bu0 ?rq5
      case yq5 => (intro w hSw; obtain ⟨t0, -, -, -⟩ := FK.out w hSw; go_simp; try with_reducible rfl)
      try simp only [Act.put, List.setIfInBounds_toArray, List.set_cons_zero, List.set_cons_succ]
      refine wpAnyH_take (i := 5) (oi := { dst := some 14, op := Op.load 3 (Operand.tmp 2), type := 3, pos := "ranges.go:201", after := #[], guard := none }) (v := .int .i64 f) rfl (by kernel_rfl) (by kernel_rfl) (by kernel_rfl) (fun _ _ _ h => h) (Or.inl ⟨by rfl, ?yq6⟩) bu0 ?rq6
      case yq6 => (intro w hSw; obtain ⟨-, t1, -, -⟩ := FK.out w hSw; go_simp; try with_reducible rfl)
      try simp only [Act.put, List.setIfInBounds_toArray, List.set_cons_zero, List.set_cons_succ]
      refine wpAnyH_take (i := 7) (oi := { dst := some 16, op := Op.load 88 (Operand.tmp 1), type := 88, pos := "ranges.go:201", after := #[], guard := none }) (v := .pointer (some ⟨g, 0, none⟩)) rfl (by kernel_rfl) (by kernel_rfl) (by kernel_rfl) (fun _ _ _ h => h) (Or.inl ⟨by rfl, ?yq7⟩) bu0 ?rq7
      case yq7 => (intro w hSw; obtain ⟨t0, -, -, -⟩ := FK.out w hSw; go_simp; try with_reducible rfl)
      try simp only [Act.put, List.setIfInBounds_toArray, List.set_cons_zero, List.set_cons_succ]
      refine wpAnyH_take (i := 8) (oi := { dst := some 17, op := Op.load 3 (Operand.tmp 3), type := 3, pos := "ranges.go:201", after := #[], guard := none }) (v := .int .i64 t) rfl (by kernel_rfl) (by kernel_rfl) (by kernel_rfl) (fun _ _ _ h => h) (Or.inl ⟨by rfl, ?yq8⟩) bu0 ?rq8
      case yq8 => (intro w hSw; obtain ⟨-, -, t2, -⟩ := FK.out w hSw; go_simp; try with_reducible rfl)
      try simp only [Act.put, List.setIfInBounds_toArray, List.set_cons_zero, List.set_cons_succ]
      refine wpAnyH_take (i := 12) (oi := { dst := some 21, op := Op.move (Operand.const (Value.int IntKind.i64 0)), type := 3, pos := "ranges.go:201", after := #[], guard := none }) (v := ?vq9) rfl (by kernel_rfl) (by kernel_rfl) (by kernel_rfl) (fun _ _ _ h => h) (Or.inl ⟨by rfl, ?yq9⟩) bu0 ?rq9
      case yq9 => (intro w hSw; go_simp; try with_reducible rfl)
      try simp only [Act.put, List.setIfInBounds_toArray, List.set_cons_zero, List.set_cons_succ]
      refine wpAnyH_ready (rs := [6]) (by kernel_rfl) (by simp) ?_
      refine AllReadyH.cons (o := { dst := some 15, op := Op.call { callee := Callee.value (Operand.func 60), args := #[Operand.tmp 13, Operand.tmp 14], argTypes := #[88, 3] }, type := 3, pos := "ranges.go:201", after := #[{ on := 4, ground := Ground.data }, { on := 5, ground := Ground.data }], guard := none }) rfl (fun KK hKK => ?_) ?_
      · go_simp
        refine (CE.out _ bu0).mono ?_
        rintro e u10' ⟨rfl, bu10'⟩
        (try go_wp2_with fail)
        refine hKK.out _ _ (bu0.trans (Below.mono (bu10') bu0.size)) (fun _ => ?_)
        clear hKK KK
        try simp only [Act.put, List.setIfInBounds_toArray, List.set_cons_zero, List.set_cons_succ]
        refine wpAnyH_name (fun u10 hu10 => ?_)
        have bu10 : Below W.heap.size W u10 := by rw [hu10.out]; exact (bu0.trans (Below.mono (bu10') bu0.size))
        refine wpAnyH_ready (rs := [9]) (by kernel_rfl) (by simp) ?_
        refine AllReadyH.cons (o := { dst := some 18, op := Op.call { callee := Callee.value (Operand.func 61), args := #[Operand.tmp 16, Operand.tmp 17], argTypes := #[88, 3] }, type := 3, pos := "ranges.go:201", after := #[{ on := 7, ground := Ground.data }, { on := 8, ground := Ground.data }, { on := 6, ground := Ground.chain }], guard := none }) rfl (fun KK hKK => ?_) ?_
        · go_simp
          refine (CB.out _ bu10).mono ?_
          rintro e u11' ⟨rfl, bu11'⟩
          (try go_wp2_with fail)
          refine hKK.out _ _ (bu10.trans (Below.mono (bu11') bu10.size)) (fun _ => ?_)
          clear hKK KK
          try simp only [Act.put, List.setIfInBounds_toArray, List.set_cons_zero, List.set_cons_succ]
          refine wpAnyH_name (fun u11 hu11 => ?_)
          have bu11 : Below W.heap.size W u11 := by rw [hu11.out]; exact (bu10.trans (Below.mono (bu11') bu10.size))
          refine wpAnyH_take (i := 10) (oi := { dst := some 19, op := Op.slice 35 (Operand.tmp 12) (some (Operand.tmp 15)) (some (Operand.tmp 18)) none, type := 35, pos := "ranges.go:201", after := #[{ on := 3, ground := Ground.data }, { on := 6, ground := Ground.data }, { on := 9, ground := Ground.data }], guard := none }) (v := .slice (some ⟨bb, off + E * 2, none⟩) (U - E) (c - E)) rfl (by kernel_rfl) (by kernel_rfl) (by kernel_rfl) (fun _ _ _ h => h) (Or.inl ⟨by rfl, ?yq12⟩) bu11 ?rq12
          case yq12 => (intro w hSw; go_simp; try with_reducible rfl)
          try simp only [Act.put, List.setIfInBounds_toArray, List.set_cons_zero, List.set_cons_succ]
          refine wpAnyH_take (i := 11) (oi := { dst := some 20, op := Op.call { callee := Callee.builtin Builtin.len, args := #[Operand.tmp 19], argTypes := #[35] }, type := 3, pos := "ranges.go:201", after := #[{ on := 10, ground := Ground.data }], guard := none }) (v := ?vq13) rfl (by kernel_rfl) (by kernel_rfl) (by kernel_rfl) (fun _ _ _ h => h) (Or.inl ⟨by rfl, ?yq13⟩) bu11 ?rq13
          case yq13 => (intro w hSw; go_simp; try with_reducible rfl)
          try simp only [Act.put, List.setIfInBounds_toArray, List.set_cons_zero, List.set_cons_succ]
          refine wpAnyH_done (by kernel_rfl) ?_ _
          have HZ : Hid (From W u11) := bu11
          clear FK CE CB
          go_wp2_with fail
          go_meet
          exact ⟨_, _, rfl, rfl, rfl, fun _ => ⟨bb, off, rfl, rfl⟩, HZ.out⟩
        exact AllReadyH.nil
      exact AllReadyH.nil
  case rest =>
    obtain ⟨a', c', rfl, rfl, rfl, hsl, hf⟩ := hcut
    have HSL : Hid (0 < U - E → ∃ bb off, a = some ⟨bb, off, none⟩ ∧ a' = some ⟨bb, off + E * 2, none⟩) := hsl
    have HJW : Hid (J [] wc) := HJ.out [] W wc HJ0.out hf
    have HKC : Hid (Kt w0.heap.size X w0 wc) := HKW.out.trans (Kt.from hf)
    clear hsl hf FK CE CB HKW HJ0 k0 k1 k2 k3 HVA
    obtain ⟨N, hN⟩ : ∃ N, N = U - E := ⟨_, rfl⟩
    rw [← hN] at HSL HEL HLN HLC ⊢
    have hUE : E + N ≤ nl := by omega
    have hN5 : N ≤ 100000 := by omega
    clear hN hle hbl y1 y2
    go_wp2_with fail
    refine (wpIn_wide (n := n)).1 ?_
    gi_loopw [21] (fun i wr => ∃ k : Nat, k ≤ N ∧ i = .int .i64 k ∧ J (cl.take k) wr ∧ Kt w0.heap.size X w0 wr) (fun i _ => N - (intOf i).toNat)
    case atStart => exact ⟨0, Nat.zero_le _, rfl, by rw [List.take_zero]; exact HJW.out, HKC.out⟩
    case round =>
      obtain ⟨k, hk, rfl, hJs, hKs⟩ := hrel
      have HJS : Hid (J (cl.take k) wr) := hJs
      have HKS : Hid (Kt w0.heap.size X w0 wr) := hKs
      clear hJs hKs HJW HKC
      by_cases hlt : k < N
      · have lt2 : (k : Int) < (N : Int) := by omega
        obtain ⟨bb, off, rfl, rfl⟩ := HSL.out (by omega)
        obtain ⟨q1, q2, q3⟩ := FF.out wr HKS.out
        have q3' : SSp wr (.slice (some ⟨bb, off, none⟩) nl c) l := q3
        obtain ⟨bb', off', e', hr⟩ := q3'.at (E + k) (by rw [← HNL.out]; omega)
        cases e'
        obtain ⟨r0, r1⟩ := spC hr
        rw [show off + (E + k) * 2 = off + E * 2 + k * 2 by omega] at r0 r1
        have d1 : wr.cell? ⟨b + 1, 0, none⟩ = some (.int .i64 f) := by have := q1.2.1; simp [World.cell?, this]
        have d2 : wr.cell? ⟨b + 2, 0, none⟩ = some (.int .i64 t) := by have := q1.2.2; simp [World.cell?, this]
        have hkc : k < cl.length := by rw [HLN.out]; exact hlt
        obtain ⟨y, hy⟩ : ∃ y : Al, cl[k]? = some y := ⟨cl[k], List.getElem?_eq_getElem hkc⟩
        have ye := HEL.out k hlt y hy
        have htk : cl.take (k + 1) = cl.take k ++ [y] := by rw [List.take_add_one, hy]; rfl
        have HTK : Hid (cl.take (k + 1) = cl.take k ++ [y]) := htk
        obtain ⟨x, hx⟩ : ∃ x, x = atS l (E + k) := ⟨_, rfl⟩
        rw [← hx] at ye r0 r1
        have HB3 : Hid (Below wr.heap.size wr (wr.alloc (.cells #[.int .i64 x.1, .int .i64 x.2] 45))) := al_below _ _
        have e1 : (wr.alloc (.cells #[.int .i64 x.1, .int .i64 x.2] 45)).cell? ⟨b + 1, 0, none⟩ = some (.int .i64 f) := (HB3.out.cell (World.block_lt_of_cell? _ _ d1)).trans d1
        have e2 : (wr.alloc (.cells #[.int .i64 x.1, .int .i64 x.2] 45)).cell? ⟨b + 2, 0, none⟩ = some (.int .i64 t) := (HB3.out.cell (World.block_lt_of_cell? _ _ d2)).trans d2
        have HJ3 := HJ.out _ _ _ HJS.out HB3.out
        have HK3 : Hid (Kt w0.heap.size X w0 (wr.alloc (.cells #[.int .i64 x.1, .int .i64 x.2] 45))) := HKS.out.trans (Kt.from HB3.out)
        obtain ⟨fn, tmps, assign, body, hyy, hR⟩ := HY.out (cl.take k) y _ HJ3 (by rw [HLC.out, List.length_take]; omega)
        dsimp only [aenc] at hyy
        rw [ye] at hyy
        have HR : Hid (RoundIn Fence.wide (n - 1) Try.prog lp fn tmps assign body (wr.alloc (.cells #[.int .i64 x.1, .int .i64 x.2] 45)) _) := hR
        clear hR ye hy htk hx hr q1 q2 q3 q3' hkc HJ3 HB3
        gi_wp2
        refine HR.out.mono ?_
        rintro e W4 (⟨rfl, hJ4, hk4⟩ | ⟨rfl, hJx4⟩)
        · have HJ4 : Hid (J (cl.take (k + 1)) W4) := by unfold Hid; rw [HTK.out]; exact hJ4
          have HK4 : Hid (Kt w0.heap.size X w0 W4) := HK3.out.trans hk4
          clear hJ4 hk4 hyy
          gi_wp2
          go_roundw
          case rel => exact ⟨k + 1, by omega, by go_num, HJ4.out, HK4.out⟩
          case measure => simp [intOf]; omega
        · have HX4 : Hid (Jx (cl.take k ++ [y]) W4) := hJx4
          clear hJx4 hyy
          gi_wp2
          refine bodyPost_ret (results_none rfl _ _ _) rfl ?_
          exact ⟨⟨_, rfl⟩, .inr ⟨_, trivial, HX4.out⟩⟩
      · obtain rfl : k = N := by omega
        have HJE : Hid (J cl wr) := by unfold Hid; have := HJS.out; rwa [List.take_of_length_le (by rw [HLN.out]; exact Nat.le_refl _)] at this
        clear HJS
        gi_wp2
        go_end0
        exact ⟨⟨_, rfl⟩, .inl ⟨cl, HCL.out, HJE.out⟩⟩
end Go.Proofs.Ytamjbmbflllbfaa
