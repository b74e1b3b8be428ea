/-
  What lay lays; what Put answers.
  Frames in a row of the call's own; how much Get uses.
-/
import Derived.Deep.WholeRow
import Derived.Test.YtiollhmbdhepkaaGreatDoorYbe
import Derived.Test.YtiollhmbdhepkaaGreatDoorYbd
import Derived.Test.YtiollhmbdhepkaaGreatDoorYbf
import Derived.Test.YtiollhmbdhepkaaGreatDoorYax
import Derived.Lib.BufferWrite
import Derived.Defers
import Derived.Recover
import Derived.Deep.RegionWith
import Derived.Stop.IfaceNil
import Derived.WideLaws
import Derived.Test.YtiollhmbdhepkaaGreatDoorYba
import Derived.Test.YtiollhmbdhepkaaGreatDoorYbc
namespace Go.Proofs.YtiollhmbdhepkaaGreatDoor
open Go.RowKit Go.Shelf
set_option maxRecDepth 100000

theorem alloc_pl {w : World} {n : Nat} (p : Fm) (sv : Value) (t : TypeId) (old : Array Value) (hn : n = w.heap.size) : (w.alloc (.cells old t)).setRow n (plA p sv) = w.alloc (.cells (plA p sv) t) := by subst hn; exact World.setRow_alloc_new _ _ _ _
/-- What Put lays. -/
def putR (p : Fm) : List Int := if chkM p = 0 then putM p else []
/-- What is handed to Put. -/
structure FP (w : World) (p : Fm) (sv : Value) : Prop where
  k : FK p
  kk : isK p.k = true
  nb : ¬ badF p
  s : hS p.k = true → SSp w sv p.sp
  l : p.sp.length ≤ 100000
  t : p.tx.size ≤ 140737488355328
end Go.Proofs.YtiollhmbdhepkaaGreatDoor
namespace Go.Proofs.YtiollhmbdhepkaaGreatDoor
open Go.RowKit Go.Shelf
set_option maxRecDepth 100000

theorem getP_le (xs : List Int) : (getP xs).2.1 ≤ xs.length := by
  unfold getP
  simp only
  have h2 : (xs.take 1032).length ≤ xs.length := by rw [List.length_take]; omega
  split
  · simp only; omega
  · split <;> simp <;> omega
theorem ahM_used (ys : List Int) (h : BB ys) (he : (ahM ys).2.2 = 0) : 1 ≤ (ahM ys).2.1 ∧ (ahM ys).2.1 ≤ ys.length := by
  cases ys with
  | nil => rw [ahM_nil] at he; cases he
  | cons k l =>
    by_cases hk : isK k = true
    · obtain ⟨q1, q2, _⟩ := ahR_rl k l 0 (h.drop 1)
      have hu := getP_used (ahR k l 0).2.1
      have hv := getP_le (ahR k l 0).2.1
      rw [ahM_cons k l hk] at he ⊢
      split at he
      · rename_i h1
        rw [if_pos h1]
        exfalso
        unfold errM fltE at he
        simp only at he
        split at he
        · omega
        · exact h1 he
      · rename_i h1
        rw [if_neg h1]
        split at he
        · rename_i h2
          rw [if_pos h2]
          split at he
          · rename_i h3
            exact absurd he h3
          · rename_i h3
            rw [if_neg h3]
            simp only [List.length_cons]
            omega
        · rename_i h2
          rw [if_neg h2]
          simp only [List.length_cons]
          omega
    · rw [ahM_bad k l (by simpa using hk)] at he
      cases he
theorem getM_used (xs : List Int) (h : BB xs) (he : (getM xs).2.2 = 0) : 1 ≤ (getM xs).2.1 ∧ (getM xs).2.1 ≤ xs.length := by
  unfold getM at he ⊢
  simp only at he ⊢
  split at he
  · rename_i h1
    exact absurd he h1
  · rename_i h1
    rw [if_neg h1]
    have h0 : (ahM (xs.take 1150)).2.2 = 0 := Classical.not_not.1 h1
    obtain ⟨q1, q2⟩ := ahM_used _ (h.take 1150) h0
    rw [List.length_take] at q2
    unfold endM at he ⊢
    split at he
    · rename_i h2
      rw [if_pos h2]
      simp only
      omega
    · rename_i h2
      exact absurd he h2
theorem getM_okk (xs : List Int) (he : (getM xs).2.2 = 0) : chkM (getM xs).1 = 0 := by
  unfold getM at he ⊢
  simp only at he ⊢
  split at he
  · rename_i h1
    exact absurd he h1
  · rename_i h1
    rw [if_neg h1]
    unfold endM at he ⊢
    split at he
    · rename_i h2
      rw [if_pos h2]
      exact h2
    · rename_i h2
      exact absurd he h2
theorem frV_iface {p : Fm} (h : isK p.k = true) (sv : Value) : ∃ t y, frV p sv = .iface t y := by
  have hk := h
  unfold isK at hk
  simp at hk
  unfold frV
  rcases (by omega : p.k = 1 ∨ p.k = 2 ∨ p.k = 3 ∨ p.k = 4 ∨ p.k = 5 ∨ p.k = 6 ∨ p.k = 7 ∨ p.k = 8 ∨ p.k = 9 ∨ p.k = 10) with e | e | e | e | e | e | e | e | e | e <;> (rw [e]; exact ⟨_, _, rfl⟩)
/-- Frames in a row of the call's own. -/
def RF (w : World) (B : Nat) (v : Value) (l : List Fm) : Prop :=
  ∃ V : List Value, w.ownsRow B 29 1 v l.length V ∧ ∀ i, i < l.length → ∃ sv, V[i]? = some (frV (l.getD i Fm.zero) sv) ∧ RSp w B sv (spO (l.getD i Fm.zero))
theorem RF.nil (w : World) (B : Nat) : RF w B (.slice none 0 0) [] := ⟨[], World.ownsRow_nil _ _ _ _, fun i hi => by simp at hi⟩
theorem RF.below {w w' : World} {B : Nat} {v : Value} {l : List Fm} (h : RF w B v l) (hb : Below w.heap.size w w') : RF w' B v l := by
  obtain ⟨V, h1, h2⟩ := h
  refine ⟨V, own_below h1 hb, fun i hi => ?_⟩
  obtain ⟨sv, h3, h4⟩ := h2 i hi
  exact ⟨sv, h3, h4.below hb⟩
theorem RF.shape {w : World} {B : Nat} {v : Value} {l : List Fm} (h : RF w B v l) : ∃ a c, v = .slice a l.length c := by
  obtain ⟨V, h1, _⟩ := h
  exact own_shape h1
theorem frV_one (p : Fm) (sv : Value) : (frV p sv).oneCell' = true := by
  unfold frV
  repeat (split; rfl)
  rfl
theorem infoFr : (Tryz.prog.info? 29).map (fun i => (i.zero, i.size, i.bytes)) = some (some .nilIface, 1, 16) := by kernel_rfl
theorem wpList_append_fr {w : World} {ops : Array Oper} {rest : List Oper} {o : Oper} {a : Act} {Q : Exit → Act → World → Prop} (hgd : o.guard = none) (s x : Operand)
    (ho : o.op = .call { callee := .builtin .append, args := #[s, x], argTypes := #[61, 61] })
    (B : Nat) (v : Value) (l : List Fm) (hs : a.eval s = v) (hown : RF w B v l) (g : Nat) (p : Fm) (sv : Value) (cap : Nat) (hX : RSp w B sv (spO p))
    (hx : a.eval x = .slice (some ⟨g, 0, none⟩) 1 cap) (hc : w.cell? ⟨g, 0, none⟩ = some (frV p sv)) (hbig : l.length ≤ 100000) (hbase : B ≤ w.heap.size)
    (h : ∀ v' w', RF w' B v' (l ++ [p]) → Below B w w' → wpList Tryz.prog ops Q rest (a.put o.dst v') w') : wpList Tryz.prog ops Q (o :: rest) a w := by
  obtain ⟨i0, hi, hz0, hz1, hz2⟩ := info_parts infoFr
  obtain ⟨V, hV, hall⟩ := hown
  refine wpList_append_own_wide w hgd s x 61 ho B 29 i0 .nilIface 1 16 Tryz.underlying61 hi hz0 hz1 hz2 rfl (by decide) v l.length V hs hV ⟨g, 0, none⟩ 1 cap [frV p sv] hx rfl ?_ ?_ (by unfold maxLen; omega) (by omega) hbase ?_
  · intro j z hj
    rw [Addr.add_lit]
    cases j with
    | zero => simp at hj; subst hj; exact hc
    | succ j => simp at hj
  · intro z hz
    simp at hz
    subst hz
    exact frV_one p sv
  · intro v' w' ho' hg _
    have ap : ∀ {y : Value} {Y : List Sp}, RSp w B y Y → RSp w' B y Y := fun {y Y} hy => hy.keep fun k cs hk hh => (hg.block k (blk_lt hh) (fun e => by
      rcases hV.2 with ⟨rfl, _⟩ | ⟨g', cap', cur, rfl, _, hh', _⟩
      · cases e
      · cases e
        rw [hh'] at hh
        cases hh)).trans hh
    have hVl : V.length = l.length := by have := hV.1; simpa using this
    refine h v' w' ⟨V ++ [frV p sv], by rw [List.length_append]; exact ho', fun i hi => ?_⟩ ((Below.refl B w).grown hg hbase (own_base hV))
    rw [List.length_append, List.length_singleton] at hi
    rcases Nat.lt_or_ge i l.length with h' | h'
    · obtain ⟨z, hz, oz⟩ := hall i h'
      have e : (l ++ [p]).getD i Fm.zero = l.getD i Fm.zero := by simp [List.getD, List.getElem?_append_left h']
      rw [e]
      exact ⟨z, by rw [List.getElem?_append_left (by omega)]; exact hz, ap oz⟩
    · obtain rfl : i = l.length := by omega
      have e : (l ++ [p]).getD l.length Fm.zero = p := by simp [List.getD]
      rw [e]
      exact ⟨sv, by rw [List.getElem?_append_right (by omega), hVl]; simp, ap hX⟩
end Go.Proofs.YtiollhmbdhepkaaGreatDoor
