/-
  'append' onto a slice without room: nothing that was there is changed.
-/
import Derived.Test.YtkblcabibnnmcaaDoorROp
import Derived.Test.YtkblcabibnnmcaaDoorLw
namespace Go.Proofs.YtkblcabibnnmcaaDoor
open Go.RowKit

/-- What 'append([]byte{}, Z...)' is: the empty slice itself, or a row of the call's own. -/
def Emp (w : World) (B : Nat) (v : Value) (Z : List Int) : Prop :=
  (Z = [] ∧ ∃ g, v = .slice (some ⟨g, 0, none⟩) 0 0 ∧ w.heap[g]? = some (.cells #[] 5 (0, 0))) ∨ w.ownsRow B 5 1 v Z.length (Z.map (Value.int .u8))
theorem Emp.sl {w : World} {B : Nat} {v : Value} {Z : List Int} (h : Emp w B v Z) (hb : Pl.Byt Z) : Sl w v Z := by
  rcases h with ⟨rfl, g, rfl, _⟩ | h
  · exact ⟨_, 0, rfl, Nat.le_refl _, by simp [maxLen], fun _ => rfl, .inl rfl⟩
  · exact sl_owned h hb
theorem wp_append_emp {w : World} {o : Oper} {a : Act} {KK : Act → World → Prop} {Q : Exit → Act → World → Prop} (s x : Operand)
    (ho : o.op = .call { callee := .builtin .append, args := #[s, x], argTypes := #[22, 22] })
    (g : Nat) (hs : a.eval s = .slice (some ⟨g, 0, none⟩) 0 0) (hg : w.heap[g]? = some (.cells #[] 5 (0, 0)))
    (src : Value) (Z : List Int) (hx : a.eval x = src) (hsl : Sl w src Z) (hbig : Z.length ≤ 200000000000000)
    (h : ∀ v' w', Emp w' w.heap.size v' Z → Below w.heap.size w w' → KK (a.put o.dst v') w') : o.wp Tryd.prog a w KK Q := by
  obtain ⟨i0, hi, hz0, hz1, hz2⟩ := info_parts info5'
  have own : w.ownsRow 0 5 1 (.slice (some ⟨g, 0, none⟩) 0 0) 0 [] := ⟨rfl, .inr ⟨g, 0, #[], rfl, Nat.zero_le _, hg, Nat.le_refl _, by simp [maxLen], rfl, rfl⟩⟩
  by_cases hZ : Z = []
  · subst hZ
    obtain ⟨ad, cap, rfl, h1, h2, h3, h4⟩ := hsl
    have fin : ∀ w', w'.heap[g]? = some (.cells #[] 5 (0, 0)) → Below w.heap.size w w' → KK (a.put o.dst (.slice (some ⟨g, 0, none⟩) 0 0)) w' := fun w' hg' hb => h _ w' (.inl ⟨rfl, g, rfl, hg'⟩) hb
    cases ad with
    | none =>
      obtain rfl := h3 rfl
      have hrun := run_append_owned_none (P := Tryd.prog) (w := w) 0 22 o.type 5 i0 1 Tryd.underlying22 hi _ 0 [] own
      have hx' : a.eval x = .slice none 0 0 := hx
      unfold Oper.wp
      simp [execOp, ho, resolve, invoke, builtin, hs, hx', hrun, Result.andThen]
      exact fin w hg (Below.refl _ _)
    | some y =>
      have hrun := run_append_room (P := Tryd.prog) w 22 o.type 5 i0 Tryd.underlying22 hi g 0 0 #[] hg y 0 cap [] (by simp) (fun j u hj => by simp at hj) (fun u hu => by simp at hu) (Nat.le_refl _) (by simp)
      have hx' : a.eval x = .slice (some y) 0 cap := hx
      unfold Oper.wp execOp
      simp only [ho, resolve, invoke, builtin, Sem.run_bind, Sem.run_pure, Result.andThen_ok, List.map_toArray, List.map_cons, List.map_nil, hs, hx', hrun]
      refine fin _ ?_ ⟨rfl, rfl, rfl, by simp, fun k hk => ?_⟩
      · simpa using setRow_heap w g #[] #[] 5 _ hg
      · by_cases hkg : k = g
        · subst hkg
          rw [hg]
          simpa using setRow_heap w k #[] #[] 5 _ hg
        · exact setRow_other w g k _ hkg
  · have hzl : 0 < Z.length := List.length_pos_iff.2 hZ
    obtain ⟨ad, cap, rfl, h1, h2, h3, h4⟩ := hsl
    cases ad with
    | none => have := h3 rfl; omega
    | some y =>
      have hr := run_append_grow (P := Tryd.prog) w 22 o.type 5 i0 (.int .u8 0) Tryd.underlying22 hi hz0 ⟨g, 0, none⟩ 0 0 [] (by simp) (fun j u hj => by simp at hj) y Z.length cap (Z.map (Value.int .u8)) (by rw [List.length_map, hz1, Nat.mul_one]) (news_row h4) (by omega) (by omega) (growslice_fits_wide (by omega) (by rw [hz2]; omega))
      have hge := grownCap_ge w (0 + Z.length) 0 5
      have hcm : grownCap w (0 + Z.length) 0 5 ≤ maxLen := grownCap_le_maxLen w (0 + Z.length) 0 5 (by unfold maxLen; omega)
      unfold Oper.wp execOp
      simp only [ho, resolve, invoke, builtin, Sem.run_bind, Sem.run_pure, Result.andThen_ok, List.map_toArray, List.map_cons, List.map_nil, hs, hx, hr]
      refine h _ _ (.inr ?_) ((Below.refl _ w).drew.alloc (Nat.le_refl _) _)
      refine ⟨by simp, .inr ⟨w.heap.size, _, _, by rw [Nat.zero_add], Nat.le_refl _, heap_alloc_new w.drew _, by rw [Nat.zero_add] at hge; rw [Nat.zero_add]; exact hge, hcm, ?_, ?_⟩⟩
      · simp only [Array.size_append, List.size_toArray, size_zeroCells, List.length_map, List.length_nil]
        show 0 + Z.length + (_ - _) * 1 = _
        omega
      · simp only [Array.toList_append, Nat.mul_one, List.nil_append]
        rw [List.take_left' (by simp)]
theorem wp_append_emp2 {w : World} {o : Oper} {a : Act} {KK : Act → World → Prop} {Q : Exit → Act → World → Prop} (s x : Operand)
    (ho : o.op = .call { callee := .builtin .append, args := #[s, x], argTypes := #[22, 22] })
    (B : Nat) (v : Value) (Y : List Int) (hs : a.eval s = v) (he : Emp w B v Y) (hB : B ≤ w.heap.size) (hY : Pl.Byt Y)
    (src : Value) (Z : List Int) (hx : a.eval x = src) (hsl : Sl w src Z) (hbig : Y.length + Z.length ≤ 200000000000000)
    (h : ∀ v' w', Sl w' v' (Y ++ Z) → Below B w w' → KK (a.put o.dst v') w') : o.wp Tryd.prog a w KK Q := by
  have hzb := hsl.bytes
  rcases he with ⟨rfl, g, rfl, hg⟩ | own
  · refine wp_append_emp s x ho g hs hg src Z hx hsl (by omega) (fun v' w' e b => h v' w' ?_ (b.mono hB))
    rw [List.nil_append]
    exact e.sl hzb
  · refine wp_append_sl s x ho B v Y.length _ hs own src Z hx hsl hbig hB (fun v' w' own' hg => h v' w' ?_ ?_)
    · rw [← List.map_append, ← List.length_append] at own'
      exact sl_owned own' (byt_app hY hzb)
    · exact (Below.refl B w).grown hg hB (own_base own)
end Go.Proofs.YtkblcabibnnmcaaDoor
