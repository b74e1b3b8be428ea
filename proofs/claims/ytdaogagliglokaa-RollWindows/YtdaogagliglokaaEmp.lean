/-
  'append' onto an empty slice without room, and onto what came of it.
-/
import Derived.Test.YtdaogagliglokaaOrd
namespace Go.Proofs.Ytdaogagliglokaa
open Go.RowKit

theorem wp_append_sl {w : World} {o : Oper} {a : Act} {KK : Act → World → Prop} {Q : Exit → Act → World → Prop} (s x : Operand)
    (ho : o.op = .call { callee := .builtin .append, args := #[s, x], argTypes := #[22, 22] })
    (base : Nat) (v : Value) (n : Nat) (xs : List Value) (hs : a.eval s = v) (hown : w.ownsRow base 5 1 v n xs)
    (src : Value) (Z : List Int) (hx : a.eval x = src) (hsl : Sl w src Z) (hbig : n + Z.length ≤ 200000000000000) (hbase : base ≤ w.heap.size)
    (h : ∀ v' w', w'.ownsRow base 5 1 v' (n + Z.length) (xs ++ Z.map (Value.int .u8)) → w.grownBy w' v.ownBlock → KK (a.put o.dst v') w') : o.wp Try.prog a w KK Q := by
  obtain ⟨i0, hi, hz0, hz1, hz2⟩ := info_parts info5'
  obtain ⟨ad, cap, rfl, h1, h2, h3, h4⟩ := hsl
  cases ad with
  | none =>
    obtain rfl := h3 rfl
    obtain rfl : Z = [] := List.length_eq_zero_iff.1 (by omega)
    have hrun := run_append_owned_none (P := Try.prog) (w := w) base 22 o.type 5 i0 1 Try.underlying22 hi v n xs hown
    have hx' : a.eval x = .slice none 0 0 := hx
    unfold Oper.wp
    simp [execOp, ho, resolve, invoke, builtin, hs, hx', hrun, Result.andThen]
    exact h v w (by simpa using hown) ⟨rfl, rfl, rfl, Nat.le_refl _, fun _ _ _ => rfl⟩
  | some y =>
    exact wp_append_own_wide w s x 22 ho base 5 i0 (.int .u8 0) 1 1 Try.underlying22 hi hz0 hz1 hz2 rfl (by decide) v n xs hs hown y Z.length cap (Z.map (Value.int .u8)) hx (by rw [List.length_map, Nat.mul_one]) (news_row h4) (ints_one Z) (by unfold maxLen; omega) (by omega) hbase
      (fun v' w' ho' hg _ => h v' w' ho' hg)

/-- What 'append([]byte{}, Z...)' is: the empty slice itself, or a row of the call's own. -/
def Emp (w : World) (B : Nat) (v : Value) (Z : List Int) : Prop :=
  (Z = [] ∧ ∃ g, v = .slice (some ⟨g, 0, none⟩) 0 0 ∧ w.heap[g]? = some (.cells #[] 5 (0, 0))) ∨ w.ownsRow B 5 1 v Z.length (Z.map (Value.int .u8))
theorem Emp.sl {w : World} {B : Nat} {v : Value} {Z : List Int} (h : Emp w B v Z) (hb : ∀ i, 0 ≤ Z.getD i 0 ∧ Z.getD i 0 < 256) : Sl w v Z := by
  rcases h with ⟨rfl, g, rfl, _⟩ | h
  · exact ⟨_, 0, rfl, Nat.le_refl _, by simp [maxLen], fun _ => rfl, .inl rfl⟩
  · exact sl_owned h hb
theorem wp_append_emp {w : World} {o : Oper} {a : Act} {KK : Act → World → Prop} {Q : Exit → Act → World → Prop} (s x : Operand)
    (ho : o.op = .call { callee := .builtin .append, args := #[s, x], argTypes := #[22, 22] })
    (g : Nat) (hs : a.eval s = .slice (some ⟨g, 0, none⟩) 0 0) (hg : w.heap[g]? = some (.cells #[] 5 (0, 0)))
    (src : Value) (Z : List Int) (hx : a.eval x = src) (hsl : Sl w src Z) (hbig : Z.length ≤ 200000000000000)
    (h : ∀ v' w', Emp w' w.heap.size v' Z → Below w.heap.size w w' → KK (a.put o.dst v') w') : o.wp Try.prog a w KK Q := by
  obtain ⟨i0, hi, hz0, hz1, hz2⟩ := info_parts info5'
  have own : w.ownsRow 0 5 1 (.slice (some ⟨g, 0, none⟩) 0 0) 0 [] := ⟨rfl, .inr ⟨g, 0, #[], rfl, Nat.zero_le _, hg, Nat.le_refl _, by simp [maxLen], rfl, rfl⟩⟩
  by_cases hZ : Z = []
  · subst hZ
    obtain ⟨ad, cap, rfl, h1, h2, h3, h4⟩ := hsl
    have fin : ∀ w', w'.heap[g]? = some (.cells #[] 5 (0, 0)) → Below w.heap.size w w' → KK (a.put o.dst (.slice (some ⟨g, 0, none⟩) 0 0)) w' := fun w' hg' hb => h _ w' (.inl ⟨rfl, g, rfl, hg'⟩) hb
    cases ad with
    | none =>
      obtain rfl := h3 rfl
      have hrun := run_append_owned_none (P := Try.prog) (w := w) 0 22 o.type 5 i0 1 Try.underlying22 hi _ 0 [] own
      have hx' : a.eval x = .slice none 0 0 := hx
      unfold Oper.wp
      simp [execOp, ho, resolve, invoke, builtin, hs, hx', hrun, Result.andThen]
      exact fin w hg (Below.refl _ _)
    | some y =>
      have hrun := run_append_room (P := Try.prog) w 22 o.type 5 i0 Try.underlying22 hi g 0 0 #[] hg y 0 cap [] (by simp) (fun j u hj => by simp at hj) (fun u hu => by simp at hu) (Nat.le_refl _) (by simp)
      have hx' : a.eval x = .slice (some y) 0 cap := hx
      unfold Oper.wp execOp
      simp only [ho, resolve, invoke, builtin, Sem.run_bind, Sem.run_pure, Result.andThen_ok, List.map_toArray, List.map_cons, List.map_nil, hs, hx', hrun]
      refine fin _ ?_ ⟨rfl, rfl, rfl, by simp, fun k hk => ?_⟩
      · simpa using setRow_heap w g #[] #[] 5 _ hg
      · by_cases hkg : k = g
        · subst hkg
          rw [hg]
          simpa using setRow_heap w k #[] #[] 5 _ hg
        · exact setRow_other w g k _ hkg
  · have hzl : 0 < Z.length := List.length_pos_iff.2 hZ
    obtain ⟨ad, cap, rfl, h1, h2, h3, h4⟩ := hsl
    cases ad with
    | none => have := h3 rfl; omega
    | some y =>
      have hr := run_append_grow (P := Try.prog) w 22 o.type 5 i0 (.int .u8 0) Try.underlying22 hi hz0 ⟨g, 0, none⟩ 0 0 [] (by simp) (fun j u hj => by simp at hj) y Z.length cap (Z.map (Value.int .u8)) (by rw [List.length_map, hz1, Nat.mul_one]) (news_row h4) (by omega) (by omega) (growslice_fits_wide (by omega) (by rw [hz2]; omega))
      have hge := grownCap_ge w (0 + Z.length) 0 5
      have hcm : grownCap w (0 + Z.length) 0 5 ≤ maxLen := grownCap_le_maxLen w (0 + Z.length) 0 5 (by unfold maxLen; omega)
      unfold Oper.wp execOp
      simp only [ho, resolve, invoke, builtin, Sem.run_bind, Sem.run_pure, Result.andThen_ok, List.map_toArray, List.map_cons, List.map_nil, hs, hx, hr]
      refine h _ _ (.inr ?_) ((Below.refl _ w).drew.alloc (Nat.le_refl _) _)
      refine ⟨by simp, .inr ⟨w.heap.size, _, _, by rw [Nat.zero_add], Nat.le_refl _, heap_alloc_new w.drew _, by rw [Nat.zero_add] at hge; rw [Nat.zero_add]; exact hge, hcm, ?_, ?_⟩⟩
      · simp only [Array.size_append, List.size_toArray, size_zeroCells, List.length_map, List.length_nil]
        show 0 + Z.length + (_ - _) * 1 = _
        omega
      · simp only [Array.toList_append, Nat.mul_one, List.nil_append]
        rw [List.take_left' (by simp)]

theorem Emp.mono {w : World} {B B' : Nat} {v : Value} {Z : List Int} (h : Emp w B v Z) (hB : B' ≤ B) : Emp w B' v Z := by
  rcases h with h | h
  · exact .inl h
  · exact .inr (own_mono h hB)
theorem Emp.kept {w w' : World} {B : Nat} {v : Value} {Z : List Int} (h : Emp w B v Z) (hb : Below w.heap.size w w') : Emp w' B v Z := by
  rcases h with ⟨e, g, e1, e2⟩ | h
  · exact .inl ⟨e, g, e1, (hb.block g (Array.getElem?_eq_some_iff.1 e2).1).trans e2⟩
  · exact .inr (own_below h hb)
theorem keepEmp {u n : World} {B : Nat} {v : Value} {Z : List Int} (h : Hid (Emp u B v Z)) (hb : Below u.heap.size u n) : Hid (Emp n B v Z) := h.out.kept hb
theorem keepSl {u n : World} {v : Value} {Z : List Int} (h : Hid (Sl u v Z)) (hb : Below u.heap.size u n) : Hid (Sl n v Z) := h.out.kept hb
theorem keepE {u n : World} {e : Nat} {o : Obj} (h : Hid (u.heap[e]? = some o)) (hb : Below u.heap.size u n) : Hid (n.heap[e]? = some o) := (hb.block e (Array.getElem?_eq_some_iff.1 h.out).1).trans h.out

theorem wp_append_emp3 {w : World} {o : Oper} {a : Act} {KK : Act → World → Prop} {Q : Exit → Act → World → Prop} (s x : Operand)
    (ho : o.op = .call { callee := .builtin .append, args := #[s, x], argTypes := #[22, 22] })
    (B : Nat) (v : Value) (Y : List Int) (hs : a.eval s = v) (he : Emp w B v Y) (hB : B ≤ w.heap.size) (hY : ∀ i, 0 ≤ Y.getD i 0 ∧ Y.getD i 0 < 256)
    (src : Value) (c : Int) (hx : a.eval x = src) (hsl : Sl w src [c]) (hbig : Y.length ≤ 1000000)
    (h : ∀ v' w' r, Ofs w' r v' (Y ++ [c]) → B ≤ r → Below B w w' → KK (a.put o.dst v') w') : o.wp Try.prog a w KK Q := by
  have hzb := hsl.bytes
  have fin : ∀ v' w' n, w'.ownsRow B 5 1 v' (n + 1) ((Y ++ [c]).map (Value.int .u8)) → Below B w w' → KK (a.put o.dst v') w' := by
    intro v' w' n own hb
    have hne : v' ≠ .slice none 0 0 := by
      rintro rfl
      rcases own.2 with ⟨_, e⟩ | ⟨_, _, _, e, _⟩
      · omega
      · cases e
    obtain ⟨r, o1, o2, _⟩ := ofs_own own hne (bytes_app hY hzb)
    exact h v' w' r o1 o2 hb
  rcases he with ⟨rfl, g, rfl, hg⟩ | own
  · refine wp_append_emp s x ho g hs hg src [c] hx hsl (by simp) (fun v' w' e b => ?_)
    rcases e with ⟨e, _⟩ | e
    · cases e
    · exact fin v' w' 0 (own_mono e hB) (b.mono hB)
  · refine wp_append_sl s x ho B v Y.length _ hs own src [c] hx hsl (by simp; omega) hB (fun v' w' own' hg => fin v' w' Y.length ?_ ?_)
    · rw [← List.map_append] at own'
      exact own'
    · exact (Below.refl B w).grown hg hB (own_base own)

/-- 'append([]byte{}, b...)', first of all. -/
theorem wpList_append_new {w : World} {ops : Array Oper} {rest : List Oper} {o : Oper} {a : Act} {Q : Exit → Act → World → Prop} (hgd : o.guard = none) (s x : Operand)
    (ho : o.op = .call { callee := .builtin .append, args := #[s, x], argTypes := #[22, 22] })
    (B g : Nat) (hB : B ≤ g) (hs : a.eval s = .slice (some ⟨g, 0, none⟩) 0 0) (hg : w.heap[g]? = some (.cells #[] 5 (0, 0)))
    (src : Value) (Z : List Int) (hx : a.eval x = src) (hsl : Sl w src Z) (hbig : Z.length ≤ 1000000)
    (h : ∀ v' w' r, Ofs w' r v' Z → B ≤ r → w.grownBy w' (some g) → wpList Try.prog ops Q rest (a.put o.dst v') w') : wpList Try.prog ops Q (o :: rest) a w := by
  obtain ⟨i0, hi, hz0, hz1, hz2⟩ := info_parts info5'
  have hzb := hsl.bytes
  have hlt : g < w.heap.size := (Array.getElem?_eq_some_iff.1 hg).1
  have own : w.ownsRow B 5 1 (.slice (some ⟨g, 0, none⟩) 0 0) 0 [] := ⟨rfl, .inr ⟨g, 0, #[], rfl, hB, hg, Nat.le_refl _, by simp [maxLen], rfl, rfl⟩⟩
  obtain ⟨ad, cap, rfl, h1, h2, h3, h4⟩ := hsl
  cases ad with
  | none =>
    obtain rfl := h3 rfl
    obtain rfl : Z = [] := List.length_eq_zero_iff.1 (by omega)
    refine wpList_append_own_none hgd s x 22 ho B 5 i0 1 Try.underlying22 hi _ 0 [] hs own hx ?_
    exact h _ w g ⟨0, 0, #[], rfl, hg, Nat.le_refl _, by simp [maxLen], by simp, fun i hi => by simp at hi, hzb⟩ hB ⟨rfl, rfl, rfl, Nat.le_refl _, fun _ _ _ => rfl⟩
  | some y =>
    refine wpList_append_own_wide w hgd s x 22 ho B 5 i0 (.int .u8 0) 1 1 Try.underlying22 hi hz0 hz1 hz2 rfl (by decide) _ 0 [] hs own y Z.length cap (Z.map (Value.int .u8)) hx (by rw [List.length_map, Nat.mul_one]) (news_row h4) (ints_one Z) (by unfold maxLen; omega) (by omega) (by omega) ?_
    intro v' w' own' hg' hnil
    rw [List.nil_append] at own'
    obtain ⟨r, o1, o2, _⟩ := ofs_own own' (fun e => by have := (hnil.1 e).1; cases this) hzb
    exact h v' w' r o1 o2 hg'
end Go.Proofs.Ytdaogagliglokaa
