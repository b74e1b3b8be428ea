/-
  An index, as the walks read it; what Weak, Size, Len and Find tell.
-/
import Derived.Test.YtlhmpcmlpfffoaaDoorSc
import Derived.Test.YtlhmpcmlpfffoaaDoorMp
namespace Go.Proofs.YtlhmpcmlpfffoaaDoor
open Go.RowKit Go.Maps
set_option maxRecDepth 100000

/-- Whether some sums have this weak one. -/
def wk (l : List Sg) (k : Int) : Bool := l.any fun x => decide (x.k = k)
/-- Where two sums stand first. -/
def fi (l : List Sg) (k : Int) (A : List Int) : Nat := l.findIdx fun x => decide (x.k = k) && decide (x.s = A)
/-- What an index has of two sums. -/
def inn (l : List Sg) (z : Int) (k : Int) (A : List Int) : Option Value := if fi l k A < l.length then some (.int .i64 ((fi l k A : Int) * z)) else none
theorem wk_app (l : List Sg) (y : Sg) (k : Int) : wk (l ++ [y]) k = (wk l k || decide (y.k = k)) := by simp [wk]
theorem fi_app (l : List Sg) (y : Sg) (k : Int) (A : List Int) : fi (l ++ [y]) k A = if fi l k A < l.length then fi l k A else if y.k = k ∧ y.s = A then l.length else l.length + 1 := by
  unfold fi
  rw [List.findIdx_append]
  split
  · rfl
  · by_cases h : y.k = k ∧ y.s = A
    · rw [if_pos h]
      obtain ⟨h1, h2⟩ := h
      simp [List.findIdx_cons, h1, h2]
    · rw [if_neg h]
      have e : (decide (y.k = k) && decide (y.s = A)) = false := by
        rw [Bool.and_eq_false_iff, decide_eq_false_iff_not, decide_eq_false_iff_not]
        by_cases h1 : y.k = k
        · exact .inr fun h2 => h ⟨h1, h2⟩
        · exact .inl h1
      simp [List.findIdx_cons, e]
      omega
theorem inn_app (l : List Sg) (y : Sg) (z k : Int) (A : List Int) : inn (l ++ [y]) z k A = if fi l k A < l.length then inn l z k A else if y.k = k ∧ y.s = A then some (.int .i64 ((l.length : Int) * z)) else none := by
  unfold inn
  rw [fi_app, List.length_append, List.length_singleton]
  by_cases h : fi l k A < l.length
  · rw [if_pos h, if_pos h, if_pos h, if_pos (by omega)]
  · rw [if_neg h, if_neg h]
    by_cases h2 : y.k = k ∧ y.s = A
    · rw [if_pos h2, if_pos h2, if_pos (by omega)]
    · rw [if_neg h2, if_neg h2, if_neg (by omega)]
theorem fi_wk (l : List Sg) (k : Int) (A : List Int) (h : fi l k A < l.length) : wk l k = true := by
  have := List.findIdx_getElem (w := h)
  unfold wk
  rw [List.any_eq_true]
  refine ⟨_, List.getElem_mem h, ?_⟩
  simp only [Bool.and_eq_true] at this
  exact this.1
theorem inn_no (l : List Sg) (z k : Int) (A : List Int) (h : wk l k = false) : inn l z k A = none := by
  unfold inn
  rw [if_neg]
  intro h2
  rw [fi_wk l k A h2] at h
  cases h
theorem u8c_inj {A B : List Int} (h : Value.agg (u8c A) = .agg (u8c B)) : A = B := by
  simp only [u8c, Value.agg.injEq] at h
  have h2 := congrArg Array.toList h
  simp only at h2
  exact List.map_inj_right (f := Value.int .u8) (fun a b e => by cases e; rfl) |>.1 h2
/-- An index: its three cells; its map, which has each weak sum of q; each of its maps, which has what I tells. -/
def IG (w : World) (B g m : Nat) (z N : Int) (n : Nat) (q : Int → Bool) (I : Int → List Int → Option Value) : Prop :=
  w.heap[g]? = some (.cells #[.int .i64 z, .int .i64 N, .map (some m)] 70 (0, 0)) ∧ B ≤ g ∧ B ≤ m ∧
  ∃ (f : Value → Option Value) (F : Int → Nat), MP Tryd.prog 53 w m n f ∧ (∀ k, f (.int .u32 k) = if q k = true then some (.map (some (F k))) else none) ∧
    ∀ k, q k = true → B ≤ F k ∧ F k ≠ m ∧ (∀ k', q k' = true → F k' = F k → k' = k) ∧ ∃ h, MP Tryd.prog 48 w (F k) n h ∧ ∀ A, A.length = 32 → h (.agg (u8c A)) = I k A
/-- The index of sums. -/
def IX (w : World) (B g m : Nat) (z N : Int) (l : List Sg) : Prop := ∃ n, IG w B g m z N n (wk l) (inn l z)
theorem IG.kept {w w' : World} {B g m : Nat} {z N : Int} {n : Nat} {q : Int → Bool} {I : Int → List Int → Option Value} (h : IG w B g m z N n q I) (hb : Below w.heap.size w w') : IG w' B g m z N n q I := by
  obtain ⟨h1, h2, h3, f, F, h4, h5, h6⟩ := h
  refine ⟨(hb.block g (Array.getElem?_eq_some_iff.1 h1).1).trans h1, h2, h3, f, F, h4.kept hb, h5, fun k hk => ?_⟩
  obtain ⟨a1, a2, a3, u, a4, a5⟩ := h6 k hk
  exact ⟨a1, a2, a3, u, a4.kept hb, a5⟩
theorem IX.kept {w w' : World} {B g m : Nat} {z N : Int} {l : List Sg} (h : IX w B g m z N l) (hb : Below w.heap.size w w') : IX w' B g m z N l := by
  obtain ⟨n, h⟩ := h
  exact ⟨n, IG.kept h hb⟩
theorem IG.base {w : World} {B C g m : Nat} {z N : Int} {n : Nat} {q : Int → Bool} {I : Int → List Int → Option Value} (h : IG w B g m z N n q I) (hC : C ≤ B) : IG w C g m z N n q I := by
  obtain ⟨h1, h2, h3, f, F, h4, h5, h6⟩ := h
  refine ⟨h1, Nat.le_trans hC h2, Nat.le_trans hC h3, f, F, h4, h5, fun k hk => ?_⟩
  obtain ⟨a1, a2⟩ := h6 k hk
  exact ⟨Nat.le_trans hC a1, a2⟩
theorem IG.cells {w : World} {B g m : Nat} {z N : Int} {n : Nat} {q : Int → Bool} {I : Int → List Int → Option Value} (h : IG w B g m z N n q I) :
    w.cell? ⟨g, 0, none⟩ = some (.int .i64 z) ∧ w.cell? ⟨g, 1, none⟩ = some (.int .i64 N) ∧ w.cell? ⟨g, 2, none⟩ = some (.map (some m)) :=
  ⟨by rw [cell_of_row _ _ _ _ _ _ h.1]; rfl, by rw [cell_of_row _ _ _ _ _ _ h.1]; rfl, by rw [cell_of_row _ _ _ _ _ _ h.1]; rfl⟩
/-- The map of a weak sum, and the way back behind a store into it. -/
theorem IG.inner {w : World} {B g m : Nat} {z N : Int} {n : Nat} {q : Int → Bool} {I : Int → List Int → Option Value} (h : IG w B g m z N n q I) (k : Int) (hk : q k = true) :
    ∃ f b u, MP Tryd.prog 53 w m n f ∧ f (.int .u32 k) = some (.map (some b)) ∧ MP Tryd.prog 48 w b n u ∧ (∀ A, A.length = 32 → u (.agg (u8c A)) = I k A) ∧ B ≤ b ∧
      ∀ x, Below w.heap.size w x → ∀ ob u' S v, u' (.agg (u8c S)) = some v → (∀ y, y ≠ .agg (u8c S) → u' y = u y) → MP Tryd.prog 48 (ChangeMaps.setBlock x b ob) b (n + 1) u' →
        IG (ChangeMaps.setBlock x b ob) B g m z N (n + 1) q (fun k' A => if k' = k ∧ A = S then some v else I k' A) := by
  obtain ⟨h1, h2, h3, f, F, h4, h5, h6⟩ := h
  obtain ⟨a1, a2, a3, u, a4, a5⟩ := h6 k hk
  have hgb : g ≠ F k := fun e => by
    obtain ⟨es, clock, hh, _⟩ := a4
    rw [← e, h1] at hh
    cases hh
  refine ⟨f, F k, u, h4, by rw [h5, if_pos hk], a4, a5, a1, fun x hx ob u' S v c1 c2 c3 => ⟨(setBlock_other ob hgb).trans ((hx.block g (Array.getElem?_eq_some_iff.1 h1).1).trans h1), h2, h3, f, F, ((h4.kept hx).block (setBlock_other ob (fun e => a2 e.symm))).mono (Nat.le_succ _), h5, fun k' hk' => ?_⟩⟩
  obtain ⟨b1, b2, b3, u2, b4, b5⟩ := h6 k' hk'
  refine ⟨b1, b2, b3, ?_⟩
  by_cases e : k' = k
  · subst e
    refine ⟨u', c3, fun A hA => ?_⟩
    by_cases e2 : A = S
    · subst e2; simp [c1]
    · rw [c2 _ (fun e3 => e2 (u8c_inj e3)), a5 A hA]
      simp [e2]
  · refine ⟨u2, ((b4.kept hx).block (setBlock_other ob (fun e2 => e (a3 k' hk' e2)))).mono (Nat.le_succ _), fun A hA => ?_⟩
    rw [b5 A hA]
    simp [e]
/-- The map of all, and the way on behind a new map stored into it. -/
theorem IG.outer {w : World} {B g m : Nat} {z N : Int} {n : Nat} {q : Int → Bool} {I : Int → List Int → Option Value} (h : IG w B g m z N n q I) :
    ∃ f, MP Tryd.prog 53 w m n f ∧ (∀ k, (q k = false → f (.int .u32 k) = none) ∧ (q k = true → ∃ b, f (.int .u32 k) = some (.map (some b)))) ∧
      ∀ (w' : World) (nb : Nat) (ob : Obj) (f' : Value → Option Value) (k : Int), Below w.heap.size w w' → w.heap.size ≤ nb → MP Tryd.prog 48 w' nb 0 (fun _ => none) → q k = false → (∀ A, I k A = none) →
        f' (.int .u32 k) = some (.map (some nb)) → (∀ x, x ≠ .int .u32 k → f' x = f x) → MP Tryd.prog 53 (ChangeMaps.setBlock w' m ob) m (n + 1) f' → B ≤ w.heap.size →
        IG (ChangeMaps.setBlock w' m ob) B g m z N (n + 1) (fun k' => q k' || decide (k' = k)) I := by
  obtain ⟨h1, h2, h3, f, F, h4, h5, h6⟩ := h
  refine ⟨f, h4, fun k => ⟨fun hk => by rw [h5, if_neg (by rw [hk]; simp)], fun hk => ⟨F k, by rw [h5, if_pos hk]⟩⟩, fun w' nb ob f' k hb hnb hmp hq hI c1 c2 c3 hB => ?_⟩
  have hmlt := h4.lt
  have hglt := (Array.getElem?_eq_some_iff.1 h1).1
  have hgm : g ≠ m := fun e => by
    obtain ⟨es, clock, hh, _⟩ := h4
    rw [← e, h1] at hh
    cases hh
  refine ⟨(setBlock_other ob hgm).trans ((hb.block g hglt).trans h1), h2, h3, f', fun k' => if k' = k then nb else F k', c3, fun k' => ?_, fun k' hk' => ?_⟩
  · by_cases e : k' = k
    · subst e; simp [c1]
    · rw [c2 _ (fun e2 => e (by cases e2; rfl)), h5]
      simp [e]
  · by_cases e : k' = k
    · subst e
      simp only [if_true]
      refine ⟨by omega, by omega, fun k2 hk2 e2 => ?_, _, (hmp.block (setBlock_other ob (by omega))).mono (Nat.zero_le _), fun A _ => (hI A).symm⟩
      by_cases e3 : k2 = k'
      · exact e3
      · rw [if_neg e3] at e2
        simp only [e3, decide_false, Bool.or_false] at hk2
        obtain ⟨_, _, _, u, b4, _⟩ := h6 k2 hk2
        have := b4.lt
        omega
    · simp only [e, decide_false, Bool.or_false] at hk'
      obtain ⟨b1, b2, b3, u, b4, b5⟩ := h6 k' hk'
      have hlt := b4.lt
      simp only [if_neg e]
      refine ⟨b1, b2, fun k2 hk2 e2 => ?_, u, ((b4.kept hb).block (setBlock_other ob b2)).mono (Nat.le_succ _), b5⟩
      by_cases e3 : k2 = k
      · rw [if_pos e3] at e2; omega
      · rw [if_neg e3] at e2
        simp only [e3, decide_false, Bool.or_false] at hk2
        exact b3 k2 hk2 e2
theorem IG.congr {w : World} {B g m : Nat} {z N : Int} {n : Nat} {q q' : Int → Bool} {I I' : Int → List Int → Option Value} (h : IG w B g m z N n q I) (hq : ∀ k, q k = q' k) (hI : ∀ k A, I k A = I' k A) : IG w B g m z N n q' I' := by
  obtain rfl : q = q' := funext hq
  obtain rfl : I = I' := funext fun k => funext fun A => hI k A
  exact h
set_option maxHeartbeats 2000000 in
theorem weak_any (w : World) (B g m : Nat) (z N : Int) (n : Nat) (q : Int → Bool) (I : Int → List Int → Option Value) (h : IG w B g m z N n q I) (k : Int) (hk : 0 ≤ k ∧ k < 4294967296) :
    Calls Tryd.prog 51 #[.pointer (some ⟨g, 0, none⟩), .int .u32 k] w fun e w' => e = .returned (.bool (q k)) ∧ w' = w := by
  obtain ⟨-, -, c2⟩ := h.cells
  obtain ⟨f, hm, hf, -⟩ := h.outer
  have HM : Hid (MP Tryd.prog 53 w m n f) := hm
  have HK : Hid (∃ l, keyOf Tryd.prog 53 (.int .u32 k) = some l) := keyU k hk
  have HL := (HM.out).look (t := 68) lawU Tryd.underlying68 (zeroM w) HK.out true
  have HR : ∃ v, (Instr.lookup 68 (.map (some m)) (.int .u32 k) true).run Tryd.prog w = .ok (.tuple #[v, .bool (q k)]) w := by
    cases hq : q k with
    | false => rw [(hf k).1 hq] at HL; exact ⟨_, HL⟩
    | true =>
      obtain ⟨b, hb⟩ := (hf k).2 hq
      rw [hb] at HL; exact ⟨_, HL⟩
  obtain ⟨v, hr⟩ := HR
  clear HL hf hm h HM HK hk
  generalize q k = r at *
  go_enter Tryd.func51, Tryd.ntmps51
  go_wp2
  go_ret
  exact ⟨rfl, rfl⟩
set_option maxHeartbeats 1000000 in
theorem weak_nil (w : World) (k : Int) : Calls Tryd.prog 51 #[.pointer none, .int .u32 k] w fun e w' => e = .returned (.bool false) ∧ w' = w := by
  go_enter Tryd.func51, Tryd.ntmps51
  go_wp2
  go_ret
  exact ⟨rfl, rfl⟩
set_option maxHeartbeats 1000000 in
theorem isize_any (w : World) (B g m : Nat) (z N : Int) (n : Nat) (q : Int → Bool) (I : Int → List Int → Option Value) (h : IG w B g m z N n q I) :
    Calls Tryd.prog 28 #[.pointer (some ⟨g, 0, none⟩)] w fun e w' => e = .returned (.int .i64 z) ∧ w' = w := by
  obtain ⟨c0, c1, c2⟩ := h.cells
  clear h
  go_enter Tryd.func28, Tryd.ntmps28
  go_wp2
  go_ret
  exact ⟨rfl, rfl⟩
set_option maxHeartbeats 1000000 in
theorem isize_nil (w : World) : Calls Tryd.prog 28 #[.pointer none] w fun e w' => e = .returned (.int .i64 0) ∧ w' = w := by
  go_enter Tryd.func28, Tryd.ntmps28
  go_wp2
  go_ret
  exact ⟨rfl, rfl⟩
end Go.Proofs.YtlhmpcmlpfffoaaDoor
