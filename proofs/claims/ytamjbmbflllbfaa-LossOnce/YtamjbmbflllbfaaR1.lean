/-
  What calls make of a set, plainly.
-/
import Derived.Test.YtamjbmbflllbfaaR0
namespace Go.Proofs.Ytamjbmbflllbfaa
open Go.RowKit
set_option maxRecDepth 100000

abbrev atS (l : List Sp) (i : Nat) : Sp := l.getD i (0, 0)
theorem atS_eq (l : List Sp) (i : Nat) (h : i < l.length) : atS l i = l[i] := by simp [atS, List.getD, List.getElem?_eq_getElem h]
theorem atS_mem (l : List Sp) (i : Nat) (h : i < l.length) : atS l i ∈ l := by rw [atS_eq l i h]; exact List.getElem_mem h
theorem Canon.rise {l : List Sp} (h : Canon l) {i j : Nat} (hij : i < j) (hj : j < l.length) : (atS l i).2 + 2 ≤ (atS l j).1 := by
  rw [atS_eq l i (by omega), atS_eq l j hj]
  exact List.pairwise_iff_getElem.1 h.2 i j (by omega) hj hij
/-- How many spans end ahead of a number; how many begin up to it. -/
def fE (l : List Sp) (n : Int) : Nat := l.findIdx fun x => decide (n ≤ x.2)
def bU (l : List Sp) (n : Int) : Nat := l.findIdx fun x => decide (n < x.1)
theorem fE_le (l : List Sp) (n : Int) : fE l n ≤ l.length := List.findIdx_le_length
theorem bU_le (l : List Sp) (n : Int) : bU l n ≤ l.length := List.findIdx_le_length
theorem fE_lt {l : List Sp} (h : Canon l) (n : Int) {k : Nat} (hk : k < l.length) : fE l n ≤ k ↔ n ≤ (atS l k).2 := by
  constructor
  · intro hle
    have hlt : fE l n < l.length := by omega
    have h1 := List.findIdx_getElem (p := fun x : Sp => decide (n ≤ x.2)) (xs := l) (w := hlt)
    have h2 : n ≤ (atS l (fE l n)).2 := by rw [atS_eq _ _ hlt]; exact of_decide_eq_true h1
    by_cases e : fE l n = k
    · rw [← e]; exact h2
    · have h3 := h.rise (show fE l n < k by omega) hk
      have h4 := (h.1 _ (atS_mem l k hk)).2.1
      omega
  · intro hn
    refine Nat.le_of_not_lt fun hlt => ?_
    have := List.not_of_lt_findIdx (p := fun x : Sp => decide (n ≤ x.2)) (xs := l) hlt
    rw [atS_eq l k hk] at hn
    simp at this
    omega
theorem bU_lt {l : List Sp} (h : Canon l) (n : Int) {k : Nat} (hk : k < l.length) : bU l n ≤ k ↔ n < (atS l k).1 := by
  constructor
  · intro hle
    have hlt : bU l n < l.length := by omega
    have h1 := List.findIdx_getElem (p := fun x : Sp => decide (n < x.1)) (xs := l) (w := hlt)
    have h2 : n < (atS l (bU l n)).1 := by rw [atS_eq _ _ hlt]; exact of_decide_eq_true h1
    by_cases e : bU l n = k
    · rw [← e]; exact h2
    · have h3 := h.rise (show bU l n < k by omega) hk
      have h4 := (h.1 _ (atS_mem l (bU l n) hlt)).2.1
      omega
  · intro hn
    refine Nat.le_of_not_lt fun hlt => ?_
    have := List.not_of_lt_findIdx (p := fun x : Sp => decide (n < x.1)) (xs := l) hlt
    rw [atS_eq l k hk] at hn
    simp at this
    omega
theorem fE_bU {l : List Sp} (h : Canon l) {f t : Int} (hft : f ≤ t + 1) : fE l f ≤ bU l t := by
  refine Nat.le_of_not_lt fun hlt => ?_
  have hk : bU l t < l.length := Nat.lt_of_lt_of_le hlt (fE_le l f)
  have h1 := (bU_lt h t hk).1 (Nat.le_refl _)
  have h2 : ¬ f ≤ (atS l (bU l t)).2 := fun e => by have := (fE_lt h f hk).2 e; omega
  have h3 := (h.1 _ (atS_mem l _ hk)).2.1
  omega
theorem mem_idx {l : List Sp} {x : Sp} (h : x ∈ l) : ∃ k, k < l.length ∧ x = atS l k := by
  obtain ⟨k, hk, e⟩ := List.getElem_of_mem h
  exact ⟨k, hk, by rw [atS_eq l k hk, e]⟩
theorem mem_take {l : List Sp} {n : Nat} {x : Sp} : x ∈ l.take n ↔ ∃ k, k < n ∧ k < l.length ∧ x = atS l k := by
  constructor
  · intro h
    obtain ⟨k, hk, e⟩ := List.getElem_of_mem h
    rw [List.length_take] at hk
    rw [List.getElem_take] at e
    exact ⟨k, by omega, by omega, by rw [atS_eq l k (by omega), e]⟩
  · rintro ⟨k, h1, h2, rfl⟩
    rw [atS_eq l k h2]
    exact List.mem_take_iff_getElem.2 ⟨k, by omega, rfl⟩
theorem mem_drop {l : List Sp} {n : Nat} {x : Sp} : x ∈ l.drop n ↔ ∃ k, n ≤ k ∧ k < l.length ∧ x = atS l k := by
  constructor
  · intro h
    obtain ⟨k, hk, e⟩ := List.getElem_of_mem h
    rw [List.length_drop] at hk
    rw [List.getElem_drop] at e
    exact ⟨n + k, by omega, by omega, by rw [atS_eq l (n + k) (by omega), e]⟩
  · rintro ⟨k, h1, h2, rfl⟩
    rw [atS_eq l k h2]
    refine List.mem_drop_iff_getElem.2 ⟨k - n, by omega, ?_⟩
    congr 1
    omega
/-- The spans that reach between two numbers, cut there. -/
def mid (l : List Sp) (f t : Int) : List Sp := (l.take (bU l t)).drop (fE l f)
def clp (f t : Int) (x : Sp) : Sp := (max x.1 f, min x.2 t)
def clip (l : List Sp) (f t : Int) : List Sp := (mid l f t).map (clp f t)
theorem mem_mid {l : List Sp} (h : Canon l) (f t : Int) {x : Sp} : x ∈ mid l f t ↔ x ∈ l ∧ f ≤ x.2 ∧ x.1 ≤ t := by
  unfold mid
  constructor
  · intro hx
    obtain ⟨k, h1, h2, rfl⟩ := mem_drop.1 hx
    rw [List.length_take] at h2
    have hk : k < l.length := by omega
    have e : atS (l.take (bU l t)) k = atS l k := by
      rw [atS_eq _ k (by rw [List.length_take]; omega), atS_eq l k hk, List.getElem_take]
    rw [e]
    refine ⟨atS_mem l k hk, (fE_lt h f hk).1 h1, ?_⟩
    have : ¬ t < (atS l k).1 := fun e => by have := (bU_lt h t hk).2 e; omega
    omega
  · rintro ⟨hx, h1, h2⟩
    obtain ⟨k, hk, rfl⟩ := mem_idx hx
    have a1 := (fE_lt h f hk).2 h1
    have a2 : k < bU l t := Nat.lt_of_not_le fun e => by have := (bU_lt h t hk).1 e; omega
    refine mem_drop.2 ⟨k, a1, by rw [List.length_take]; omega, ?_⟩
    rw [atS_eq (l.take (bU l t)) k (by rw [List.length_take]; omega), atS_eq l k hk, List.getElem_take]
theorem mid_sub (l : List Sp) (f t : Int) : (mid l f t).Sublist l := (List.drop_sublist ..).trans (List.take_sublist ..)
theorem clip_canon {l : List Sp} (h : Canon l) {f t : Int} (hft : f ≤ t) : Canon (clip l f t) := by
  constructor
  · intro y hy
    obtain ⟨x, hx, rfl⟩ := List.mem_map.1 hy
    obtain ⟨h1, h2, h3⟩ := (mem_mid h f t).1 hx
    have := h.1 x h1
    unfold Okk clp at *
    simp only
    omega
  · refine List.pairwise_map.2 ((h.2.sublist (mid_sub l f t)).imp ?_)
    intro x y hxy
    unfold clp
    simp only
    omega
theorem clip_mem {l : List Sp} (h : Canon l) {f t : Int} (n : Int) : Mem (clip l f t) n ↔ Mem l n ∧ f ≤ n ∧ n ≤ t := by
  unfold Mem
  constructor
  · rintro ⟨y, hy, h1, h2⟩
    obtain ⟨x, hx, rfl⟩ := List.mem_map.1 hy
    obtain ⟨h3, h4, h5⟩ := (mem_mid h f t).1 hx
    unfold clp at h1 h2
    simp only at h1 h2
    exact ⟨⟨x, h3, by omega, by omega⟩, by omega, by omega⟩
  · rintro ⟨⟨x, hx, h1, h2⟩, h3, h4⟩
    refine ⟨clp f t x, List.mem_map.2 ⟨x, (mem_mid h f t).2 ⟨hx, by omega, by omega⟩, rfl⟩, ?_, ?_⟩
    · unfold clp; simp only; omega
    · unfold clp; simp only; omega
theorem clip_all {l : List Sp} (h : Canon l) : clip l 0 1099511627776 = l :=
  canon_ext (clip_canon h (by omega)) h (fun n => by
    rw [clip_mem h]
    exact ⟨fun x => x.1, fun x => ⟨x, h.mem_bd x⟩⟩)
theorem clip_len (l : List Sp) (f t : Int) : (clip l f t).length ≤ l.length := by
  unfold clip
  rw [List.length_map]
  exact (mid_sub l f t).length_le
/-- Whether a span may be. -/
def may (f t : Int) : Bool := decide (0 ≤ f) && decide (f ≤ t) && decide (t ≤ 1099511627776)
theorem may_iff (f t : Int) : may f t = true ↔ Okk (f, t) := by
  unfold may Okk
  simp only [Bool.and_eq_true, decide_eq_true_eq]
  exact ⟨fun h => ⟨h.1.1, h.1.2, h.2⟩, fun h => ⟨⟨h.1, h.2.1⟩, h.2.2⟩⟩
/-- A span put in. -/
def adI (l : List Sp) (f : Int) : Nat := fE l (f - 1)
def adJ (l : List Sp) (t : Int) : Nat := bU l (t + 1)
def adF (l : List Sp) (f t : Int) : Int := if adI l f < adJ l t then min f (atS l (adI l f)).1 else f
def adT (l : List Sp) (f t : Int) : Int := if adI l f < adJ l t then max t (atS l (adJ l t - 1)).2 else t
def addL (l : List Sp) (f t : Int) : List Sp := l.take (adI l f) ++ (adF l f t, adT l f t) :: l.drop (adJ l t)
theorem add_spec {l : List Sp} (h : Canon l) {f t : Int} (hok : Okk (f, t)) : Canon (addL l f t) ∧ ∀ n, Mem (addL l f t) n ↔ Mem l n ∨ (f ≤ n ∧ n ≤ t) := by
  obtain ⟨o1, o2, o3⟩ := hok
  simp only at o1 o2 o3
  have hij : adI l f ≤ adJ l t := fE_bU h (by omega)
  have hj : adJ l t ≤ l.length := bU_le l _
  have iF : ∀ k, k < l.length → (adI l f ≤ k ↔ f - 1 ≤ (atS l k).2) := fun k hk => fE_lt h _ hk
  have jF : ∀ k, k < l.length → (adJ l t ≤ k ↔ t + 1 < (atS l k).1) := fun k hk => bU_lt h _ hk
  have okk : ∀ k, k < l.length → Okk (atS l k) := fun k hk => h.1 _ (atS_mem l k hk)
  have rs : ∀ i j, i < j → j < l.length → (atS l i).2 + 2 ≤ (atS l j).1 := fun i j a b => h.rise a b
  obtain ⟨F, hF⟩ : ∃ F, F = adF l f t := ⟨_, rfl⟩
  obtain ⟨T, hT⟩ : ∃ T, T = adT l f t := ⟨_, rfl⟩
  unfold addL
  rw [← hF, ← hT]
  unfold adF at hF
  unfold adT at hT
  generalize adI l f = i at *
  generalize adJ l t = j at *
  have bd : F ≤ f ∧ t ≤ T ∧ 0 ≤ F ∧ T ≤ 1099511627776 := by
    by_cases hlt : i < j
    · rw [if_pos hlt] at hF hT
      have a1 := okk i (by omega)
      have a2 := okk (j - 1) (by omega)
      unfold Okk at a1 a2
      omega
    · rw [if_neg hlt] at hF hT
      omega
  have lo : ∀ k, k < i → (atS l k).2 + 2 ≤ F := fun k hk => by
    have a1 : ¬ f - 1 ≤ (atS l k).2 := fun e => by have := (iF k (by omega)).2 e; omega
    by_cases hlt : i < j
    · rw [if_pos hlt] at hF
      have := rs k i hk (by omega)
      omega
    · rw [if_neg hlt] at hF
      omega
  have hi' : ∀ k, j ≤ k → k < l.length → T + 2 ≤ (atS l k).1 := fun k hk hl' => by
    have a1 := (jF k hl').1 hk
    by_cases hlt : i < j
    · rw [if_pos hlt] at hT
      have := rs (j - 1) k (by omega) hl'
      omega
    · rw [if_neg hlt] at hT
      omega
  constructor
  · refine Canon.app (h.sub (List.take_sublist ..)) ⟨?_, List.pairwise_cons.2 ⟨?_, (h.sub (List.drop_sublist ..)).2⟩⟩ ?_
    · intro x hx
      rcases List.mem_cons.1 hx with rfl | hx
      · unfold Okk; simp only; omega
      · exact (h.sub (List.drop_sublist ..)).1 x hx
    · intro x hx
      obtain ⟨k, a1, a2, rfl⟩ := mem_drop.1 hx
      exact hi' k a1 a2
    · intro x hx y hy
      obtain ⟨k, a1, a2, rfl⟩ := mem_take.1 hx
      rcases List.mem_cons.1 hy with rfl | hy
      · exact lo k a1
      · obtain ⟨k', b1, b2, rfl⟩ := mem_drop.1 hy
        exact rs k k' (by omega) b2
  · intro n
    rw [mem_app, mem_cons]
    simp only
    constructor
    · rintro (⟨x, hx, a⟩ | ⟨a1, a2⟩ | ⟨x, hx, a⟩)
      · exact .inl ⟨x, List.mem_of_mem_take hx, a⟩
      · by_cases c1 : f ≤ n
        · by_cases c2 : n ≤ t
          · exact .inr ⟨c1, c2⟩
          · by_cases hlt : i < j
            · rw [if_pos hlt] at hT
              have q : ¬ t + 1 < (atS l (j - 1)).1 := fun e => by have := (jF (j - 1) (by omega)).2 e; omega
              exact .inl ⟨_, atS_mem l (j - 1) (by omega), by omega, by omega⟩
            · rw [if_neg hlt] at hT
              omega
        · by_cases hlt : i < j
          · rw [if_pos hlt] at hF
            have q := (iF i (by omega)).1 (Nat.le_refl _)
            exact .inl ⟨_, atS_mem l i (by omega), by omega, by omega⟩
          · rw [if_neg hlt] at hF
            omega
      · exact .inl ⟨x, List.mem_of_mem_drop hx, a⟩
    · rintro (⟨x, hx, a1, a2⟩ | a)
      · obtain ⟨k, hk, rfl⟩ := mem_idx hx
        by_cases c1 : k < i
        · exact .inl ⟨_, mem_take.2 ⟨k, c1, hk, rfl⟩, a1, a2⟩
        · by_cases c2 : j ≤ k
          · exact .inr (.inr ⟨_, mem_drop.2 ⟨k, c2, hk, rfl⟩, a1, a2⟩)
          · have hlt : i < j := by omega
            rw [if_pos hlt] at hF hT
            have q1 : (atS l i).1 ≤ (atS l k).1 := by
              by_cases e : i = k
              · rw [e]; omega
              · have := rs i k (by omega) hk
                have := okk i (by omega)
                unfold Okk at this
                omega
            have q2 : (atS l k).2 ≤ (atS l (j - 1)).2 := by
              by_cases e : k = j - 1
              · rw [e]; omega
              · have := rs k (j - 1) (by omega) (by omega)
                have := okk (j - 1) (by omega)
                unfold Okk at this
                omega
            exact .inr (.inl ⟨by omega, by omega⟩)
      · exact .inr (.inl ⟨by omega, by omega⟩)
theorem addL_len (l : List Sp) (f t : Int) (h : adI l f ≤ adJ l t) : (addL l f t).length ≤ l.length + 1 := by
  have := fE_le l (f - 1)
  unfold addL
  rw [List.length_append, List.length_take, List.length_cons, List.length_drop]
  unfold adI adJ at *
  omega
/-- A span taken away. -/
def rmV (l : List Sp) (f t : Int) : List Sp := (if (atS l (fE l f)).1 < f then [((atS l (fE l f)).1, f - 1)] else []) ++ (if t < (atS l (bU l t - 1)).2 then [(t + 1, (atS l (bU l t - 1)).2)] else [])
def remL (l : List Sp) (f t : Int) : List Sp := if clip l f t = [] then l else l.take (fE l f) ++ (rmV l f t ++ l.drop (bU l t))
theorem clip_ne {l : List Sp} (f t : Int) : clip l f t ≠ [] ↔ fE l f < bU l t := by
  have := bU_le l t
  unfold clip mid
  rw [Ne, List.map_eq_nil_iff, ← List.length_eq_zero_iff, List.length_drop, List.length_take]
  omega
theorem rem_spec {l : List Sp} (h : Canon l) {f t : Int} (hok : Okk (f, t)) : Canon (remL l f t) ∧ ∀ n, Mem (remL l f t) n ↔ Mem l n ∧ ¬ (f ≤ n ∧ n ≤ t) := by
  obtain ⟨o1, o2, o3⟩ := hok
  simp only at o1 o2 o3
  by_cases hc : clip l f t = []
  · unfold remL
    rw [if_pos hc]
    refine ⟨h, fun n => ⟨fun hn => ⟨hn, fun a => ?_⟩, fun a => a.1⟩⟩
    have := (clip_mem h n).2 ⟨hn, a⟩
    rw [hc] at this
    exact mem_nil n this
  · have hlt := (clip_ne f t).1 hc
    have hj : bU l t ≤ l.length := bU_le l _
    have iF : ∀ k, k < l.length → (fE l f ≤ k ↔ f ≤ (atS l k).2) := fun k hk => fE_lt h _ hk
    have jF : ∀ k, k < l.length → (bU l t ≤ k ↔ t < (atS l k).1) := fun k hk => bU_lt h _ hk
    have okk : ∀ k, k < l.length → Okk (atS l k) := fun k hk => h.1 _ (atS_mem l k hk)
    have rs : ∀ i j, i < j → j < l.length → (atS l i).2 + 2 ≤ (atS l j).1 := fun i j a b => h.rise a b
    have hV : ∀ x, x ∈ rmV l f t ↔ ((atS l (fE l f)).1 < f ∧ x = ((atS l (fE l f)).1, f - 1)) ∨ (t < (atS l (bU l t - 1)).2 ∧ x = (t + 1, (atS l (bU l t - 1)).2)) := fun x => by
      unfold rmV
      rw [List.mem_append]
      constructor
      · rintro (a | a)
        · split at a
          · next q => exact .inl ⟨q, List.mem_singleton.1 a⟩
          · simp at a
        · split at a
          · next q => exact .inr ⟨q, List.mem_singleton.1 a⟩
          · simp at a
      · rintro (⟨q, rfl⟩ | ⟨q, rfl⟩)
        · left; rw [if_pos q]; simp
        · right; rw [if_pos q]; simp
    have cV : Canon (rmV l f t) := by
      have a1 := okk (fE l f) (by omega)
      have a2 := okk (bU l t - 1) (by omega)
      unfold Okk at a1 a2
      unfold rmV
      refine Canon.app ?_ ?_ ?_
      · split
        · refine Canon.one ?_; unfold Okk; simp only; omega
        · exact Canon.nil
      · split
        · refine Canon.one ?_; unfold Okk; simp only; omega
        · exact Canon.nil
      · intro x hx y hy
        split at hx
        · split at hy
          · rw [List.mem_singleton.1 hx, List.mem_singleton.1 hy]; simp only; omega
          · simp at hy
        · simp at hx
    unfold remL
    rw [if_neg hc]
    generalize rmV l f t = V at *
    generalize fE l f = i at *
    generalize bU l t = j at *
    have lo : ∀ k, k < i → (atS l k).2 < f := fun k hk => by
      have : ¬ f ≤ (atS l k).2 := fun e => by have := (iF k (by omega)).2 e; omega
      omega
    have hi' : ∀ k, j ≤ k → k < l.length → t < (atS l k).1 := fun k hk hl' => (jF k hl').1 hk
    constructor
    · refine Canon.app (h.sub (List.take_sublist ..)) (Canon.app cV (h.sub (List.drop_sublist ..)) ?_) ?_
      · intro x hx y hy
        obtain ⟨k, a1, a2, rfl⟩ := mem_drop.1 hy
        have b1 := rs i k (by omega) a2
        have b2 := rs (j - 1) k (by omega) a2
        have b3 := okk i (by omega)
        have b4 := (iF i (by omega)).1 (Nat.le_refl _)
        unfold Okk at b3
        rcases (hV x).1 hx with ⟨q, rfl⟩ | ⟨q, rfl⟩
        · simp only; omega
        · simp only; omega
      · intro x hx y hy
        obtain ⟨k, a1, a2, rfl⟩ := mem_take.1 hx
        have b0 := lo k a1
        have b1 := rs k i (by omega) (by omega)
        rcases List.mem_append.1 hy with hy | hy
        · rcases (hV y).1 hy with ⟨q, rfl⟩ | ⟨q, rfl⟩
          · simp only; omega
          · simp only; omega
        · obtain ⟨k', c1, c2, rfl⟩ := mem_drop.1 hy
          exact rs k k' (by omega) c2
    · intro n
      rw [mem_app, mem_app]
      constructor
      · rintro (⟨x, hx, a1, a2⟩ | ⟨x, hx, a1, a2⟩ | ⟨x, hx, a1, a2⟩)
        · obtain ⟨k, b1, b2, rfl⟩ := mem_take.1 hx
          have := lo k b1
          exact ⟨⟨_, atS_mem l k b2, a1, a2⟩, by omega⟩
        · rcases (hV x).1 hx with ⟨q, rfl⟩ | ⟨q, rfl⟩
          · simp only at a1 a2
            have b4 := (iF i (by omega)).1 (Nat.le_refl _)
            exact ⟨⟨_, atS_mem l i (by omega), a1, by omega⟩, by omega⟩
          · simp only at a1 a2
            have b4 : ¬ t < (atS l (j - 1)).1 := fun e => by have := (jF (j - 1) (by omega)).2 e; omega
            exact ⟨⟨_, atS_mem l (j - 1) (by omega), by omega, a2⟩, by omega⟩
        · obtain ⟨k, b1, b2, rfl⟩ := mem_drop.1 hx
          have := hi' k b1 b2
          exact ⟨⟨_, atS_mem l k b2, a1, a2⟩, by omega⟩
      · rintro ⟨⟨x, hx, a1, a2⟩, hn⟩
        obtain ⟨k, hk, rfl⟩ := mem_idx hx
        by_cases c1 : k < i
        · exact .inl ⟨_, mem_take.2 ⟨k, c1, hk, rfl⟩, a1, a2⟩
        · by_cases c2 : j ≤ k
          · exact .inr (.inr ⟨_, mem_drop.2 ⟨k, c2, hk, rfl⟩, a1, a2⟩)
          · refine .inr (.inl ?_)
            have d1 := (iF k hk).1 (by omega)
            have d2 : ¬ t < (atS l k).1 := fun e => by have := (jF k hk).2 e; omega
            by_cases c3 : n < f
            · have e : k = i := by
                by_cases e : k = i
                · exact e
                · have := rs i k (by omega) hk
                  have := (iF i (by omega)).1 (Nat.le_refl _)
                  omega
              subst e
              exact ⟨_, (hV _).2 (.inl ⟨by omega, rfl⟩), by simp only; omega, by simp only; omega⟩
            · have c4 : t < n := by omega
              have e : k = j - 1 := by
                by_cases e : k = j - 1
                · exact e
                · have := rs k (j - 1) (by omega) (by omega)
                  have : ¬ t < (atS l (j - 1)).1 := fun e => by have := (jF (j - 1) (by omega)).2 e; omega
                  omega
              subst e
              exact ⟨_, (hV _).2 (.inr ⟨by omega, rfl⟩), by simp only; omega, by simp only; omega⟩
theorem rmV_len (l : List Sp) (f t : Int) : (rmV l f t).length ≤ 2 := by
  unfold rmV
  rw [List.length_append]
  split <;> split <;> simp
theorem remL_len (l : List Sp) (f t : Int) : (remL l f t).length ≤ l.length + 2 := by
  have := rmV_len l f t
  have := bU_le l t
  unfold remL
  split
  · omega
  · next hc =>
    have := (clip_ne f t).1 hc
    rw [List.length_append, List.length_append, List.length_take, List.length_drop]
    omega
/-- What is not there. -/
def gap (t : Int) : Int → List Sp → List Sp
  | f, [] => if f ≤ t then [(f, t)] else []
  | f, x :: c => (if f < x.1 then [(f, x.1 - 1)] else []) ++ gap t (x.2 + 1) c
theorem gap_spec (t : Int) (ht : t ≤ 1099511627776) : ∀ (c : List Sp) (f : Int), Canon c → 0 ≤ f → f ≤ t + 1 → (∀ x ∈ c, f ≤ x.1 ∧ x.2 ≤ t) → Canon (gap t f c) ∧ (∀ n, Mem (gap t f c) n ↔ (f ≤ n ∧ n ≤ t) ∧ ¬ Mem c n) ∧ ∀ x ∈ gap t f c, f ≤ x.1
  | [], f, _, hf, hft, _ => by
    unfold gap
    by_cases h : f ≤ t
    · rw [if_pos h]
      refine ⟨Canon.one ⟨hf, h, ht⟩, fun n => ?_, fun x hx => by rw [List.mem_singleton.1 hx]; exact Int.le_refl _⟩
      rw [mem_cons]
      simp only
      constructor
      · rintro (a | a)
        · exact ⟨a, mem_nil n⟩
        · exact absurd a (mem_nil n)
      · rintro ⟨a, _⟩
        exact .inl a
    · rw [if_neg h]
      refine ⟨Canon.nil, fun n => ⟨fun a => absurd a (mem_nil n), fun a => by omega⟩, fun x hx => by simp at hx⟩
  | x :: c, f, hc, hf, hft, hx => by
    have hx0 := hx x (List.mem_cons_self ..)
    have hk := hc.head
    unfold Okk at hk
    obtain ⟨i1, i2, i3⟩ := gap_spec t ht c (x.2 + 1) hc.tail (by omega) (by omega) (fun y hy => ⟨by have := hc.lt y hy; omega, (hx y (List.mem_cons_of_mem _ hy)).2⟩)
    have i4 : ∀ y ∈ gap t (x.2 + 1) c, x.2 + 1 ≤ y.1 := i3
    unfold gap
    refine ⟨Canon.app ?_ i1 ?_, fun n => ?_, fun y hy => ?_⟩
    · split
      · refine Canon.one ?_; unfold Okk; simp only; omega
      · exact Canon.nil
    · intro y hy z hz
      have := i4 z hz
      split at hy
      · rw [List.mem_singleton.1 hy]; simp only; omega
      · simp at hy
    · rw [mem_app, i2, mem_cons]
      constructor
      · rintro (a | a)
        · split at a
          · obtain ⟨y, hy, a1, a2⟩ := a
            rw [List.mem_singleton.1 hy] at a1 a2
            simp only at a1 a2
            refine ⟨by omega, ?_⟩
            rintro (b | ⟨z, hz, b1, b2⟩)
            · omega
            · have := hc.lt z hz
              omega
          · exact absurd a (mem_nil n)
        · refine ⟨by omega, ?_⟩
          rintro (b | b)
          · omega
          · exact a.2 b
      · rintro ⟨a, b⟩
        by_cases c1 : n < x.1
        · left
          rw [if_pos (by omega)]
          exact ⟨_, List.mem_singleton.2 rfl, by simp only; omega, by simp only; omega⟩
        · right
          refine ⟨⟨?_, a.2⟩, fun q => b (.inr q)⟩
          have : ¬ n ≤ x.2 := fun q => b (.inl ⟨by omega, q⟩)
          omega
    · rcases List.mem_append.1 hy with hy | hy
      · split at hy
        · rw [List.mem_singleton.1 hy]; exact Int.le_refl _
        · simp at hy
      · have := i4 y hy
        omega
def gapL (l : List Sp) (f t : Int) : List Sp := if may f t = true then gap t f (clip l f t) else []
theorem gapL_spec {l : List Sp} (h : Canon l) {f t : Int} (hok : Okk (f, t)) : Canon (gapL l f t) ∧ ∀ n, Mem (gapL l f t) n ↔ (f ≤ n ∧ n ≤ t) ∧ ¬ Mem l n := by
  obtain ⟨o1, o2, o3⟩ := id hok
  simp only at o1 o2 o3
  unfold gapL
  rw [if_pos ((may_iff f t).2 hok)]
  obtain ⟨g1, g2, -⟩ := gap_spec t o3 (clip l f t) f (clip_canon h o2) o1 (by omega) (fun x hx => by
    obtain ⟨y, hy, rfl⟩ := List.mem_map.1 hx
    unfold clp
    simp only
    omega)
  refine ⟨g1, fun n => ?_⟩
  rw [g2, clip_mem h]
  constructor
  · rintro ⟨a, b⟩
    exact ⟨a, fun q => b ⟨q, a⟩⟩
  · rintro ⟨a, b⟩
    exact ⟨a, fun q => b q.1⟩
end Go.Proofs.Ytamjbmbflllbfaa
