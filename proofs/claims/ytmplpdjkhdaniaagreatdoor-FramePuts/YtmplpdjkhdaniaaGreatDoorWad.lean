/-
  What calls make of a set, plainly.
  The document's calls, plainly; that they are the program's.
  What slices.Insert answers, at every row of the call's own.
  Rows of spans written, cell by cell.
-/
import Derived.Test.YtmplpdjkhdaniaaGreatDoorWaa
import Derived.Maps.AppendAt
import Derived.Test.YtmplpdjkhdaniaaGreatDoorWac
import Derived.Deep.AppendSrc
import Derived.Deep.RegionLaw
import Derived.Lib.SliceRun
namespace Go.Proofs.YtmplpdjkhdaniaaGreatDoor
open Go.RowKit
set_option maxRecDepth 100000

abbrev atS (l : List Sp) (i : Nat) : Sp := l.getD i (0, 0)
theorem atS_eq (l : List Sp) (i : Nat) (h : i < l.length) : atS l i = l[i] := by simp [atS, List.getD, List.getElem?_eq_getElem h]
theorem atS_mem (l : List Sp) (i : Nat) (h : i < l.length) : atS l i ∈ l := by rw [atS_eq l i h]; exact List.getElem_mem h
theorem Canon.rise {l : List Sp} (h : Canon l) {i j : Nat} (hij : i < j) (hj : j < l.length) : (atS l i).2 + 2 ≤ (atS l j).1 := by
  rw [atS_eq l i (by omega), atS_eq l j hj]
  exact List.pairwise_iff_getElem.1 h.2 i j (by omega) hj hij
/-- How many spans end ahead of a number; how many begin up to it. -/
def fE (l : List Sp) (n : Int) : Nat := l.findIdx fun x => decide (n ≤ x.2)
def bU (l : List Sp) (n : Int) : Nat := l.findIdx fun x => decide (n < x.1)
theorem fE_le (l : List Sp) (n : Int) : fE l n ≤ l.length := List.findIdx_le_length
theorem bU_le (l : List Sp) (n : Int) : bU l n ≤ l.length := List.findIdx_le_length
theorem fE_lt {l : List Sp} (h : Canon l) (n : Int) {k : Nat} (hk : k < l.length) : fE l n ≤ k ↔ n ≤ (atS l k).2 := by
  constructor
  · intro hle
    have hlt : fE l n < l.length := by omega
    have h1 := List.findIdx_getElem (p := fun x : Sp => decide (n ≤ x.2)) (xs := l) (w := hlt)
    have h2 : n ≤ (atS l (fE l n)).2 := by rw [atS_eq _ _ hlt]; exact of_decide_eq_true h1
    by_cases e : fE l n = k
    · rw [← e]; exact h2
    · have h3 := h.rise (show fE l n < k by omega) hk
      have h4 := (h.1 _ (atS_mem l k hk)).2.1
      omega
  · intro hn
    refine Nat.le_of_not_lt fun hlt => ?_
    have := List.not_of_lt_findIdx (p := fun x : Sp => decide (n ≤ x.2)) (xs := l) hlt
    rw [atS_eq l k hk] at hn
    simp at this
    omega
theorem bU_lt {l : List Sp} (h : Canon l) (n : Int) {k : Nat} (hk : k < l.length) : bU l n ≤ k ↔ n < (atS l k).1 := by
  constructor
  · intro hle
    have hlt : bU l n < l.length := by omega
    have h1 := List.findIdx_getElem (p := fun x : Sp => decide (n < x.1)) (xs := l) (w := hlt)
    have h2 : n < (atS l (bU l n)).1 := by rw [atS_eq _ _ hlt]; exact of_decide_eq_true h1
    by_cases e : bU l n = k
    · rw [← e]; exact h2
    · have h3 := h.rise (show bU l n < k by omega) hk
      have h4 := (h.1 _ (atS_mem l (bU l n) hlt)).2.1
      omega
  · intro hn
    refine Nat.le_of_not_lt fun hlt => ?_
    have := List.not_of_lt_findIdx (p := fun x : Sp => decide (n < x.1)) (xs := l) hlt
    rw [atS_eq l k hk] at hn
    simp at this
    omega
theorem fE_bU {l : List Sp} (h : Canon l) {f t : Int} (hft : f ≤ t + 1) : fE l f ≤ bU l t := by
  refine Nat.le_of_not_lt fun hlt => ?_
  have hk : bU l t < l.length := Nat.lt_of_lt_of_le hlt (fE_le l f)
  have h1 := (bU_lt h t hk).1 (Nat.le_refl _)
  have h2 : ¬ f ≤ (atS l (bU l t)).2 := fun e => by have := (fE_lt h f hk).2 e; omega
  have h3 := (h.1 _ (atS_mem l _ hk)).2.1
  omega
theorem mem_idx {l : List Sp} {x : Sp} (h : x ∈ l) : ∃ k, k < l.length ∧ x = atS l k := by
  obtain ⟨k, hk, e⟩ := List.getElem_of_mem h
  exact ⟨k, hk, by rw [atS_eq l k hk, e]⟩
theorem mem_take {l : List Sp} {n : Nat} {x : Sp} : x ∈ l.take n ↔ ∃ k, k < n ∧ k < l.length ∧ x = atS l k := by
  constructor
  · intro h
    obtain ⟨k, hk, e⟩ := List.getElem_of_mem h
    rw [List.length_take] at hk
    rw [List.getElem_take] at e
    exact ⟨k, by omega, by omega, by rw [atS_eq l k (by omega), e]⟩
  · rintro ⟨k, h1, h2, rfl⟩
    rw [atS_eq l k h2]
    exact List.mem_take_iff_getElem.2 ⟨k, by omega, rfl⟩
theorem mem_drop {l : List Sp} {n : Nat} {x : Sp} : x ∈ l.drop n ↔ ∃ k, n ≤ k ∧ k < l.length ∧ x = atS l k := by
  constructor
  · intro h
    obtain ⟨k, hk, e⟩ := List.getElem_of_mem h
    rw [List.length_drop] at hk
    rw [List.getElem_drop] at e
    exact ⟨n + k, by omega, by omega, by rw [atS_eq l (n + k) (by omega), e]⟩
  · rintro ⟨k, h1, h2, rfl⟩
    rw [atS_eq l k h2]
    refine List.mem_drop_iff_getElem.2 ⟨k - n, by omega, ?_⟩
    congr 1
    omega
/-- The spans that reach between two numbers, cut there. -/
def mid (l : List Sp) (f t : Int) : List Sp := (l.take (bU l t)).drop (fE l f)
def clp (f t : Int) (x : Sp) : Sp := (max x.1 f, min x.2 t)
def clip (l : List Sp) (f t : Int) : List Sp := (mid l f t).map (clp f t)
theorem mem_mid {l : List Sp} (h : Canon l) (f t : Int) {x : Sp} : x ∈ mid l f t ↔ x ∈ l ∧ f ≤ x.2 ∧ x.1 ≤ t := by
  unfold mid
  constructor
  · intro hx
    obtain ⟨k, h1, h2, rfl⟩ := mem_drop.1 hx
    rw [List.length_take] at h2
    have hk : k < l.length := by omega
    have e : atS (l.take (bU l t)) k = atS l k := by
      rw [atS_eq _ k (by rw [List.length_take]; omega), atS_eq l k hk, List.getElem_take]
    rw [e]
    refine ⟨atS_mem l k hk, (fE_lt h f hk).1 h1, ?_⟩
    have : ¬ t < (atS l k).1 := fun e => by have := (bU_lt h t hk).2 e; omega
    omega
  · rintro ⟨hx, h1, h2⟩
    obtain ⟨k, hk, rfl⟩ := mem_idx hx
    have a1 := (fE_lt h f hk).2 h1
    have a2 : k < bU l t := Nat.lt_of_not_le fun e => by have := (bU_lt h t hk).1 e; omega
    refine mem_drop.2 ⟨k, a1, by rw [List.length_take]; omega, ?_⟩
    rw [atS_eq (l.take (bU l t)) k (by rw [List.length_take]; omega), atS_eq l k hk, List.getElem_take]
theorem mid_sub (l : List Sp) (f t : Int) : (mid l f t).Sublist l := (List.drop_sublist ..).trans (List.take_sublist ..)
theorem clip_canon {l : List Sp} (h : Canon l) {f t : Int} (hft : f ≤ t) : Canon (clip l f t) := by
  constructor
  · intro y hy
    obtain ⟨x, hx, rfl⟩ := List.mem_map.1 hy
    obtain ⟨h1, h2, h3⟩ := (mem_mid h f t).1 hx
    have := h.1 x h1
    unfold Okk clp at *
    simp only
    omega
  · refine List.pairwise_map.2 ((h.2.sublist (mid_sub l f t)).imp ?_)
    intro x y hxy
    unfold clp
    simp only
    omega
theorem clip_mem {l : List Sp} (h : Canon l) {f t : Int} (n : Int) : Mem (clip l f t) n ↔ Mem l n ∧ f ≤ n ∧ n ≤ t := by
  unfold Mem
  constructor
  · rintro ⟨y, hy, h1, h2⟩
    obtain ⟨x, hx, rfl⟩ := List.mem_map.1 hy
    obtain ⟨h3, h4, h5⟩ := (mem_mid h f t).1 hx
    unfold clp at h1 h2
    simp only at h1 h2
    exact ⟨⟨x, h3, by omega, by omega⟩, by omega, by omega⟩
  · rintro ⟨⟨x, hx, h1, h2⟩, h3, h4⟩
    refine ⟨clp f t x, List.mem_map.2 ⟨x, (mem_mid h f t).2 ⟨hx, by omega, by omega⟩, rfl⟩, ?_, ?_⟩
    · unfold clp; simp only; omega
    · unfold clp; simp only; omega
theorem clip_all {l : List Sp} (h : Canon l) : clip l 0 1099511627776 = l :=
  canon_ext (clip_canon h (by omega)) h (fun n => by
    rw [clip_mem h]
    exact ⟨fun x => x.1, fun x => ⟨x, h.mem_bd x⟩⟩)
theorem clip_len (l : List Sp) (f t : Int) : (clip l f t).length ≤ l.length := by
  unfold clip
  rw [List.length_map]
  exact (mid_sub l f t).length_le
/-- Whether a span may be. -/
def may (f t : Int) : Bool := decide (0 ≤ f) && decide (f ≤ t) && decide (t ≤ 1099511627776)
theorem may_iff (f t : Int) : may f t = true ↔ Okk (f, t) := by
  unfold may Okk
  simp only [Bool.and_eq_true, decide_eq_true_eq]
  exact ⟨fun h => ⟨h.1.1, h.1.2, h.2⟩, fun h => ⟨⟨h.1, h.2.1⟩, h.2.2⟩⟩
/-- A span put in. -/
def adI (l : List Sp) (f : Int) : Nat := fE l (f - 1)
def adJ (l : List Sp) (t : Int) : Nat := bU l (t + 1)
def adF (l : List Sp) (f t : Int) : Int := if adI l f < adJ l t then min f (atS l (adI l f)).1 else f
def adT (l : List Sp) (f t : Int) : Int := if adI l f < adJ l t then max t (atS l (adJ l t - 1)).2 else t
def addL (l : List Sp) (f t : Int) : List Sp := l.take (adI l f) ++ (adF l f t, adT l f t) :: l.drop (adJ l t)
theorem add_spec {l : List Sp} (h : Canon l) {f t : Int} (hok : Okk (f, t)) : Canon (addL l f t) ∧ ∀ n, Mem (addL l f t) n ↔ Mem l n ∨ (f ≤ n ∧ n ≤ t) := by
  obtain ⟨o1, o2, o3⟩ := hok
  simp only at o1 o2 o3
  have hij : adI l f ≤ adJ l t := fE_bU h (by omega)
  have hj : adJ l t ≤ l.length := bU_le l _
  have iF : ∀ k, k < l.length → (adI l f ≤ k ↔ f - 1 ≤ (atS l k).2) := fun k hk => fE_lt h _ hk
  have jF : ∀ k, k < l.length → (adJ l t ≤ k ↔ t + 1 < (atS l k).1) := fun k hk => bU_lt h _ hk
  have okk : ∀ k, k < l.length → Okk (atS l k) := fun k hk => h.1 _ (atS_mem l k hk)
  have rs : ∀ i j, i < j → j < l.length → (atS l i).2 + 2 ≤ (atS l j).1 := fun i j a b => h.rise a b
  obtain ⟨F, hF⟩ : ∃ F, F = adF l f t := ⟨_, rfl⟩
  obtain ⟨T, hT⟩ : ∃ T, T = adT l f t := ⟨_, rfl⟩
  unfold addL
  rw [← hF, ← hT]
  unfold adF at hF
  unfold adT at hT
  generalize adI l f = i at *
  generalize adJ l t = j at *
  have bd : F ≤ f ∧ t ≤ T ∧ 0 ≤ F ∧ T ≤ 1099511627776 := by
    by_cases hlt : i < j
    · rw [if_pos hlt] at hF hT
      have a1 := okk i (by omega)
      have a2 := okk (j - 1) (by omega)
      unfold Okk at a1 a2
      omega
    · rw [if_neg hlt] at hF hT
      omega
  have lo : ∀ k, k < i → (atS l k).2 + 2 ≤ F := fun k hk => by
    have a1 : ¬ f - 1 ≤ (atS l k).2 := fun e => by have := (iF k (by omega)).2 e; omega
    by_cases hlt : i < j
    · rw [if_pos hlt] at hF
      have := rs k i hk (by omega)
      omega
    · rw [if_neg hlt] at hF
      omega
  have hi' : ∀ k, j ≤ k → k < l.length → T + 2 ≤ (atS l k).1 := fun k hk hl' => by
    have a1 := (jF k hl').1 hk
    by_cases hlt : i < j
    · rw [if_pos hlt] at hT
      have := rs (j - 1) k (by omega) hl'
      omega
    · rw [if_neg hlt] at hT
      omega
  constructor
  · refine Canon.app (h.sub (List.take_sublist ..)) ⟨?_, List.pairwise_cons.2 ⟨?_, (h.sub (List.drop_sublist ..)).2⟩⟩ ?_
    · intro x hx
      rcases List.mem_cons.1 hx with rfl | hx
      · unfold Okk; simp only; omega
      · exact (h.sub (List.drop_sublist ..)).1 x hx
    · intro x hx
      obtain ⟨k, a1, a2, rfl⟩ := mem_drop.1 hx
      exact hi' k a1 a2
    · intro x hx y hy
      obtain ⟨k, a1, a2, rfl⟩ := mem_take.1 hx
      rcases List.mem_cons.1 hy with rfl | hy
      · exact lo k a1
      · obtain ⟨k', b1, b2, rfl⟩ := mem_drop.1 hy
        exact rs k k' (by omega) b2
  · intro n
    rw [mem_app, mem_cons]
    simp only
    constructor
    · rintro (⟨x, hx, a⟩ | ⟨a1, a2⟩ | ⟨x, hx, a⟩)
      · exact .inl ⟨x, List.mem_of_mem_take hx, a⟩
      · by_cases c1 : f ≤ n
        · by_cases c2 : n ≤ t
          · exact .inr ⟨c1, c2⟩
          · by_cases hlt : i < j
            · rw [if_pos hlt] at hT
              have q : ¬ t + 1 < (atS l (j - 1)).1 := fun e => by have := (jF (j - 1) (by omega)).2 e; omega
              exact .inl ⟨_, atS_mem l (j - 1) (by omega), by omega, by omega⟩
            · rw [if_neg hlt] at hT
              omega
        · by_cases hlt : i < j
          · rw [if_pos hlt] at hF
            have q := (iF i (by omega)).1 (Nat.le_refl _)
            exact .inl ⟨_, atS_mem l i (by omega), by omega, by omega⟩
          · rw [if_neg hlt] at hF
            omega
      · exact .inl ⟨x, List.mem_of_mem_drop hx, a⟩
    · rintro (⟨x, hx, a1, a2⟩ | a)
      · obtain ⟨k, hk, rfl⟩ := mem_idx hx
        by_cases c1 : k < i
        · exact .inl ⟨_, mem_take.2 ⟨k, c1, hk, rfl⟩, a1, a2⟩
        · by_cases c2 : j ≤ k
          · exact .inr (.inr ⟨_, mem_drop.2 ⟨k, c2, hk, rfl⟩, a1, a2⟩)
          · have hlt : i < j := by omega
            rw [if_pos hlt] at hF hT
            have q1 : (atS l i).1 ≤ (atS l k).1 := by
              by_cases e : i = k
              · rw [e]; omega
              · have := rs i k (by omega) hk
                have := okk i (by omega)
                unfold Okk at this
                omega
            have q2 : (atS l k).2 ≤ (atS l (j - 1)).2 := by
              by_cases e : k = j - 1
              · rw [e]; omega
              · have := rs k (j - 1) (by omega) (by omega)
                have := okk (j - 1) (by omega)
                unfold Okk at this
                omega
            exact .inr (.inl ⟨by omega, by omega⟩)
      · exact .inr (.inl ⟨by omega, by omega⟩)
theorem addL_len (l : List Sp) (f t : Int) (h : adI l f ≤ adJ l t) : (addL l f t).length ≤ l.length + 1 := by
  have := fE_le l (f - 1)
  unfold addL
  rw [List.length_append, List.length_take, List.length_cons, List.length_drop]
  unfold adI adJ at *
  omega
end Go.Proofs.YtmplpdjkhdaniaaGreatDoor
namespace Go.Proofs.YtmplpdjkhdaniaaGreatDoor
open Go.RowKit
set_option maxRecDepth 100000

def raS : List Sp → List Sp → List Sp → Int → Int → List Sp × List Sp × Int × Int
  | [], A, B, f, t => (A, B, f, t)
  | x :: l, A, B, f, t => if x.2 < f - 1 then raS l (A ++ [x]) B f t else if t + 1 < x.1 then raS l A (B ++ [x]) f t else raS l A B (min f x.1) (max t x.2)
def raO (r : List Sp × List Sp × Int × Int) : List Sp := (r.1 ++ [(r.2.2.1, r.2.2.2)]) ++ r.2.1
def rAdd (l : List Sp) (f t : Int) : List Sp := raO (raS l [] [] f t)
theorem radd_spec : ∀ (l A B : List Sp) (f t : Int), Canon l → Canon ((A ++ [(f, t)]) ++ B) → (∀ x ∈ A, ∀ y ∈ l, x.2 + 2 ≤ y.1) → (∀ x ∈ B, ∀ y ∈ l, x.2 + 2 ≤ y.1) → (B ≠ [] → ∀ y ∈ l, t + 1 < y.1) →
    Canon (raO (raS l A B f t)) ∧ (∀ n, Mem (raO (raS l A B f t)) n ↔ Mem ((A ++ [(f, t)]) ++ B) n ∨ Mem l n)
  | [], A, B, f, t, _, h, _, _, _ => ⟨h, fun n => ⟨fun a => .inl a, fun a => a.elim id (fun a => absurd a (mem_nil n))⟩⟩
  | x :: l, A, B, f, t, hl, h, hA, hB, hT => by
    have hx := hl.head
    unfold Okk at hx
    have hxl := hl.lt
    have cA : Canon A := h.sub ((List.sublist_append_left _ _).trans (List.sublist_append_left _ _))
    have cB : Canon B := h.sub (List.sublist_append_right _ _)
    have pw := List.pairwise_append.1 h.2
    have pw1 := List.pairwise_append.1 pw.1
    have hft := h.1 (f, t) (by simp)
    unfold Okk at hft
    simp only at hft
    have aF : ∀ a ∈ A, a.2 + 2 ≤ f := fun a ha => pw1.2.2 a ha (f, t) (by simp)
    have tB : ∀ b ∈ B, t + 2 ≤ b.1 := fun b hb => pw.2.2 (f, t) (by simp) b hb
    have aX : ∀ a ∈ A, a.2 + 2 ≤ x.1 := fun a ha => hA a ha x (List.mem_cons_self ..)
    have bX : ∀ b ∈ B, b.2 + 2 ≤ x.1 := fun b hb => hB b hb x (List.mem_cons_self ..)
    have hA' : ∀ a ∈ A, ∀ y ∈ l, a.2 + 2 ≤ y.1 := fun a ha y hy => hA a ha y (List.mem_cons_of_mem _ hy)
    have hB' : ∀ b ∈ B, ∀ y ∈ l, b.2 + 2 ≤ y.1 := fun b hb y hy => hB b hb y (List.mem_cons_of_mem _ hy)
    unfold raS
    by_cases c1 : x.2 < f - 1
    · rw [if_pos c1]
      obtain ⟨i1, i2⟩ := radd_spec l (A ++ [x]) B f t hl.tail (Canon.app (Canon.app (Canon.app cA (Canon.one hx) (fun a ha y hy => by rw [List.mem_singleton.1 hy]; exact aX a ha)) (Canon.one hft) (fun a ha y hy => by
          rw [List.mem_singleton.1 hy]
          rcases List.mem_append.1 ha with ha | ha
          · exact aF a ha
          · rw [List.mem_singleton.1 ha]; simp only; omega)) cB (fun a ha b hb => by
          have := tB b hb
          rcases List.mem_append.1 ha with ha | ha
          · rcases List.mem_append.1 ha with ha | ha
            · have := aF a ha; omega
            · rw [List.mem_singleton.1 ha]; omega
          · rw [List.mem_singleton.1 ha]; simp only; omega))
        (fun a ha y hy => by
          rcases List.mem_append.1 ha with ha | ha
          · exact hA' a ha y hy
          · rw [List.mem_singleton.1 ha]; exact hxl y hy) hB' (fun hb y hy => hT hb y (List.mem_cons_of_mem _ hy))
      refine ⟨i1, fun n => ?_⟩
      rw [i2, mem_cons]
      simp only [mem_app, mem_cons]
      constructor
      · rintro ((((a | a | a) | a) | a) | a)
        · exact .inl (.inl (.inl a))
        · exact .inr (.inl a)
        · exact absurd a (mem_nil n)
        · exact .inl (.inl (.inr a))
        · exact .inl (.inr a)
        · exact .inr (.inr a)
      · rintro (((a | a) | a) | a | a)
        · exact .inl (.inl (.inl (.inl a)))
        · exact .inl (.inl (.inr a))
        · exact .inl (.inr a)
        · exact .inl (.inl (.inl (.inr (.inl a))))
        · exact .inr a
    · rw [if_neg c1]
      by_cases c2 : t + 1 < x.1
      · rw [if_pos c2]
        obtain ⟨i1, i2⟩ := radd_spec l A (B ++ [x]) f t hl.tail (Canon.app (h.sub (List.sublist_append_left _ _)) (Canon.app cB (Canon.one hx) (fun b hb y hy => by rw [List.mem_singleton.1 hy]; exact bX b hb)) (fun a ha b hb => by
            rcases List.mem_append.1 hb with hb | hb
            · exact pw.2.2 a ha b hb
            · rw [List.mem_singleton.1 hb]
              rcases List.mem_append.1 ha with ha | ha
              · exact aX a ha
              · rw [List.mem_singleton.1 ha]; simp only; omega))
          hA' (fun b hb y hy => by
            rcases List.mem_append.1 hb with hb | hb
            · exact hB' b hb y hy
            · rw [List.mem_singleton.1 hb]; exact hxl y hy) (fun _ y hy => by have := hxl y hy; omega)
        refine ⟨i1, fun n => ?_⟩
        rw [i2, mem_cons]
        simp only [mem_app, mem_cons]
        constructor
        · rintro ((a | a | a | a) | a)
          · exact .inl (.inl a)
          · exact .inl (.inr a)
          · exact .inr (.inl a)
          · exact absurd a (mem_nil n)
          · exact .inr (.inr a)
        · rintro ((a | a) | a | a)
          · exact .inl (.inl a)
          · exact .inl (.inr (.inl a))
          · exact .inl (.inr (.inr (.inl a)))
          · exact .inr a
      · rw [if_neg c2]
        have eB : B = [] := by
          cases B with
          | nil => rfl
          | cons b B => exact absurd (hT (by simp) x (List.mem_cons_self ..)) c2
        subst eB
        obtain ⟨i1, i2⟩ := radd_spec l A [] (min f x.1) (max t x.2) hl.tail (by
            rw [List.append_nil]
            refine Canon.app cA (Canon.one ?_) ?_
            · unfold Okk; simp only; omega
            · intro a ha y hy
              rw [List.mem_singleton.1 hy]
              have := aF a ha
              have := aX a ha
              simp only
              omega) hA' (fun b hb => by simp at hb) (fun hb => absurd rfl hb)
        refine ⟨i1, fun n => ?_⟩
        rw [i2, mem_cons]
        simp only [mem_app, mem_cons]
        constructor
        · rintro (((a | a | a) | a) | a)
          · exact .inl (.inl (.inl a))
          · by_cases q1 : f ≤ n ∧ n ≤ t
            · exact .inl (.inl (.inr (.inl q1)))
            · exact .inr (.inl (by omega))
          · exact absurd a (mem_nil n)
          · exact absurd a (mem_nil n)
          · exact .inr (.inr a)
        · rintro (((a | a | a) | a) | a | a)
          · exact .inl (.inl (.inl a))
          · exact .inl (.inl (.inr (.inl (by omega))))
          · exact absurd a (mem_nil n)
          · exact absurd a (mem_nil n)
          · exact .inl (.inl (.inr (.inl (by omega))))
          · exact .inr a
theorem radd_eq {l : List Sp} (h : Canon l) {f t : Int} (hok : Okk (f, t)) : rAdd l f t = addL l f t := by
  obtain ⟨a1, a2⟩ := add_spec h hok
  obtain ⟨b1, b2⟩ := radd_spec l [] [] f t h (by simpa using Canon.one hok) (fun x hx => by simp at hx) (fun x hx => by simp at hx) (fun hb => absurd rfl hb)
  refine canon_ext b1 a1 fun n => ?_
  rw [show rAdd l f t = raO (raS l [] [] f t) from rfl, b2, a2]
  simp only [mem_app, mem_cons]
  constructor
  · rintro (((a | a | a) | a) | a)
    · exact absurd a (mem_nil n)
    · exact .inr a
    · exact absurd a (mem_nil n)
    · exact absurd a (mem_nil n)
    · exact .inl a
  · rintro (a | a)
    · exact .inr a
    · exact .inl (.inl (.inr (.inl a)))
/-- What Add leaves, and tells. -/
def adP (l : List Sp) (f t : Int) : List Sp := if may f t = true ∧ cnt (clip l f t) ≠ t - f + 1 then addL l f t else l
def adB (l : List Sp) (f t : Int) : Bool := may f t && !decide (cnt (clip l f t) = t - f + 1)
theorem adP_eq {l : List Sp} (h : Canon l) (f t : Int) : (if may f t = true then rAdd l f t else l) = adP l f t := by
  unfold adP
  by_cases hm : may f t = true
  · have hok := (may_iff f t).1 hm
    rw [if_pos hm, radd_eq h hok]
    by_cases hc : cnt (clip l f t) = t - f + 1
    · rw [if_neg (fun a => a.2 hc)]
      obtain ⟨a1, a2⟩ := add_spec h hok
      have hf := full_of (clip_canon h hok.2.1) hok.1 hok.2.1 hok.2.2 (fun n => clip_mem h n) hc
      refine canon_ext a1 h fun n => ?_
      rw [a2]
      exact ⟨fun a => a.elim id (fun a => hf n a.1 a.2), .inl⟩
    · rw [if_pos ⟨hm, hc⟩]
  · rw [if_neg hm, if_neg (fun a => hm a.1)]
theorem adP_canon {l : List Sp} (h : Canon l) (f t : Int) : Canon (adP l f t) := by
  unfold adP
  split
  · next q => exact (add_spec h ((may_iff f t).1 q.1)).1
  · exact h
/-- Whether a number is there. -/
def has (l : List Sp) (n : Int) : Bool := l.any fun x => decide (x.1 ≤ n) && decide (n ≤ x.2)
end Go.Proofs.YtmplpdjkhdaniaaGreatDoor
namespace Go.Proofs.YtmplpdjkhdaniaaGreatDoor
open Go.RowKit Go.Shelf

set_option maxHeartbeats 4000000 in
theorem insert_end (B : Nat) (v : Value) (n h : Nat) (cs : List Value) (xp xd : Int) (w : World) (ho : w.ownsRow B 89 2 v n cs) (hn : n ≤ 1000) (hB : B ≤ w.heap.size)
    (hh : w.heap[h]? = some (.cells #[.int .i64 xp, .int .i64 xd] 89 (0, 0))) :
    Calls Tryz.prog 93 #[v, .int .i64 n, .slice (some ⟨h, 0, none⟩) 1 1] w fun e w' => ∃ v', e = .returned v' ∧ w'.ownsRow B 89 2 v' (n + 1) (cs ++ [.int .i64 xp, .int .i64 xd]) ∧ w.grownBy w' v.ownBlock ∧ (v'.ownBlock = v.ownBlock ∨ v'.ownBlock = some w.heap.size) := by
  obtain ⟨i0, hi, hz0, hz1, hz2⟩ := info_parts infoN
  have HO : Hid (w.ownsRow B 89 2 v n cs) := ho
  have hX : ∀ j y, [Value.int .i64 xp, .int .i64 xd][j]? = some y → w.cell? ((⟨h, 0, none⟩ : Addr).add j) = some y := fun j y hj => by
    rw [Addr.add_lit, Nat.zero_add]
    simp only [World.cell?, hh]
    simpa using hj
  have HX : Hid (∀ j y, [Value.int .i64 xp, .int .i64 xd][j]? = some y → w.cell? ((⟨h, 0, none⟩ : Addr).add j) = some y) := hX
  have H1 : Hid (∀ y ∈ [Value.int .i64 xp, .int .i64 xd], y.oneCell' = true) := fun y hy => by
    simp only [List.mem_cons, List.not_mem_nil, or_false] at hy
    rcases hy with rfl | rfl <;> rfl
  have HB : Hid (B ≤ w.heap.size) := hB
  have hsh : (v = .slice none 0 0 ∧ n = 0) ∨ ∃ g c, v = .slice (some ⟨g, 0, none⟩) n c ∧ n ≤ c ∧ c ≤ maxLen := by
    rcases ho.2 with h' | ⟨g, cap, cur, hv, _, _, h1, h2, _⟩
    · exact .inl h'
    · exact .inr ⟨g, cap, hv, h1, h2⟩
  clear ho hX hB hh
  rcases hsh with ⟨rfl, rfl⟩ | ⟨g, c, rfl, hnc, hcm⟩
  · go_enter Tryz.func93, Tryz.ntmps93
    go_wp2_with (at_builtin; refine wpList_append_own_at _ rfl _ _ 23 rfl B 89 i0 (.agg #[.int .i64 0, .int .i64 0]) 2 16 Tryz.underlying23 hi hz0 hz1 hz2 rfl (by decide) _ 0 cs rfl HO.out _ 1 1 [.int .i64 xp, .int .i64 xd] rfl rfl HX.out H1.out (by unfold maxLen; omega) (by omega) HB.out (Hid.out ?_))
    unfold Hid
    intro v' w' o' g' _ k'
    have O' : Hid (w'.ownsRow B 89 2 v' (0 + 1) (cs ++ [.int .i64 xp, .int .i64 xd])) := o'
    have G' : Hid (w.grownBy w' (Value.ownBlock (.slice none 0 0))) := g'
    have K' : Hid (v'.ownBlock = Value.ownBlock (.slice none 0 0) ∨ v'.ownBlock = some w.heap.size) := k'
    clear o' g' k' HO HX H1 HB
    go_wp2
    go_ret
    exact ⟨v', rfl, O'.out, G'.out, K'.out⟩
  · have hnc2 : n ≤ c := hnc
    have hin : (n : Int) ≤ (n : Int) := by omega
    by_cases hc : c = n
    · subst hc
      go_enter Tryz.func93, Tryz.ntmps93
      go_wp2_with (at_builtin; refine wpList_append_own_at _ rfl _ _ 23 rfl B 89 i0 (.agg #[.int .i64 0, .int .i64 0]) 2 16 Tryz.underlying23 hi hz0 hz1 hz2 rfl (by decide) _ c cs rfl HO.out _ 1 1 [.int .i64 xp, .int .i64 xd] rfl rfl HX.out H1.out (by unfold maxLen; omega) (by omega) HB.out (Hid.out ?_))
      unfold Hid
      intro v' w' o' g' _ k'
      have O' : Hid (w'.ownsRow B 89 2 v' (c + 1) (cs ++ [.int .i64 xp, .int .i64 xd])) := o'
      have G' : Hid (w.grownBy w' (Value.ownBlock (.slice (some ⟨g, 0, none⟩) c c))) := g'
      have K' : Hid (v'.ownBlock = Value.ownBlock (.slice (some ⟨g, 0, none⟩) c c) ∨ v'.ownBlock = some w.heap.size) := k'
      clear o' g' k' HO HX H1 HB
      go_wp2
      go_ret
      exact ⟨v', rfl, O'.out, G'.out, K'.out⟩
    · go_enter Tryz.func93, Tryz.ntmps93
      go_wp2_with (at_builtin; refine wpList_append_own_at _ rfl _ _ 23 rfl B 89 i0 (.agg #[.int .i64 0, .int .i64 0]) 2 16 Tryz.underlying23 hi hz0 hz1 hz2 rfl (by decide) _ n cs rfl HO.out _ 1 1 [.int .i64 xp, .int .i64 xd] rfl rfl HX.out H1.out (by unfold maxLen; omega) (by omega) HB.out (Hid.out ?_))
      unfold Hid
      intro v' w' o' g' _ k'
      have O' : Hid (w'.ownsRow B 89 2 v' (n + 1) (cs ++ [.int .i64 xp, .int .i64 xd])) := o'
      have G' : Hid (w.grownBy w' (Value.ownBlock (.slice (some ⟨g, 0, none⟩) n c))) := g'
      have K' : Hid (v'.ownBlock = Value.ownBlock (.slice (some ⟨g, 0, none⟩) n c) ∨ v'.ownBlock = some w.heap.size) := k'
      clear o' g' k' HO HX H1 HB
      go_wp2
      go_ret
      exact ⟨v', rfl, O'.out, G'.out, K'.out⟩
theorem insert_own (B : Nat) (v : Value) (n i h : Nat) (cs : List Value) (xp xd : Int) (w : World) (ho : w.ownsRow B 89 2 v n cs) (hi : i ≤ n) (hn : n ≤ 1000) (hB : B ≤ w.heap.size) (h1 : ∀ y ∈ cs, y.oneCell' = true)
    (hh : w.heap[h]? = some (.cells #[.int .i64 xp, .int .i64 xd] 89 (0, 0))) (hne : v.ownBlock ≠ some h) :
    Calls Tryz.prog 93 #[v, .int .i64 i, .slice (some ⟨h, 0, none⟩) 1 1] w fun e w' => ∃ v', e = .returned v' ∧ w'.ownsRow B 89 2 v' (n + 1) (cs.take (i * 2) ++ [.int .i64 xp, .int .i64 xd] ++ cs.drop (i * 2)) ∧ w.grownBy w' v.ownBlock ∧ (v'.ownBlock = v.ownBlock ∨ v'.ownBlock = some w.heap.size) := by
  rcases Nat.lt_or_ge i n with hlt | hge
  · rcases ho.2 with ⟨_, h0⟩ | ⟨g, c, cur, rfl, hBg, hg, hnc, hcm, hsz, htk⟩
    · omega
    have hne' : h ≠ g := fun e => hne (by rw [e]; rfl)
    have hlen : (cs.take (i * 2) ++ [Value.int .i64 xp, .int .i64 xd] ++ cs.drop (i * 2)).length = (n + 1) * 2 := by
      rw [List.length_append, List.length_append, List.length_take, List.length_drop, ho.1]
      simp
      omega
    rcases Nat.lt_or_ge c (n + 1) with hr | hr
    · refine (insert_grow g c n i h cur xp xd w hg hsz hlt hnc hr hn (by rw [htk]; exact h1) hh).mono ?_
      rintro e w' ⟨cap, rfl, k1, k2, ⟨cur', k3, k4, k5⟩, k6⟩
      refine ⟨_, rfl, ⟨hlen, .inr ⟨w.heap.size, cap, cur', rfl, hB, k3, k1, k2, k4, ?_⟩⟩, ⟨k6.os, k6.tape, k6.output, k6.size, fun k hk _ => k6.block k hk (by simp)⟩, .inr rfl⟩
      rw [k5, htk]
    · refine (insert_room g c n i h cur xp xd w hg hsz hlt hr hcm hn (by rw [htk]; exact h1) hh hne').mono ?_
      rintro e w' ⟨rfl, ⟨cur', k3, k4, k5⟩, k6⟩
      refine ⟨_, rfl, ⟨hlen, .inr ⟨g, c, cur', rfl, hBg, k3, hr, hcm, k4, ?_⟩⟩, k6, .inl rfl⟩
      rw [k5, htk]
  · obtain rfl : i = n := by omega
    have e1 : cs.take (i * 2) = cs := List.take_of_length_le (by rw [ho.1]; exact Nat.le_refl _)
    have e2 : cs.drop (i * 2) = [] := List.drop_of_length_le (by rw [ho.1]; exact Nat.le_refl _)
    rw [e1, e2, List.append_nil]
    exact insert_end B v i h cs xp xd w ho hn hB hh
end Go.Proofs.YtmplpdjkhdaniaaGreatDoor
namespace Go.Proofs.YtmplpdjkhdaniaaGreatDoor
open Go.RowKit Go.Shelf
set_option maxRecDepth 100000

/-- A list with other cells from a place on. -/
def upd (o : Nat) (xs L : List Value) : List Value := L.take o ++ xs ++ L.drop (o + xs.length)
theorem upd_len {o : Nat} {xs L : List Value} (h : o + xs.length ≤ L.length) : (upd o xs L).length = L.length := by
  unfold upd
  rw [List.length_append, List.length_append, List.length_take, List.length_drop]
  omega
theorem upd_take {o : Nat} {xs L : List Value} (h : o ≤ L.length) : (upd o xs L).take (o + xs.length) = L.take o ++ xs := by
  unfold upd
  exact List.take_left' (by rw [List.length_append, List.length_take]; omega)
theorem upd_lo {o k : Nat} {xs L : List Value} (hk : k ≤ o) (h : o ≤ L.length) : (upd o xs L).take k = L.take k := by
  unfold upd
  rw [List.append_assoc, List.take_append_of_le_length (by rw [List.length_take]; omega), List.take_take, Nat.min_eq_left hk]
theorem upd_drop {o : Nat} {xs L : List Value} (h : o ≤ L.length) : (upd o xs L).drop o = xs ++ L.drop (o + xs.length) := by
  unfold upd
  rw [List.append_assoc]
  exact List.drop_left' (by rw [List.length_take]; omega)
theorem upd_block (b : Nat) (vs : List Value) (o : Nat) (w : World) (L : List Value) (t : TypeId) (h : w.heap[b]? = some (.cells L.toArray t (0, 0))) (hl : o + vs.length ≤ L.length) :
    (w.setCells b o vs).heap[b]? = some (.cells (upd o vs L).toArray t (0, 0)) := by
  obtain ⟨cur', h1, h2⟩ := setCells_block b vs o w L.toArray t h (by simpa using hl)
  rw [h1]
  congr 2
  apply Array.ext'
  rw [h2]
  rfl
theorem setCells_heap (b : Nat) : ∀ (vs : List Value) (o : Nat) (V W : World), V.heap = W.heap → (V.setCells b o vs).heap = (W.setCells b o vs).heap
  | [], _, _, _, h => h
  | v :: r, o, V, W, h => by
    rw [World.setCells, World.setCells]
    refine setCells_heap b r (o + 1) _ _ ?_
    simp only [World.setCell, h]
/-- What is laid in the place of others: bytes of another block, or nothing. -/
def Sr (w : World) (g : Nat) (u : Value) (m : Nat) (vs : List Value) : Prop := vs.length = m * 2 ∧ (∀ y ∈ vs, y.oneCell' = true) ∧
  ((u = .slice none 0 0 ∧ m = 0) ∨ ∃ h mc, ∃ xs : Array Value, u = .slice (some ⟨h, 0, none⟩) m mc ∧ w.heap[h]? = some (.cells xs 89 (0, 0)) ∧ h ≠ g ∧ (∀ (j : Nat) y, vs[j]? = some y → xs[j]? = some y) ∧ xs.size ≠ 0)
theorem src_of {W : World} {h mc m : Nat} {xs : Array Value} {vs : List Value} (hl : vs.length = m * 2) (h1 : ∀ y ∈ vs, y.oneCell' = true) (hh : W.heap[h]? = some (.cells xs 89 (0, 0))) (hc : ∀ (j : Nat) y, vs[j]? = some y → xs[j]? = some y) : Src Tryz.prog 2 23 (.slice (some ⟨h, 0, none⟩) m mc) m vs W := by
  have q : ∀ V : World, V.heap = W.heap → (Builtin.firstCells 2 m (.slice (some ⟨h, 0, none⟩) m mc)).run Tryz.prog V = .ok vs.toArray V := fun V hV =>
    run_firstCells_some V 2 m ⟨h, 0, none⟩ m mc vs hl (fun j y hj => by
      rw [Addr.add_lit, Nat.zero_add]
      unfold World.cell?
      rw [hV, hh]
      exact hc j y hj)
  exact ⟨.inl ⟨_, Tryz.underlying23⟩, fun _ => rfl, q W rfl, q W.drew rfl, hl, h1⟩
theorem Sr.src {w W : World} {g : Nat} {u : Value} {m : Nat} {vs : List Value} (h : Sr w g u m vs) (hW : ∀ k, k ≠ g → k < w.heap.size → W.heap[k]? = w.heap[k]?) : Src Tryz.prog 2 23 u m vs W := by
  obtain ⟨h1, h2, ⟨rfl, rfl⟩ | ⟨k, mc, xs, rfl, h3, h4, h5, _⟩⟩ := h
  · obtain rfl : vs = [] := List.length_eq_zero_iff.1 (by omega)
    exact Src.ofNil W Tryz.underlying23 0
  · exact src_of h1 h2 ((hW k h4 (lt_of_block h3)).trans h3) h5
theorem Sr.shape {w : World} {g : Nat} {u : Value} {m : Nat} {vs : List Value} (h : Sr w g u m vs) : ∃ a c, u = .slice a m c := by
  obtain ⟨_, _, ⟨rfl, rfl⟩ | ⟨k, mc, xs, rfl, _⟩⟩ := h
  · exact ⟨_, _, rfl⟩
  · exact ⟨_, _, rfl⟩
/-- copy, of whatever source. -/
theorem run_copy_src (W : World) (ty : TypeId) (b o dLen dCap : Nat) (u : Value) (m : Nat) (vs : List Value) (hs : Src Tryz.prog 2 23 u m vs W) (hu : ∃ a c, u = .slice a m c) (hm : m ≤ dLen)
    (hc : ∀ j, j < vs.length → (W.cell? ⟨b, o + j, none⟩).isSome = true) (hf : ∀ j, j < vs.length → W.frozen? ⟨b, o + j, none⟩ = false) :
    (Builtin.copy_ #[23, 23] ty #[.slice (some ⟨b, o, none⟩) dLen dCap, u]).run Tryz.prog W = .ok (goInt m) (W.setCells b o vs) := by
  have hst := run_storeCells_cells (P := Tryz.prog) b o vs 0 W (by simpa using hc) (by simpa using hf) hs.one
  simp only [Nat.add_zero] at hst
  obtain ⟨a, c, rfl⟩ := hu
  have hcl := hs.cells
  have hN : m.min dLen = m := Nat.min_eq_left hm
  cases hq : Tryz.prog.info? 89 with
  | none => have := size3; simp [hq] at this
  | some i =>
    have hi : i.size = 2 := by have := size3; simpa [hq] using this
    simp [Builtin.copy_, run_underlying Tryz.underlying23, Builtin.lenOf, sizeOf, typeInfo, hq, hi, hN, hcl, hst]
/-- Noughts. -/
def zs (k : Nat) : List Value := (Builtin.zeroCells (Value.agg #[.int .i64 0, .int .i64 0]).cells k).toList
theorem zs_len (k : Nat) : (zs k).length = k * 2 := by
  unfold zs
  rw [Array.length_toList]
  exact zero3 k
theorem zs_one (k : Nat) : ∀ y ∈ zs k, y.oneCell' = true := fun y hy => by
  unfold zs Builtin.zeroCells at hy
  rw [Array.toList_map] at hy
  obtain ⟨i, _, rfl⟩ := List.mem_map.1 hy
  rcases Nat.mod_two_eq_zero_or_one i with h | h <;> simp [Value.cells, h, Value.oneCell']
theorem run_clear_k (w : World) (ty : TypeId) (b o k c : Nat) (hc : ∀ j, j < k * 2 → (w.cell? ⟨b, o + j, none⟩).isSome = true) (hf : ∀ j, j < k * 2 → w.frozen? ⟨b, o + j, none⟩ = false) :
    (Builtin.clear_ #[23] ty #[.slice (some ⟨b, o, none⟩) k c]).run Tryz.prog w = .ok (.tuple #[]) (w.setCells b o (zs k)) := by
  have hst := run_storeCells_cells (P := Tryz.prog) b o (zs k) 0 w (by rw [zs_len]; simpa using hc) (by rw [zs_len]; simpa using hf) (zs_one k)
  simp only [Nat.add_zero] at hst
  cases k with
  | zero =>
    have e : zs 0 = [] := List.length_eq_zero_iff.1 (by rw [zs_len])
    rw [e]
    simp [Builtin.clear_, run_underlying Tryz.underlying23, World.setCells]
  | succ k =>
    unfold zs at hst ⊢
    simp [Builtin.clear_, run_underlying Tryz.underlying23, hst]
end Go.Proofs.YtmplpdjkhdaniaaGreatDoor
