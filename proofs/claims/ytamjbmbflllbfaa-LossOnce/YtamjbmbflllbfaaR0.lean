/-
  Sets of numbers as spans, plainly.
-/
import Derived.Test.YtamjbmbflllbfaaBa
namespace Go.Proofs.Ytamjbmbflllbfaa
open Go.RowKit
set_option maxRecDepth 100000

abbrev Sp := Int × Int
/-- A set's spans. -/
def Okk (x : Sp) : Prop := 0 ≤ x.1 ∧ x.1 ≤ x.2 ∧ x.2 ≤ 1099511627776
def Canon (l : List Sp) : Prop := (∀ x ∈ l, Okk x) ∧ l.Pairwise (fun x y => x.2 + 2 ≤ y.1)
def Mem (l : List Sp) (n : Int) : Prop := ∃ x ∈ l, x.1 ≤ n ∧ n ≤ x.2
theorem Canon.nil : Canon [] := ⟨fun x h => by simp at h, List.Pairwise.nil⟩
theorem Canon.tail {x : Sp} {l : List Sp} (h : Canon (x :: l)) : Canon l := ⟨fun y hy => h.1 y (List.mem_cons_of_mem _ hy), (List.pairwise_cons.1 h.2).2⟩
theorem Canon.head {x : Sp} {l : List Sp} (h : Canon (x :: l)) : Okk x := h.1 x (List.mem_cons_self ..)
theorem Canon.lt {x : Sp} {l : List Sp} (h : Canon (x :: l)) : ∀ y ∈ l, x.2 + 2 ≤ y.1 := (List.pairwise_cons.1 h.2).1
theorem Canon.one {x : Sp} (h : Okk x) : Canon [x] := ⟨fun y hy => by rw [List.mem_singleton.1 hy]; exact h, List.pairwise_singleton _ _⟩
theorem Canon.sub {l m : List Sp} (h : Canon l) (hs : m.Sublist l) : Canon m := ⟨fun x hx => h.1 x (hs.subset hx), h.2.sublist hs⟩
theorem Canon.app {l m : List Sp} (h1 : Canon l) (h2 : Canon m) (h : ∀ x ∈ l, ∀ y ∈ m, x.2 + 2 ≤ y.1) : Canon (l ++ m) :=
  ⟨fun x hx => (List.mem_append.1 hx).elim (h1.1 x) (h2.1 x), List.pairwise_append.2 ⟨h1.2, h2.2, h⟩⟩
theorem mem_nil (n : Int) : ¬ Mem [] n := fun ⟨x, h, _⟩ => by simp at h
theorem mem_cons (x : Sp) (l : List Sp) (n : Int) : Mem (x :: l) n ↔ (x.1 ≤ n ∧ n ≤ x.2) ∨ Mem l n := by
  unfold Mem
  constructor
  · rintro ⟨y, hy, h⟩
    rcases List.mem_cons.1 hy with rfl | hy
    · exact .inl h
    · exact .inr ⟨y, hy, h⟩
  · rintro (h | ⟨y, hy, h⟩)
    · exact ⟨x, List.mem_cons_self .., h⟩
    · exact ⟨y, List.mem_cons_of_mem _ hy, h⟩
theorem mem_app (l m : List Sp) (n : Int) : Mem (l ++ m) n ↔ Mem l n ∨ Mem m n := by
  induction l with
  | nil => simp [mem_nil]
  | cons x l ih => rw [List.cons_append, mem_cons, mem_cons, ih, or_assoc]
theorem Canon.mem_ge {x : Sp} {l : List Sp} (h : Canon (x :: l)) {n : Int} (hn : Mem (x :: l) n) : x.1 ≤ n := by
  rcases (mem_cons _ _ _).1 hn with h1 | ⟨y, hy, h1, _⟩
  · exact h1.1
  · have := h.lt y hy
    have := h.head.2.1
    omega
theorem Canon.mem_tail {x : Sp} {l : List Sp} (h : Canon (x :: l)) (n : Int) : Mem l n ↔ Mem (x :: l) n ∧ x.2 < n := by
  rw [mem_cons]
  constructor
  · intro hn
    obtain ⟨y, hy, h1, h2⟩ := hn
    exact ⟨.inr ⟨y, hy, h1, h2⟩, by have := h.lt y hy; omega⟩
  · rintro ⟨h1 | h1, h2⟩
    · omega
    · exact h1
theorem Canon.not_next {x : Sp} {l : List Sp} (h : Canon (x :: l)) : ¬ Mem (x :: l) (x.2 + 1) := by
  rw [mem_cons]
  rintro (h1 | ⟨y, hy, h1, h2⟩)
  · omega
  · have := h.lt y hy
    omega
theorem canon_ext : ∀ {l m : List Sp}, Canon l → Canon m → (∀ n, Mem l n ↔ Mem m n) → l = m
  | [], [], _, _, _ => rfl
  | [], y :: m, _, hm, h => absurd ((h y.1).2 ((mem_cons _ _ _).2 (.inl ⟨Int.le_refl _, hm.head.2.1⟩))) (mem_nil _)
  | x :: l, [], hl, _, h => absurd ((h x.1).1 ((mem_cons _ _ _).2 (.inl ⟨Int.le_refl _, hl.head.2.1⟩))) (mem_nil _)
  | x :: l, y :: m, hl, hm, h => by
    have a1 := hm.mem_ge ((h x.1).1 ((mem_cons _ _ _).2 (.inl ⟨Int.le_refl _, hl.head.2.1⟩)))
    have a2 := hl.mem_ge ((h y.1).2 ((mem_cons _ _ _).2 (.inl ⟨Int.le_refl _, hm.head.2.1⟩)))
    have b1 := hl.head.2.1
    have b2 := hm.head.2.1
    have e2 : x.2 = y.2 := by
      have c1 := hl.not_next
      have c2 := hm.not_next
      by_cases h1 : x.2 < y.2
      · exact absurd ((h (x.2 + 1)).2 ((mem_cons _ _ _).2 (.inl (by omega)))) c1
      · by_cases h2 : y.2 < x.2
        · exact absurd ((h (y.2 + 1)).1 ((mem_cons _ _ _).2 (.inl (by omega)))) c2
        · omega
    have e : x = y := Prod.ext (by omega) e2
    subst e
    rw [canon_ext hl.tail hm.tail (fun n => by rw [hl.mem_tail, hm.mem_tail, h])]
/-- How many numbers there are. -/
def cnt : List Sp → Int
  | [] => 0
  | x :: l => (x.2 - x.1 + 1) + cnt l
theorem cnt_app (l m : List Sp) : cnt (l ++ m) = cnt l + cnt m := by
  induction l with
  | nil => simp [cnt]
  | cons x l ih => simp only [List.cons_append, cnt, ih]; omega
/-- How many of the first numbers are told. -/
def kc (p : Nat → Bool) : Nat → Nat
  | 0 => 0
  | n + 1 => kc p n + (if p n = true then 1 else 0)
theorem kc_congr {p q : Nat → Bool} (h : ∀ i, p i = q i) : ∀ n, kc p n = kc q n
  | 0 => rfl
  | n + 1 => by unfold kc; rw [kc_congr h n, h n]
theorem kc_or (p q : Nat → Bool) : ∀ n, kc (fun i => p i || q i) n + kc (fun i => p i && q i) n = kc p n + kc q n
  | 0 => rfl
  | n + 1 => by
    have := kc_or p q n
    simp only [kc]
    by_cases hp : p n = true <;> by_cases hq : q n = true <;> simp [hp, hq] <;> omega
theorem kc_none {p : Nat → Bool} (h : ∀ i, p i = false) : ∀ n, kc p n = 0
  | 0 => rfl
  | n + 1 => by unfold kc; rw [kc_none h n, h n]; rfl
theorem kc_le {p q : Nat → Bool} (h : ∀ i, p i = true → q i = true) : ∀ n, kc p n ≤ kc q n
  | 0 => Nat.le_refl _
  | n + 1 => by
    have := kc_le h n
    have hn := h n
    unfold kc
    cases hp : p n
    · simp; omega
    · rw [hn hp]; simp; omega
theorem kc_all {p q : Nat → Bool} (h : ∀ i, p i = true → q i = true) : ∀ n, kc p n = kc q n → ∀ i, i < n → q i = true → p i = true
  | 0, _, i, hi, _ => by omega
  | n + 1, he, i, hi, hq => by
    have hle := kc_le h n
    unfold kc at he
    by_cases hin : i = n
    · subst hin
      rw [hq] at he
      cases hp : p i with
      | true => rfl
      | false => rw [hp] at he; simp at he; omega
    · refine kc_all h n ?_ i (by omega) hq
      have hn := h n
      cases hp : p n with
      | true => rw [hp, hn hp] at he; omega
      | false =>
        rw [hp] at he
        cases hqn : q n with
        | false => rw [hqn] at he; omega
        | true => rw [hqn] at he; simp at he; omega
def inx (a b : Int) (i : Nat) : Bool := decide (a ≤ (i : Int)) && decide ((i : Int) ≤ b)
theorem kc_inx (a b : Int) (ha : 0 ≤ a) (hab : a ≤ b + 1) : ∀ n : Nat, (kc (inx a b) n : Int) = (if (n : Int) ≤ a then 0 else if (n : Int) ≤ b + 1 then n - a else b + 1 - a)
  | 0 => by simp [kc]; omega
  | n + 1 => by
    have := kc_inx a b ha hab n
    have e : inx a b n = (decide (a ≤ (n : Int)) && decide ((n : Int) ≤ b)) := rfl
    unfold kc
    by_cases h1 : a ≤ (n : Int)
    · by_cases h2 : (n : Int) ≤ b
      · rw [e, decide_eq_true h1, decide_eq_true h2]
        simp only [Bool.and_self, if_true]
        split at this <;> split <;> (try split at this) <;> (try split) <;> omega
      · rw [e, decide_eq_false h2, Bool.and_false]
        simp only [Bool.false_eq_true, if_false]
        split at this <;> split <;> (try split at this) <;> (try split) <;> omega
    · rw [e, decide_eq_false h1, Bool.false_and]
      simp only [Bool.false_eq_true, if_false]
      split at this <;> split <;> (try split at this) <;> (try split) <;> omega
def memb (l : List Sp) (i : Nat) : Bool := l.any fun x => inx x.1 x.2 i
theorem memb_iff (l : List Sp) (i : Nat) : memb l i = true ↔ Mem l i := by
  unfold memb Mem inx
  simp only [List.any_eq_true, Bool.and_eq_true, decide_eq_true_eq]
theorem cnt_kc {N : Nat} (hN : N = 1099511627777) : ∀ l, Canon l → cnt l = (kc (memb l) N : Int)
  | [], _ => by rw [kc_none (p := memb []) (fun i => rfl)]; rfl
  | x :: l, h => by
    have ih := cnt_kc hN l h.tail
    have ho := kc_or (inx x.1 x.2) (memb l) N
    have e1 : kc (memb (x :: l)) N = kc (fun i => inx x.1 x.2 i || memb l i) N := kc_congr (fun i => rfl) N
    have e2 : kc (fun i => inx x.1 x.2 i && memb l i) N = 0 := kc_none (fun i => by
      cases h1 : inx x.1 x.2 i with
      | false => rfl
      | true =>
        cases h2 : memb l i with
        | false => rfl
        | true =>
          obtain ⟨y, hy, h3, _⟩ := (memb_iff _ _).1 h2
          have := h.lt y hy
          unfold inx at h1
          simp only [Bool.and_eq_true, decide_eq_true_eq] at h1
          omega) N
    have hx := h.head
    have e3 := kc_inx x.1 x.2 hx.1 (by have := hx.2.1; omega) N
    have hb := hx.2
    rw [if_neg (by omega)] at e3
    rw [cnt, ih, e1]
    split at e3 <;> omega
theorem cnt_nonneg {l : List Sp} (h : Canon l) : 0 ≤ cnt l := by
  induction l with
  | nil => simp [cnt]
  | cons x l ih =>
    have := ih h.tail
    have := h.head.2.1
    simp only [cnt]
    omega
theorem cnt_le {l : List Sp} (h : Canon l) : cnt l ≤ (1099511627777 : Int) * l.length := by
  induction l with
  | nil => simp [cnt]
  | cons x l ih =>
    have := ih h.tail
    have := h.head
    unfold Okk at this
    simp only [cnt, List.length_cons]
    omega
theorem nat_of {n : Int} (h : 0 ≤ n) : ∃ i : Nat, (i : Int) = n := ⟨n.toNat, by omega⟩
theorem Canon.mem_bd {l : List Sp} (h : Canon l) {n : Int} (hn : Mem l n) : 0 ≤ n ∧ n ≤ 1099511627776 := by
  obtain ⟨x, hx, h1, h2⟩ := hn
  have := h.1 x hx
  unfold Okk at this
  omega
/-- Counts, where a span comes in. -/
theorem cnt_add {l m c : List Sp} {f t : Int} (hl : Canon l) (hm : Canon m) (hc : Canon c) (hf : 0 ≤ f) (hft : f ≤ t) (ht : t ≤ 1099511627776)
    (h1 : ∀ n, Mem m n ↔ Mem l n ∨ (f ≤ n ∧ n ≤ t)) (h2 : ∀ n, Mem c n ↔ Mem l n ∧ f ≤ n ∧ n ≤ t) : cnt m + cnt c = cnt l + (t - f + 1) := by
  obtain ⟨N, hN⟩ : ∃ N : Nat, N = 1099511627777 := ⟨_, rfl⟩
  rw [cnt_kc hN m hm, cnt_kc hN c hc, cnt_kc hN l hl]
  have ho := kc_or (memb l) (inx f t) N
  have e1 : kc (memb m) N = kc (fun i => memb l i || inx f t i) N := kc_congr (fun i => by
    rw [Bool.eq_iff_iff, memb_iff, h1, Bool.or_eq_true, memb_iff]
    unfold inx
    simp) N
  have e2 : kc (memb c) N = kc (fun i => memb l i && inx f t i) N := kc_congr (fun i => by
    rw [Bool.eq_iff_iff, memb_iff, h2, Bool.and_eq_true, memb_iff]
    unfold inx
    simp) N
  have e3 := kc_inx f t hf (by omega) N
  rw [if_neg (by omega)] at e3
  rw [e1, e2]
  split at e3 <;> omega
theorem cnt_rem {l m c : List Sp} {f t : Int} (hl : Canon l) (hm : Canon m) (hc : Canon c)
    (h1 : ∀ n, Mem m n ↔ Mem l n ∧ ¬ (f ≤ n ∧ n ≤ t)) (h2 : ∀ n, Mem c n ↔ Mem l n ∧ f ≤ n ∧ n ≤ t) : cnt l = cnt m + cnt c := by
  obtain ⟨N, hN⟩ : ∃ N : Nat, N = 1099511627777 := ⟨_, rfl⟩
  rw [cnt_kc hN m hm, cnt_kc hN c hc, cnt_kc hN l hl]
  have ho := kc_or (memb m) (memb c) N
  have e1 : kc (memb l) N = kc (fun i => memb m i || memb c i) N := kc_congr (fun i => by
    rw [Bool.eq_iff_iff, memb_iff, Bool.or_eq_true, memb_iff, memb_iff, h1, h2]
    constructor
    · intro h
      by_cases h' : f ≤ (i : Int) ∧ (i : Int) ≤ t
      · exact .inr ⟨h, h'⟩
      · exact .inl ⟨h, h'⟩
    · rintro (h | h)
      · exact h.1
      · exact h.1) N
  have e2 : kc (fun i => memb m i && memb c i) N = 0 := kc_none (fun i => by
    cases h3 : memb m i with
    | false => rfl
    | true =>
      cases h4 : memb c i with
      | false => rfl
      | true => exact absurd ((h2 i).1 ((memb_iff _ _).1 h4)).2 ((h1 i).1 ((memb_iff _ _).1 h3)).2) N
  omega
/-- All of a span is there where its count is the span's. -/
theorem full_of {l c : List Sp} {f t : Int} (hc : Canon c) (hf : 0 ≤ f) (hft : f ≤ t) (ht : t ≤ 1099511627776) (h2 : ∀ n, Mem c n ↔ Mem l n ∧ f ≤ n ∧ n ≤ t) (he : cnt c = t - f + 1) : ∀ n, f ≤ n → n ≤ t → Mem l n := by
  obtain ⟨N, hN⟩ : ∃ N : Nat, N = 1099511627777 := ⟨_, rfl⟩
  rw [cnt_kc hN c hc] at he
  have e3 := kc_inx f t hf (by omega) N
  rw [if_neg (by omega)] at e3
  replace e3 : (kc (inx f t) N : Int) = t + 1 - f := by split at e3 <;> omega
  intro n h1 h3
  obtain ⟨i, rfl⟩ := nat_of (show 0 ≤ n by omega)
  have := kc_all (p := memb c) (q := inx f t) (fun i hi => by
    have := ((h2 i).1 ((memb_iff _ _).1 hi)).2
    unfold inx
    simp only [Bool.and_eq_true, decide_eq_true_eq]
    exact this) N (by omega) i (by omega) (by unfold inx; simp only [Bool.and_eq_true, decide_eq_true_eq]; omega)
  exact ((h2 i).1 ((memb_iff _ _).1 this)).1
theorem cnt_pos {c : List Sp} (hc : Canon c) : cnt c = 0 ↔ c = [] := by
  cases c with
  | nil => simp [cnt]
  | cons x c =>
    have := cnt_nonneg hc.tail
    have := hc.head.2.1
    simp only [cnt]
    constructor
    · intro h; omega
    · intro h; cases h
end Go.Proofs.Ytamjbmbflllbfaa
