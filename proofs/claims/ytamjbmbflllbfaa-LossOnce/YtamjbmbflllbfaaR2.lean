/-
  The document's calls, plainly; that they are the program's.
-/
import Derived.Test.YtamjbmbflllbfaaR1
namespace Go.Proofs.Ytamjbmbflllbfaa
open Go.RowKit
set_option maxRecDepth 100000

def rp (f t : Int) (x : Sp) : List Sp := (if x.1 < f then [(x.1, min x.2 (f - 1))] else []) ++ (if t < x.2 then [(max x.1 (t + 1), x.2)] else [])
def rRem (l : List Sp) (f t : Int) : List Sp := (l.map (rp f t)).flatten
theorem rp_mem {f t : Int} {x y : Sp} : y ∈ rp f t x ↔ (x.1 < f ∧ y = (x.1, min x.2 (f - 1))) ∨ (t < x.2 ∧ y = (max x.1 (t + 1), x.2)) := by
  unfold rp
  rw [List.mem_append]
  constructor
  · rintro (a | a)
    · split at a
      · next q => exact .inl ⟨q, List.mem_singleton.1 a⟩
      · simp at a
    · split at a
      · next q => exact .inr ⟨q, List.mem_singleton.1 a⟩
      · simp at a
  · rintro (⟨q, rfl⟩ | ⟨q, rfl⟩)
    · left; rw [if_pos q]; simp
    · right; rw [if_pos q]; simp
theorem rp_in {f t : Int} {x y : Sp} (h : y ∈ rp f t x) (_ : f ≤ t) : x.1 ≤ y.1 ∧ y.2 ≤ x.2 := by
  rcases rp_mem.1 h with ⟨q, rfl⟩ | ⟨q, rfl⟩
  · simp only; omega
  · simp only; omega
theorem rrem_spec {f t : Int} (hok : Okk (f, t)) : ∀ {l : List Sp}, Canon l → Canon (rRem l f t) ∧ (∀ n, Mem (rRem l f t) n ↔ Mem l n ∧ ¬ (f ≤ n ∧ n ≤ t)) ∧ ∀ y ∈ rRem l f t, ∃ x ∈ l, x.1 ≤ y.1 ∧ y.2 ≤ x.2
  | [], _ => ⟨Canon.nil, fun n => ⟨fun a => absurd a (mem_nil n), fun a => absurd a.1 (mem_nil n)⟩, fun y hy => by simp [rRem] at hy⟩
  | x :: l, h => by
    obtain ⟨o1, o2, o3⟩ := id hok
    simp only at o1 o2 o3
    obtain ⟨i1, i2, i3⟩ := rrem_spec hok h.tail
    have hx := h.head
    unfold Okk at hx
    have e : rRem (x :: l) f t = rp f t x ++ rRem l f t := by unfold rRem; rw [List.map_cons, List.flatten_cons]
    rw [e]
    refine ⟨Canon.app ?_ i1 ?_, fun n => ?_, fun y hy => ?_⟩
    · unfold rp
      refine Canon.app ?_ ?_ ?_
      · split
        · refine Canon.one ?_; unfold Okk; simp only; omega
        · exact Canon.nil
      · split
        · refine Canon.one ?_; unfold Okk; simp only; omega
        · exact Canon.nil
      · intro y hy z hz
        split at hy
        · split at hz
          · rw [List.mem_singleton.1 hy, List.mem_singleton.1 hz]; simp only; omega
          · simp at hz
        · simp at hy
    · intro y hy z hz
      obtain ⟨u, hu, u1, u2⟩ := i3 z hz
      have := h.lt u hu
      have := rp_in hy o2
      omega
    · rw [mem_app, i2, mem_cons]
      constructor
      · rintro (⟨y, hy, a1, a2⟩ | a)
        · rcases rp_mem.1 hy with ⟨q, rfl⟩ | ⟨q, rfl⟩
          · simp only at a1 a2
            exact ⟨.inl (by omega), by omega⟩
          · simp only at a1 a2
            exact ⟨.inl (by omega), by omega⟩
        · exact ⟨.inr a.1, a.2⟩
      · rintro ⟨a | a, b⟩
        · left
          by_cases c : n < f
          · exact ⟨_, rp_mem.2 (.inl ⟨by omega, rfl⟩), by simp only; omega, by simp only; omega⟩
          · exact ⟨_, rp_mem.2 (.inr ⟨by omega, rfl⟩), by simp only; omega, by simp only; omega⟩
        · exact .inr ⟨a, b⟩
    · rcases List.mem_append.1 hy with hy | hy
      · exact ⟨x, List.mem_cons_self .., rp_in hy o2⟩
      · obtain ⟨u, hu, q⟩ := i3 y hy
        exact ⟨u, List.mem_cons_of_mem _ hu, q⟩
def raS : List Sp → List Sp → List Sp → Int → Int → List Sp × List Sp × Int × Int
  | [], A, B, f, t => (A, B, f, t)
  | x :: l, A, B, f, t => if x.2 < f - 1 then raS l (A ++ [x]) B f t else if t + 1 < x.1 then raS l A (B ++ [x]) f t else raS l A B (min f x.1) (max t x.2)
def raO (r : List Sp × List Sp × Int × Int) : List Sp := (r.1 ++ [(r.2.2.1, r.2.2.2)]) ++ r.2.1
def rAdd (l : List Sp) (f t : Int) : List Sp := raO (raS l [] [] f t)
theorem radd_spec : ∀ (l A B : List Sp) (f t : Int), Canon l → Canon ((A ++ [(f, t)]) ++ B) → (∀ x ∈ A, ∀ y ∈ l, x.2 + 2 ≤ y.1) → (∀ x ∈ B, ∀ y ∈ l, x.2 + 2 ≤ y.1) → (B ≠ [] → ∀ y ∈ l, t + 1 < y.1) →
    Canon (raO (raS l A B f t)) ∧ (∀ n, Mem (raO (raS l A B f t)) n ↔ Mem ((A ++ [(f, t)]) ++ B) n ∨ Mem l n)
  | [], A, B, f, t, _, h, _, _, _ => ⟨h, fun n => ⟨fun a => .inl a, fun a => a.elim id (fun a => absurd a (mem_nil n))⟩⟩
  | x :: l, A, B, f, t, hl, h, hA, hB, hT => by
    have hx := hl.head
    unfold Okk at hx
    have hxl := hl.lt
    have cA : Canon A := h.sub ((List.sublist_append_left _ _).trans (List.sublist_append_left _ _))
    have cB : Canon B := h.sub (List.sublist_append_right _ _)
    have pw := List.pairwise_append.1 h.2
    have pw1 := List.pairwise_append.1 pw.1
    have hft := h.1 (f, t) (by simp)
    unfold Okk at hft
    simp only at hft
    have aF : ∀ a ∈ A, a.2 + 2 ≤ f := fun a ha => pw1.2.2 a ha (f, t) (by simp)
    have tB : ∀ b ∈ B, t + 2 ≤ b.1 := fun b hb => pw.2.2 (f, t) (by simp) b hb
    have aX : ∀ a ∈ A, a.2 + 2 ≤ x.1 := fun a ha => hA a ha x (List.mem_cons_self ..)
    have bX : ∀ b ∈ B, b.2 + 2 ≤ x.1 := fun b hb => hB b hb x (List.mem_cons_self ..)
    have hA' : ∀ a ∈ A, ∀ y ∈ l, a.2 + 2 ≤ y.1 := fun a ha y hy => hA a ha y (List.mem_cons_of_mem _ hy)
    have hB' : ∀ b ∈ B, ∀ y ∈ l, b.2 + 2 ≤ y.1 := fun b hb y hy => hB b hb y (List.mem_cons_of_mem _ hy)
    unfold raS
    by_cases c1 : x.2 < f - 1
    · rw [if_pos c1]
      obtain ⟨i1, i2⟩ := radd_spec l (A ++ [x]) B f t hl.tail (Canon.app (Canon.app (Canon.app cA (Canon.one hx) (fun a ha y hy => by rw [List.mem_singleton.1 hy]; exact aX a ha)) (Canon.one hft) (fun a ha y hy => by
          rw [List.mem_singleton.1 hy]
          rcases List.mem_append.1 ha with ha | ha
          · exact aF a ha
          · rw [List.mem_singleton.1 ha]; simp only; omega)) cB (fun a ha b hb => by
          have := tB b hb
          rcases List.mem_append.1 ha with ha | ha
          · rcases List.mem_append.1 ha with ha | ha
            · have := aF a ha; omega
            · rw [List.mem_singleton.1 ha]; omega
          · rw [List.mem_singleton.1 ha]; simp only; omega))
        (fun a ha y hy => by
          rcases List.mem_append.1 ha with ha | ha
          · exact hA' a ha y hy
          · rw [List.mem_singleton.1 ha]; exact hxl y hy) hB' (fun hb y hy => hT hb y (List.mem_cons_of_mem _ hy))
      refine ⟨i1, fun n => ?_⟩
      rw [i2, mem_cons]
      simp only [mem_app, mem_cons]
      constructor
      · rintro ((((a | a | a) | a) | a) | a)
        · exact .inl (.inl (.inl a))
        · exact .inr (.inl a)
        · exact absurd a (mem_nil n)
        · exact .inl (.inl (.inr a))
        · exact .inl (.inr a)
        · exact .inr (.inr a)
      · rintro (((a | a) | a) | a | a)
        · exact .inl (.inl (.inl (.inl a)))
        · exact .inl (.inl (.inr a))
        · exact .inl (.inr a)
        · exact .inl (.inl (.inl (.inr (.inl a))))
        · exact .inr a
    · rw [if_neg c1]
      by_cases c2 : t + 1 < x.1
      · rw [if_pos c2]
        obtain ⟨i1, i2⟩ := radd_spec l A (B ++ [x]) f t hl.tail (Canon.app (h.sub (List.sublist_append_left _ _)) (Canon.app cB (Canon.one hx) (fun b hb y hy => by rw [List.mem_singleton.1 hy]; exact bX b hb)) (fun a ha b hb => by
            rcases List.mem_append.1 hb with hb | hb
            · exact pw.2.2 a ha b hb
            · rw [List.mem_singleton.1 hb]
              rcases List.mem_append.1 ha with ha | ha
              · exact aX a ha
              · rw [List.mem_singleton.1 ha]; simp only; omega))
          hA' (fun b hb y hy => by
            rcases List.mem_append.1 hb with hb | hb
            · exact hB' b hb y hy
            · rw [List.mem_singleton.1 hb]; exact hxl y hy) (fun _ y hy => by have := hxl y hy; omega)
        refine ⟨i1, fun n => ?_⟩
        rw [i2, mem_cons]
        simp only [mem_app, mem_cons]
        constructor
        · rintro ((a | a | a | a) | a)
          · exact .inl (.inl a)
          · exact .inl (.inr a)
          · exact .inr (.inl a)
          · exact absurd a (mem_nil n)
          · exact .inr (.inr a)
        · rintro ((a | a) | a | a)
          · exact .inl (.inl a)
          · exact .inl (.inr (.inl a))
          · exact .inl (.inr (.inr (.inl a)))
          · exact .inr a
      · rw [if_neg c2]
        have eB : B = [] := by
          cases B with
          | nil => rfl
          | cons b B => exact absurd (hT (by simp) x (List.mem_cons_self ..)) c2
        subst eB
        obtain ⟨i1, i2⟩ := radd_spec l A [] (min f x.1) (max t x.2) hl.tail (by
            rw [List.append_nil]
            refine Canon.app cA (Canon.one ?_) ?_
            · unfold Okk; simp only; omega
            · intro a ha y hy
              rw [List.mem_singleton.1 hy]
              have := aF a ha
              have := aX a ha
              simp only
              omega) hA' (fun b hb => by simp at hb) (fun hb => absurd rfl hb)
        refine ⟨i1, fun n => ?_⟩
        rw [i2, mem_cons]
        simp only [mem_app, mem_cons]
        constructor
        · rintro (((a | a | a) | a) | a)
          · exact .inl (.inl (.inl a))
          · by_cases q1 : f ≤ n ∧ n ≤ t
            · exact .inl (.inl (.inr (.inl q1)))
            · exact .inr (.inl (by omega))
          · exact absurd a (mem_nil n)
          · exact absurd a (mem_nil n)
          · exact .inr (.inr a)
        · rintro (((a | a | a) | a) | a | a)
          · exact .inl (.inl (.inl a))
          · exact .inl (.inl (.inr (.inl (by omega))))
          · exact absurd a (mem_nil n)
          · exact absurd a (mem_nil n)
          · exact .inl (.inl (.inr (.inl (by omega))))
          · exact .inr a
theorem radd_eq {l : List Sp} (h : Canon l) {f t : Int} (hok : Okk (f, t)) : rAdd l f t = addL l f t := by
  obtain ⟨a1, a2⟩ := add_spec h hok
  obtain ⟨b1, b2⟩ := radd_spec l [] [] f t h (by simpa using Canon.one hok) (fun x hx => by simp at hx) (fun x hx => by simp at hx) (fun hb => absurd rfl hb)
  refine canon_ext b1 a1 fun n => ?_
  rw [show rAdd l f t = raO (raS l [] [] f t) from rfl, b2, a2]
  simp only [mem_app, mem_cons]
  constructor
  · rintro (((a | a | a) | a) | a)
    · exact absurd a (mem_nil n)
    · exact .inr a
    · exact absurd a (mem_nil n)
    · exact absurd a (mem_nil n)
    · exact .inl a
  · rintro (a | a)
    · exact .inr a
    · exact .inl (.inl (.inr (.inl a)))
theorem rrem_eq {l : List Sp} (h : Canon l) {f t : Int} (hok : Okk (f, t)) : rRem l f t = remL l f t := by
  obtain ⟨a1, a2⟩ := rem_spec h hok
  obtain ⟨b1, b2, -⟩ := rrem_spec hok h
  exact canon_ext b1 a1 fun n => by rw [b2, a2]
/-- What Add leaves, and tells. -/
def adP (l : List Sp) (f t : Int) : List Sp := if may f t = true ∧ cnt (clip l f t) ≠ t - f + 1 then addL l f t else l
def adB (l : List Sp) (f t : Int) : Bool := may f t && !decide (cnt (clip l f t) = t - f + 1)
theorem adP_eq {l : List Sp} (h : Canon l) (f t : Int) : (if may f t = true then rAdd l f t else l) = adP l f t := by
  unfold adP
  by_cases hm : may f t = true
  · have hok := (may_iff f t).1 hm
    rw [if_pos hm, radd_eq h hok]
    by_cases hc : cnt (clip l f t) = t - f + 1
    · rw [if_neg (fun a => a.2 hc)]
      obtain ⟨a1, a2⟩ := add_spec h hok
      have hf := full_of (clip_canon h hok.2.1) hok.1 hok.2.1 hok.2.2 (fun n => clip_mem h n) hc
      refine canon_ext a1 h fun n => ?_
      rw [a2]
      exact ⟨fun a => a.elim id (fun a => hf n a.1 a.2), .inl⟩
    · rw [if_pos ⟨hm, hc⟩]
  · rw [if_neg hm, if_neg (fun a => hm a.1)]
theorem adP_canon {l : List Sp} (h : Canon l) (f t : Int) : Canon (adP l f t) := by
  unfold adP
  split
  · next q => exact (add_spec h ((may_iff f t).1 q.1)).1
  · exact h
theorem adP_cnt {l : List Sp} (h : Canon l) (f t : Int) : decide (cnt l < cnt (adP l f t)) = adB l f t := by
  unfold adB
  by_cases hm : may f t = true
  · have hok := (may_iff f t).1 hm
    have hft := hok.2.1
    simp only at hft
    obtain ⟨a1, a2⟩ := add_spec h hok
    have e := cnt_add h a1 (clip_canon h hft) hok.1 hft hok.2.2 a2 (fun n => clip_mem h n)
    unfold adP
    by_cases hc : cnt (clip l f t) = t - f + 1
    · rw [if_neg (fun a => a.2 hc), hm, decide_eq_true hc]
      simp
    · rw [if_pos ⟨hm, hc⟩, hm, decide_eq_false hc]
      have hge : cnt (clip l f t) ≤ t - f + 1 := by
        obtain ⟨N, hN⟩ : ∃ N : Nat, N = 1099511627777 := ⟨_, rfl⟩
        have k1 := cnt_kc hN (clip l f t) (clip_canon h hft)
        have k2 := cnt_kc hN [(f, t)] (Canon.one hok)
        have k3 : kc (memb (clip l f t)) N ≤ kc (memb [(f, t)]) N := kc_le (fun i hi => by
          have := ((clip_mem h i).1 ((memb_iff _ _).1 hi)).2
          exact (memb_iff _ _).2 ⟨_, List.mem_singleton.2 rfl, this⟩) N
        simp only [cnt] at k2
        omega
      simp
      omega
  · have e : may f t = false := by simpa using hm
    unfold adP
    rw [if_neg (fun a => hm a.1), e]
    simp
/-- What Remove leaves, and tells. -/
def rmP (l : List Sp) (f t : Int) : List Sp := if may f t = true then remL l f t else l
def rmN (l : List Sp) (f t : Int) : Int := if may f t = true then cnt (clip l f t) else 0
theorem rmP_eq {l : List Sp} (h : Canon l) (f t : Int) : (if may f t = true then rRem l f t else l) = rmP l f t := by
  unfold rmP
  by_cases hm : may f t = true
  · rw [if_pos hm, if_pos hm, rrem_eq h ((may_iff f t).1 hm)]
  · rw [if_neg hm, if_neg hm]
theorem rmP_canon {l : List Sp} (h : Canon l) (f t : Int) : Canon (rmP l f t) := by
  unfold rmP
  split
  · next q => exact (rem_spec h ((may_iff f t).1 q)).1
  · exact h
theorem rmP_cnt {l : List Sp} (h : Canon l) (f t : Int) : rmN l f t = cnt l - cnt (rmP l f t) := by
  unfold rmN rmP
  by_cases hm : may f t = true
  · have hok := (may_iff f t).1 hm
    obtain ⟨a1, a2⟩ := rem_spec h hok
    have hft := hok.2.1
    simp only at hft
    have := cnt_rem h a1 (clip_canon h hft) a2 (fun n => clip_mem h n)
    rw [if_pos hm, if_pos hm]
    omega
  · rw [if_neg hm, if_neg hm]
    omega
/-- What Trim leaves, and tells. -/
def trN (l : List Sp) (m : Int) : Nat := ((l.length : Int) - max m 0).toNat
def trP (l : List Sp) (m : Int) : List Sp := l.drop (trN l m)
theorem trP_canon {l : List Sp} (h : Canon l) (m : Int) : Canon (trP l m) := h.sub (List.drop_sublist ..)
/-- What is not there, as the document says. -/
def rGs : List Sp → List Sp → List Sp
  | [], X => X
  | s :: l, X => rGs l (rRem X s.1 s.2)
def rGap (l : List Sp) (f t : Int) : List Sp := if may f t = true then rGs l [(f, t)] else []
theorem rgs_spec : ∀ (l X : List Sp), Canon l → Canon X → Canon (rGs l X) ∧ ∀ n, Mem (rGs l X) n ↔ Mem X n ∧ ¬ Mem l n
  | [], X, _, h => ⟨h, fun n => ⟨fun a => ⟨a, mem_nil n⟩, fun a => a.1⟩⟩
  | s :: l, X, hl, h => by
    obtain ⟨b1, b2, -⟩ := rrem_spec (f := s.1) (t := s.2) hl.head h
    obtain ⟨i1, i2⟩ := rgs_spec l (rRem X s.1 s.2) hl.tail b1
    refine ⟨i1, fun n => ?_⟩
    unfold rGs
    rw [i2, b2, mem_cons]
    constructor
    · rintro ⟨⟨a, b⟩, c⟩
      exact ⟨a, fun q => q.elim b c⟩
    · rintro ⟨a, b⟩
      exact ⟨⟨a, fun q => b (.inl q)⟩, fun q => b (.inr q)⟩
theorem rgap_eq {l : List Sp} (h : Canon l) (f t : Int) : rGap l f t = gapL l f t := by
  by_cases hm : may f t = true
  · have hok := (may_iff f t).1 hm
    obtain ⟨a1, a2⟩ := gapL_spec h hok
    obtain ⟨b1, b2⟩ := rgs_spec l [(f, t)] h (Canon.one hok)
    unfold rGap
    rw [if_pos hm]
    refine canon_ext b1 a1 fun n => ?_
    rw [b2, a2, mem_cons]
    constructor
    · rintro ⟨a | a, b⟩
      · exact ⟨a, b⟩
      · exact absurd a (mem_nil n)
    · rintro ⟨a, b⟩
      exact ⟨.inl a, b⟩
  · unfold rGap gapL
    rw [if_neg hm, if_neg hm]
/-- Whether a number is there. -/
def has (l : List Sp) (n : Int) : Bool := l.any fun x => decide (x.1 ≤ n) && decide (n ≤ x.2)
theorem has_iff (l : List Sp) (n : Int) : has l n = true ↔ Mem l n := by
  unfold has Mem
  simp only [List.any_eq_true, Bool.and_eq_true, decide_eq_true_eq]
theorem has_cnt {l : List Sp} (h : Canon l) (n : Int) : decide (0 < cnt (clip l n n)) = has l n := by
  have hc := clip_canon h (Int.le_refl n)
  have h0 := cnt_nonneg hc
  have hp := cnt_pos hc
  rw [Bool.eq_iff_iff, has_iff, decide_eq_true_eq]
  constructor
  · intro a
    cases hcl : clip l n n with
    | nil => rw [hcl] at a; simp [cnt] at a
    | cons y c =>
      have := (clip_mem h y.1).1 (by rw [hcl]; exact (mem_cons _ _ _).2 (.inl ⟨Int.le_refl _, by rw [hcl] at hc; exact hc.head.2.1⟩))
      have e : y.1 = n := by omega
      rw [← e]
      exact this.1
  · intro a
    have : Mem (clip l n n) n := (clip_mem h n).2 ⟨a, Int.le_refl _, Int.le_refl _⟩
    have hne : clip l n n ≠ [] := fun e => by rw [e] at this; exact mem_nil n this
    have : cnt (clip l n n) ≠ 0 := fun e => hne (hp.1 e)
    omega
end Go.Proofs.Ytamjbmbflllbfaa
