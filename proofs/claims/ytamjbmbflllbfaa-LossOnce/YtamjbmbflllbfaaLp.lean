/-
  Ledgers, plainly.
-/
import Derived.Test.YtamjbmbflllbfaaGc
namespace Go.Proofs.Ytamjbmbflllbfaa
open Go.RowKit
set_option maxRecDepth 100000

/-- A packet. -/
structure Pk where
  n : Int
  t : Int
  z : Int
  a : Bool
deriving DecidableEq
def Pk.c (p : Pk) : List Value := [.int .i64 p.n, .int .i64 p.t, .int .i64 p.z, .bool p.a]
abbrev Pk.v (p : Pk) : Value := .agg #[.int .i64 p.n, .int .i64 p.t, .int .i64 p.z, .bool p.a]
abbrev pk0 : Pk := ⟨0, 0, 0, false⟩
/-- A ledger: what is open, the number and the time of the packet sent last, the largest. -/
structure Lg where
  o : List Pk
  n : Int
  t : Int
  g : Int
abbrev lg0 : Lg := ⟨[], -1, 0, -1⟩
def tm (n : Int) : Bool := decide (0 ≤ n) && decide (n ≤ 1099511627776)
theorem tm_iff {n : Int} : tm n = true ↔ 0 ≤ n ∧ n ≤ 1099511627776 := by unfold tm; rw [Bool.and_eq_true, decide_eq_true_eq, decide_eq_true_eq]
theorem tm_no {n : Int} : tm n = false ↔ ¬ (0 ≤ n ∧ n ≤ 1099511627776) := by rw [← tm_iff]; simp
/-- A packet that a ledger may have. -/
structure Pk.ok (p : Pk) (n t : Int) : Prop where
  n0 : 0 ≤ p.n
  n1 : p.n ≤ n
  t0 : 0 ≤ p.t
  t1 : p.t ≤ t
  z0 : 1 ≤ p.z
  z1 : p.z ≤ 1200
structure Lg.ok (s : Lg) : Prop where
  ri : s.o.Pairwise (fun p q => p.n < q.n ∧ p.t ≤ q.t)
  ea : ∀ p ∈ s.o, p.ok s.n s.t
  n0 : -1 ≤ s.n
  n1 : s.n ≤ 1099511627776
  t0 : 0 ≤ s.t
  t1 : s.t ≤ 1099511627776
  g0 : -1 ≤ s.g
  g1 : s.g ≤ s.n
  ln : s.o.length ≤ 1024
theorem lg0_ok : lg0.ok := ⟨List.Pairwise.nil, fun p h => by simp at h, by simp, by simp, by simp, by simp, by simp, by simp, by simp⟩
/-- Whether a packet may be sent. -/
def mgo (s : Lg) (p : Pk) : Bool := tm p.n && tm p.t && decide (s.n < p.n) && decide (s.t ≤ p.t) && decide (1 ≤ p.z) && decide (p.z ≤ 1200)
theorem mgo_iff {s : Lg} {p : Pk} : mgo s p = true ↔ (0 ≤ p.n ∧ p.n ≤ 1099511627776) ∧ (0 ≤ p.t ∧ p.t ≤ 1099511627776) ∧ s.n < p.n ∧ s.t ≤ p.t ∧ 1 ≤ p.z ∧ p.z ≤ 1200 := by
  unfold mgo
  simp only [Bool.and_eq_true, tm_iff, decide_eq_true_eq]
  exact ⟨fun h => ⟨h.1.1.1.1.1, h.1.1.1.1.2, h.1.1.1.2, h.1.1.2, h.1.2, h.2⟩, fun h => ⟨⟨⟨⟨⟨h.1, h.2.1⟩, h.2.2.1⟩, h.2.2.2.1⟩, h.2.2.2.2.1⟩, h.2.2.2.2.2⟩⟩
def sendE (s : Lg) (p : Pk) : Int := if mgo s p = true then (if s.o.length = 1024 then 10 else 0) else 2
def sendL (s : Lg) (p : Pk) : Lg := if sendE s p = 0 then ⟨s.o ++ [p], p.n, p.t, s.g⟩ else s
theorem sendE_no {s : Lg} {p : Pk} (h : mgo s p = false) : sendE s p = 2 ∧ sendL s p = s := by
  have e : sendE s p = 2 := by unfold sendE; rw [h]; rfl
  exact ⟨e, by unfold sendL; rw [e]; rfl⟩
theorem sendE_full {s : Lg} {p : Pk} (h : mgo s p = true) (hl : s.o.length = 1024) : sendE s p = 10 ∧ sendL s p = s := by
  have e : sendE s p = 10 := by unfold sendE; rw [if_pos h, if_pos hl]
  exact ⟨e, by unfold sendL; rw [e]; rfl⟩
theorem sendE_yes {s : Lg} {p : Pk} (h : mgo s p = true) (hl : s.o.length ≠ 1024) : sendE s p = 0 ∧ sendL s p = ⟨s.o ++ [p], p.n, p.t, s.g⟩ := by
  have e : sendE s p = 0 := by unfold sendE; rw [if_pos h, if_neg hl]
  exact ⟨e, by unfold sendL; rw [e]; rfl⟩
theorem send_ok {s : Lg} {p : Pk} (h : s.ok) (hp : mgo s p = true) (hl : s.o.length ≠ 1024) : Lg.ok ⟨s.o ++ [p], p.n, p.t, s.g⟩ := by
  obtain ⟨a1, a2, a3, a4, a5, a6⟩ := mgo_iff.1 hp
  have := h.g1
  have := h.g0
  have := h.ln
  refine ⟨List.pairwise_append.2 ⟨h.ri, List.pairwise_singleton _ _, fun x hx y hy => ?_⟩, fun q hq => ?_, by simp only; omega, by simp only; omega, by simp only; omega, by simp only; omega, h.g0, by simp only; omega, by rw [List.length_append, List.length_singleton]; omega⟩
  · rw [List.mem_singleton.1 hy]
    have hx := h.ea x hx
    have := hx.n1
    have := hx.t1
    omega
  · rcases List.mem_append.1 hq with hq | hq
    · have hx := h.ea q hq
      exact ⟨hx.n0, by have := hx.n1; simp only; omega, hx.t0, by have := hx.t1; simp only; omega, hx.z0, hx.z1⟩
    · rw [List.mem_singleton.1 hq]
      exact ⟨by omega, by simp, by omega, by simp, by omega, by omega⟩
theorem sendL_ok {s : Lg} (h : s.ok) (p : Pk) : (sendL s p).ok := by
  cases hp : mgo s p
  · rw [(sendE_no hp).2]; exact h
  · by_cases hl : s.o.length = 1024
    · rw [(sendE_full hp hl).2]; exact h
    · rw [(sendE_yes hp hl).2]; exact send_ok h hp hl
/-- What is taken, what is left. -/
def tkL (s : Lg) (f : Pk → Bool) : Lg := ⟨s.o.filter (fun p => !f p), s.n, s.t, s.g⟩
theorem tkL_ok {s : Lg} (h : s.ok) (f : Pk → Bool) : (tkL s f).ok := ⟨h.ri.sublist List.filter_sublist, fun p hp => h.ea p (List.mem_filter.1 hp).1, h.n0, h.n1, h.t0, h.t1, h.g0, h.g1, Nat.le_trans (List.length_filter_le ..) h.ln⟩
/-- Whether a number is in spans. -/
def inS (l : List Sp) (n : Int) : Bool := l.any fun x => decide (x.1 ≤ n) && decide (n ≤ x.2)
def lstT (l : List Sp) : Int := (atS l (l.length - 1)).2
def comE (s : Lg) (l : List Sp) (now : Int) : Int := if chkL l ≠ 0 then chkL l else if s.n < lstT l then 16 else if now < s.t ∨ 1099511627776 < now then 21 else 0
theorem chkL_zero {l : List Sp} (h : chkL l = 0) : Canon l ∧ l ≠ [] ∧ l.length ≤ 64 := by
  unfold chkL at h
  by_cases h1 : 64 < l.length
  · rw [if_pos h1] at h; cases h
  · rw [if_neg h1] at h
    by_cases h2 : l = [] ∨ setL l ≠ l
    · rw [if_pos h2] at h; cases h
    · refine ⟨?_, fun e => h2 (.inl e), by omega⟩
      have e : setL l = l := Decidable.byContradiction fun e => h2 (.inr e)
      rw [← e]
      exact (setL_spec l).1
theorem comE_zero {s : Lg} {l : List Sp} {now : Int} (h : comE s l now = 0) : chkL l = 0 ∧ lstT l ≤ s.n ∧ s.t ≤ now ∧ now ≤ 1099511627776 := by
  unfold comE at h
  by_cases h1 : chkL l = 0
  · rw [if_neg (fun e => e h1)] at h
    by_cases h2 : s.n < lstT l
    · rw [if_pos h2] at h; cases h
    · rw [if_neg h2] at h
      by_cases h3 : now < s.t ∨ 1099511627776 < now
      · rw [if_pos h3] at h; cases h
      · exact ⟨h1, by omega, by omega, by omega⟩
  · rw [if_pos h1] at h; exact absurd h h1
def gotP (s : Lg) (l : List Sp) : List Pk := s.o.filter fun p => inS l p.n
def smp (got : List Pk) (to now : Int) : Int × Bool := if got.any (·.a) = true ∧ (got.getD (got.length - 1) pk0).n = to then (now - (got.getD (got.length - 1) pk0).t, true) else (0, false)
def ackS (s : Lg) (l : List Sp) (now : Int) : Int × Bool := if s.g < lstT l then smp (gotP s l) (lstT l) now else (0, false)
def ackL (s : Lg) (l : List Sp) : Lg := ⟨s.o.filter (fun p => !inS l p.n), s.n, s.t, max s.g (lstT l)⟩
theorem ackL_ok {s : Lg} (h : s.ok) {l : List Sp} (hl : lstT l ≤ s.n) : (ackL s l).ok := by
  have k := tkL_ok h (fun p => inS l p.n)
  have := h.g0
  have := h.g1
  exact ⟨k.ri, k.ea, k.n0, k.n1, k.t0, k.t1, by show -1 ≤ max s.g (lstT l); omega, by show max s.g (lstT l) ≤ s.n; omega, k.ln⟩
/-- Whether a packet is lost. -/
def lstF (g now late : Int) (p : Pk) : Bool := decide (p.n ≤ g - 3) || (decide (p.n < g) && decide (p.t ≤ now - late))
def lostP (s : Lg) (now late : Int) : List Pk := if (tm now && tm late) = true then s.o.filter (lstF s.g now late) else []
def lostL (s : Lg) (now late : Int) : Lg := if (tm now && tm late) = true then tkL s (lstF s.g now late) else s
theorem lostL_ok {s : Lg} (h : s.ok) (now late : Int) : (lostL s now late).ok := by
  unfold lostL
  split
  · exact tkL_ok h _
  · exact h
/-- When a packet is lost. -/
def nxt (s : Lg) (late : Int) : Int × Bool := if s.o ≠ [] ∧ (s.o.getD 0 pk0).n < s.g ∧ tm late = true then ((s.o.getD 0 pk0).t + late, true) else (0, false)
def fly : List Pk → Int
  | [] => 0
  | p :: l => (if p.a = true then p.z else 0) + fly l
theorem fly_app (l m : List Pk) : fly (l ++ m) = fly l + fly m := by
  induction l with
  | nil => simp [fly]
  | cons p l ih => simp only [List.cons_append, fly, ih]; omega
theorem fly_bd : ∀ {l : List Pk}, (∀ p ∈ l, 1 ≤ p.z ∧ p.z ≤ 1200) → 0 ≤ fly l ∧ fly l ≤ 1200 * (l.length : Int)
  | [], _ => by simp [fly]
  | p :: l, h => by
    have := fly_bd (l := l) fun q hq => h q (List.mem_cons_of_mem _ hq)
    have := h p (List.mem_cons_self ..)
    rw [List.length_cons]
    unfold fly
    split <;> omega
abbrev atP (l : List Pk) (i : Nat) : Pk := l.getD i pk0
theorem atP_eq (l : List Pk) (i : Nat) (h : i < l.length) : atP l i = l[i] := by simp [atP, List.getD, List.getElem?_eq_getElem h]
theorem atP_mem (l : List Pk) (i : Nat) (h : i < l.length) : atP l i ∈ l := by rw [atP_eq l i h]; exact List.getElem_mem h
theorem takeP {l : List Pk} {i : Nat} (h : i < l.length) : l.take (i + 1) = l.take i ++ [atP l i] := by rw [atP_eq l i h]; exact List.take_succ_eq_append_getElem h
theorem dropP {l : List Pk} {i : Nat} (h : i < l.length) : l.drop i = atP l i :: l.drop (i + 1) := by rw [atP_eq l i h]; exact List.drop_eq_getElem_cons h
theorem filt_yes {f : Pk → Bool} {l : List Pk} {i : Nat} (h : i < l.length) (hf : f (atP l i) = true) : (l.take (i + 1)).filter f = (l.take i).filter f ++ [atP l i] := by
  rw [takeP h, List.filter_append, List.filter_cons_of_pos hf, List.filter_nil]
theorem filt_no {f : Pk → Bool} {l : List Pk} {i : Nat} (h : i < l.length) (hf : f (atP l i) = false) : (l.take (i + 1)).filter f = (l.take i).filter f := by
  rw [takeP h, List.filter_append, List.filter_cons_of_neg (by rw [hf]; exact Bool.false_ne_true), List.filter_nil, List.append_nil]
/-- The oldest one that asks. -/
def oldI (l : List Pk) : Nat := l.findIdx (·.a)
theorem oldI_hit {l : List Pk} (h : oldI l < l.length) : (atP l (oldI l)).a = true := by
  rw [atP_eq _ _ h]
  exact List.findIdx_getElem (p := fun p : Pk => p.a) (w := h)
theorem oldI_miss {l : List Pk} {i : Nat} (hi : i < oldI l) (h : i < l.length) : (atP l i).a = false := by
  rw [atP_eq _ _ h]
  have := List.not_of_lt_findIdx (p := fun p : Pk => p.a) (xs := l) hi
  simpa using this
theorem oldI_le (l : List Pk) : oldI l ≤ l.length := List.findIdx_le_length
theorem oldI_any (l : List Pk) : l.any (·.a) = decide (oldI l < l.length) := by
  rw [Bool.eq_iff_iff, decide_eq_true_eq]
  unfold oldI
  rw [List.findIdx_lt_length, List.any_eq_true]
/-- A place where one is sought. -/
theorem oldI_is {l : List Pk} {i : Nat} (hi : i < l.length) (h1 : (atP l i).a = true) (h2 : ∀ k, k < i → (atP l k).a = false) : oldI l = i := by
  rcases Nat.lt_trichotomy (oldI l) i with h | h | h
  · have := oldI_hit (l := l) (by omega)
    rw [h2 _ h] at this
    cases this
  · exact h
  · have := oldI_miss h hi
    rw [h1] at this
    cases this
theorem oldI_none {l : List Pk} (h2 : ∀ k, k < l.length → (atP l k).a = false) : oldI l = l.length := by
  rcases Nat.lt_or_ge (oldI l) l.length with h | h
  · have := oldI_hit h
    rw [h2 _ h] at this
    cases this
  · have := oldI_le l
    omega
end Go.Proofs.Ytamjbmbflllbfaa
