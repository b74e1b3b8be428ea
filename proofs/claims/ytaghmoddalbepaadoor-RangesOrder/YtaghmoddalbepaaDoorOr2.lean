/-
  Two sets side by side; what the order of spans makes.
-/
import Derived.Test.YtaghmoddalbepaaDoorAw
import Derived.Test.YtaghmoddalbepaaDoorFr
namespace Go.Proofs.YtaghmoddalbepaaDoor
open Go.RowKit Go.Shelf
set_option maxRecDepth 100000

theorem own_ty {w : World} {B : Nat} {v : Value} {l : List Sp} (h : RSp w B v l) {k : Nat} (hk : v.ownBlock = some k) : ∃ cs, w.heap[k]? = some (.cells cs 58 (0, 0)) := by
  rcases h.1.2 with ⟨rfl, _⟩ | ⟨g, cap, cur, rfl, _, hh, _⟩
  · cases hk
  · obtain rfl : g = k := by simpa [Value.ownBlock] using hk
    exact ⟨_, hh⟩
theorem st_su {w w' : World} {B B' g g' : Nat} {v v' u : Value} {l m : List Sp} (h : ST w B g v l) (k : ST w B' g' u m) (hne : g ≠ g') (hd : ∀ i, v.ownBlock = some i → u.ownBlock ≠ some i) (s : SU w w' g v v') :
    ST w' B' g' u m ∧ (∀ i, v'.ownBlock = some i → u.ownBlock ≠ some i) := by
  refine ⟨⟨(s.block g' (blk_lt k.sb) (fun e => hne e.symm) (fun e => ?_)).trans k.sb, k.rs.keep (fun i cs hi hh => (s.block i (blk_lt hh) (fun e => ?_) (fun e => hd i e hi)).trans hh), k.cn, k.ln⟩, fun i hi hu => ?_⟩
  · obtain ⟨cs, e'⟩ := own_ty h.rs e
    have := k.sb
    unfold SB at this
    rw [this] at e'
    cases e'
  · have := h.sb
    unfold SB at this
    rw [← e, hh] at this
    cases this
  · rcases s.own with e | ⟨q, e, hq⟩
    · exact hd i (by rw [← e]; exact hi) hu
    · rw [e] at hi
      cases hi
      have := own_lt k.rs _ hu
      omega
/-- The two ends of a pair. -/
def pf (x : Int × Int) : Int := min x.1 x.2 % 2000
def pt (x : Int × Int) : Int := max x.1 x.2 % 2000
def ad1 (s : List Sp) (x : Int × Int) : List Sp := if pf x ≤ pt x then adP s (pf x) (pt x) else s
def adS (l : List (Int × Int)) (s : List Sp) : List Sp := l.foldl ad1 s
theorem adS_snoc (l : List (Int × Int)) (s : List Sp) (x : Int × Int) : adS (l ++ [x]) s = ad1 (adS l s) x := by unfold adS; rw [List.foldl_append]; rfl
theorem adP_len {s : List Sp} (h : Canon s) (f t : Int) : (adP s f t).length ≤ s.length + 1 := by
  unfold adP
  split
  · next q => exact addL_len s _ _ (fE_bU h (by have := (may_iff _ _).1 q.1; unfold Okk at this; simp only at this; omega))
  · omega
theorem ad1_canon {s : List Sp} (h : Canon s) (x : Int × Int) : Canon (ad1 s x) := by unfold ad1; split; exact adP_canon h _ _; exact h
theorem ad1_len {s : List Sp} (h : Canon s) (x : Int × Int) : (ad1 s x).length ≤ s.length + 1 := by unfold ad1; split; exact adP_len h _ _; omega
theorem pf_bd {x : Int × Int} (_ : okP x) : 0 ≤ pf x ∧ pf x < 2000 ∧ 0 ≤ pt x ∧ pt x < 2000 := by unfold pf pt; omega
theorem ad1_mem {s : List Sp} (h : Canon s) {x : Int × Int} (hx : okP x) (n : Int) : Mem (ad1 s x) n ↔ Mem s n ∨ (pf x ≤ n ∧ n ≤ pt x) := by
  have := pf_bd hx
  unfold ad1
  by_cases q : pf x ≤ pt x
  · rw [if_pos q, adP_mem h (by unfold Okk; simp only; omega)]
  · rw [if_neg q]
    exact ⟨.inl, fun a => a.elim id (fun a => by omega)⟩
theorem adS_spec : ∀ (l : List (Int × Int)) (s : List Sp), Canon s → (∀ x ∈ l, okP x) → Canon (adS l s) ∧ (adS l s).length ≤ s.length + l.length ∧ ∀ n, Mem (adS l s) n ↔ Mem s n ∨ ∃ x ∈ l, pf x ≤ n ∧ n ≤ pt x
  | [], s, h, _ => ⟨h, by simp [adS], fun n => ⟨.inl, fun a => a.elim id (fun ⟨x, hx, _⟩ => by simp at hx)⟩⟩
  | x :: l, s, h, hx => by
    obtain ⟨i1, i2, i3⟩ := adS_spec l (ad1 s x) (ad1_canon h x) (fun y hy => hx y (List.mem_cons_of_mem _ hy))
    have h1 := ad1_len h x
    refine ⟨i1, by rw [List.length_cons]; show (adS l (ad1 s x)).length ≤ _; omega, fun n => ?_⟩
    show Mem (adS l (ad1 s x)) n ↔ _
    rw [i3, ad1_mem h (hx x (List.mem_cons_self ..))]
    constructor
    · rintro ((a | a) | ⟨y, hy, a⟩)
      · exact .inl a
      · exact .inr ⟨x, List.mem_cons_self .., a⟩
      · exact .inr ⟨y, List.mem_cons_of_mem _ hy, a⟩
    · rintro (a | ⟨y, hy, a⟩)
      · exact .inl (.inl a)
      · rcases List.mem_cons.1 hy with rfl | hy
        · exact .inl (.inr a)
        · exact .inr ⟨y, hy, a⟩
theorem adS_rev {l : List (Int × Int)} (h : ∀ x ∈ l, okP x) : adS l [] = adS l.reverse [] := by
  obtain ⟨a1, -, a3⟩ := adS_spec l [] Canon.nil h
  obtain ⟨b1, -, b3⟩ := adS_spec l.reverse [] Canon.nil (fun x hx => h x (List.mem_reverse.1 hx))
  refine canon_ext a1 b1 fun n => ?_
  rw [a3, b3]
  simp only [List.mem_reverse]
/-- Whether a number came. -/
def inS (n : Int) (l : List (Int × Int)) : Bool := l.any fun x => decide (pf x ≤ n) && decide (n ≤ pt x)
theorem inS_snoc (n : Int) (l : List (Int × Int)) (x : Int × Int) : inS n (l ++ [x]) = (inS n l || (decide (pf x ≤ n) && decide (n ≤ pt x))) := by unfold inS; rw [List.any_append]; simp
theorem inS_has {l : List (Int × Int)} (h : ∀ x ∈ l, okP x) (n : Int) : decide (0 < cnt (clip (adS l []) n n)) = inS n l := by
  obtain ⟨a1, -, a3⟩ := adS_spec l [] Canon.nil h
  rw [has_cnt a1, Bool.eq_iff_iff, has_iff, a3]
  unfold inS
  simp only [List.any_eq_true, Bool.and_eq_true, decide_eq_true_eq]
  exact ⟨fun a => a.elim (fun a => absurd a (mem_nil n)) id, .inr⟩
abbrev atQ (l : List (Int × Int)) (i : Nat) : Int × Int := l.getD i (0, 0)
theorem atQ_eq (l : List (Int × Int)) (i : Nat) (h : i < l.length) : atQ l i = l[i] := by simp [atQ, List.getD, List.getElem?_eq_getElem h]
theorem takeQ {l : List (Int × Int)} {j : Nat} (h : j < l.length) : l.take (j + 1) = l.take j ++ [atQ l j] := by rw [atQ_eq l j h, List.take_succ_eq_append_getElem h]
theorem takeR {l : List (Int × Int)} {j : Nat} (h : j < l.length) : l.reverse.take (j + 1) = l.reverse.take j ++ [atQ l (l.length - 1 - j)] := by
  rw [List.take_succ_eq_append_getElem (by rw [List.length_reverse]; exact h), List.getElem_reverse, atQ_eq l _ (by omega)]
theorem PQ.kept {w w' : World} {v : Value} {l : List (Int × Int)} (h : PQ w v l) (hb : Below w.heap.size w w') : PQ w' v l := ⟨h.is.kept hb, h.ok⟩
theorem PQ.at {w : World} {a : Option Addr} {n c : Nat} {l : List (Int × Int)} (h : PQ w (.slice a n c) l) (i : Nat) (hi : i < l.length) : ∃ b off, a = some ⟨b, off, none⟩ ∧ w.cell? ⟨b, off + i * 2, none⟩ = some (.int .u16 (atQ l i).1) ∧ w.cell? ⟨b, off + i * 2 + 1, none⟩ = some (.int .u16 (atQ l i).2) := by
  obtain ⟨b, off, e, hr⟩ := h.is.at i (by rw [List.length_map]; exact hi)
  have e2 : atC (l.map p16) i = p16 (atQ l i) := by simp [atC, atQ, List.getD, List.getElem?_eq_getElem hi]
  rw [e2] at hr
  exact ⟨b, off, e, hr 0 _ rfl, hr 1 _ rfl⟩
theorem PQ.shape {w : World} {v : Value} {l : List (Int × Int)} (h : PQ w v l) : ∃ a c, v = .slice a l.length c := by
  obtain ⟨a, c, e, _⟩ := h.is.shape
  exact ⟨a, c, by rw [List.length_map] at e; exact e⟩
end Go.Proofs.YtaghmoddalbepaaDoor
