/-
  What Put lays and Get reads, plainly.
-/
import Derived.Test.YthhghehnaopmhaaDoorR2
import Derived.Test.YthhghehnaopmhaaDoorFiNums
import Derived.Test.YthhghehnaopmhaaDoorFiNum
namespace Go.Proofs.YthhghehnaopmhaaDoor
open Go.RowKit
set_option maxRecDepth 100000

abbrev nB := Fi.numB
/-- What a reader answers for a number: it, what is left, the error. -/
def rN (xs : List Int) (e : Int) (m : Int) : Int × List Int × Int := if e = 0 then (Fi.naN xs m, xs.drop (Fi.naU xs m).toNat, Fi.naE xs m) else (0, xs, e)
theorem len_ok {n : Int} (h0 : 0 ≤ n) (h1 : n < 4611686018427387904) : Fi.lenOf n ≠ 0 := by
  unfold Fi.lenOf
  split <;> (try split) <;> (try split) <;> (try split) <;> (try split) <;> omega
theorem rN_num {n m : Int} (h0 : 0 ≤ n) (h1 : n < 4611686018427387904) (hm : n ≤ m) (ys : List Int) : rN (nB n ++ ys) 0 m = (n, ys, 0) := by
  obtain ⟨e1, e2, e3⟩ := Fi.na_num n m ys (len_ok h0 h1) hm
  unfold rN
  rw [if_pos rfl, e1, e2, e3, ← Fi.numB_len, Int.toNat_natCast]
  simp
theorem rN_cut {n m : Int} (h0 : 0 ≤ n) (h1 : n < 4611686018427387904) (k : Nat) (hk : k < (nB n).length) (ys : List Int) : (rN ((nB n ++ ys).take k) 0 m).1 = 0 ∧ (rN ((nB n ++ ys).take k) 0 m).2.2 = 3 := by
  have e := Fi.na_cut n m (len_ok h0 h1) k (by rw [← Fi.numB_len]; exact_mod_cast hk)
  have et : (nB n ++ ys).take k = (nB n).take k := by rw [List.take_append_of_le_length (by omega)]
  unfold rN
  rw [if_pos rfl, et]
  simp only
  refine ⟨?_, e⟩
  unfold Fi.naN
  rw [e]
  rfl
theorem rN_stop {e : Int} (he : e ≠ 0) (xs : List Int) (m : Int) : rN xs e m = (0, xs, e) := by unfold rN; rw [if_neg he]
theorem rN_bd (xs : List Int) (e m : Int) (hm : 0 ≤ m) (hb : ∀ i, 0 ≤ xs.getD i 0 ∧ xs.getD i 0 < 256) : 0 ≤ (rN xs e m).1 ∧ (rN xs e m).1 ≤ m ∧ (rN xs e m).2.1.length ≤ xs.length ∧ (∀ i, 0 ≤ (rN xs e m).2.1.getD i 0 ∧ (rN xs e m).2.1.getD i 0 < 256) := by
  unfold rN
  split
  · have h := Fi.na_bd xs m hb
    refine ⟨h.1, ?_, by simp only [List.length_drop]; omega, Fi.bytes_drop xs _ hb⟩
    simp only
    by_cases hE : Fi.naE xs m = 0
    · unfold Fi.naN
      rw [if_pos hE]
      unfold Fi.naE at hE
      by_cases q : Fi.shE xs.length xs = 0
      · rw [if_pos q] at hE
        by_cases q2 : Fi.shN xs.length xs ≤ m
        · exact q2
        · rw [if_neg q2] at hE; omega
      · rw [if_neg q] at hE; exact absurd hE q
    · unfold Fi.naN
      rw [if_neg hE]
      exact hm
  · exact ⟨Int.le_refl _, hm, Nat.le_refl _, hb⟩
/-- The bytes of the spans behind one, falling. -/
def body (p : Sp) : List Sp → List Int
  | [] => []
  | x :: R => nB (p.1 - x.2 - 2) ++ (nB (x.2 - x.1) ++ body x R)
theorem body_cons (p x : Sp) (R : List Sp) : body p (x :: R) = nB (p.1 - x.2 - 2) ++ (nB (x.2 - x.1) ++ body x R) := rfl
/-- A span read, with so many left. -/
def gsp (xs : List Int) (e to left : Int) : Sp × List Int × Int := ((to - (rN xs e (to - left * 2)).1, to), (rN xs e (to - left * 2)).2)
/-- The further spans read. -/
def glp : Nat → List Sp → Sp → List Int → Int → List Sp × List Int × Int
  | 0, l, p, xs, e => (l ++ [p], xs, e)
  | k + 1, l, p, xs, e =>
    let r := rN xs e (p.1 - 2 - (k : Int) * 2)
    let g := gsp r.2.1 r.2.2 (p.1 - 2 - r.1) k
    glp k (l ++ [p]) g.1 g.2.1 g.2.2
/-- The bytes of spans that rise. -/
def putF : List Sp → List Int
  | [] => []
  | x :: R => nB x.2 ++ (nB (R.length : Nat) ++ (nB (x.2 - x.1) ++ body x R))
theorem putF_cons (x : Sp) (R : List Sp) : putF (x :: R) = nB x.2 ++ (nB (R.length : Nat) ++ (nB (x.2 - x.1) ++ body x R)) := rfl
def putB (l : List Sp) : List Int := putF l.reverse
/-- Falling spans. -/
def Fall (l : List Sp) : Prop := (∀ x ∈ l, Okk x) ∧ l.Pairwise (fun x y => y.2 + 2 ≤ x.1)
theorem fall_of {l : List Sp} (h : Canon l) : Fall l.reverse := ⟨fun x hx => h.1 x (List.mem_reverse.1 hx), List.pairwise_reverse.2 h.2⟩
theorem Fall.tail {x : Sp} {l : List Sp} (h : Fall (x :: l)) : Fall l := ⟨fun y hy => h.1 y (List.mem_cons_of_mem _ hy), (List.pairwise_cons.1 h.2).2⟩
theorem Fall.room : ∀ {l : List Sp} {x : Sp}, Fall (x :: l) → 2 * (l.length : Int) ≤ x.1
  | [], x, h => by have := (h.1 x (List.mem_cons_self ..)).1; simp; omega
  | y :: l, x, h => by
    have ih := Fall.room h.tail
    have h1 : y.2 + 2 ≤ x.1 := (List.pairwise_cons.1 h.2).1 y (List.mem_cons_self ..)
    have h2 := (h.1 y (List.mem_cons_of_mem _ (List.mem_cons_self ..))).2.1
    simp only [List.length_cons]
    omega
theorem glp_body : ∀ (R : List Sp) (acc : List Sp) (p : Sp) (ys : List Int), Fall (p :: R) → glp R.length acc p (body p R ++ ys) 0 = (acc ++ p :: R, ys, 0)
  | [], acc, p, ys, _ => rfl
  | x :: R, acc, p, ys, h => by
    have hr := h.tail.room
    have h1 : x.2 + 2 ≤ p.1 := (List.pairwise_cons.1 h.2).1 x (List.mem_cons_self ..)
    have hx := h.1 x (List.mem_cons_of_mem _ (List.mem_cons_self ..))
    have hp := h.1 p (List.mem_cons_self ..)
    unfold Okk at hx hp
    have e1 : rN (body p (x :: R) ++ ys) 0 (p.1 - 2 - (R.length : Int) * 2) = (p.1 - x.2 - 2, nB (x.2 - x.1) ++ (body x R ++ ys), 0) := by
      rw [body_cons, List.append_assoc, List.append_assoc]
      exact rN_num (n := p.1 - x.2 - 2) (m := p.1 - 2 - (R.length : Int) * 2) (by omega) (by omega) (by omega) _
    have e2 : gsp (nB (x.2 - x.1) ++ (body x R ++ ys)) 0 (p.1 - 2 - (p.1 - x.2 - 2)) (R.length : Int) = (x, body x R ++ ys, 0) := by
      have e : p.1 - 2 - (p.1 - x.2 - 2) = x.2 := by omega
      rw [e]
      unfold gsp
      rw [rN_num (n := x.2 - x.1) (m := x.2 - (R.length : Int) * 2) (by omega) (by omega) (by omega)]
      simp only
      refine Prod.ext (Prod.ext ?_ rfl) rfl
      simp only
      omega
    rw [List.length_cons]
    unfold glp
    simp only
    rw [e1]
    simp only
    rw [e2]
    simp only
    rw [glp_body R _ x ys h.tail]
    simp
theorem glp_stop : ∀ (k : Nat) (acc : List Sp) (p : Sp) (xs : List Int) (e : Int), e ≠ 0 → (glp k acc p xs e).2.2 = e
  | 0, _, _, _, _, _ => rfl
  | k + 1, acc, p, xs, e, he => by
    unfold glp
    simp only
    rw [rN_stop he]
    simp only
    unfold gsp
    rw [rN_stop he]
    exact glp_stop k _ _ _ _ he
theorem glp_cut : ∀ (R : List Sp) (acc : List Sp) (p : Sp) (k : Nat), Fall (p :: R) → k < (body p R).length → (glp R.length acc p ((body p R).take k) 0).2.2 = 3
  | [], acc, p, k, _, hk => by simp [body] at hk
  | x :: R, acc, p, k, h, hk => by
    have hr := h.tail.room
    have h1 : x.2 + 2 ≤ p.1 := (List.pairwise_cons.1 h.2).1 x (List.mem_cons_self ..)
    have hx := h.1 x (List.mem_cons_of_mem _ (List.mem_cons_self ..))
    have hp := h.1 p (List.mem_cons_self ..)
    unfold Okk at hx hp
    rw [body_cons, List.length_append, List.length_append] at hk
    rw [List.length_cons]
    unfold glp
    simp only
    rw [body_cons]
    by_cases hk1 : k < (nB (p.1 - x.2 - 2)).length
    · obtain ⟨-, c2⟩ := rN_cut (n := p.1 - x.2 - 2) (m := p.1 - 2 - (R.length : Int) * 2) (by omega) (by omega) k hk1 (nB (x.2 - x.1) ++ body x R)
      unfold gsp
      rw [rN_stop (e := (rN _ _ _).2.2) (by rw [c2]; decide)]
      rw [glp_stop _ _ _ _ _ (by simp only; rw [c2]; decide)]
      exact c2
    · have e0 : (nB (p.1 - x.2 - 2) ++ (nB (x.2 - x.1) ++ body x R)).take k = nB (p.1 - x.2 - 2) ++ (nB (x.2 - x.1) ++ body x R).take (k - (nB (p.1 - x.2 - 2)).length) := by
        rw [List.take_append, List.take_of_length_le (by omega)]
      rw [e0, rN_num (n := p.1 - x.2 - 2) (m := p.1 - 2 - (R.length : Int) * 2) (by omega) (by omega) (by omega)]
      simp only
      have e : p.1 - 2 - (p.1 - x.2 - 2) = x.2 := by omega
      rw [e]
      generalize hk' : k - (nB (p.1 - x.2 - 2)).length = k' at *
      by_cases hk2 : k' < (nB (x.2 - x.1)).length
      · obtain ⟨-, c2⟩ := rN_cut (n := x.2 - x.1) (m := x.2 - (R.length : Int) * 2) (by omega) (by omega) k' hk2 (body x R)
        unfold gsp
        simp only
        rw [glp_stop _ _ _ _ _ (by rw [c2]; decide)]
        exact c2
      · have e1 : (nB (x.2 - x.1) ++ body x R).take k' = nB (x.2 - x.1) ++ (body x R).take (k' - (nB (x.2 - x.1)).length) := by
          rw [List.take_append, List.take_of_length_le (by omega)]
        have e2 : gsp ((nB (x.2 - x.1) ++ body x R).take k') 0 x.2 (R.length : Int) = (x, (body x R).take (k' - (nB (x.2 - x.1)).length), 0) := by
          rw [e1]
          unfold gsp
          rw [rN_num (n := x.2 - x.1) (m := x.2 - (R.length : Int) * 2) (by omega) (by omega) (by omega)]
          simp only
          refine Prod.ext (Prod.ext ?_ rfl) rfl
          simp only
          omega
        rw [e2]
        simp only
        exact glp_cut R _ x _ h.tail (by omega)
/-- All that Get reads. -/
def getA (xs : List Int) : List Sp × List Int × Int :=
  let a := rN xs 0 1099511627776
  let b := rN a.2.1 a.2.2 (min 63 (a.1 / 2))
  let g := gsp b.2.1 b.2.2 a.1 b.1
  glp b.1.toNat [] g.1 g.2.1 g.2.2
/-- What Get answers. -/
def getP (xs : List Int) : List Sp × Int × Int :=
  let r := getA (xs.take 1032)
  if r.2.2 = 0 then (r.1.reverse, ((xs.take 1032).length : Int) - (r.2.1.length : Int), 0) else if r.2.2 = 3 then ([], 0, 3) else ([], 0, 4)
theorem numB_len8 (n : Int) : (nB n).length ≤ 8 := by
  unfold nB Fi.numB
  split
  · simp
  · rename_i h0
    obtain ⟨W, hW, _, hI, _, _, hn⟩ := Fi.pos_lim n h0
    rw [hW, Int.toNat_natCast, Fi.pb_len n W hI]
    rcases hI with rfl | rfl | rfl | rfl <;> omega
theorem numB_pos {n : Int} (h0 : 0 ≤ n) (h1 : n < 4611686018427387904) : 0 < (nB n).length := by
  have h := len_ok h0 h1
  have e := Fi.numB_len n
  have : 0 ≤ Fi.lenOf n := by rcases Fi.lenOf_cases n with h | h | h | h | h | h <;> omega
  have e2 : ((nB n).length : Int) = Fi.lenOf n := e
  omega
theorem body_len (p : Sp) : ∀ R : List Sp, (body p R).length ≤ 16 * R.length
  | [] => by simp [body]
  | x :: R => by
    have := body_len x R
    have := numB_len8 (p.1 - x.2 - 2)
    have := numB_len8 (x.2 - x.1)
    rw [body_cons, List.length_append, List.length_append, List.length_cons]
    omega
theorem putF_len (l : List Sp) (h : l.length ≤ 64) : (putF l).length ≤ 1032 := by
  cases l with
  | nil => simp [putF]
  | cons x R =>
    have := body_len x R
    have := numB_len8 x.2
    have := numB_len8 (R.length : Nat)
    have := numB_len8 (x.2 - x.1)
    unfold putF
    rw [List.length_append, List.length_append, List.length_append]
    simp only [List.length_cons] at h
    omega
theorem putB_len {l : List Sp} (h : l.length ≤ 64) : (putB l).length ≤ 1032 := putF_len _ (by rw [List.length_reverse]; exact h)
theorem putB_pos {l : List Sp} (h : Canon l) (hn : l ≠ []) : 0 < (putB l).length := by
  have hf := fall_of h
  unfold putB
  cases e : l.reverse with
  | nil => exact absurd (List.reverse_eq_nil_iff.1 e) hn
  | cons x R =>
    rw [e] at hf
    have hx := hf.1 x (List.mem_cons_self ..)
    unfold Okk at hx
    have := numB_pos (n := x.2) (by omega) (by omega)
    unfold putF
    rw [List.length_append]
    omega
theorem getA_put (x : Sp) (R : List Sp) (ys : List Int) (h : Fall (x :: R)) (hl : R.length ≤ 63) : getA (putF (x :: R) ++ ys) = (x :: R, ys, 0) := by
  have hx := h.1 x (List.mem_cons_self ..)
  have hr := h.room
  unfold Okk at hx
  unfold getA
  simp only
  have e1 : rN (putF (x :: R) ++ ys) 0 1099511627776 = (x.2, nB (R.length : Nat) ++ (nB (x.2 - x.1) ++ (body x R ++ ys)), 0) := by
    unfold putF
    simp only [List.append_assoc]
    exact rN_num (n := x.2) (m := 1099511627776) (by omega) (by omega) (by omega) _
  rw [e1]
  simp only
  rw [rN_num (n := ((R.length : Nat) : Int)) (m := min 63 (x.2 / 2)) (by omega) (by omega) (by omega)]
  simp only [Int.toNat_natCast]
  have e2 : gsp (nB (x.2 - x.1) ++ (body x R ++ ys)) 0 x.2 (R.length : Int) = (x, body x R ++ ys, 0) := by
    unfold gsp
    rw [rN_num (n := x.2 - x.1) (m := x.2 - (R.length : Int) * 2) (by omega) (by omega) (by omega)]
    simp only
    refine Prod.ext (Prod.ext ?_ rfl) rfl
    simp only
    omega
  rw [e2]
  simp only
  rw [glp_body R [] x ys h]
  rfl
theorem getA_cut (x : Sp) (R : List Sp) (k : Nat) (h : Fall (x :: R)) (hl : R.length ≤ 63) (hk : k < (putF (x :: R)).length) : (getA ((putF (x :: R)).take k)).2.2 = 3 := by
  have hx := h.1 x (List.mem_cons_self ..)
  have hr := h.room
  unfold Okk at hx
  unfold getA
  simp only
  unfold putF at hk ⊢
  rw [List.length_append, List.length_append, List.length_append] at hk
  by_cases h1 : k < (nB x.2).length
  · obtain ⟨c1, c2⟩ := rN_cut (n := x.2) (m := 1099511627776) (by omega) (by omega) k h1 (nB (R.length : Nat) ++ (nB (x.2 - x.1) ++ body x R))
    rw [rN_stop (e := (rN _ _ _).2.2) (by rw [c2]; decide)]
    simp only
    unfold gsp
    rw [rN_stop (e := (rN _ _ _).2.2) (by rw [c2]; decide)]
    simp only
    rw [glp_stop _ _ _ _ _ (by rw [c2]; decide)]
    exact c2
  · have e0 : (nB x.2 ++ (nB (R.length : Nat) ++ (nB (x.2 - x.1) ++ body x R))).take k = nB x.2 ++ (nB (R.length : Nat) ++ (nB (x.2 - x.1) ++ body x R)).take (k - (nB x.2).length) := by
      rw [List.take_append, List.take_of_length_le (by omega)]
    rw [e0, rN_num (n := x.2) (m := 1099511627776) (by omega) (by omega) (by omega)]
    simp only
    generalize hk' : k - (nB x.2).length = k' at *
    by_cases h2 : k' < (nB (R.length : Nat)).length
    · obtain ⟨c1, c2⟩ := rN_cut (n := ((R.length : Nat) : Int)) (m := min 63 (x.2 / 2)) (by omega) (by omega) k' h2 (nB (x.2 - x.1) ++ body x R)
      unfold gsp
      rw [rN_stop (e := (rN _ _ _).2.2) (by rw [c2]; decide)]
      simp only
      rw [glp_stop _ _ _ _ _ (by rw [c2]; decide)]
      exact c2
    · have e1 : (nB (R.length : Nat) ++ (nB (x.2 - x.1) ++ body x R)).take k' = nB (R.length : Nat) ++ (nB (x.2 - x.1) ++ body x R).take (k' - (nB (R.length : Nat)).length) := by
        rw [List.take_append, List.take_of_length_le (by omega)]
      rw [e1, rN_num (n := ((R.length : Nat) : Int)) (m := min 63 (x.2 / 2)) (by omega) (by omega) (by omega)]
      simp only [Int.toNat_natCast]
      generalize hk'' : k' - (nB (R.length : Nat)).length = k'' at *
      by_cases h3 : k'' < (nB (x.2 - x.1)).length
      · obtain ⟨-, c2⟩ := rN_cut (n := x.2 - x.1) (m := x.2 - (R.length : Int) * 2) (by omega) (by omega) k'' h3 (body x R)
        unfold gsp
        simp only
        rw [glp_stop _ _ _ _ _ (by rw [c2]; decide)]
        exact c2
      · have e2 : (nB (x.2 - x.1) ++ body x R).take k'' = nB (x.2 - x.1) ++ (body x R).take (k'' - (nB (x.2 - x.1)).length) := by
          rw [List.take_append, List.take_of_length_le (by omega)]
        have e3 : gsp ((nB (x.2 - x.1) ++ body x R).take k'') 0 x.2 (R.length : Int) = (x, (body x R).take (k'' - (nB (x.2 - x.1)).length), 0) := by
          rw [e2]
          unfold gsp
          rw [rN_num (n := x.2 - x.1) (m := x.2 - (R.length : Int) * 2) (by omega) (by omega) (by omega)]
          simp only
          refine Prod.ext (Prod.ext ?_ rfl) rfl
          simp only
          omega
        rw [e3]
        simp only
        exact glp_cut R _ x _ h (by omega)
theorem getP_put {l : List Sp} (h : Canon l) (hn : l ≠ []) (hl : l.length ≤ 64) (ys : List Int) : getP (putB l ++ ys) = (l, (((putB l).length : Nat) : Int), 0) := by
  have hf := fall_of h
  have hL := putB_len hl
  unfold getP
  simp only
  have e0 : (putB l ++ ys).take 1032 = putB l ++ ys.take (1032 - (putB l).length) := by rw [List.take_append, List.take_of_length_le hL]
  rw [e0]
  generalize ys.take (1032 - (putB l).length) = zs
  unfold putB at hL ⊢
  have hrl : l.reverse.length = l.length := List.length_reverse
  have hrr : l.reverse.reverse = l := List.reverse_reverse l
  cases e : l.reverse with
  | nil => exact absurd (List.reverse_eq_nil_iff.1 e) hn
  | cons x R =>
    rw [e] at hf hrl hrr
    rw [getA_put x R zs hf (by simp only [List.length_cons] at hrl; omega)]
    simp only [if_true]
    rw [hrr]
    refine Prod.ext rfl (Prod.ext ?_ rfl)
    simp only [List.length_append]
    omega
theorem getP_cut {l : List Sp} (h : Canon l) (hn : l ≠ []) (hl : l.length ≤ 64) (k : Nat) (hk : k < (putB l).length) : getP ((putB l).take k) = ([], 0, 3) := by
  have hf := fall_of h
  have hL := putB_len hl
  unfold getP
  simp only
  have e0 : ((putB l).take k).take 1032 = (putB l).take k := List.take_of_length_le (by rw [List.length_take]; omega)
  rw [e0]
  unfold putB at hk hL ⊢
  have hrl : l.reverse.length = l.length := List.length_reverse
  cases e : l.reverse with
  | nil => exact absurd (List.reverse_eq_nil_iff.1 e) hn
  | cons x R =>
    rw [e] at hf hrl hk
    have := getA_cut x R k hf (by simp only [List.length_cons] at hrl; omega) hk
    rw [if_neg (by rw [this]; decide), if_pos this]
/-- The parts as the rounds lay them. -/
def prt (l : List Sp) (i : Nat) : List (List Int) := (if i < l.length - 1 then [nB ((atS l (i + 1)).1 - (atS l i).2 - 2)] else []) ++ [nB ((atS l i).2 - (atS l i).1)]
def prs (l : List Sp) : Nat → List (List Int)
  | 0 => [nB (atS l (l.length - 1)).2, nB ((l.length - 1 : Nat) : Int)]
  | k + 1 => prs l k ++ prt l (l.length - (k + 1))
theorem take_rev {l : List Sp} {j : Nat} (h : j < l.length) : (l.take (j + 1)).reverse = atS l j :: (l.take j).reverse := by
  rw [atS_eq l j h, List.take_succ_eq_append_getElem h, List.reverse_append]
  rfl
theorem prs_flat (l : List Sp) : ∀ k, k + 1 ≤ l.length → (prs l (k + 1)).flatten ++ body (atS l (l.length - (k + 1))) (l.take (l.length - (k + 1))).reverse = putB l
  | 0, h => by
    have hl : 0 < l.length := by omega
    have e : l.reverse = atS l (l.length - 1) :: (l.take (l.length - 1)).reverse := by
      have := take_rev (l := l) (j := l.length - 1) (by omega)
      rwa [show l.length - 1 + 1 = l.length by omega, List.take_length] at this
    have e2 : (l.take (l.length - 1)).reverse.length = l.length - 1 := by rw [List.length_reverse, List.length_take]; omega
    have e3 : prs l (0 + 1) = [nB (atS l (l.length - 1)).2, nB ((l.length - 1 : Nat) : Int)] ++ prt l (l.length - 1) := rfl
    have e4 : prt l (l.length - 1) = [nB ((atS l (l.length - 1)).2 - (atS l (l.length - 1)).1)] := by unfold prt; rw [if_neg (Nat.lt_irrefl _)]; rfl
    unfold putB
    rw [e, putF_cons, e2, e3, e4, Nat.zero_add]
    generalize body (atS l (l.length - 1)) _ = Z
    simp
  | k + 1, h => by
    have ih := prs_flat l k (by omega)
    rw [← ih]
    have e0 : l.length - (k + 1) = l.length - (k + 1 + 1) + 1 := by omega
    have e1 : (l.take (l.length - (k + 1))).reverse = atS l (l.length - (k + 1 + 1)) :: (l.take (l.length - (k + 1 + 1))).reverse := by
      rw [e0]
      exact take_rev (by omega)
    rw [e1]
    show (prs l (k + 1) ++ prt l (l.length - (k + 1 + 1))).flatten ++ _ = _
    rw [body_cons]
    unfold prt
    rw [if_pos (by omega), List.flatten_append, ← e0]
    generalize body (atS l (l.length - (k + 1 + 1))) _ = Z
    simp
theorem prs_all {l : List Sp} (h : l ≠ []) : (prs l l.length).flatten = putB l := by
  have hl := List.length_pos_iff.2 h
  have := prs_flat l (l.length - 1) (by omega)
  rw [show l.length - 1 + 1 = l.length by omega, Nat.sub_self, List.take_zero] at this
  simpa [body] using this
theorem prt_len (l : List Sp) (i : Nat) : (prt l i).length ≤ 2 := by unfold prt; rw [List.length_append]; split <;> simp
theorem prs_len (l : List Sp) : ∀ k, (prs l k).length ≤ 2 + 2 * k
  | 0 => by simp [prs]
  | k + 1 => by
    have := prs_len l k
    have := prt_len l (l.length - (k + 1))
    unfold prs
    rw [List.length_append]
    omega
/-- The set of all numbers of spans. -/
def setL (l : List Sp) : List Sp := l.foldl (fun s x => adP s x.1 x.2) []
theorem setL_snoc (l : List Sp) (x : Sp) : setL (l ++ [x]) = adP (setL l) x.1 x.2 := by unfold setL; rw [List.foldl_append]; rfl
theorem adP_mem {s : List Sp} (h : Canon s) {f t : Int} (hok : Okk (f, t)) (n : Int) : Mem (adP s f t) n ↔ Mem s n ∨ (f ≤ n ∧ n ≤ t) := by
  rw [← adP_eq h, if_pos ((may_iff f t).2 hok), radd_eq h hok]
  exact (add_spec h hok).2 n
theorem setL_spec (l : List Sp) : Canon (setL l) ∧ ((∀ x ∈ l, Okk x) → ∀ n, Mem (setL l) n ↔ Mem l n) := by
  suffices H : ∀ (l s : List Sp), Canon s → Canon (l.foldl (fun s x => adP s x.1 x.2) s) ∧ ((∀ x ∈ l, Okk x) → ∀ n, Mem (l.foldl (fun s x => adP s x.1 x.2) s) n ↔ Mem s n ∨ Mem l n) by
    obtain ⟨h1, h2⟩ := H l [] Canon.nil
    exact ⟨h1, fun h n => (h2 h n).trans ⟨fun a => a.elim (fun a => absurd a (mem_nil n)) id, .inr⟩⟩
  intro l
  induction l with
  | nil => intro s hs; exact ⟨hs, fun _ n => ⟨.inl, fun a => a.elim id (fun a => absurd a (mem_nil n))⟩⟩
  | cons x l ih =>
    intro s hs
    obtain ⟨i1, i2⟩ := ih (adP s x.1 x.2) (adP_canon hs _ _)
    refine ⟨i1, fun h n => ?_⟩
    rw [List.foldl_cons, i2 (fun y hy => h y (List.mem_cons_of_mem _ hy)), adP_mem hs (h x (List.mem_cons_self ..)), mem_cons]
    exact ⟨fun a => a.elim (fun a => a.elim .inl (fun a => .inr (.inl a))) (fun a => .inr (.inr a)), fun a => a.elim (fun a => .inl (.inl a)) (fun a => a.elim (fun a => .inl (.inr a)) .inr)⟩
theorem setL_canon {l : List Sp} (h : Canon l) : setL l = l := canon_ext (setL_spec l).1 h (fun n => (setL_spec l).2 h.1 n)
theorem setL_len {l : List Sp} : (setL l).length ≤ l.length := by
  suffices H : ∀ (l s : List Sp), Canon s → (l.foldl (fun s x => adP s x.1 x.2) s).length ≤ s.length + l.length by have := H l [] Canon.nil; simpa [setL] using this
  intro l
  induction l with
  | nil => intro s hs; simp
  | cons x l ih =>
    intro s hs
    have h1 := ih (adP s x.1 x.2) (adP_canon hs _ _)
    have h2 : (adP s x.1 x.2).length ≤ s.length + 1 := by
      unfold adP
      split
      · next q => exact addL_len s _ _ (fE_bU hs (by have := (may_iff _ _).1 q.1; unfold Okk at this; simp only at this; omega))
      · omega
    rw [List.foldl_cons, List.length_cons]
    omega
/-- What Check answers. -/
def chkL (l : List Sp) : Int := if 64 < l.length then 5 else if l = [] ∨ setL l ≠ l then 4 else 0
end Go.Proofs.YthhghehnaopmhaaDoor
