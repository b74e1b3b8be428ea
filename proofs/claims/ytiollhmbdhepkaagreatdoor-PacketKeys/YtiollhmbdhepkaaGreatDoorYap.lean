/-
  What the readings answer for what was laid: plain facts on numbers and lists, no program in sight but the definitions.
  What Put lays and Get reads, plainly.
  The names of the families side by side; texts in rows of the call's own; a number laid, a number read.
  The document's May, Same, Count, Has.
  The document's Remove.
-/
import Derived.Test.YtiollhmbdhepkaaGreatDoorYag
import Derived.Test.YtiollhmbdhepkaaGreatDoorYac
import Derived.Test.YtiollhmbdhepkaaGreatDoorYao
namespace Go.Proofs.YtiollhmbdhepkaaGreatDoor.Fi
open Go.RowKit
set_option maxRecDepth 100000

theorem getD_append (xs ys : List Int) (i : Nat) (h : i < xs.length) : (xs ++ ys).getD i 0 = xs.getD i 0 := by
  simp [List.getD, List.getElem?_append_left h]

/-- What Get answers for a number's bytes with whatever behind. -/
theorem get_put (n : Int) (W m : Nat) (ys : List Int) (hI : IsW W) (h1 : 0 ≤ n) (h2 : n < lim W) : getN (W + m) (pb n W ++ ys) = n ∧ getU (W + m) (pb n W ++ ys) = W ∧ getE (W + m) (pb n W ++ ys) = 0 := by
  have hpos : 0 < W := by rcases hI with rfl | rfl | rfl | rfl <;> omega
  have hl := pb_len n W hI
  have hk : gk (pb n W ++ ys) = gk (pb n W) := by unfold gk; rw [getD_append _ _ _ (by omega)]
  have hw := pb_gk n W hI h1 h2
  have hg : gval (pb n W ++ ys) (W - 1) = n := by
    rw [gval_take (pb n W ++ ys) (pb n W) (W - 1) (fun i hi => getD_append _ _ _ (by omega))]
    exact pb_gval n W hI h1 h2
  unfold getN getU getE
  rw [hk, hw, if_neg (by omega), if_neg (by omega), if_neg (by omega), hg]
  exact ⟨rfl, rfl, rfl⟩

theorem numB_len (n : Int) : ((numB n).length : Int) = lenOf n := by
  unfold numB
  split
  · next h => rw [h]; rfl
  · next h =>
    obtain ⟨W, hW, hW0, hI, h1, h2, hn⟩ := pos_lim n h
    rw [hW]
    show ((pb n W).length : Int) = W
    rw [pb_len n W hI]

/-- What Shortest answers for a number that stands in its least width, with whatever behind. -/
theorem sh_num (n : Int) (ys : List Int) (h0 : lenOf n ≠ 0) :
    shN (numB n ++ ys).length (numB n ++ ys) = n ∧ shU (numB n ++ ys).length (numB n ++ ys) = lenOf n ∧ shE (numB n ++ ys).length (numB n ++ ys) = 0 := by
  obtain ⟨W, hW, hW0, hI, h1, h2, hn⟩ := pos_lim n h0
  have hl : (numB n ++ ys).length = W + ys.length := by rw [hn, List.length_append, pb_len n W hI]
  rw [hl, hn]
  obtain ⟨e1, e2, e3⟩ := get_put n W ys.length ys hI h1 h2
  unfold shN shU shE
  rw [e1, e2, e3, hW]
  simp

theorem na_num (n most : Int) (ys : List Int) (h0 : lenOf n ≠ 0) (hm : n ≤ most) : naE (numB n ++ ys) most = 0 ∧ naN (numB n ++ ys) most = n ∧ naU (numB n ++ ys) most = lenOf n := by
  obtain ⟨e1, e2, e3⟩ := sh_num n ys h0
  have hE : naE (numB n ++ ys) most = 0 := by unfold naE; rw [e3, e1, if_pos rfl, if_pos hm]
  unfold naN naU
  rw [hE, e1, e2]
  exact ⟨rfl, rfl, rfl⟩

theorem na_cut (n most : Int) (h0 : lenOf n ≠ 0) (m : Nat) (hm : (m : Int) < lenOf n) : naE ((numB n).take m) most = 3 := by
  obtain ⟨W, hW, hW0, hI, h1, h2, hn⟩ := pos_lim n h0
  have hl : ((numB n).take m).length = m := by rw [List.length_take, hn, pb_len n W hI]; omega
  have hE : getE ((numB n).take m).length ((numB n).take m) = 3 := by
    unfold getE
    rw [hl]
    refine if_pos ?_
    rcases Nat.eq_zero_or_pos m with h | h
    · exact .inr h
    · left
      have : gk ((numB n).take m) = gk (pb n W) := by
        unfold gk
        rw [hn]
        simp [List.getD, h]
      rw [this, pb_gk n W hI h1 h2]
      omega
  have hS : shE ((numB n).take m).length ((numB n).take m) = 3 := by unfold shE; rw [hE, if_neg (by decide)]
  unfold naE
  rw [hS, if_neg (by decide)]

theorem size_len0 (s : ByteArray) (h : s.size < 4611686018427387904) : lenOf (s.size : Int) ≠ 0 := by
  have hx : (0 : Int) ≤ s.size ∧ (s.size : Int) < 4611686018427387904 := by omega
  rcases lenOf_cases (s.size : Int) with h | h | h | h | h | h <;> omega

theorem tx_text (s : ByteArray) (most : Int) (ys : List Int) (hs : s.size < 4611686018427387904) (hm : (s.size : Int) ≤ most) :
    txE (textB s ++ ys) most = 0 ∧ txS (textB s ++ ys) most = sb s ∧ txR (textB s ++ ys) most = ys := by
  have h0 := size_len0 s hs
  have hnl := numB_len (s.size : Int)
  have e : textB s ++ ys = numB (s.size : Int) ++ (sb s ++ ys) := by unfold textB; rw [List.append_assoc]
  rw [e]
  obtain ⟨e1, e2, e3⟩ := na_num (s.size : Int) most (sb s ++ ys) h0 hm
  have hE : txE (numB (s.size : Int) ++ (sb s ++ ys)) most = 0 := by
    unfold txE
    rw [e1, e2, e3, if_pos rfl, if_pos]
    rw [List.length_append, List.length_append, sb_len]
    omega
  refine ⟨hE, ?_, ?_⟩
  · unfold txS
    rw [hE, e2, e3, if_pos rfl, ← hnl]
    simp only [Int.toNat_natCast]
    rw [List.drop_left, ← sb_len s, List.take_left]
  · unfold txR
    rw [hE, e2, e3, if_pos rfl, ← hnl]
    simp only [Int.toNat_natCast]
    rw [← List.drop_drop, List.drop_left, ← sb_len s, List.drop_left]

theorem tx_cut (s : ByteArray) (most : Int) (m : Nat) (hs : s.size < 4611686018427387904) (hm : (s.size : Int) ≤ most) (hl : m < (textB s).length) :
    txE ((textB s).take m) most = 3 ∧ txS ((textB s).take m) most = [] ∧ txR ((textB s).take m) most = (textB s).take m := by
  have h0 := size_len0 s hs
  have hnl := numB_len (s.size : Int)
  have hE : txE ((textB s).take m) most = 3 := by
    by_cases hw : (m : Int) < lenOf s.size
    · have e : (textB s).take m = (numB (s.size : Int)).take m := by unfold textB; rw [List.take_append_of_le_length (by omega)]
      rw [e]
      have := na_cut (s.size : Int) most h0 m hw
      unfold txE
      rw [this, if_neg (by decide)]
    · have e : (textB s).take m = numB (s.size : Int) ++ (sb s).take (m - (numB (s.size : Int)).length) := by
        unfold textB
        rw [List.take_append, List.take_of_length_le (by omega)]
      obtain ⟨e1, e2, e3⟩ := na_num (s.size : Int) most ((sb s).take (m - (numB (s.size : Int)).length)) h0 hm
      unfold textB at hl
      rw [List.length_append, sb_len] at hl
      rw [e]
      unfold txE
      rw [e1, e2, e3, if_pos rfl, if_neg]
      rw [List.length_append, List.length_take, sb_len]
      omega
  unfold txS txR
  rw [hE]
  exact ⟨rfl, rfl, rfl⟩

theorem textB_len (s : ByteArray) : (textB s).length ≤ 8 + s.size ∧ (s.size < 4611686018427387904 → 0 < (textB s).length) := by
  have hnl := numB_len (s.size : Int)
  unfold textB
  rw [List.length_append, sb_len]
  constructor
  · rcases lenOf_cases (s.size : Int) with h | h | h | h | h | h <;> omega
  · intro hs
    have := size_len0 s hs
    rcases lenOf_cases (s.size : Int) with h | h | h | h | h | h <;> omega
end Go.Proofs.YtiollhmbdhepkaaGreatDoor.Fi
namespace Go.Proofs.YtiollhmbdhepkaaGreatDoor
open Go.RowKit
set_option maxRecDepth 100000

abbrev nB := Fi.numB
/-- What a reader answers for a number: it, what is left, the error. -/
def rN (xs : List Int) (e : Int) (m : Int) : Int × List Int × Int := if e = 0 then (Fi.naN xs m, xs.drop (Fi.naU xs m).toNat, Fi.naE xs m) else (0, xs, e)
theorem len_ok {n : Int} (h0 : 0 ≤ n) (h1 : n < 4611686018427387904) : Fi.lenOf n ≠ 0 := by
  unfold Fi.lenOf
  split <;> (try split) <;> (try split) <;> (try split) <;> (try split) <;> omega
theorem rN_num {n m : Int} (h0 : 0 ≤ n) (h1 : n < 4611686018427387904) (hm : n ≤ m) (ys : List Int) : rN (nB n ++ ys) 0 m = (n, ys, 0) := by
  obtain ⟨e1, e2, e3⟩ := Fi.na_num n m ys (len_ok h0 h1) hm
  unfold rN
  rw [if_pos rfl, e1, e2, e3, ← Fi.numB_len, Int.toNat_natCast]
  simp
theorem rN_cut {n m : Int} (h0 : 0 ≤ n) (h1 : n < 4611686018427387904) (k : Nat) (hk : k < (nB n).length) (ys : List Int) : (rN ((nB n ++ ys).take k) 0 m).1 = 0 ∧ (rN ((nB n ++ ys).take k) 0 m).2.2 = 3 := by
  have e := Fi.na_cut n m (len_ok h0 h1) k (by rw [← Fi.numB_len]; exact_mod_cast hk)
  have et : (nB n ++ ys).take k = (nB n).take k := by rw [List.take_append_of_le_length (by omega)]
  unfold rN
  rw [if_pos rfl, et]
  simp only
  refine ⟨?_, e⟩
  unfold Fi.naN
  rw [e]
  rfl
theorem rN_stop {e : Int} (he : e ≠ 0) (xs : List Int) (m : Int) : rN xs e m = (0, xs, e) := by unfold rN; rw [if_neg he]
theorem rN_bd (xs : List Int) (e m : Int) (hm : 0 ≤ m) (hb : ∀ i, 0 ≤ xs.getD i 0 ∧ xs.getD i 0 < 256) : 0 ≤ (rN xs e m).1 ∧ (rN xs e m).1 ≤ m ∧ (rN xs e m).2.1.length ≤ xs.length ∧ (∀ i, 0 ≤ (rN xs e m).2.1.getD i 0 ∧ (rN xs e m).2.1.getD i 0 < 256) := by
  unfold rN
  split
  · have h := Fi.na_bd xs m hb
    refine ⟨h.1, ?_, by simp only [List.length_drop]; omega, Fi.bytes_drop xs _ hb⟩
    simp only
    by_cases hE : Fi.naE xs m = 0
    · unfold Fi.naN
      rw [if_pos hE]
      unfold Fi.naE at hE
      by_cases q : Fi.shE xs.length xs = 0
      · rw [if_pos q] at hE
        by_cases q2 : Fi.shN xs.length xs ≤ m
        · exact q2
        · rw [if_neg q2] at hE; omega
      · rw [if_neg q] at hE; exact absurd hE q
    · unfold Fi.naN
      rw [if_neg hE]
      exact hm
  · exact ⟨Int.le_refl _, hm, Nat.le_refl _, hb⟩
/-- The bytes of the spans behind one, falling. -/
def body (p : Sp) : List Sp → List Int
  | [] => []
  | x :: R => nB (p.1 - x.2 - 2) ++ (nB (x.2 - x.1) ++ body x R)
theorem body_cons (p x : Sp) (R : List Sp) : body p (x :: R) = nB (p.1 - x.2 - 2) ++ (nB (x.2 - x.1) ++ body x R) := rfl
/-- A span read, with so many left. -/
def gsp (xs : List Int) (e tw left : Int) : Sp × List Int × Int := ((tw - (rN xs e (tw - left * 2)).1, tw), (rN xs e (tw - left * 2)).2)
/-- The further spans read. -/
def glp : Nat → List Sp → Sp → List Int → Int → List Sp × List Int × Int
  | 0, l, p, xs, e => (l ++ [p], xs, e)
  | k + 1, l, p, xs, e =>
    let r := rN xs e (p.1 - 2 - (k : Int) * 2)
    let g := gsp r.2.1 r.2.2 (p.1 - 2 - r.1) k
    glp k (l ++ [p]) g.1 g.2.1 g.2.2
/-- The bytes of spans that rise. -/
def putF : List Sp → List Int
  | [] => []
  | x :: R => nB x.2 ++ (nB (R.length : Nat) ++ (nB (x.2 - x.1) ++ body x R))
def putB (l : List Sp) : List Int := putF l.reverse
/-- Falling spans. -/
def Fall (l : List Sp) : Prop := (∀ x ∈ l, Okk x) ∧ l.Pairwise (fun x y => y.2 + 2 ≤ x.1)
theorem fall_of {l : List Sp} (h : Canon l) : Fall l.reverse := ⟨fun x hx => h.1 x (List.mem_reverse.1 hx), List.pairwise_reverse.2 h.2⟩
theorem Fall.tail {x : Sp} {l : List Sp} (h : Fall (x :: l)) : Fall l := ⟨fun y hy => h.1 y (List.mem_cons_of_mem _ hy), (List.pairwise_cons.1 h.2).2⟩
theorem Fall.room : ∀ {l : List Sp} {x : Sp}, Fall (x :: l) → 2 * (l.length : Int) ≤ x.1
  | [], x, h => by have := (h.1 x (List.mem_cons_self ..)).1; simp; omega
  | y :: l, x, h => by
    have ih := Fall.room h.tail
    have h1 : y.2 + 2 ≤ x.1 := (List.pairwise_cons.1 h.2).1 y (List.mem_cons_self ..)
    have h2 := (h.1 y (List.mem_cons_of_mem _ (List.mem_cons_self ..))).2.1
    simp only [List.length_cons]
    omega
theorem glp_body : ∀ (R : List Sp) (acc : List Sp) (p : Sp) (ys : List Int), Fall (p :: R) → glp R.length acc p (body p R ++ ys) 0 = (acc ++ p :: R, ys, 0)
  | [], acc, p, ys, _ => rfl
  | x :: R, acc, p, ys, h => by
    have hr := h.tail.room
    have h1 : x.2 + 2 ≤ p.1 := (List.pairwise_cons.1 h.2).1 x (List.mem_cons_self ..)
    have hx := h.1 x (List.mem_cons_of_mem _ (List.mem_cons_self ..))
    have hp := h.1 p (List.mem_cons_self ..)
    unfold Okk at hx hp
    have e1 : rN (body p (x :: R) ++ ys) 0 (p.1 - 2 - (R.length : Int) * 2) = (p.1 - x.2 - 2, nB (x.2 - x.1) ++ (body x R ++ ys), 0) := by
      rw [body_cons, List.append_assoc, List.append_assoc]
      exact rN_num (n := p.1 - x.2 - 2) (m := p.1 - 2 - (R.length : Int) * 2) (by omega) (by omega) (by omega) _
    have e2 : gsp (nB (x.2 - x.1) ++ (body x R ++ ys)) 0 (p.1 - 2 - (p.1 - x.2 - 2)) (R.length : Int) = (x, body x R ++ ys, 0) := by
      have e : p.1 - 2 - (p.1 - x.2 - 2) = x.2 := by omega
      rw [e]
      unfold gsp
      rw [rN_num (n := x.2 - x.1) (m := x.2 - (R.length : Int) * 2) (by omega) (by omega) (by omega)]
      simp only
      refine Prod.ext (Prod.ext ?_ rfl) rfl
      simp only
      omega
    rw [List.length_cons]
    unfold glp
    simp only
    rw [e1]
    simp only
    rw [e2]
    simp only
    rw [glp_body R _ x ys h.tail]
    simp
/-- All that Get reads. -/
def getA (xs : List Int) : List Sp × List Int × Int :=
  let a := rN xs 0 1099511627776
  let b := rN a.2.1 a.2.2 (min 63 (a.1 / 2))
  let g := gsp b.2.1 b.2.2 a.1 b.1
  glp b.1.toNat [] g.1 g.2.1 g.2.2
/-- What Get answers. -/
def getP (xs : List Int) : List Sp × Int × Int :=
  let r := getA (xs.take 1032)
  if r.2.2 = 0 then (r.1.reverse, ((xs.take 1032).length : Int) - (r.2.1.length : Int), 0) else if r.2.2 = 3 then ([], 0, 3) else ([], 0, 4)
theorem numB_len8 (n : Int) : (nB n).length ≤ 8 := by
  unfold nB Fi.numB
  split
  · simp
  · rename_i h0
    obtain ⟨W, hW, _, hI, _, _, hn⟩ := Fi.pos_lim n h0
    rw [hW, Int.toNat_natCast, Fi.pb_len n W hI]
    rcases hI with rfl | rfl | rfl | rfl <;> omega
theorem body_len (p : Sp) : ∀ R : List Sp, (body p R).length ≤ 16 * R.length
  | [] => by simp [body]
  | x :: R => by
    have := body_len x R
    have := numB_len8 (p.1 - x.2 - 2)
    have := numB_len8 (x.2 - x.1)
    rw [body_cons, List.length_append, List.length_append, List.length_cons]
    omega
theorem putF_len (l : List Sp) (h : l.length ≤ 64) : (putF l).length ≤ 1032 := by
  cases l with
  | nil => simp [putF]
  | cons x R =>
    have := body_len x R
    have := numB_len8 x.2
    have := numB_len8 (R.length : Nat)
    have := numB_len8 (x.2 - x.1)
    unfold putF
    rw [List.length_append, List.length_append, List.length_append]
    simp only [List.length_cons] at h
    omega
theorem putB_len {l : List Sp} (h : l.length ≤ 64) : (putB l).length ≤ 1032 := putF_len _ (by rw [List.length_reverse]; exact h)
theorem getA_put (x : Sp) (R : List Sp) (ys : List Int) (h : Fall (x :: R)) (hl : R.length ≤ 63) : getA (putF (x :: R) ++ ys) = (x :: R, ys, 0) := by
  have hx := h.1 x (List.mem_cons_self ..)
  have hr := h.room
  unfold Okk at hx
  unfold getA
  simp only
  have e1 : rN (putF (x :: R) ++ ys) 0 1099511627776 = (x.2, nB (R.length : Nat) ++ (nB (x.2 - x.1) ++ (body x R ++ ys)), 0) := by
    unfold putF
    simp only [List.append_assoc]
    exact rN_num (n := x.2) (m := 1099511627776) (by omega) (by omega) (by omega) _
  rw [e1]
  simp only
  rw [rN_num (n := ((R.length : Nat) : Int)) (m := min 63 (x.2 / 2)) (by omega) (by omega) (by omega)]
  simp only [Int.toNat_natCast]
  have e2 : gsp (nB (x.2 - x.1) ++ (body x R ++ ys)) 0 x.2 (R.length : Int) = (x, body x R ++ ys, 0) := by
    unfold gsp
    rw [rN_num (n := x.2 - x.1) (m := x.2 - (R.length : Int) * 2) (by omega) (by omega) (by omega)]
    simp only
    refine Prod.ext (Prod.ext ?_ rfl) rfl
    simp only
    omega
  rw [e2]
  simp only
  rw [glp_body R [] x ys h]
  rfl
theorem getP_put {l : List Sp} (h : Canon l) (hn : l ≠ []) (hl : l.length ≤ 64) (ys : List Int) : getP (putB l ++ ys) = (l, (((putB l).length : Nat) : Int), 0) := by
  have hf := fall_of h
  have hL := putB_len hl
  unfold getP
  simp only
  have e0 : (putB l ++ ys).take 1032 = putB l ++ ys.take (1032 - (putB l).length) := by rw [List.take_append, List.take_of_length_le hL]
  rw [e0]
  generalize ys.take (1032 - (putB l).length) = zs
  unfold putB at hL ⊢
  have hrl : l.reverse.length = l.length := List.length_reverse
  have hrr : l.reverse.reverse = l := List.reverse_reverse l
  cases e : l.reverse with
  | nil => exact absurd (List.reverse_eq_nil_iff.1 e) hn
  | cons x R =>
    rw [e] at hf hrl hrr
    rw [getA_put x R zs hf (by simp only [List.length_cons] at hrl; omega)]
    simp only [if_true]
    rw [hrr]
    refine Prod.ext rfl (Prod.ext ?_ rfl)
    simp only [List.length_append]
    omega
/-- The set of all numbers of spans. -/
def setL (l : List Sp) : List Sp := l.foldl (fun s x => adP s x.1 x.2) []
theorem setL_snoc (l : List Sp) (x : Sp) : setL (l ++ [x]) = adP (setL l) x.1 x.2 := by unfold setL; rw [List.foldl_append]; rfl
theorem adP_mem {s : List Sp} (h : Canon s) {f t : Int} (hok : Okk (f, t)) (n : Int) : Mem (adP s f t) n ↔ Mem s n ∨ (f ≤ n ∧ n ≤ t) := by
  rw [← adP_eq h, if_pos ((may_iff f t).2 hok), radd_eq h hok]
  exact (add_spec h hok).2 n
theorem setL_spec (l : List Sp) : Canon (setL l) ∧ ((∀ x ∈ l, Okk x) → ∀ n, Mem (setL l) n ↔ Mem l n) := by
  suffices H : ∀ (l s : List Sp), Canon s → Canon (l.foldl (fun s x => adP s x.1 x.2) s) ∧ ((∀ x ∈ l, Okk x) → ∀ n, Mem (l.foldl (fun s x => adP s x.1 x.2) s) n ↔ Mem s n ∨ Mem l n) by
    obtain ⟨h1, h2⟩ := H l [] Canon.nil
    exact ⟨h1, fun h n => (h2 h n).trans ⟨fun a => a.elim (fun a => absurd a (mem_nil n)) id, .inr⟩⟩
  intro l
  induction l with
  | nil => intro s hs; exact ⟨hs, fun _ n => ⟨.inl, fun a => a.elim id (fun a => absurd a (mem_nil n))⟩⟩
  | cons x l ih =>
    intro s hs
    obtain ⟨i1, i2⟩ := ih (adP s x.1 x.2) (adP_canon hs _ _)
    refine ⟨i1, fun h n => ?_⟩
    rw [List.foldl_cons, i2 (fun y hy => h y (List.mem_cons_of_mem _ hy)), adP_mem hs (h x (List.mem_cons_self ..)), mem_cons]
    exact ⟨fun a => a.elim (fun a => a.elim .inl (fun a => .inr (.inl a))) (fun a => .inr (.inr a)), fun a => a.elim (fun a => .inl (.inl a)) (fun a => a.elim (fun a => .inl (.inr a)) .inr)⟩
theorem setL_canon {l : List Sp} (h : Canon l) : setL l = l := canon_ext (setL_spec l).1 h (fun n => (setL_spec l).2 h.1 n)
theorem setL_len {l : List Sp} : (setL l).length ≤ l.length := by
  suffices H : ∀ (l s : List Sp), Canon s → (l.foldl (fun s x => adP s x.1 x.2) s).length ≤ s.length + l.length by have := H l [] Canon.nil; simpa [setL] using this
  intro l
  induction l with
  | nil => intro s hs; simp
  | cons x l ih =>
    intro s hs
    have h1 := ih (adP s x.1 x.2) (adP_canon hs _ _)
    have h2 : (adP s x.1 x.2).length ≤ s.length + 1 := by
      unfold adP
      split
      · next q => exact addL_len s _ _ (fE_bU hs (by have := (may_iff _ _).1 q.1; unfold Okk at this; simp only at this; omega))
      · omega
    rw [List.foldl_cons, List.length_cons]
    omega
/-- What Check answers. -/
def chkL (l : List Sp) : Int := if 64 < l.length then 5 else if l = [] ∨ setL l ≠ l then 4 else 0
end Go.Proofs.YtiollhmbdhepkaaGreatDoor
namespace Go.Proofs.YtiollhmbdhepkaaGreatDoor
open Go.RowKit
set_option maxRecDepth 100000

theorem fsl {w : World} {v : Value} {xs : List Int} (h : Sl w v xs) : Fi.Sl w v xs := h
theorem slf {w : World} {v : Value} {xs : List Int} (h : Fi.Sl w v xs) : Sl w v xs := h
/-- Bytes in a row of the call's own. -/
def Ow (w : World) (B : Nat) (v : Value) (X : List Int) : Prop := w.ownsRow B 5 1 v X.length (X.map (Value.int .u8)) ∧ ∀ k, 0 ≤ X.getD k 0 ∧ X.getD k 0 < 256
theorem Ow.sl {w : World} {B : Nat} {v : Value} {X : List Int} (h : Ow w B v X) : Sl w v X := sl_owned h.1 h.2
theorem Ow.below {w w' : World} {B : Nat} {v : Value} {X : List Int} (h : Ow w B v X) (hb : Below w.heap.size w w') : Ow w' B v X := ⟨own_below h.1 hb, h.2⟩
theorem Ow.mono {w : World} {B B' : Nat} {v : Value} {X : List Int} (h : Ow w B v X) (hb : B' ≤ B) : Ow w B' v X := ⟨own_mono h.1 hb, h.2⟩
theorem Ow.shape {w : World} {B : Nat} {v : Value} {X : List Int} (h : Ow w B v X) : ∃ a c, v = .slice a X.length c := own_shape h.1
/-- A list of texts. -/
def LP (w : World) (B : Nat) (v : Value) (ZZ : List (List Int)) : Prop :=
  ∃ V : List Value, w.ownsRow B 34 1 v ZZ.length V ∧ ∀ i, i < ZZ.length → ∃ u, V[i]? = some u ∧ Ow w B u (ZZ.getD i [])
theorem LP.below {w w' : World} {B : Nat} {v : Value} {ZZ : List (List Int)} (h : LP w B v ZZ) (hb : Below w.heap.size w w') : LP w' B v ZZ := by
  obtain ⟨V, h1, h2⟩ := h
  refine ⟨V, own_below h1 hb, fun i hi => ?_⟩
  obtain ⟨u, h3, h4⟩ := h2 i hi
  exact ⟨u, h3, h4.below hb⟩
theorem LP.parts {w : World} {B : Nat} {v : Value} {ZZ : List (List Int)} (h : LP w B v ZZ) (hm : ZZ.length ≤ 100000) : ∃ p c, v = .slice p ZZ.length c ∧ Fi.Parts w p ZZ := by
  obtain ⟨V, ho, h⟩ := h
  have ho' := ho
  rcases ho.2 with ⟨rfl, h0⟩ | ⟨g, cap, cur, rfl, _⟩
  · exact ⟨none, 0, by rw [h0], by omega, .inl (List.length_eq_zero_iff.1 h0)⟩
  · refine ⟨_, cap, rfl, by omega, .inr ⟨g, 0, rfl, fun i hi => ?_⟩⟩
    obtain ⟨u, hu, sl⟩ := h i hi
    refine ⟨u, ?_, fsl sl.sl⟩
    have := ho'.cells (g := g) rfl i u hu
    rwa [Addr.add_lit] at this
theorem LP.one {w : World} {B : Nat} {u : Value} {X : List Int} (h : Ow w B u X) (hB : B ≤ w.heap.size) : LP (w.alloc (.cells #[u] 34)) B (.slice (some ⟨w.heap.size, 0, none⟩) 1 1) [X] := by
  refine ⟨[u], ⟨rfl, .inr ⟨w.heap.size, 1, #[u], rfl, hB, heap_alloc_new _ _, Nat.le_refl _, by unfold maxLen; omega, rfl, rfl⟩⟩, fun i hi => ?_⟩
  obtain rfl : i = 0 := by simpa using hi
  exact ⟨u, rfl, h.below (al_below _ _)⟩
theorem infoB : (Tryz.prog.info? 34).map (fun i => (i.zero, i.size, i.bytes)) = some (some (.slice none 0 0), 1, 24) := by kernel_rfl
theorem parts_bytes {w : World} {p : Option Addr} {ZZ : List (List Int)} (h : Fi.Parts w p ZZ) : ∀ i, 0 ≤ ZZ.flatten.getD i 0 ∧ ZZ.flatten.getD i 0 < 256 := by
  refine bytes_flat ZZ fun X hX => ?_
  obtain ⟨i, hi, rfl⟩ := List.getElem_of_mem hX
  rcases h.2 with h | ⟨b, off, e, h⟩
  · subst h; simp at hi
  · obtain ⟨v, _, s⟩ := h i hi
    have := (slf s).bytes
    simpa [List.getD, List.getElem?_eq_getElem hi] using this
theorem fjoin_any (p : Option Addr) (kc : Nat) (ZZ : List (List Int)) (w : World) (hP : Fi.Parts w p ZZ) (hbig : ZZ.flatten.length ≤ 200000000000000) :
    Calls Tryz.prog 58 #[.slice p ZZ.length kc] w fun r w' => ∃ v, r = .returned v ∧ Ow w' w.heap.size v ZZ.flatten ∧ Below w.heap.size w w' :=
  (Fi.join_any p kc ZZ w hP hbig).mono fun _ _ ⟨v, e1, o, b⟩ => ⟨v, e1, ⟨o, parts_bytes hP⟩, b⟩
theorem rdNum (g s : Nat) (xs : List Int) (e m : Int) (w : World) (hw : Fi.Wid w) (h : Fi.Rd w g s xs e) :
    Calls Tryz.prog 90 #[.pointer (some ⟨g, 0, none⟩), .int .i64 m] w fun r w' => r = .returned (.int .i64 (rN xs e m).1) ∧ Fi.Rd w' g s (rN xs e m).2.1 (rN xs e m).2.2 ∧ Fi.Off g w w' := by
  unfold rN
  split
  · rename_i he
    subst he
    exact Fi.num_any g s xs m w hw h
  · rename_i he
    refine (Fi.num_stop g s xs e m w h he).mono ?_
    rintro r w' ⟨rfl, rfl⟩
    exact ⟨rfl, h, Fi.Off.refl _ _⟩
theorem Rd.setRow {w : World} {g s k : Nat} {xs : List Int} {e : Int} (h : Fi.Rd w g s xs e) (hg : k ≠ g) (hs : k ≠ s) (cs : Array Value) : Fi.Rd (w.setRow k cs) g s xs e := by
  have hb : Fi.Off k w (w.setRow k cs) := ⟨rfl, rfl, rfl, by simp, fun j hj => setRow_other w k j cs hj⟩
  exact h.off hb (fun e => hg e.symm) (fun e => hs e.symm)
theorem Rd.lt {w : World} {g s : Nat} {xs : List Int} {e : Int} (h : Fi.Rd w g s xs e) : g < w.heap.size := by
  obtain ⟨a, cap, c0, _⟩ := h
  exact World.block_lt_of_cell? _ _ c0
end Go.Proofs.YtiollhmbdhepkaaGreatDoor
namespace Go.Proofs.YtiollhmbdhepkaaGreatDoor
open Go.RowKit Go.Shelf
set_option maxRecDepth 100000

theorem part_one {P : Program} {t : TypeId} {cs : Array Value} {o : Nat} {v : Value} {w : World} (h : (isAgg t).run P w = .ok false w) (hc : cs[o]? = some v) : (part t cs o).run P w = .ok v w := by
  simp [part, Sem.run_bind, h, hc]
theorem eqf_cons {P : Program} {d : Nat} {xs ys : Array Value} {f : Field} {fs : List Field} {u v : Value} {r : Bool} {w : World} {t : TypeId} {o : Nat} (hn : f.name ≠ "_") (ht : f.type = t) (ho : f.offset = o) (ha : (part t xs o).run P w = .ok u w) (hb : (part t ys o).run P w = .ok v w) (he : (Op.equalIn d t u v).run P w = .ok r w) :
    (Op.eqFields d xs ys (f :: fs)).run P w = if r = true then (Op.eqFields d xs ys fs).run P w else .ok false w := by
  subst ht ho
  rw [Op.eqFields, if_pos hn]
  simp only [Sem.run_bind, ha, hb, he, Result.andThen_ok]
  cases r
  · simp
  · simp
theorem bed {α : Type} [BEq α] [LawfulBEq α] [DecidableEq α] (a b : α) : (a == b) = decide (a = b) := by by_cases h : a = b <;> simp [h]
theorem eqf_nil {P : Program} {d : Nat} {xs ys : Array Value} {w : World} : (Op.eqFields d xs ys []).run P w = .ok true w := by
  rw [Op.eqFields, Sem.run_pure]
theorem two {w : World} {a b : Bool} : (if a = true then (if b = true then Result.ok true w else .ok false w) else (.ok false w : Result Bool)) = .ok (a && b) w := by
  cases a <;> cases b <;> rfl
theorem fieldsS : (Tryz.prog.fieldsOf 131).toList.map (fun f => (decide (f.name ≠ "_"), f.type, f.offset)) = [(true, 3, 0), (true, 3, 1)] := by kernel_rfl
theorem structS : Tryz.prog.underlying 131 = some (.struct (Tryz.prog.fieldsOf 131)) := by kernel_rfl
theorem standsS : Tryz.prog.stoodInHeld 131 = false := by kernel_rfl
theorem guardS : Tryz.prog.eqGuardType Tryz.prog.depth 131 = false := by kernel_rfl
def spv (x : Sp) : Value := .agg #[.int .i64 x.1, .int .i64 x.2]
def sSp (x y : Sp) : Bool := decide (x.1 = y.1) && decide (x.2 = y.2)
theorem sSp_iff (x y : Sp) : sSp x y = true ↔ x = y := by
  obtain ⟨a, b⟩ := x
  obtain ⟨c, d⟩ := y
  simp [sSp]
theorem eq_sp (x y : Sp) (w : World) : (Op.equalIn 10000 131 (spv x) (spv y)).run Tryz.prog w = .ok (sSp x y) w := by
  unfold spv
  rw [run_equalIn_struct w 9999 131 _ _ structS standsS]
  have hf := fieldsS
  generalize (Tryz.prog.fieldsOf 131).toList = fs at hf
  have hlen : fs.length = 2 := by have := congrArg List.length hf; simpa using this
  match fs, hlen, hf with
  | [f0, f1], _, hf =>
    simp only [List.map_cons, List.map_nil, List.cons.injEq, Prod.mk.injEq, and_true, decide_eq_true_eq] at hf
    obtain ⟨⟨n0, t0, o0⟩, n3, t3, o3⟩ := hf
    have aU : (isAgg 3).run Tryz.prog w = .ok false w := by simp [isAgg, run_underlying Tryz.underlying3]
    have p0 : ∀ z : Sp, (part 3 #[.int .i64 z.1, .int .i64 z.2] 0).run Tryz.prog w = .ok (.int .i64 z.1) w := fun z => part_one aU rfl
    have p1 : ∀ z : Sp, (part 3 #[.int .i64 z.1, .int .i64 z.2] 1).run Tryz.prog w = .ok (.int .i64 z.2) w := fun z => part_one aU rfl
    have e1 : (Op.equalIn 9999 3 (.int .i64 x.1) (.int .i64 y.1)).run Tryz.prog w = .ok (x.1 == y.1) w := run_equalIn_int w 9998 3 .i64 .i64 _ _ Tryz.underlying3
    have e2 : (Op.equalIn 9999 3 (.int .i64 x.2) (.int .i64 y.2)).run Tryz.prog w = .ok (x.2 == y.2) w := run_equalIn_int w 9998 3 .i64 .i64 _ _ Tryz.underlying3
    rw [eqf_cons n0 t0 o0 (p0 x) (p0 y) e1, eqf_cons n3 t3 o3 (p1 x) (p1 y) e2, eqf_nil, two]
    unfold sSp
    rw [bed x.1, bed x.2]
theorem neq_sp (x y : Sp) (w : World) : (binOp .neq 131 (spv x) (spv y)).run Tryz.prog w = .ok (.bool (!sSp x y)) w := by
  have hE := eq_sp x y w
  unfold spv at hE ⊢
  simp only [run_neq_struct, hE, Result.andThen_ok]
theorem eqg_sp (o : BinOp) (x y : Sp) (a b : Operand) (w : World) : (eqGuard o 131 a b (spv x) (spv y)).run Tryz.prog w = .ok () w := run_eqGuard_agg _ _ _ _ _ _ _ guardS
end Go.Proofs.YtiollhmbdhepkaaGreatDoor
namespace Go.Proofs.YtiollhmbdhepkaaGreatDoor
open Go.RowKit Go.Shelf
set_option maxRecDepth 100000

theorem take_snoc {l : List Sp} {j : Nat} (h : j < l.length) : l.take (j + 1) = l.take j ++ [atS l j] := by rw [atS_eq l j h, List.take_succ_eq_append_getElem h]
end Go.Proofs.YtiollhmbdhepkaaGreatDoor
