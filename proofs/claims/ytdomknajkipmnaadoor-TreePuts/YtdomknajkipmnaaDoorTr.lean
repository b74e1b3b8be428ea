/-
  The document's Put and Remove, plainly; they are the program's.
-/
import Derived.Test.YtdomknajkipmnaaDoorTq
namespace Go.Proofs.YtdomknajkipmnaaDoor
open Go.RowKit

/-- Whether an entry is laid ahead of that of a place. -/
def cut1 (l : List En) (x : En) (d : Bool) (j : Nat) : Bool := !d && !les (atE l j).k x.k
/-- What the document's loop has laid, and whether the entry is among it. -/
def rst (l : List En) (x : En) : Nat → List En × Bool
  | 0 => ([], false)
  | j + 1 => ((if (atE l j).k ≠ x.k then (if cut1 l x (rst l x j).2 j then (rst l x j).1 ++ [x] else (rst l x j).1) ++ [atE l j] else (if cut1 l x (rst l x j).2 j then (rst l x j).1 ++ [x] else (rst l x j).1)), (rst l x j).2 || cut1 l x (rst l x j).2 j)
def rins (l : List En) (x : En) : List En := if (rst l x l.length).2 then (rst l x l.length).1 else (rst l x l.length).1 ++ [x]
/-- What the document's Put answers. -/
def rput (l : List En) (x : En) : List En × Int := if ckT l ≠ 0 then ([], ckT l) else if gotB l x.k = true ∧ (got l x.k).d ≠ x.d then ([], 9) else if ckT (rins l x) ≠ 0 then ([], ckT (rins l x)) else (rins l x, 0)
/-- What the document's Remove answers. -/
def rrem (l : List En) (q : List UInt8) : List En × Int := if ckT l ≠ 0 then ([], ckT l) else if gotB l q = false then ([], 8) else if (got l q).d = true ∧ 0 < (chi l q).length then ([], 10) else (l.filter (fun y => decide (y.k ≠ q)), 0)
theorem take_next (l : List En) (j : Nat) (h : j < l.length) : l.take (j + 1) = l.take j ++ [atE l j] := by
  rw [List.take_add_one, List.getElem?_eq_getElem h, atE_eq l j h]
  rfl
/-- The first place ahead of which an entry is laid. -/
def fst (l : List En) (x : En) : Nat := l.findIdx (fun y => !les y.k x.k)
theorem rst_lo (l : List En) (x : En) (hne : ∀ j, j < fst l x → (atE l j).k ≠ x.k) : ∀ j, j ≤ fst l x → j ≤ l.length → rst l x j = (l.take j, false)
  | 0, _, _ => rfl
  | j + 1, h1, h2 => by
    have ih := rst_lo l x hne j (by omega) (by omega)
    have hl : les (atE l j).k x.k = true := by
      have := (findIdx_spec l (fun y => !les y.k x.k)).2.1 j (by unfold fst at h1; omega)
      simpa using this
    have hc : cut1 l x false j = false := by unfold cut1; rw [hl]; rfl
    unfold rst
    rw [ih, hc, if_pos (hne j (by omega)), if_neg (by simp), take_next l j (by omega)]
    rfl
theorem drop_take_next (l : List En) (b j : Nat) (hb : b ≤ j) (h : j < l.length) : (l.take (j + 1)).drop b = (l.take j).drop b ++ [atE l j] := by
  rw [take_next l j h, List.drop_append_of_le_length (by rw [List.length_take]; omega)]
theorem rst_hi (l : List En) (x : En) (hne : ∀ j, j < l.length → j ≠ fst l x → (atE l j).k ≠ x.k) (ha : fst l x < l.length) (b : Nat) (hb : b = if (atE l (fst l x)).k = x.k then fst l x + 1 else fst l x) :
    ∀ j, fst l x < j → j ≤ l.length → rst l x j = (l.take (fst l x) ++ [x] ++ (l.take j).drop b, true)
  | 0, h, _ => by omega
  | j + 1, h1, h2 => by
    by_cases hj : j = fst l x
    · have lo := rst_lo l x (fun k hk => hne k (by omega) (by omega)) j (by omega) (by omega)
      have hl : les (atE l j).k x.k = false := by
        have := (findIdx_spec l (fun y => !les y.k x.k)).2.2 ha
        rw [hj]
        simpa [fst] using this
      have hc : cut1 l x false j = true := by unfold cut1; rw [hl]; rfl
      unfold rst
      rw [lo, hc]
      rw [← hj] at hb ⊢
      by_cases he : (atE l j).k = x.k
      · rw [if_neg (by simpa using he), if_pos rfl]
        rw [if_pos he] at hb
        subst hb
        rw [List.drop_of_length_le (by rw [List.length_take]; omega), List.append_nil]
        rfl
      · rw [if_pos he, if_pos rfl]
        rw [if_neg he] at hb
        rw [hb, drop_take_next l j j (Nat.le_refl _) (by omega), List.drop_of_length_le (by rw [List.length_take]; omega), List.nil_append]
        rfl
    · have ih := rst_hi l x hne ha b hb j (by omega) (by omega)
      have hc : cut1 l x true j = false := rfl
      unfold rst
      rw [ih, hc, if_pos (hne j (by omega) hj), if_neg (by simp), drop_take_next l b j (by rw [hb]; split <;> omega) (by omega), List.append_assoc _ _ [atE l j]]
      rfl
/-- What the document lays. -/
theorem rins_eq (l : List En) (x : En) (hne : ∀ j, j < l.length → j ≠ fst l x → (atE l j).k ≠ x.k) :
    rins l x = l.take (fst l x) ++ [x] ++ l.drop (if fst l x < l.length ∧ (atE l (fst l x)).k = x.k then fst l x + 1 else fst l x) := by
  unfold rins
  have hle : fst l x ≤ l.length := List.findIdx_le_length
  by_cases ha : fst l x < l.length
  · rw [rst_hi l x hne ha _ rfl l.length ha (Nat.le_refl _), if_pos rfl, List.take_length]
    congr 2
    by_cases he : (atE l (fst l x)).k = x.k
    · rw [if_pos he, if_pos ⟨ha, he⟩]
    · rw [if_neg he, if_neg (fun e => he e.2)]
  · have e : fst l x = l.length := by omega
    rw [rst_lo l x (fun k hk => hne k (by omega) (by omega)) l.length (by omega) (Nat.le_refl _), if_neg (by simp), if_neg (fun h => ha h.1), e, List.drop_length, List.append_nil, List.take_length]
theorem ckI_pre (l m : List En) (k : Nat) (h : m.take (k + 1) = l.take (k + 1)) : ckI m k = ckI l k := by
  have a : ∀ i, i < k + 1 → atE m i = atE l i := fun i hi => by rw [← atE_take m (k + 1) i hi, ← atE_take l (k + 1) i hi, h]
  have t : m.take k = l.take k := by
    have := congrArg (fun z => z.take k) h
    simpa [List.take_take] using this
  unfold ckI
  rw [a k (by omega), a (k - 1) (by omega), t]
/-- A list with an entry whose path is none. -/
theorem ckT_bad {l : List En} {x : En} (h : ckT l = 0) (hc : chk x.k ≠ 0) (a : Nat) (ha : a ≤ l.length) : ckT (l.take a ++ [x] ++ l.drop a) = if 64 < l.length + 1 then 5 else chk x.k := by
  have hlen : (l.take a ++ [x] ++ l.drop a).length = l.length + 1 := by
    rw [List.length_append, List.length_append, List.length_take, List.length_drop]
    simp
    omega
  have hta : (l.take a).length = a := by rw [List.length_take]; omega
  by_cases h6 : 64 < l.length + 1
  · rw [if_pos h6]
    exact ckT_long _ (by omega)
  · rw [if_neg h6]
    have hx : atE (l.take a ++ [x] ++ l.drop a) a = x := by
      simp only [atE, List.getD]
      rw [List.append_assoc, List.getElem?_append_right (by omega), hta]
      simp
    have hk : ckI (l.take a ++ [x] ++ l.drop a) a = chk x.k := by
      unfold ckI
      rw [hx, if_pos hc]
    rw [← hk]
    refine ckT_hit _ (by omega) a (by omega) (fun k hk2 => ?_) (by rw [hk]; exact hc)
    rw [ckI_pre l _ k]
    · exact (ckT_all l h).2 k (by omega)
    · rw [List.append_assoc, List.take_append_of_le_length (by omega), List.take_take]
      congr 1
      omega
theorem rput_eq (l : List En) (x : En) : rput l x = put l x := by
  unfold rput put
  by_cases h : ckT l ≠ 0
  · rw [if_pos h, if_pos h]
  rw [if_neg h, if_neg h]
  have h0 : ckT l = 0 := Decidable.not_not.1 h
  by_cases hc : chk x.k = 0
  · have hp : plc l x.k = fst l x := by unfold plc fst; rw [if_neg (by simp [hc])]
    have hh := has_fnd (x := x) h0 hc
    have hne : ∀ j, j < l.length → j ≠ fst l x → (atE l j).k ≠ x.k := fun j hj hjf e => by
      rcases Nat.lt_or_ge j (fst l x) with h1 | h1
      · rw [← hp] at h1
        exact les_ne (plc_lt hc h1) e
      · have h2 := plc_at hc (show plc l x.k < l.length by rw [hp]; omega)
        rw [hp, ← e] at h2
        have h3 := tree_lt h0 j (fst l x) (by omega) hj
        rw [h2] at h3
        cases h3
    have hr : rins l x = mad l x := by
      rw [rins_eq l x hne]
      unfold mad
      rw [hp]
      congr 2
      cases hb : has l x with
      | true =>
        have := (has_iff l x).1 hb
        rw [hp] at this
        rw [if_pos this]
        rfl
      | false =>
        rw [if_neg]
        · rfl
        · intro e
          rw [← hp] at e
          rw [(has_iff l x).2 e] at hb
          cases hb
    have hg : has l x = true → got l x.k = atE l (plc l x.k) := fun hb => by
      obtain ⟨h1, h2⟩ := (has_iff l x).1 hb
      have : fnd l x.k = plc l x.k := fnd_of _ h1 (fun k hk => les_ne (plc_lt hc hk)) h2
      unfold got
      rw [this, if_neg (by omega)]
    rw [hr, ← hh]
    cases hb : has l x with
    | true => rw [hg hb]
    | false =>
      have n1 : ¬ (false = true ∧ (got l x.k).d ≠ x.d) := fun e => Bool.noConfusion e.1
      have n2 : ¬ (false = true ∧ (atE l (plc l x.k)).d ≠ x.d) := fun e => Bool.noConfusion e.1
      rw [if_neg n1, if_neg n2]
  · have hp : plc l x.k = l.length := by unfold plc; rw [if_pos hc]
    have hne : ∀ j, j < l.length → (atE l j).k ≠ x.k := fun j hj e => hc (by rw [← e]; exact (ckI_ok ((ckT_all l h0).2 j hj)).1)
    have hb : has l x = false := by
      cases hb : has l x with
      | false => rfl
      | true =>
        obtain ⟨h1, _⟩ := (has_iff l x).1 hb
        omega
    have hg : gotB l x.k = false := by
      have hf : fnd l x.k = l.length := findIdx_none l _ (fun k hk => decide_eq_false (hne k hk))
      unfold gotB
      simp [hf]
    have hle : fst l x ≤ l.length := List.findIdx_le_length
    have e1 : ckT (rins l x) = if 64 < l.length + 1 then 5 else chk x.k := by
      rw [rins_eq l x (fun j hj _ => hne j hj), if_neg (fun e => hne _ e.1 e.2)]
      exact ckT_bad h0 hc _ hle
    have e2 : ckT (mad l x) = if 64 < l.length + 1 then 5 else chk x.k := by
      unfold mad
      rw [hb, hp]
      exact ckT_bad h0 hc _ (Nat.le_refl _)
    have e3 : ¬ (if 64 < l.length + 1 then (5 : Int) else chk x.k) = 0 := by
      split
      · decide
      · exact hc
    have n1 : ¬ (false = true ∧ (got l x.k).d ≠ x.d) := fun e => Bool.noConfusion e.1
    have n2 : ¬ (false = true ∧ (atE l (plc l x.k)).d ≠ x.d) := fun e => Bool.noConfusion e.1
    rw [hg, hb, if_neg n1, if_neg n2, e1, e2, if_pos e3, if_pos e3]
/-- What is in a directory is found. -/
theorem chi_fnc (l : List En) (q : List UInt8) : 0 < (chi l q).length ↔ fnc l q < l.length := by
  unfold chi fnc
  rw [List.length_map, List.findIdx_lt_length, List.length_pos_iff, ne_eq, List.filter_eq_nil_iff]
  simp
theorem rrem_eq (l : List En) (q : List UInt8) : rrem l q = rem l q := by
  unfold rrem rem
  by_cases h : ckT l ≠ 0
  · rw [if_pos h, if_pos h]
  rw [if_neg h, if_neg h]
  have h0 : ckT l = 0 := Decidable.not_not.1 h
  by_cases hf : fnd l q = l.length
  · rw [if_pos hf, if_pos (by unfold gotB; simp [hf])]
  · obtain ⟨h1, h2⟩ := fnd_hit hf
    have hg : gotB l q = true := by unfold gotB; simp [hf]
    have hgo : got l q = atE l (fnd l q) := if_neg hf
    rw [if_neg (by rw [hg]; exact Bool.noConfusion), if_neg hf]
    have hd : ((got l q).d = true ∧ 0 < (chi l q).length) ↔ fnc l q < l.length := by
      rw [← chi_fnc]
      refine ⟨fun e => e.2, fun e => ⟨?_, e⟩⟩
      rw [hgo]
      cases hb : (atE l (fnd l q)).d with
      | true => rfl
      | false =>
        exfalso
        have hlt := (chi_fnc l q).1 e
        have hs := (findIdx_spec l (fun y => decide (par y.k = q))).2.2 hlt
        have hs' : par (atE l (fnc l q)).k = q := of_decide_eq_true hs
        have hq : q ≠ [] := by rw [← h2]; exact chk_ne (ckI_ok ((ckT_all l h0).2 _ h1)).1
        obtain ⟨j, hj, e1, e2⟩ := tree_par h0 hlt (by rw [hs']; exact hq)
        have := tree_inj h0 (i := j) (j := fnd l q) (by omega) h1 (by rw [e1, hs', h2])
        subst this
        rw [hb] at e2
        cases e2
    by_cases hc : fnc l q < l.length
    · rw [if_pos (hd.2 hc), if_pos hc]
    · rw [if_neg (fun e => hc (hd.1 e)), if_neg hc]
      congr 1
      have split : l = l.take (fnd l q) ++ (atE l (fnd l q) :: l.drop (fnd l q + 1)) := by
        rw [atE_eq l _ h1, ← List.drop_eq_getElem_cons h1, List.take_append_drop]
      have hin : ∀ y ∈ l, ∀ i (hi : i < l.length), y = l[i] → i ≠ fnd l q → decide (y.k ≠ q) = true := fun y _ i hi e hne => by
        refine decide_eq_true fun e2 => hne (tree_inj h0 hi h1 ?_)
        rw [atE_eq l i hi, ← e, e2, h2]
      conv => lhs; rw [split]
      have hn : ¬ (fun y : En => decide (y.k ≠ q)) (atE l (fnd l q)) = true := fun e => absurd h2 (of_decide_eq_true e)
      rw [List.filter_append, List.filter_cons_of_neg (p := fun y : En => decide (y.k ≠ q)) hn]
      congr 1
      · rw [List.filter_eq_self]
        intro y hy
        obtain ⟨i, hi, e⟩ := List.getElem_of_mem hy
        rw [List.length_take] at hi
        rw [List.getElem_take] at e
        exact hin y (List.mem_of_mem_take hy) i (by omega) e.symm (by omega)
      · rw [List.filter_eq_self]
        intro y hy
        obtain ⟨i, hi, e⟩ := List.getElem_of_mem hy
        rw [List.length_drop] at hi
        rw [List.getElem_drop] at e
        exact hin y (List.mem_of_mem_drop hy) (fnd l q + 1 + i) (by omega) e.symm (by omega)
end Go.Proofs.YtdomknajkipmnaaDoor
