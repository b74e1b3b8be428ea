/-
  The document's Put and Remove, plainly; they are the program's.
  What the document's Put answers.
-/
import Derived.Test.YtajcabfeabbknaaGreatDoorTq
import Derived.Test.YtajcabfeabbknaaGreatDoorR1
import Derived.Test.YtajcabfeabbknaaGreatDoorSe
namespace Go.Proofs.YtajcabfeabbknaaGreatDoor
open Go.RowKit

/-- Whether an entry is laid ahead of that of a place. -/
def cut1 (l : List En) (x : En) (d : Bool) (j : Nat) : Bool := !d && !les (atE l j).k x.k
/-- What the document's loop has laid, and whether the entry is among it. -/
def rst (l : List En) (x : En) : Nat → List En × Bool
  | 0 => ([], false)
  | j + 1 => ((if (atE l j).k ≠ x.k then (if cut1 l x (rst l x j).2 j then (rst l x j).1 ++ [x] else (rst l x j).1) ++ [atE l j] else (if cut1 l x (rst l x j).2 j then (rst l x j).1 ++ [x] else (rst l x j).1)), (rst l x j).2 || cut1 l x (rst l x j).2 j)
def rins (l : List En) (x : En) : List En := if (rst l x l.length).2 then (rst l x l.length).1 else (rst l x l.length).1 ++ [x]
/-- What the document's Put answers. -/
def rput (l : List En) (x : En) : List En × Int := if ckT l ≠ 0 then ([], ckT l) else if gotB l x.k = true ∧ (got l x.k).d ≠ x.d then ([], 9) else if ckT (rins l x) ≠ 0 then ([], ckT (rins l x)) else (rins l x, 0)
/-- What the document's Remove answers. -/
def rrem (l : List En) (q : List UInt8) : List En × Int := if ckT l ≠ 0 then ([], ckT l) else if gotB l q = false then ([], 8) else if (got l q).d = true ∧ 0 < (chi l q).length then ([], 10) else (l.filter (fun y => decide (y.k ≠ q)), 0)
theorem take_next (l : List En) (j : Nat) (h : j < l.length) : l.take (j + 1) = l.take j ++ [atE l j] := by
  rw [List.take_add_one, List.getElem?_eq_getElem h, atE_eq l j h]
  rfl
/-- The first place ahead of which an entry is laid. -/
def fst (l : List En) (x : En) : Nat := l.findIdx (fun y => !les y.k x.k)
theorem rst_lo (l : List En) (x : En) (hne : ∀ j, j < fst l x → (atE l j).k ≠ x.k) : ∀ j, j ≤ fst l x → j ≤ l.length → rst l x j = (l.take j, false)
  | 0, _, _ => rfl
  | j + 1, h1, h2 => by
    have ih := rst_lo l x hne j (by omega) (by omega)
    have hl : les (atE l j).k x.k = true := by
      have := (findIdx_spec l (fun y => !les y.k x.k)).2.1 j (by unfold fst at h1; omega)
      simpa using this
    have hc : cut1 l x false j = false := by unfold cut1; rw [hl]; rfl
    unfold rst
    rw [ih, hc, if_pos (hne j (by omega)), if_neg (by simp), take_next l j (by omega)]
    rfl
theorem drop_take_next (l : List En) (b j : Nat) (hb : b ≤ j) (h : j < l.length) : (l.take (j + 1)).drop b = (l.take j).drop b ++ [atE l j] := by
  rw [take_next l j h, List.drop_append_of_le_length (by rw [List.length_take]; omega)]
theorem rst_hi (l : List En) (x : En) (hne : ∀ j, j < l.length → j ≠ fst l x → (atE l j).k ≠ x.k) (ha : fst l x < l.length) (b : Nat) (hb : b = if (atE l (fst l x)).k = x.k then fst l x + 1 else fst l x) :
    ∀ j, fst l x < j → j ≤ l.length → rst l x j = (l.take (fst l x) ++ [x] ++ (l.take j).drop b, true)
  | 0, h, _ => by omega
  | j + 1, h1, h2 => by
    by_cases hj : j = fst l x
    · have lo := rst_lo l x (fun k hk => hne k (by omega) (by omega)) j (by omega) (by omega)
      have hl : les (atE l j).k x.k = false := by
        have := (findIdx_spec l (fun y => !les y.k x.k)).2.2 ha
        rw [hj]
        simpa [fst] using this
      have hc : cut1 l x false j = true := by unfold cut1; rw [hl]; rfl
      unfold rst
      rw [lo, hc]
      rw [← hj] at hb ⊢
      by_cases he : (atE l j).k = x.k
      · rw [if_neg (by simpa using he), if_pos rfl]
        rw [if_pos he] at hb
        subst hb
        rw [List.drop_of_length_le (by rw [List.length_take]; omega), List.append_nil]
        rfl
      · rw [if_pos he, if_pos rfl]
        rw [if_neg he] at hb
        rw [hb, drop_take_next l j j (Nat.le_refl _) (by omega), List.drop_of_length_le (by rw [List.length_take]; omega), List.nil_append]
        rfl
    · have ih := rst_hi l x hne ha b hb j (by omega) (by omega)
      have hc : cut1 l x true j = false := rfl
      unfold rst
      rw [ih, hc, if_pos (hne j (by omega) hj), if_neg (by simp), drop_take_next l b j (by rw [hb]; split <;> omega) (by omega), List.append_assoc _ _ [atE l j]]
      rfl
/-- What the document lays. -/
theorem rins_eq (l : List En) (x : En) (hne : ∀ j, j < l.length → j ≠ fst l x → (atE l j).k ≠ x.k) :
    rins l x = l.take (fst l x) ++ [x] ++ l.drop (if fst l x < l.length ∧ (atE l (fst l x)).k = x.k then fst l x + 1 else fst l x) := by
  unfold rins
  have hle : fst l x ≤ l.length := List.findIdx_le_length
  by_cases ha : fst l x < l.length
  · rw [rst_hi l x hne ha _ rfl l.length ha (Nat.le_refl _), if_pos rfl, List.take_length]
    congr 2
    by_cases he : (atE l (fst l x)).k = x.k
    · rw [if_pos he, if_pos ⟨ha, he⟩]
    · rw [if_neg he, if_neg (fun e => he e.2)]
  · have e : fst l x = l.length := by omega
    rw [rst_lo l x (fun k hk => hne k (by omega) (by omega)) l.length (by omega) (Nat.le_refl _), if_neg (by simp), if_neg (fun h => ha h.1), e, List.drop_length, List.append_nil, List.take_length]
theorem ckI_pre (l m : List En) (k : Nat) (h : m.take (k + 1) = l.take (k + 1)) : ckI m k = ckI l k := by
  have a : ∀ i, i < k + 1 → atE m i = atE l i := fun i hi => by rw [← atE_take m (k + 1) i hi, ← atE_take l (k + 1) i hi, h]
  have t : m.take k = l.take k := by
    have := congrArg (fun z => z.take k) h
    simpa [List.take_take] using this
  unfold ckI
  rw [a k (by omega), a (k - 1) (by omega), t]
/-- A list with an entry whose path is none. -/
theorem ckT_bad {l : List En} {x : En} (h : ckT l = 0) (hc : chk x.k ≠ 0) (a : Nat) (ha : a ≤ l.length) : ckT (l.take a ++ [x] ++ l.drop a) = if 64 < l.length + 1 then 5 else chk x.k := by
  have hlen : (l.take a ++ [x] ++ l.drop a).length = l.length + 1 := by
    rw [List.length_append, List.length_append, List.length_take, List.length_drop]
    simp
    omega
  have hta : (l.take a).length = a := by rw [List.length_take]; omega
  by_cases h6 : 64 < l.length + 1
  · rw [if_pos h6]
    exact ckT_long _ (by omega)
  · rw [if_neg h6]
    have hx : atE (l.take a ++ [x] ++ l.drop a) a = x := by
      simp only [atE, List.getD]
      rw [List.append_assoc, List.getElem?_append_right (by omega), hta]
      simp
    have hk : ckI (l.take a ++ [x] ++ l.drop a) a = chk x.k := by
      unfold ckI
      rw [hx, if_pos hc]
    rw [← hk]
    refine ckT_hit _ (by omega) a (by omega) (fun k hk2 => ?_) (by rw [hk]; exact hc)
    rw [ckI_pre l _ k]
    · exact (ckT_all l h).2 k (by omega)
    · rw [List.append_assoc, List.take_append_of_le_length (by omega), List.take_take]
      congr 1
      omega
theorem rput_eq (l : List En) (x : En) : rput l x = put l x := by
  unfold rput put
  by_cases h : ckT l ≠ 0
  · rw [if_pos h, if_pos h]
  rw [if_neg h, if_neg h]
  have h0 : ckT l = 0 := Decidable.not_not.1 h
  by_cases hc : chk x.k = 0
  · have hp : plc l x.k = fst l x := by unfold plc fst; rw [if_neg (by simp [hc])]
    have hh := has_fnd (x := x) h0 hc
    have hne : ∀ j, j < l.length → j ≠ fst l x → (atE l j).k ≠ x.k := fun j hj hjf e => by
      rcases Nat.lt_or_ge j (fst l x) with h1 | h1
      · rw [← hp] at h1
        exact les_ne (plc_lt hc h1) e
      · have h2 := plc_at hc (show plc l x.k < l.length by rw [hp]; omega)
        rw [hp, ← e] at h2
        have h3 := tree_lt h0 j (fst l x) (by omega) hj
        rw [h2] at h3
        cases h3
    have hr : rins l x = mad l x := by
      rw [rins_eq l x hne]
      unfold mad
      rw [hp]
      congr 2
      cases hb : has l x with
      | true =>
        have := (has_iff l x).1 hb
        rw [hp] at this
        rw [if_pos this]
        rfl
      | false =>
        rw [if_neg]
        · rfl
        · intro e
          rw [← hp] at e
          rw [(has_iff l x).2 e] at hb
          cases hb
    have hg : has l x = true → got l x.k = atE l (plc l x.k) := fun hb => by
      obtain ⟨h1, h2⟩ := (has_iff l x).1 hb
      have : fnd l x.k = plc l x.k := fnd_of _ h1 (fun k hk => les_ne (plc_lt hc hk)) h2
      unfold got
      rw [this, if_neg (by omega)]
    rw [hr, ← hh]
    cases hb : has l x with
    | true => rw [hg hb]
    | false =>
      have n1 : ¬ (false = true ∧ (got l x.k).d ≠ x.d) := fun e => Bool.noConfusion e.1
      have n2 : ¬ (false = true ∧ (atE l (plc l x.k)).d ≠ x.d) := fun e => Bool.noConfusion e.1
      rw [if_neg n1, if_neg n2]
  · have hp : plc l x.k = l.length := by unfold plc; rw [if_pos hc]
    have hne : ∀ j, j < l.length → (atE l j).k ≠ x.k := fun j hj e => hc (by rw [← e]; exact (ckI_ok ((ckT_all l h0).2 j hj)).1)
    have hb : has l x = false := by
      cases hb : has l x with
      | false => rfl
      | true =>
        obtain ⟨h1, _⟩ := (has_iff l x).1 hb
        omega
    have hg : gotB l x.k = false := by
      have hf : fnd l x.k = l.length := findIdx_none l _ (fun k hk => decide_eq_false (hne k hk))
      unfold gotB
      simp [hf]
    have hle : fst l x ≤ l.length := List.findIdx_le_length
    have e1 : ckT (rins l x) = if 64 < l.length + 1 then 5 else chk x.k := by
      rw [rins_eq l x (fun j hj _ => hne j hj), if_neg (fun e => hne _ e.1 e.2)]
      exact ckT_bad h0 hc _ hle
    have e2 : ckT (mad l x) = if 64 < l.length + 1 then 5 else chk x.k := by
      unfold mad
      rw [hb, hp]
      exact ckT_bad h0 hc _ (Nat.le_refl _)
    have e3 : ¬ (if 64 < l.length + 1 then (5 : Int) else chk x.k) = 0 := by
      split
      · decide
      · exact hc
    have n1 : ¬ (false = true ∧ (got l x.k).d ≠ x.d) := fun e => Bool.noConfusion e.1
    have n2 : ¬ (false = true ∧ (atE l (plc l x.k)).d ≠ x.d) := fun e => Bool.noConfusion e.1
    rw [hg, hb, if_neg n1, if_neg n2, e1, e2, if_pos e3, if_pos e3]
/-- What is in a directory is found. -/
theorem chi_fnc (l : List En) (q : List UInt8) : 0 < (chi l q).length ↔ fnc l q < l.length := by
  unfold chi fnc
  rw [List.length_map, List.findIdx_lt_length, List.length_pos_iff, ne_eq, List.filter_eq_nil_iff]
  simp
theorem rrem_eq (l : List En) (q : List UInt8) : rrem l q = rem l q := by
  unfold rrem rem
  by_cases h : ckT l ≠ 0
  · rw [if_pos h, if_pos h]
  rw [if_neg h, if_neg h]
  have h0 : ckT l = 0 := Decidable.not_not.1 h
  by_cases hf : fnd l q = l.length
  · rw [if_pos hf, if_pos (by unfold gotB; simp [hf])]
  · obtain ⟨h1, h2⟩ := fnd_hit hf
    have hg : gotB l q = true := by unfold gotB; simp [hf]
    have hgo : got l q = atE l (fnd l q) := if_neg hf
    rw [if_neg (by rw [hg]; exact Bool.noConfusion), if_neg hf]
    have hd : ((got l q).d = true ∧ 0 < (chi l q).length) ↔ fnc l q < l.length := by
      rw [← chi_fnc]
      refine ⟨fun e => e.2, fun e => ⟨?_, e⟩⟩
      rw [hgo]
      cases hb : (atE l (fnd l q)).d with
      | true => rfl
      | false =>
        exfalso
        have hlt := (chi_fnc l q).1 e
        have hs := (findIdx_spec l (fun y => decide (par y.k = q))).2.2 hlt
        have hs' : par (atE l (fnc l q)).k = q := of_decide_eq_true hs
        have hq : q ≠ [] := by rw [← h2]; exact chk_ne (ckI_ok ((ckT_all l h0).2 _ h1)).1
        obtain ⟨j, hj, e1, e2⟩ := tree_par h0 hlt (by rw [hs']; exact hq)
        have := tree_inj h0 (i := j) (j := fnd l q) (by omega) h1 (by rw [e1, hs', h2])
        subst this
        rw [hb] at e2
        cases e2
    by_cases hc : fnc l q < l.length
    · rw [if_pos (hd.2 hc), if_pos hc]
    · rw [if_neg (fun e => hc (hd.1 e)), if_neg hc]
      congr 1
      have split : l = l.take (fnd l q) ++ (atE l (fnd l q) :: l.drop (fnd l q + 1)) := by
        rw [atE_eq l _ h1, ← List.drop_eq_getElem_cons h1, List.take_append_drop]
      have hin : ∀ y ∈ l, ∀ i (hi : i < l.length), y = l[i] → i ≠ fnd l q → decide (y.k ≠ q) = true := fun y _ i hi e hne => by
        refine decide_eq_true fun e2 => hne (tree_inj h0 hi h1 ?_)
        rw [atE_eq l i hi, ← e, e2, h2]
      conv => lhs; rw [split]
      have hn : ¬ (fun y : En => decide (y.k ≠ q)) (atE l (fnd l q)) = true := fun e => absurd h2 (of_decide_eq_true e)
      rw [List.filter_append, List.filter_cons_of_neg (p := fun y : En => decide (y.k ≠ q)) hn]
      congr 1
      · rw [List.filter_eq_self]
        intro y hy
        obtain ⟨i, hi, e⟩ := List.getElem_of_mem hy
        rw [List.length_take] at hi
        rw [List.getElem_take] at e
        exact hin y (List.mem_of_mem_take hy) i (by omega) e.symm (by omega)
      · rw [List.filter_eq_self]
        intro y hy
        obtain ⟨i, hi, e⟩ := List.getElem_of_mem hy
        rw [List.length_drop] at hi
        rw [List.getElem_drop] at e
        exact hin y (List.mem_of_mem_drop hy) (fnd l q + 1 + i) (by omega) e.symm (by omega)
end Go.Proofs.YtajcabfeabbknaaGreatDoor
namespace Go.Proofs.YtajcabfeabbknaaGreatDoor
open Go.RowKit
set_option maxRecDepth 100000

theorem SE.drewN {w0 w : World} {B n : Nat} {v : Value} {L : List En} (h : SE w0 w B v L) : SE w0 (w.drewN n) B v L := h.below ⟨rfl, rfl, rfl, Nat.le_refl _, fun _ _ => rfl⟩
theorem rst_len (l : List En) (x : En) : ∀ j, (rst l x j).1.length + (if (rst l x j).2 then 0 else 1) ≤ j + 1
  | 0 => Nat.le_refl _
  | j + 1 => by
    have ih := rst_len l x j
    unfold rst
    dsimp only
    unfold cut1
    generalize (rst l x j).2 = d at *
    generalize (rst l x j).1 = L at *
    generalize les (atE l j).k x.k = b at *
    cases d <;> cases b <;> simp at ih ⊢ <;> (try split) <;> (try simp) <;> omega
theorem rst_mem (l : List En) (x : En) : ∀ j, j ≤ l.length → ∀ y ∈ (rst l x j).1, y = x ∨ y ∈ l
  | 0, _, y, hy => by cases hy
  | j + 1, hj, y, hy => by
    have ih := rst_mem l x j (by omega)
    have hm := atE_mem l j (by omega)
    unfold rst at hy
    dsimp only at hy
    split at hy <;> split at hy <;> (try simp at hy)
    · rcases hy with hy | rfl | rfl
      · exact ih y hy
      · exact .inl rfl
      · exact .inr hm
    · rcases hy with hy | rfl
      · exact ih y hy
      · exact .inr hm
    · rcases hy with hy | rfl
      · exact ih y hy
      · exact .inl rfl
    · exact ih y hy
theorem rst_next (l : List En) (x : En) (j : Nat) : rst l x (j + 1) = ((if (atE l j).k ≠ x.k then (if cut1 l x (rst l x j).2 j then (rst l x j).1 ++ [x] else (rst l x j).1) ++ [atE l j] else (if cut1 l x (rst l x j).2 j then (rst l x j).1 ++ [x] else (rst l x j).1)), (rst l x j).2 || cut1 l x (rst l x j).2 j) := by rw [rst]
set_option maxHeartbeats 8000000 in
set_option maxRecDepth 100000 in
theorem rput_any (v u : Value) (l : List En) (x : En) (w : World) (h : ES w v l) (hl : Lt l) (hx : EV w u x) (hs : x.p.size ≤ 1000) (hz : x.z.length ≤ 100000) :
    Calls Tryz.prog 46 #[v, u] w fun e w' => ∃ v', e = .returned (.tuple #[v', .int .i64 (rput l x).2]) ∧ ES w' v' (rput l x).1 ∧ Below w.heap.size w w' := by
  obtain ⟨a, c, rfl, g2, _, _⟩ := h.shape
  obtain ⟨ua, un, uc, rfl, sl⟩ := hx
  have HS : Hid (ES w (.slice a l.length c) l) := h
  have HL : Hid (Lt l) := hl
  have hn := hl.1
  obtain ⟨W1, hW1⟩ : ∃ W1, W1 = w.alloc (.cells #[.string x.p, .bool x.d, .slice ua un uc] 46) := ⟨_, rfl⟩
  have b1 : Below w.heap.size w W1 := by rw [hW1]; exact (Below.refl _ _).alloc (Nat.le_refl _) _
  have B1 : Hid (Below w.heap.size w W1) := b1
  have K1 : Hid (W1.heap[w.heap.size]? = some (.cells #[.string x.p, .bool x.d, .slice ua un uc] 46 (0, 0))) := by unfold Hid; rw [hW1]; exact heap_alloc_new _ _
  have HT : Hid (∀ W, Below W1.heap.size W1 W → W.heap[w.heap.size]? = some (.cells #[.string x.p, .bool x.d, .slice ua un uc] 46 (0, 0))) := fun W hb => (hb.block _ (lt_of_block K1.out)).trans K1.out
  have CC := rcheckT_any _ l W1 (HS.out.kept b1) hl
  have CG : Hid (∀ W, Below w.heap.size w W → Calls Tryz.prog 41 #[.slice a l.length c, .string x.p] W fun e w' => ∃ u, e = .returned (.tuple #[u, .bool (gotB l x.k)]) ∧ EV w' u (got l x.k) ∧ Below W.heap.size W w') := fun W hb => rget_any _ l x.p W (HS.out.kept hb) hl
  have CL : Hid (∀ j W, Calls Tryz.prog 61 #[.string (atE l j).p, .string x.p] W fun e w' => e = .returned (.bool (les (atE l j).k x.k)) ∧ Below W.heap.size W w') := fun j W => rless_any _ _ W (by have := (hl.at j).1; omega) (by omega)
  have HSX : Hid (∀ W, Below w.heap.size w W → Sl W (.slice ua un uc) x.z) := fun W hb => sl.kept hb
  have HEQ : Hid (∀ j, ((atE l j).p.toList == x.p.toList) = decide ((atE l j).k = x.k)) := fun j => by
    rw [tl_beq]
    exact congrFun (fp_eq x.p) (atE l j)
  have HR : Hid (rput l x = if ckT l ≠ 0 then ([], ckT l) else if gotB l x.k = true ∧ (got l x.k).d ≠ x.d then ([], 9) else if ckT (rins l x) ≠ 0 then ([], ckT (rins l x)) else (rins l x, 0)) := rfl
  have HINS : Hid (rins l x = if (rst l x l.length).2 then (rst l x l.length).1 else (rst l x l.length).1 ++ [x]) := rfl
  have H64 : Hid (ckT l = 0 → l.length ≤ 64) := fun h => (ckT_all l h).1
  have HLEN : Hid (∀ j, (rst l x j).1.length ≤ j + 1) := fun j => by
    have := rst_len l x j
    omega
  have HSM : Hid (l.length ≤ 64 → Lt (rins l x)) := fun h6 => by
    refine ⟨?_, fun y hy => ?_⟩
    · have := rst_len l x l.length
      unfold rins
      cases hd : (rst l x l.length).2 with
      | true =>
        rw [hd] at this
        simp at this ⊢
        omega
      | false =>
        rw [hd] at this
        simp at this ⊢
        omega
    · have hm : y = x ∨ y ∈ l := by
        unfold rins at hy
        split at hy
        · exact rst_mem l x _ (Nat.le_refl _) y hy
        · rw [List.mem_append, List.mem_singleton] at hy
          rcases hy with hy | rfl
          · exact rst_mem l x _ (Nat.le_refl _) y hy
          · exact .inl rfl
      rcases hm with rfl | hm
      · exact ⟨hs, hz⟩
      · exact hl.2 y hm
  generalize rput l x = R at *
  obtain ⟨M, hM⟩ : ∃ M, M = rins l x := ⟨_, rfl⟩
  rw [← hM] at HR HINS HSM
  clear hM
  obtain ⟨n, hn'⟩ : ∃ n, n = l.length := ⟨_, rfl⟩
  have HN : Hid (n = l.length) := hn'
  rw [← hn'] at HS CC CG HINS H64 HSM g2 hn ⊢
  generalize gotB l x.k = gb at *
  generalize got l x.k = ge at *
  generalize ckT l = e1 at *
  generalize hxp : x.p = xp at *
  generalize hxd : x.d = xd at *
  have HXP : Hid (x.p = xp) := hxp
  have HXD : Hid (x.d = xd) := hxd
  clear h hl hn' b1 hs hz sl hxp hxd
  go_enter Tryz.func46, Tryz.ntmps46
  go_wp2_with fail
  rw [← hW1]
  clear hW1
  refine CC.mono ?_
  rintro e w2 ⟨rfl, b2⟩
  have D2 : Hid (Below W1.heap.size W1 w2) := b2
  have B2 : Hid (Below w.heap.size w w2) := B1.out.trans (b2.mono B1.out.size)
  obtain ⟨p0, p1, p2, -, -, -⟩ := trio (HT.out w2 b2)
  clear CC b2
  by_cases h1 : e1 = 0
  · subst h1
    have HR1 : Hid (R = if gb = true ∧ ge.d ≠ xd then ([], 9) else if ckT M ≠ 0 then ([], ckT M) else (M, 0)) := by unfold Hid; rw [HR.out, if_neg (by simp)]
    have h64 := H64.out rfl
    have LM : Hid (Lt M) := HSM.out h64
    clear HSM H64
    have cg := CG.out w2 B2.out
    clear HR CG
    go_wp2_with fail
    refine cg.mono ?_
    rintro e w3 ⟨u3, rfl, ⟨ya, yn, yc, rfl, -⟩, b3⟩
    obtain ⟨W3, hW3⟩ : ∃ W3, W3 = w3.alloc (.cells #[.string ge.p, .bool ge.d, .slice ya yn yc] 46) := ⟨_, rfl⟩
    have n3 : Below w3.heap.size w3 W3 := by rw [hW3]; exact (Below.refl _ _).alloc (Nat.le_refl _) _
    have k3 : W3.heap[w3.heap.size]? = some (.cells #[.string ge.p, .bool ge.d, .slice ya yn yc] 46 (0, 0)) := by rw [hW3]; exact heap_alloc_new _ _
    have b23 : Below w2.heap.size w2 W3 := b3.trans (n3.mono b3.size)
    have D3 : Hid (Below W1.heap.size W1 W3) := D2.out.trans (b23.mono D2.out.size)
    have B3 : Hid (Below w.heap.size w W3) := B2.out.trans (b23.mono B2.out.size)
    have KX : Hid (W3.heap[w.heap.size]? = some (.cells #[.string xp, .bool xd, .slice ua un uc] 46 (0, 0))) := HT.out W3 D3.out
    have HXC : Hid (∀ W, Below W3.heap.size W3 W → W.cell? ⟨w.heap.size, 0, none⟩ = some (.string xp) ∧ W.cell? ⟨w.heap.size, 1, none⟩ = some (.bool xd) ∧ W.cell? ⟨w.heap.size, 2, none⟩ = some (.slice ua un uc)) := fun W hb => by
      obtain ⟨q0, q1, q2, -, -, -⟩ := trio ((hb.block _ (lt_of_block KX.out)).trans KX.out)
      exact ⟨q0, q1, q2⟩
    have S3 : Hid (ES W3 (.slice a n c) l) := HS.out.kept B3.out
    have X3 : Hid (Sl W3 (.slice ua un uc) x.z) := HSX.out W3 B3.out
    obtain ⟨y0, y1, y2, -, -, -⟩ := trio k3
    obtain ⟨i0, i1, i2⟩ := HXC.out W3 (Below.refl _ _)
    have HE : Hid (gb = true → ge.d ≠ xd → R = ([], 9)) := fun h1 h2 => by rw [HR1.out, if_pos ⟨h1, h2⟩]
    have HF : Hid (gb = false ∨ ge.d = xd → R = if ckT M ≠ 0 then ([], ckT M) else (M, 0)) := fun h => by
      rw [HR1.out, if_neg]
      rintro ⟨h1, h2⟩
      rcases h with h | h
      · rw [h1] at h; cases h
      · exact h2 h
    rw [hW3] at y0 y1 y2 i0 i1 i2
    clear n3 k3 b3 b23 cg HR1 p0 p1 p2 D2 B2
    cases gb with
    | false =>
      have HR2 : Hid (R = if ckT M ≠ 0 then ([], ckT M) else (M, 0)) := HF.out (.inl rfl)
      clear HE HF
      go_wp2_with fail
      rw [← hW3]
      clear hW3 y0 y1 y2 i0 i1 i2
      go_loopw [9, 10, 11] (fun s dv qv wr => ∃ j : Nat, j ≤ n ∧ qv = .int .i64 j ∧ dv = .bool (rst l x j).2 ∧ SE W3 wr W3.heap.size s (rst l x j).1 ∧ Below W3.heap.size W3 wr) (fun _ _ qv _ => n - (intOf qv).toNat)
      case atStart => exact ⟨0, by omega, rfl, rfl, SE.nil _ _ _, Below.refl _ _⟩
      case round =>
        obtain ⟨j, hj, rfl, rfl, se, bel⟩ := hrel
        have HB : Hid (Below W3.heap.size W3 wr) := bel
        have HO : Hid (SE W3 wr W3.heap.size u9 (rst l x j).1) := se
        obtain ⟨va, vc, rfl⟩ := se.shape
        obtain ⟨nv, hnv⟩ : ∃ nv, nv = (rst l x j).1.length := ⟨_, rfl⟩
        have HJ : Hid (nv = (rst l x j).1.length) := hnv
        have hj9 : nv ≤ 200 := by
          have := HLEN.out j
          omega
        rw [← hnv] at HO ⊢
        clear bel se hnv
        obtain ⟨p0, p1, p2⟩ := HXC.out wr HB.out
        by_cases hlt : j < n
        · have lt2 : (j : Int) < (n : Int) := by omega
          have g0 : (0 : Int) ≤ (j : Int) := by omega
          obtain ⟨b, off, za, zn, zc, rfl, d1, d2, d3, hun, hsl⟩ := S3.out.at j (by rw [← HN.out]; exact hlt)
          have HC : Hid (∀ W, Below W3.heap.size W3 W → W.cell? ⟨b, off + j * 3, none⟩ = some (.string (atE l j).p) ∧ W.cell? ⟨b, off + j * 3 + 1, none⟩ = some (.bool (atE l j).d) ∧ W.cell? ⟨b, off + j * 3 + 2, none⟩ = some (.slice za zn zc)) := fun W hb => ⟨(hb.cell (World.block_lt_of_cell? _ _ d1)).trans d1, (hb.cell (World.block_lt_of_cell? _ _ d2)).trans d2, (hb.cell (World.block_lt_of_cell? _ _ d3)).trans d3⟩
          have q1 : IntKind.i64.wrap ((j : Int) + 1) = ((j + 1 : Nat) : Int) := by simp [IntKind.wrap, IntKind.bits, IntKind.signed]; omega
          have tq := HEQ.out j
          have ZX : Hid (Sl W3 (.slice za zn zc) (atE l j).z) := hsl
          have NXT : Hid (rst l x (j + 1) = ((if decide ((atE l j).k = x.k) then (if cut1 l x (rst l x j).2 j then (rst l x j).1 ++ [x] else (rst l x j).1) else (if cut1 l x (rst l x j).2 j then (rst l x j).1 ++ [x] else (rst l x j).1) ++ [atE l j]), (rst l x j).2 || cut1 l x (rst l x j).2 j)) := by
            unfold Hid
            rw [rst_next]
            by_cases he : (atE l j).k = x.k
            · rw [if_neg (by simpa using he), decide_eq_true he, if_pos rfl]
            · rw [if_pos he, decide_eq_false he]
              rfl
          have HCT : Hid (cut1 l x (rst l x j).2 j = (!(rst l x j).2 && !les (atE l j).k x.k)) := rfl
          have cl : Hid (∀ W, Calls Tryz.prog 61 #[.string (atE l j).p, .string xp] W fun e w' => e = .returned (.bool (les (atE l j).k x.k)) ∧ Below W.heap.size W w') := CL.out j
          obtain ⟨c1, c2, c3⟩ := HC.out wr HB.out
          clear hun hsl d1 d2 d3
          generalize cut1 l x (rst l x j).2 j = ct at *
          generalize les (atE l j).k x.k = r2 at *
          generalize (rst l x j).2 = dn at *
          generalize (rst l x j).1 = L at *
          generalize decide ((atE l j).k = x.k) = rb at *
          generalize hy : atE l j = y at *
          clear hy
          cases dn with
          | true =>
            have hct : ct = false := HCT.out
            subst hct
            go_wp2_with fail
            go_quiet (fail)
            have bq : Below wr.heap.size wr (wr.drewN nq) := ⟨rfl, rfl, rfl, Nat.le_refl _, fun _ _ => rfl⟩
            have B5 : Hid (Below W3.heap.size W3 (wr.drewN nq)) := HB.out.trans (bq.mono HB.out.size)
            have S5 : Hid (SE W3 (wr.drewN nq) W3.heap.size (.slice va nv vc) L) := HO.out.below bq
            generalize wr.drewN nq = w5 at *
            clear bq HO HB p0 p1 p2 c1 c2 c3 HCT
            have NX : Hid (rst l x (j + 1) = ((if rb then L else L ++ [y]), true)) := NXT.out
            clear NXT
            obtain ⟨p0, p1, p2⟩ := HXC.out w5 B5.out
            obtain ⟨c1, c2, c3⟩ := HC.out w5 B5.out
            cases rb with
            | true =>
              have NX2 : Hid (rst l x (j + 1) = (L, true)) := NX.out
              clear NX
              go_wp2_with fail
              go_quiet (fail)
              have bq : Below w5.heap.size w5 (w5.drewN nq) := ⟨rfl, rfl, rfl, Nat.le_refl _, fun _ _ => rfl⟩
              have BZ : Hid (Below W3.heap.size W3 (w5.drewN nq)) := B5.out.trans (bq.mono B5.out.size)
              have SZ : Hid (SE W3 (w5.drewN nq) W3.heap.size (.slice va nv vc) (rst l x (j + 1)).1) := by
                unfold Hid
                rw [NX2.out]
                exact S5.out.below bq
              clear bq S5 B5
              go_wp2
              go_roundw
              case rel => exact ⟨j + 1, by omega, by go_num, by rw [NX2.out], SZ.out, BZ.out⟩
              case measure => simp [intOf]; omega
            | false =>
              have NX2 : Hid (rst l x (j + 1) = (L ++ [y], true)) := NX.out
              clear NX
              go_wp2_with fail
              go_quiet (fail)
              have bq : Below w5.heap.size w5 (w5.drewN nq) := ⟨rfl, rfl, rfl, Nat.le_refl _, fun _ _ => rfl⟩
              have BZ : Hid (Below W3.heap.size W3 (w5.drewN nq)) := B5.out.trans (bq.mono B5.out.size)
              have SZ : Hid (SE W3 (w5.drewN nq) W3.heap.size (.slice va nv vc) (L)) := S5.out.below bq
              generalize w5.drewN nq = w7 at *
              clear bq S5 B5 p0 p1 p2 c1 c2 c3
              obtain ⟨c1, c2, c3⟩ := HC.out w7 BZ.out
              go_wp2_with (at_builtin; refine wpList_append_se rfl _ _ rfl _ (L) rfl SZ.out y _ ZX.out rfl (by rw [← HJ.out]; omega) BZ.out (Hid.out ?_))
              unfold Hid
              intro v8 w8 s8 b8
              have SY : Hid (SE W3 w8 W3.heap.size v8 (rst l x (j + 1)).1) := by unfold Hid; rw [NX2.out]; simpa using s8
              have BY : Hid (Below W3.heap.size W3 w8) := b8
              clear s8 b8 SZ BZ
              go_wp2
              go_roundw
              case rel => exact ⟨j + 1, by omega, by go_num, by rw [NX2.out], SY.out, BY.out⟩
              case measure => simp [intOf]; omega
          | false =>
            have kk : wr.cell? ⟨b, off + j * 3, none⟩ = some (.string y.p) ∧ wr.cell? ⟨w.heap.size, 0, none⟩ = some (.string xp) := ⟨c1, p0⟩
            have kd : wr.drew.cell? ⟨b, off + j * 3, none⟩ = some (.string y.p) ∧ wr.drew.cell? ⟨w.heap.size, 0, none⟩ = some (.string xp) := ⟨c1, p0⟩
            have clw := cl.out wr.drew
            generalize hyp : y.p = yp at *
            have HYP : Hid (y.p = yp) := hyp
            clear hyp
            cases r2 with
            | true =>
              have hct : ct = false := HCT.out
              subst hct
              go_wp2_with fail
              go_region_held3 (fun W => W.cell? ⟨b, off + j * 3, none⟩ = some (.string yp) ∧ W.cell? ⟨w.heap.size, 0, none⟩ = some (.string xp)) (first | exact kk | exact kd | exact k5) (first
                | (go_at_call 61; refine clw.mono ?_; rintro e w5 ⟨rfl, b5⟩; have d5 : Below wr.heap.size wr w5 := (Below.refl wr.heap.size wr).drew.trans b5; have k5 : w5.cell? ⟨b, off + j * 3, none⟩ = some (.string yp) ∧ w5.cell? ⟨w.heap.size, 0, none⟩ = some (.string xp) := ⟨(d5.cell (World.block_lt_of_cell? _ _ kk.1)).trans kk.1, (d5.cell (World.block_lt_of_cell? _ _ kk.2)).trans kk.2⟩))
              have B5 : Hid (Below W3.heap.size W3 w5) := HB.out.trans (d5.mono HB.out.size)
              have S5 : Hid (SE W3 w5 W3.heap.size (.slice va nv vc) L) := HO.out.below d5
              clear p0 p1 p2 c1 c2 c3 HCT HO HB clw b5 d5 kk kd k5
              have hyp := HYP.out
              subst hyp
              have NX : Hid (rst l x (j + 1) = ((if rb then L else L ++ [y]), false)) := NXT.out
              clear NXT
              obtain ⟨p0, p1, p2⟩ := HXC.out w5 B5.out
              obtain ⟨c1, c2, c3⟩ := HC.out w5 B5.out
              cases rb with
              | true =>
                have NX2 : Hid (rst l x (j + 1) = (L, false)) := NX.out
                clear NX
                go_wp2_with fail
                go_quiet (fail)
                have bq : Below w5.heap.size w5 (w5.drewN nq) := ⟨rfl, rfl, rfl, Nat.le_refl _, fun _ _ => rfl⟩
                have BZ : Hid (Below W3.heap.size W3 (w5.drewN nq)) := B5.out.trans (bq.mono B5.out.size)
                have SZ : Hid (SE W3 (w5.drewN nq) W3.heap.size (.slice va nv vc) (rst l x (j + 1)).1) := by
                  unfold Hid
                  rw [NX2.out]
                  exact S5.out.below bq
                clear bq S5 B5
                go_wp2
                go_roundw
                case rel => exact ⟨j + 1, by omega, by go_num, by rw [NX2.out], SZ.out, BZ.out⟩
                case measure => simp [intOf]; omega
              | false =>
                have NX2 : Hid (rst l x (j + 1) = (L ++ [y], false)) := NX.out
                clear NX
                go_wp2_with fail
                go_quiet (fail)
                have bq : Below w5.heap.size w5 (w5.drewN nq) := ⟨rfl, rfl, rfl, Nat.le_refl _, fun _ _ => rfl⟩
                have BZ : Hid (Below W3.heap.size W3 (w5.drewN nq)) := B5.out.trans (bq.mono B5.out.size)
                have SZ : Hid (SE W3 (w5.drewN nq) W3.heap.size (.slice va nv vc) (L)) := S5.out.below bq
                generalize w5.drewN nq = w7 at *
                clear bq S5 B5 p0 p1 p2 c1 c2 c3
                obtain ⟨c1, c2, c3⟩ := HC.out w7 BZ.out
                go_wp2_with (at_builtin; refine wpList_append_se rfl _ _ rfl _ (L) rfl SZ.out y _ ZX.out rfl (by rw [← HJ.out]; omega) BZ.out (Hid.out ?_))
                unfold Hid
                intro v8 w8 s8 b8
                have SY : Hid (SE W3 w8 W3.heap.size v8 (rst l x (j + 1)).1) := by unfold Hid; rw [NX2.out]; simpa using s8
                have BY : Hid (Below W3.heap.size W3 w8) := b8
                clear s8 b8 SZ BZ
                go_wp2
                go_roundw
                case rel => exact ⟨j + 1, by omega, by go_num, by rw [NX2.out], SY.out, BY.out⟩
                case measure => simp [intOf]; omega
            | false =>
              have hct : ct = true := HCT.out
              subst hct
              go_wp2_with fail
              go_region_held3 (fun W => W.cell? ⟨b, off + j * 3, none⟩ = some (.string yp) ∧ W.cell? ⟨w.heap.size, 0, none⟩ = some (.string xp)) (first | exact kk | exact kd | exact k5) (first
                | (go_at_call 61; refine clw.mono ?_; rintro e w5 ⟨rfl, b5⟩; have d5 : Below wr.heap.size wr w5 := (Below.refl wr.heap.size wr).drew.trans b5; have k5 : w5.cell? ⟨b, off + j * 3, none⟩ = some (.string yp) ∧ w5.cell? ⟨w.heap.size, 0, none⟩ = some (.string xp) := ⟨(d5.cell (World.block_lt_of_cell? _ _ kk.1)).trans kk.1, (d5.cell (World.block_lt_of_cell? _ _ kk.2)).trans kk.2⟩))
              have B5 : Hid (Below W3.heap.size W3 w5) := HB.out.trans (d5.mono HB.out.size)
              have S5 : Hid (SE W3 w5 W3.heap.size (.slice va nv vc) L) := HO.out.below d5
              clear p0 p1 p2 c1 c2 c3 HCT HO HB clw b5 d5 kk kd k5
              obtain ⟨p0, p1, p2⟩ := HXC.out w5 B5.out
              have hyp := HYP.out
              subst hyp
              have exp := HXP.out
              have exd := HXD.out
              subst exp exd
              go_wp2_with (at_builtin; refine wpList_append_se rfl _ _ rfl _ L rfl S5.out x _ X3.out rfl (by rw [← HJ.out]; omega) B5.out (Hid.out ?_))
              unfold Hid
              intro v6 w6 s6 b6
              obtain ⟨va6, vc6, rfl⟩ := s6.shape
              have S6 : Hid (SE W3 w6 W3.heap.size (.slice va6 (L ++ [x]).length vc6) (L ++ [x])) := s6
              have B6 : Hid (Below W3.heap.size W3 w6) := b6
              clear s6 b6 S5 B5 p0 p1 p2
              obtain ⟨nv6, hnv6⟩ : ∃ nv6, nv6 = (L ++ [x]).length := ⟨_, rfl⟩
              have hnv7 : nv6 ≤ 201 := by
                rw [hnv6, List.length_append, ← HJ.out]
                simp
                omega
              have HJ6 : Hid (nv6 = (L ++ [x]).length) := hnv6
              rw [← hnv6] at S6 ⊢
              clear hnv6
              have NX : Hid (rst l x (j + 1) = ((if rb then L ++ [x] else L ++ [x] ++ [y]), true)) := NXT.out
              clear NXT
              obtain ⟨p0, p1, p2⟩ := HXC.out w6 B6.out
              obtain ⟨c1, c2, c3⟩ := HC.out w6 B6.out
              cases rb with
              | true =>
                have NX2 : Hid (rst l x (j + 1) = (L ++ [x], true)) := NX.out
                clear NX
                go_wp2_with fail
                go_quiet (fail)
                have bq : Below w6.heap.size w6 (w6.drewN nq) := ⟨rfl, rfl, rfl, Nat.le_refl _, fun _ _ => rfl⟩
                have BZ : Hid (Below W3.heap.size W3 (w6.drewN nq)) := B6.out.trans (bq.mono B6.out.size)
                have SZ : Hid (SE W3 (w6.drewN nq) W3.heap.size (.slice va6 nv6 vc6) (rst l x (j + 1)).1) := by
                  unfold Hid
                  rw [NX2.out]
                  exact S6.out.below bq
                clear bq S6 B6
                go_wp2
                go_roundw
                case rel => exact ⟨j + 1, by omega, by go_num, by rw [NX2.out], SZ.out, BZ.out⟩
                case measure => simp [intOf]; omega
              | false =>
                have NX2 : Hid (rst l x (j + 1) = (L ++ [x] ++ [y], true)) := NX.out
                clear NX
                go_wp2_with fail
                go_quiet (fail)
                have bq : Below w6.heap.size w6 (w6.drewN nq) := ⟨rfl, rfl, rfl, Nat.le_refl _, fun _ _ => rfl⟩
                have BZ : Hid (Below W3.heap.size W3 (w6.drewN nq)) := B6.out.trans (bq.mono B6.out.size)
                have SZ : Hid (SE W3 (w6.drewN nq) W3.heap.size (.slice va6 nv6 vc6) (L ++ [x])) := S6.out.below bq
                generalize w6.drewN nq = w7 at *
                clear bq S6 B6 p0 p1 p2 c1 c2 c3
                obtain ⟨c1, c2, c3⟩ := HC.out w7 BZ.out
                go_wp2_with (at_builtin; refine wpList_append_se rfl _ _ rfl _ (L ++ [x]) rfl SZ.out y _ ZX.out rfl (by rw [← HJ6.out]; omega) BZ.out (Hid.out ?_))
                unfold Hid
                intro v8 w8 s8 b8
                have SY : Hid (SE W3 w8 W3.heap.size v8 (rst l x (j + 1)).1) := by unfold Hid; rw [NX2.out]; simpa using s8
                have BY : Hid (Below W3.heap.size W3 w8) := b8
                clear s8 b8 SZ BZ
                go_wp2
                go_roundw
                case rel => exact ⟨j + 1, by omega, by go_num, by rw [NX2.out], SY.out, BY.out⟩
                case measure => simp [intOf]; omega
        · obtain rfl : j = n := by omega
          have HINS2 : Hid (M = if (rst l x j).2 then (rst l x j).1 else (rst l x j).1 ++ [x]) := HINS.out
          clear HINS
          generalize (rst l x j).2 = dn at *
          generalize (rst l x j).1 = L at *
          cases dn with
          | true =>
            have EM : Hid (ES wr (.slice va nv vc) M) := by
              have h1 := HO.out.es HB.out
              unfold Hid
              rw [HINS2.out]
              exact h1
            have B7 : Hid (Below w.heap.size w wr) := B3.out.trans (HB.out.mono B3.out.size)
            have E7 : Hid (ES wr (.slice va nv vc) M) := EM.out
            clear HO HJ HINS2 EM p0 p1 p2
            have ct := rcheckT_any _ M wr E7.out LM.out
            generalize ckT M = e2 at *
            go_wp2_with fail
            refine ct.mono ?_
            rintro e w8 ⟨rfl, b8⟩
            have B8 : Hid (Below w.heap.size w w8) := B7.out.trans (b8.mono B7.out.size)
            have E8 := E7.out.kept b8
            have E9 : Hid (ES w8 (.slice va nv vc) M) := E8
            clear b8 ct E8
            by_cases h2 : e2 = 0
            · subst h2
              have HR3 : Hid (R = (M, 0)) := by unfold Hid; rw [HR2.out, if_neg (by simp)]
              clear HR2
              go_wp2
              go_ret2
              exact ⟨_, by rw [HR3.out]; rfl, by rw [HR3.out]; exact E9.out, B8.out⟩
            · have HR3 : Hid (R = ([], e2)) := by unfold Hid; rw [HR2.out, if_pos h2]
              have t2 : (e2 != 0) = true := by simp [h2]
              clear HR2
              go_wp2
              go_ret2
              exact ⟨_, by rw [HR3.out]; rfl, by rw [HR3.out]; exact ES.nil _, B8.out⟩
          | false =>
            have HINS3 : Hid (M = L ++ [x]) := HINS2.out
            have exp := HXP.out
            have exd := HXD.out
            subst exp exd
            go_wp2_with (at_builtin; refine wpList_append_se rfl _ _ rfl _ L rfl HO.out x _ X3.out rfl (by rw [← HJ.out]; omega) HB.out (Hid.out ?_))
            unfold Hid
            intro v6 w6 s6 b6
            have e7 : ES w6 v6 M := by
              have h1 := s6.es b6
              rw [HINS3.out]
              exact h1
            have B7 : Hid (Below w.heap.size w w6) := B3.out.trans (b6.mono B3.out.size)
            obtain ⟨va6, vc6, rfl, -⟩ := e7.shape
            have E7 : Hid (ES w6 (.slice va6 M.length vc6) M) := e7
            have ct := rcheckT_any _ M w6 e7 LM.out
            clear s6 b6 e7 HO HJ HINS2 HINS3 p0 p1 p2
            generalize ckT M = e2 at *
            obtain ⟨nM, hnM⟩ : ∃ nM, nM = M.length := ⟨_, rfl⟩
            rw [← hnM] at E7 ct ⊢
            clear hnM
            go_wp2_with fail
            refine ct.mono ?_
            rintro e w8 ⟨rfl, b8⟩
            have B8 : Hid (Below w.heap.size w w8) := B7.out.trans (b8.mono B7.out.size)
            have E8 := E7.out.kept b8
            have E9 : Hid (ES w8 (.slice va6 nM vc6) M) := E8
            clear b8 ct E8
            by_cases h2 : e2 = 0
            · subst h2
              have HR3 : Hid (R = (M, 0)) := by unfold Hid; rw [HR2.out, if_neg (by simp)]
              clear HR2
              go_wp2
              go_ret2
              exact ⟨_, by rw [HR3.out]; rfl, by rw [HR3.out]; exact E9.out, B8.out⟩
            · have HR3 : Hid (R = ([], e2)) := by unfold Hid; rw [HR2.out, if_pos h2]
              have t2 : (e2 != 0) = true := by simp [h2]
              clear HR2
              go_wp2
              go_ret2
              exact ⟨_, by rw [HR3.out]; rfl, by rw [HR3.out]; exact ES.nil _, B8.out⟩
    | true =>
      by_cases hd : ge.d = xd
      · have HR2 : Hid (R = if ckT M ≠ 0 then ([], ckT M) else (M, 0)) := HF.out (.inr hd)
        rw [hd] at y0 y1 y2 i0 i1 i2 hW3 ⊢
        clear HE HF hd
        go_wp2_with fail
        rw [← hW3]
        clear hW3 y0 y1 y2 i0 i1 i2
        go_loopw [9, 10, 11] (fun s dv qv wr => ∃ j : Nat, j ≤ n ∧ qv = .int .i64 j ∧ dv = .bool (rst l x j).2 ∧ SE W3 wr W3.heap.size s (rst l x j).1 ∧ Below W3.heap.size W3 wr) (fun _ _ qv _ => n - (intOf qv).toNat)
        case atStart => exact ⟨0, by omega, rfl, rfl, SE.nil _ _ _, Below.refl _ _⟩
        case round =>
          obtain ⟨j, hj, rfl, rfl, se, bel⟩ := hrel
          have HB : Hid (Below W3.heap.size W3 wr) := bel
          have HO : Hid (SE W3 wr W3.heap.size u9 (rst l x j).1) := se
          obtain ⟨va, vc, rfl⟩ := se.shape
          obtain ⟨nv, hnv⟩ : ∃ nv, nv = (rst l x j).1.length := ⟨_, rfl⟩
          have HJ : Hid (nv = (rst l x j).1.length) := hnv
          have hj9 : nv ≤ 200 := by
            have := HLEN.out j
            omega
          rw [← hnv] at HO ⊢
          clear bel se hnv
          obtain ⟨p0, p1, p2⟩ := HXC.out wr HB.out
          by_cases hlt : j < n
          · have lt2 : (j : Int) < (n : Int) := by omega
            have g0 : (0 : Int) ≤ (j : Int) := by omega
            obtain ⟨b, off, za, zn, zc, rfl, d1, d2, d3, hun, hsl⟩ := S3.out.at j (by rw [← HN.out]; exact hlt)
            have HC : Hid (∀ W, Below W3.heap.size W3 W → W.cell? ⟨b, off + j * 3, none⟩ = some (.string (atE l j).p) ∧ W.cell? ⟨b, off + j * 3 + 1, none⟩ = some (.bool (atE l j).d) ∧ W.cell? ⟨b, off + j * 3 + 2, none⟩ = some (.slice za zn zc)) := fun W hb => ⟨(hb.cell (World.block_lt_of_cell? _ _ d1)).trans d1, (hb.cell (World.block_lt_of_cell? _ _ d2)).trans d2, (hb.cell (World.block_lt_of_cell? _ _ d3)).trans d3⟩
            have q1 : IntKind.i64.wrap ((j : Int) + 1) = ((j + 1 : Nat) : Int) := by simp [IntKind.wrap, IntKind.bits, IntKind.signed]; omega
            have tq := HEQ.out j
            have ZX : Hid (Sl W3 (.slice za zn zc) (atE l j).z) := hsl
            have NXT : Hid (rst l x (j + 1) = ((if decide ((atE l j).k = x.k) then (if cut1 l x (rst l x j).2 j then (rst l x j).1 ++ [x] else (rst l x j).1) else (if cut1 l x (rst l x j).2 j then (rst l x j).1 ++ [x] else (rst l x j).1) ++ [atE l j]), (rst l x j).2 || cut1 l x (rst l x j).2 j)) := by
              unfold Hid
              rw [rst_next]
              by_cases he : (atE l j).k = x.k
              · rw [if_neg (by simpa using he), decide_eq_true he, if_pos rfl]
              · rw [if_pos he, decide_eq_false he]
                rfl
            have HCT : Hid (cut1 l x (rst l x j).2 j = (!(rst l x j).2 && !les (atE l j).k x.k)) := rfl
            have cl : Hid (∀ W, Calls Tryz.prog 61 #[.string (atE l j).p, .string xp] W fun e w' => e = .returned (.bool (les (atE l j).k x.k)) ∧ Below W.heap.size W w') := CL.out j
            obtain ⟨c1, c2, c3⟩ := HC.out wr HB.out
            clear hun hsl d1 d2 d3
            generalize cut1 l x (rst l x j).2 j = ct at *
            generalize les (atE l j).k x.k = r2 at *
            generalize (rst l x j).2 = dn at *
            generalize (rst l x j).1 = L at *
            generalize decide ((atE l j).k = x.k) = rb at *
            generalize hy : atE l j = y at *
            clear hy
            cases dn with
            | true =>
              have hct : ct = false := HCT.out
              subst hct
              go_wp2_with fail
              go_quiet (fail)
              have bq : Below wr.heap.size wr (wr.drewN nq) := ⟨rfl, rfl, rfl, Nat.le_refl _, fun _ _ => rfl⟩
              have B5 : Hid (Below W3.heap.size W3 (wr.drewN nq)) := HB.out.trans (bq.mono HB.out.size)
              have S5 : Hid (SE W3 (wr.drewN nq) W3.heap.size (.slice va nv vc) L) := HO.out.below bq
              generalize wr.drewN nq = w5 at *
              clear bq HO HB p0 p1 p2 c1 c2 c3 HCT
              have NX : Hid (rst l x (j + 1) = ((if rb then L else L ++ [y]), true)) := NXT.out
              clear NXT
              obtain ⟨p0, p1, p2⟩ := HXC.out w5 B5.out
              obtain ⟨c1, c2, c3⟩ := HC.out w5 B5.out
              cases rb with
              | true =>
                have NX2 : Hid (rst l x (j + 1) = (L, true)) := NX.out
                clear NX
                go_wp2_with fail
                go_quiet (fail)
                have bq : Below w5.heap.size w5 (w5.drewN nq) := ⟨rfl, rfl, rfl, Nat.le_refl _, fun _ _ => rfl⟩
                have BZ : Hid (Below W3.heap.size W3 (w5.drewN nq)) := B5.out.trans (bq.mono B5.out.size)
                have SZ : Hid (SE W3 (w5.drewN nq) W3.heap.size (.slice va nv vc) (rst l x (j + 1)).1) := by
                  unfold Hid
                  rw [NX2.out]
                  exact S5.out.below bq
                clear bq S5 B5
                go_wp2
                go_roundw
                case rel => exact ⟨j + 1, by omega, by go_num, by rw [NX2.out], SZ.out, BZ.out⟩
                case measure => simp [intOf]; omega
              | false =>
                have NX2 : Hid (rst l x (j + 1) = (L ++ [y], true)) := NX.out
                clear NX
                go_wp2_with fail
                go_quiet (fail)
                have bq : Below w5.heap.size w5 (w5.drewN nq) := ⟨rfl, rfl, rfl, Nat.le_refl _, fun _ _ => rfl⟩
                have BZ : Hid (Below W3.heap.size W3 (w5.drewN nq)) := B5.out.trans (bq.mono B5.out.size)
                have SZ : Hid (SE W3 (w5.drewN nq) W3.heap.size (.slice va nv vc) (L)) := S5.out.below bq
                generalize w5.drewN nq = w7 at *
                clear bq S5 B5 p0 p1 p2 c1 c2 c3
                obtain ⟨c1, c2, c3⟩ := HC.out w7 BZ.out
                go_wp2_with (at_builtin; refine wpList_append_se rfl _ _ rfl _ (L) rfl SZ.out y _ ZX.out rfl (by rw [← HJ.out]; omega) BZ.out (Hid.out ?_))
                unfold Hid
                intro v8 w8 s8 b8
                have SY : Hid (SE W3 w8 W3.heap.size v8 (rst l x (j + 1)).1) := by unfold Hid; rw [NX2.out]; simpa using s8
                have BY : Hid (Below W3.heap.size W3 w8) := b8
                clear s8 b8 SZ BZ
                go_wp2
                go_roundw
                case rel => exact ⟨j + 1, by omega, by go_num, by rw [NX2.out], SY.out, BY.out⟩
                case measure => simp [intOf]; omega
            | false =>
              have kk : wr.cell? ⟨b, off + j * 3, none⟩ = some (.string y.p) ∧ wr.cell? ⟨w.heap.size, 0, none⟩ = some (.string xp) := ⟨c1, p0⟩
              have kd : wr.drew.cell? ⟨b, off + j * 3, none⟩ = some (.string y.p) ∧ wr.drew.cell? ⟨w.heap.size, 0, none⟩ = some (.string xp) := ⟨c1, p0⟩
              have clw := cl.out wr.drew
              generalize hyp : y.p = yp at *
              have HYP : Hid (y.p = yp) := hyp
              clear hyp
              cases r2 with
              | true =>
                have hct : ct = false := HCT.out
                subst hct
                go_wp2_with fail
                go_region_held3 (fun W => W.cell? ⟨b, off + j * 3, none⟩ = some (.string yp) ∧ W.cell? ⟨w.heap.size, 0, none⟩ = some (.string xp)) (first | exact kk | exact kd | exact k5) (first
                  | (go_at_call 61; refine clw.mono ?_; rintro e w5 ⟨rfl, b5⟩; have d5 : Below wr.heap.size wr w5 := (Below.refl wr.heap.size wr).drew.trans b5; have k5 : w5.cell? ⟨b, off + j * 3, none⟩ = some (.string yp) ∧ w5.cell? ⟨w.heap.size, 0, none⟩ = some (.string xp) := ⟨(d5.cell (World.block_lt_of_cell? _ _ kk.1)).trans kk.1, (d5.cell (World.block_lt_of_cell? _ _ kk.2)).trans kk.2⟩))
                have B5 : Hid (Below W3.heap.size W3 w5) := HB.out.trans (d5.mono HB.out.size)
                have S5 : Hid (SE W3 w5 W3.heap.size (.slice va nv vc) L) := HO.out.below d5
                clear p0 p1 p2 c1 c2 c3 HCT HO HB clw b5 d5 kk kd k5
                have hyp := HYP.out
                subst hyp
                have NX : Hid (rst l x (j + 1) = ((if rb then L else L ++ [y]), false)) := NXT.out
                clear NXT
                obtain ⟨p0, p1, p2⟩ := HXC.out w5 B5.out
                obtain ⟨c1, c2, c3⟩ := HC.out w5 B5.out
                cases rb with
                | true =>
                  have NX2 : Hid (rst l x (j + 1) = (L, false)) := NX.out
                  clear NX
                  go_wp2_with fail
                  go_quiet (fail)
                  have bq : Below w5.heap.size w5 (w5.drewN nq) := ⟨rfl, rfl, rfl, Nat.le_refl _, fun _ _ => rfl⟩
                  have BZ : Hid (Below W3.heap.size W3 (w5.drewN nq)) := B5.out.trans (bq.mono B5.out.size)
                  have SZ : Hid (SE W3 (w5.drewN nq) W3.heap.size (.slice va nv vc) (rst l x (j + 1)).1) := by
                    unfold Hid
                    rw [NX2.out]
                    exact S5.out.below bq
                  clear bq S5 B5
                  go_wp2
                  go_roundw
                  case rel => exact ⟨j + 1, by omega, by go_num, by rw [NX2.out], SZ.out, BZ.out⟩
                  case measure => simp [intOf]; omega
                | false =>
                  have NX2 : Hid (rst l x (j + 1) = (L ++ [y], false)) := NX.out
                  clear NX
                  go_wp2_with fail
                  go_quiet (fail)
                  have bq : Below w5.heap.size w5 (w5.drewN nq) := ⟨rfl, rfl, rfl, Nat.le_refl _, fun _ _ => rfl⟩
                  have BZ : Hid (Below W3.heap.size W3 (w5.drewN nq)) := B5.out.trans (bq.mono B5.out.size)
                  have SZ : Hid (SE W3 (w5.drewN nq) W3.heap.size (.slice va nv vc) (L)) := S5.out.below bq
                  generalize w5.drewN nq = w7 at *
                  clear bq S5 B5 p0 p1 p2 c1 c2 c3
                  obtain ⟨c1, c2, c3⟩ := HC.out w7 BZ.out
                  go_wp2_with (at_builtin; refine wpList_append_se rfl _ _ rfl _ (L) rfl SZ.out y _ ZX.out rfl (by rw [← HJ.out]; omega) BZ.out (Hid.out ?_))
                  unfold Hid
                  intro v8 w8 s8 b8
                  have SY : Hid (SE W3 w8 W3.heap.size v8 (rst l x (j + 1)).1) := by unfold Hid; rw [NX2.out]; simpa using s8
                  have BY : Hid (Below W3.heap.size W3 w8) := b8
                  clear s8 b8 SZ BZ
                  go_wp2
                  go_roundw
                  case rel => exact ⟨j + 1, by omega, by go_num, by rw [NX2.out], SY.out, BY.out⟩
                  case measure => simp [intOf]; omega
              | false =>
                have hct : ct = true := HCT.out
                subst hct
                go_wp2_with fail
                go_region_held3 (fun W => W.cell? ⟨b, off + j * 3, none⟩ = some (.string yp) ∧ W.cell? ⟨w.heap.size, 0, none⟩ = some (.string xp)) (first | exact kk | exact kd | exact k5) (first
                  | (go_at_call 61; refine clw.mono ?_; rintro e w5 ⟨rfl, b5⟩; have d5 : Below wr.heap.size wr w5 := (Below.refl wr.heap.size wr).drew.trans b5; have k5 : w5.cell? ⟨b, off + j * 3, none⟩ = some (.string yp) ∧ w5.cell? ⟨w.heap.size, 0, none⟩ = some (.string xp) := ⟨(d5.cell (World.block_lt_of_cell? _ _ kk.1)).trans kk.1, (d5.cell (World.block_lt_of_cell? _ _ kk.2)).trans kk.2⟩))
                have B5 : Hid (Below W3.heap.size W3 w5) := HB.out.trans (d5.mono HB.out.size)
                have S5 : Hid (SE W3 w5 W3.heap.size (.slice va nv vc) L) := HO.out.below d5
                clear p0 p1 p2 c1 c2 c3 HCT HO HB clw b5 d5 kk kd k5
                obtain ⟨p0, p1, p2⟩ := HXC.out w5 B5.out
                have hyp := HYP.out
                subst hyp
                have exp := HXP.out
                have exd := HXD.out
                subst exp exd
                go_wp2_with (at_builtin; refine wpList_append_se rfl _ _ rfl _ L rfl S5.out x _ X3.out rfl (by rw [← HJ.out]; omega) B5.out (Hid.out ?_))
                unfold Hid
                intro v6 w6 s6 b6
                obtain ⟨va6, vc6, rfl⟩ := s6.shape
                have S6 : Hid (SE W3 w6 W3.heap.size (.slice va6 (L ++ [x]).length vc6) (L ++ [x])) := s6
                have B6 : Hid (Below W3.heap.size W3 w6) := b6
                clear s6 b6 S5 B5 p0 p1 p2
                obtain ⟨nv6, hnv6⟩ : ∃ nv6, nv6 = (L ++ [x]).length := ⟨_, rfl⟩
                have hnv7 : nv6 ≤ 201 := by
                  rw [hnv6, List.length_append, ← HJ.out]
                  simp
                  omega
                have HJ6 : Hid (nv6 = (L ++ [x]).length) := hnv6
                rw [← hnv6] at S6 ⊢
                clear hnv6
                have NX : Hid (rst l x (j + 1) = ((if rb then L ++ [x] else L ++ [x] ++ [y]), true)) := NXT.out
                clear NXT
                obtain ⟨p0, p1, p2⟩ := HXC.out w6 B6.out
                obtain ⟨c1, c2, c3⟩ := HC.out w6 B6.out
                cases rb with
                | true =>
                  have NX2 : Hid (rst l x (j + 1) = (L ++ [x], true)) := NX.out
                  clear NX
                  go_wp2_with fail
                  go_quiet (fail)
                  have bq : Below w6.heap.size w6 (w6.drewN nq) := ⟨rfl, rfl, rfl, Nat.le_refl _, fun _ _ => rfl⟩
                  have BZ : Hid (Below W3.heap.size W3 (w6.drewN nq)) := B6.out.trans (bq.mono B6.out.size)
                  have SZ : Hid (SE W3 (w6.drewN nq) W3.heap.size (.slice va6 nv6 vc6) (rst l x (j + 1)).1) := by
                    unfold Hid
                    rw [NX2.out]
                    exact S6.out.below bq
                  clear bq S6 B6
                  go_wp2
                  go_roundw
                  case rel => exact ⟨j + 1, by omega, by go_num, by rw [NX2.out], SZ.out, BZ.out⟩
                  case measure => simp [intOf]; omega
                | false =>
                  have NX2 : Hid (rst l x (j + 1) = (L ++ [x] ++ [y], true)) := NX.out
                  clear NX
                  go_wp2_with fail
                  go_quiet (fail)
                  have bq : Below w6.heap.size w6 (w6.drewN nq) := ⟨rfl, rfl, rfl, Nat.le_refl _, fun _ _ => rfl⟩
                  have BZ : Hid (Below W3.heap.size W3 (w6.drewN nq)) := B6.out.trans (bq.mono B6.out.size)
                  have SZ : Hid (SE W3 (w6.drewN nq) W3.heap.size (.slice va6 nv6 vc6) (L ++ [x])) := S6.out.below bq
                  generalize w6.drewN nq = w7 at *
                  clear bq S6 B6 p0 p1 p2 c1 c2 c3
                  obtain ⟨c1, c2, c3⟩ := HC.out w7 BZ.out
                  go_wp2_with (at_builtin; refine wpList_append_se rfl _ _ rfl _ (L ++ [x]) rfl SZ.out y _ ZX.out rfl (by rw [← HJ6.out]; omega) BZ.out (Hid.out ?_))
                  unfold Hid
                  intro v8 w8 s8 b8
                  have SY : Hid (SE W3 w8 W3.heap.size v8 (rst l x (j + 1)).1) := by unfold Hid; rw [NX2.out]; simpa using s8
                  have BY : Hid (Below W3.heap.size W3 w8) := b8
                  clear s8 b8 SZ BZ
                  go_wp2
                  go_roundw
                  case rel => exact ⟨j + 1, by omega, by go_num, by rw [NX2.out], SY.out, BY.out⟩
                  case measure => simp [intOf]; omega
          · obtain rfl : j = n := by omega
            have HINS2 : Hid (M = if (rst l x j).2 then (rst l x j).1 else (rst l x j).1 ++ [x]) := HINS.out
            clear HINS
            generalize (rst l x j).2 = dn at *
            generalize (rst l x j).1 = L at *
            cases dn with
            | true =>
              have EM : Hid (ES wr (.slice va nv vc) M) := by
                have h1 := HO.out.es HB.out
                unfold Hid
                rw [HINS2.out]
                exact h1
              have B7 : Hid (Below w.heap.size w wr) := B3.out.trans (HB.out.mono B3.out.size)
              have E7 : Hid (ES wr (.slice va nv vc) M) := EM.out
              clear HO HJ HINS2 EM p0 p1 p2
              have ct := rcheckT_any _ M wr E7.out LM.out
              generalize ckT M = e2 at *
              go_wp2_with fail
              refine ct.mono ?_
              rintro e w8 ⟨rfl, b8⟩
              have B8 : Hid (Below w.heap.size w w8) := B7.out.trans (b8.mono B7.out.size)
              have E8 := E7.out.kept b8
              have E9 : Hid (ES w8 (.slice va nv vc) M) := E8
              clear b8 ct E8
              by_cases h2 : e2 = 0
              · subst h2
                have HR3 : Hid (R = (M, 0)) := by unfold Hid; rw [HR2.out, if_neg (by simp)]
                clear HR2
                go_wp2
                go_ret2
                exact ⟨_, by rw [HR3.out]; rfl, by rw [HR3.out]; exact E9.out, B8.out⟩
              · have HR3 : Hid (R = ([], e2)) := by unfold Hid; rw [HR2.out, if_pos h2]
                have t2 : (e2 != 0) = true := by simp [h2]
                clear HR2
                go_wp2
                go_ret2
                exact ⟨_, by rw [HR3.out]; rfl, by rw [HR3.out]; exact ES.nil _, B8.out⟩
            | false =>
              have HINS3 : Hid (M = L ++ [x]) := HINS2.out
              have exp := HXP.out
              have exd := HXD.out
              subst exp exd
              go_wp2_with (at_builtin; refine wpList_append_se rfl _ _ rfl _ L rfl HO.out x _ X3.out rfl (by rw [← HJ.out]; omega) HB.out (Hid.out ?_))
              unfold Hid
              intro v6 w6 s6 b6
              have e7 : ES w6 v6 M := by
                have h1 := s6.es b6
                rw [HINS3.out]
                exact h1
              have B7 : Hid (Below w.heap.size w w6) := B3.out.trans (b6.mono B3.out.size)
              obtain ⟨va6, vc6, rfl, -⟩ := e7.shape
              have E7 : Hid (ES w6 (.slice va6 M.length vc6) M) := e7
              have ct := rcheckT_any _ M w6 e7 LM.out
              clear s6 b6 e7 HO HJ HINS2 HINS3 p0 p1 p2
              generalize ckT M = e2 at *
              obtain ⟨nM, hnM⟩ : ∃ nM, nM = M.length := ⟨_, rfl⟩
              rw [← hnM] at E7 ct ⊢
              clear hnM
              go_wp2_with fail
              refine ct.mono ?_
              rintro e w8 ⟨rfl, b8⟩
              have B8 : Hid (Below w.heap.size w w8) := B7.out.trans (b8.mono B7.out.size)
              have E8 := E7.out.kept b8
              have E9 : Hid (ES w8 (.slice va6 nM vc6) M) := E8
              clear b8 ct E8
              by_cases h2 : e2 = 0
              · subst h2
                have HR3 : Hid (R = (M, 0)) := by unfold Hid; rw [HR2.out, if_neg (by simp)]
                clear HR2
                go_wp2
                go_ret2
                exact ⟨_, by rw [HR3.out]; rfl, by rw [HR3.out]; exact E9.out, B8.out⟩
              · have HR3 : Hid (R = ([], e2)) := by unfold Hid; rw [HR2.out, if_pos h2]
                have t2 : (e2 != 0) = true := by simp [h2]
                clear HR2
                go_wp2
                go_ret2
                exact ⟨_, by rw [HR3.out]; rfl, by rw [HR3.out]; exact ES.nil _, B8.out⟩
      · have HR2 : Hid (R = ([], 9)) := HE.out rfl hd
        clear HE HF HSX HXD KX HXC HT K1
        generalize ge.d = gd at *
        rcases (show (gd = true ∧ xd = false) ∨ (gd = false ∧ xd = true) by cases gd <;> cases xd <;> simp at hd ⊢) with ⟨rfl, rfl⟩ | ⟨rfl, rfl⟩
        · clear hd
          go_wp2
          rw [← hW3]
          go_ret2
          exact ⟨_, by rw [HR2.out]; rfl, by rw [HR2.out]; exact ES.nil _, B3.out⟩
        · clear hd
          go_wp2
          rw [← hW3]
          go_ret2
          exact ⟨_, by rw [HR2.out]; rfl, by rw [HR2.out]; exact ES.nil _, B3.out⟩
  · have HR1 : Hid (R = ([], e1)) := by unfold Hid; rw [HR.out, if_pos h1]
    have t0 : (e1 != 0) = true := by simp [h1]
    clear HR
    go_wp2
    go_ret2
    exact ⟨_, by rw [HR1.out]; rfl, by rw [HR1.out]; exact ES.nil _, B2.out⟩
end Go.Proofs.YtajcabfeabbknaaGreatDoor
