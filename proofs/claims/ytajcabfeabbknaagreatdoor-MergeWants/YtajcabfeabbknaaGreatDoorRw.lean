/-
  What the document's merge answers, plainly: of trees it is the program's.
-/
import Derived.Test.YtajcabfeabbknaaGreatDoorLa
namespace Go.Proofs.YtajcabfeabbknaaGreatDoor
open Go.RowKit

def rblkN (s : List En) : Nat → List UInt8 → Bool
  | 0, _ => false
  | n + 1, q => hK s (par q) false || rblkN s n (par q)
def rsty (s : List En) (pd : Bool) (x : En) : Bool := if gotB s x.k then (if x.d then (got s x.k).d else !(got s x.k).d && decide (x.z = (got s x.k).z)) else !rblkN s 8 x.k && !pd
def rkp (s d : List En) (P : Pol) (x : En) : Bool :=
  if x.d = true ∨ rsty s P.del x = true ∨ P.bak = false ∨ kep x.k = [] then false else if gotB s (kep x.k) = true ∨ (gotB d (kep x.k) = true ∧ (got d (kep x.k)).d = true) then false
  else if par (kep x.k) = [] then true else (gotB s (par (kep x.k)) && (got s (par (kep x.k))).d) || (gotB d (par (kep x.k)) && (got d (par (kep x.k))).d && rsty s P.del (got d (par (kep x.k))))
/-- One round of laying an entry. -/
def ladS (x : En) (o : List En × Bool) (y : En) : List En × Bool :=
  let o1 := if o.2 = false ∧ les y.k x.k = false then (o.1 ++ [x], true) else o
  (if y.k = x.k then o1.1 else o1.1 ++ [y], o1.2)
def rlad (l : List En) (x : En) : List En := let o := l.foldl (ladS x) ([], false); if o.2 then o.1 else o.1 ++ [x]
def rcpy (x : En) : En := ⟨mk (kep x.k), false, x.z⟩
def rwnt (s d : List En) (P : Pol) : List En := s.foldl rlad (((d.filter (rkp s d P)).map rcpy).foldl rlad ((d.filter (rsty s P.del)).foldl rlad []))
def g1 (s d : List En) (P : Pol) (x : En) : Bool := rkp s d P x && !(gotB d (kep x.k) && decide ((got d (kep x.k)).z = x.z))
def g4 (d : List En) (x : En) : Bool := !x.d && !(gotB d x.k && !(got d x.k).d && decide ((got d x.k).z = x.z))
def rke (x : En) : List UInt8 := kep x.k

theorem hK_nil {s : List En} (hs : Wf s) (b : Bool) : hK s [] b = false := by
  cases h : hK s [] b with
  | false => rfl
  | true =>
    obtain ⟨y, hy, _⟩ := hK_iff.1 h
    obtain ⟨a, e⟩ := fn_some hy
    exact absurd e (chk_ne (hs.2.1 y a).1)
theorem rblkN_nil {s : List En} (hs : Wf s) : ∀ n, rblkN s n [] = false
  | 0 => rfl
  | n + 1 => by unfold rblkN; rw [par_nil, hK_nil hs, rblkN_nil hs n]; rfl
theorem rblkN_eq {s : List En} (hs : Wf s) : ∀ n q, rblkN s n q = blkN s n q
  | 0, _ => rfl
  | n + 1, q => by
    unfold rblkN blkN
    by_cases hp : par q = []
    · rw [if_pos hp, hp, hK_nil hs, rblkN_nil hs n]; rfl
    · rw [if_neg hp, rblkN_eq hs n]
theorem chk_depth {q : List UInt8} (h : chk q = 0) : (spl q).length ≤ 8 := by
  unfold chk at h
  split at h
  · cases h
  split at h
  · cases h
  split at h
  · cases h
  split at h
  · cases h
  · omega
theorem rblk_eq {s : List En} (hs : Wf s) {q : List UInt8} (h : chk q = 0) : rblkN s 8 q = blk s q := by
  rw [rblkN_eq hs, Bool.eq_iff_iff, blk_iff]
  exact blkN_iff s 8 q (.inr (by have := chk_depth h; omega))
theorem rsty_eq {s : List En} (hs : Wf s) {pd : Bool} {x : En} (hx : Ok x) : rsty s pd x = sty s pd x := by
  unfold rsty sty
  cases hg : gotB s x.k with
  | true =>
    rw [if_pos rfl, if_pos rfl]
    obtain ⟨y, hy⟩ := gotB_some.1 hg
    obtain ⟨a, e⟩ := fn_some hy
    rw [(got_some hy).2, Bool.eq_iff_iff, hav_iff, hy]
    cases hd : x.d with
    | true =>
      rw [if_pos rfl]
      constructor
      · intro h; rw [ok_dir (hs.2.1 y a) hx e h hd]
      · intro h; cases h; exact hd
    | false =>
      rw [if_neg (by simp)]
      constructor
      · intro h
        rw [Bool.and_eq_true, decide_eq_true_eq] at h
        have h1 : y.d = false := by simpa using h.1
        congr 1
        cases x; cases y
        simp only at hd h1 h
        subst hd; subst h1
        simp only [En.k] at e
        rw [dl_inj e, h.2]
      · intro h; cases h; simp [hd]
  | false =>
    rw [if_neg (by simp), if_neg (by simp), rblk_eq hs hx.1]
    cases pd <;> simp
theorem par_of {d : List En} (hd : Wf d) {x : En} (hx : x ∈ d) (hp : par x.k ≠ []) : fn d (par x.k) = some ⟨mk (par x.k), true, []⟩ := by
  obtain ⟨z, hz, e1, e2⟩ := hd.2.2 x hx hp
  have h := hd.1.fnk hz e1
  rw [h]
  congr 1
  have hz0 := (hd.2.1 z hz).2.2.2 e2
  cases z
  simp only at e2 hz0
  subst e2; subst hz0
  simp only [En.k] at e1
  congr 1
  rw [← e1, mk_dl]
theorem rkp_eq {s d : List En} {P : Pol} (hs : Wf s) (hd : Wf d) {x : En} (hx : x ∈ d) : (rkp s d P x = decide (kpt s d P x ≠ [])) ∧ (kpt s d P x ≠ [] → kpt s d P x = kep x.k) := by
  have hox := hd.2.1 x hx
  unfold rkp kpt
  rw [rsty_eq hs hox]
  by_cases h1 : P.bak = false ∨ x.d = true ∨ sty s P.del x = true
  · rw [if_pos h1, if_pos (match h1 with | .inl h => .inr (.inr (.inl h)) | .inr (.inl h) => .inl h | .inr (.inr h) => .inr (.inl h))]
    exact ⟨by simp, fun h => absurd rfl h⟩
  rw [if_neg h1]
  rcases kep_cases x.k with hk | ⟨hk, hkc, _⟩
  · rw [if_pos (.inr (.inr (.inr hk))), hk]
    refine ⟨?_, fun _ => ?_⟩
    · have : (if gotB s [] = true ∨ hK d [] true = true then ([] : List UInt8) else if par [] ≠ [] ∧ sty s P.del ⟨mk (par []), true, []⟩ = false then [] else []) = [] := by
        split
        · rfl
        · split <;> rfl
      rw [this]; simp
    · split
      · rfl
      · split <;> rfl
  have hne : kep x.k ≠ [] := by rw [hk]; simp
  rw [if_neg (fun hh => match hh with | .inl h => h1 (.inr (.inl h)) | .inr (.inl h) => h1 (.inr (.inr h)) | .inr (.inr (.inl h)) => h1 (.inl h) | .inr (.inr (.inr h)) => hne h)]
  have e2 : (gotB d (kep x.k) = true ∧ (got d (kep x.k)).d = true) ↔ hK d (kep x.k) true = true := by
    unfold hK
    rw [Bool.and_eq_true, decide_eq_true_eq]
  by_cases h2 : gotB s (kep x.k) = true ∨ hK d (kep x.k) true = true
  · rw [if_pos h2, if_pos (match h2 with | .inl h => .inl h | .inr h => .inr (e2.2 h))]
    exact ⟨by simp, fun h => absurd rfl h⟩
  rw [if_neg h2, if_neg (fun hh => match hh with | .inl h => h2 (.inl h) | .inr h => h2 (.inr (e2.1 h)))]
  have hpk : par (kep x.k) = par x.k := by rw [hk, par_kep]
  by_cases h3 : par (kep x.k) = []
  · rw [if_pos h3, if_neg (by rintro ⟨h, _⟩; exact h h3)]
    exact ⟨by simp [hne], fun _ => rfl⟩
  rw [if_neg h3]
  have hpar := par_of hd hx (by rw [← hpk]; exact h3)
  rw [← hpk] at hpar
  have hz : Ok ⟨mk (par (kep x.k)), true, []⟩ := hd.2.1 _ (fn_some hpar).1
  have e4 : ((gotB s (par (kep x.k)) && (got s (par (kep x.k))).d) || (gotB d (par (kep x.k)) && (got d (par (kep x.k))).d && rsty s P.del (got d (par (kep x.k))))) = sty s P.del ⟨mk (par (kep x.k)), true, []⟩ := by
    rw [(got_some hpar).1, (got_some hpar).2, rsty_eq hs hz]
    cases hst : sty s P.del ⟨mk (par (kep x.k)), true, []⟩ with
    | true => simp
    | false =>
      simp only [Bool.and_false, Bool.or_false]
      cases hg : gotB s (par (kep x.k)) with
      | false => rfl
      | true =>
        obtain ⟨y, hy⟩ := gotB_some.1 hg
        rw [(got_some hy).2]
        cases hyd : y.d with
        | false => rfl
        | true =>
          exfalso
          have : y = ⟨mk (par (kep x.k)), true, []⟩ := ok_dir (hs.2.1 y (fn_some hy).1) hz (by rw [(fn_some hy).2]; simp [En.k, dl_mk]) hyd rfl
          have h := (sty_iff (s := s) (pd := P.del) (x := ⟨mk (par (kep x.k)), true, []⟩)).2 (.inl (by simp only [En.k, dl_mk]; rw [hy, this]))
          rw [hst] at h; cases h
  rw [e4]
  cases hst : sty s P.del ⟨mk (par (kep x.k)), true, []⟩ with
  | true => rw [if_neg (by simp)]; exact ⟨by simp [hne], fun _ => rfl⟩
  | false => rw [if_pos ⟨h3, rfl⟩]; exact ⟨by simp, fun h => absurd rfl h⟩
/-- Laying an entry, round by round, is laying it. -/
theorem lad_done (x : En) : ∀ (l o : List En), (∀ y ∈ l, les x.k y.k = true) → l.foldl (ladS x) (o, true) = (o ++ l, true)
  | [], o, _ => by simp
  | y :: l, o, h => by
    have h1 := h y List.mem_cons_self
    have e : ladS x (o, true) y = (o ++ [y], true) := by
      unfold ladS
      simp only [Bool.true_eq_false, false_and, if_false]
      rw [if_neg (les_ne h1).symm]
    rw [List.foldl_cons, e, lad_done x l _ (fun z hz => h z (List.mem_cons_of_mem _ hz))]
    simp
theorem lad_eq (x : En) : ∀ (l o : List En), Srt l → (let q := l.foldl (ladS x) (o, false); if q.2 then q.1 else q.1 ++ [x]) = o ++ ins l x
  | [], o, _ => by simp [ins]
  | y :: l, o, h => by
    obtain ⟨h1, h2⟩ := List.pairwise_cons.1 h
    rw [List.foldl_cons]
    cases hl : les y.k x.k with
    | true =>
      have e : ladS x (o, false) y = (o ++ [y], false) := by
        unfold ladS
        simp only [hl, Bool.true_eq_false, and_false, if_false]
        rw [if_neg (les_ne hl)]
      rw [e, lad_eq x l _ h2]
      unfold ins
      rw [List.filter_cons, List.filter_cons, hl, les_asy hl]
      simp
    | false =>
      have hgt : ∀ z ∈ l, les x.k z.k = true := fun z hz => by
        by_cases e : y.k = x.k
        · rw [← e]; exact h1 z hz
        · rcases les_tot e with h' | h'
          · rw [hl] at h'; cases h'
          · exact les_tra _ _ _ h' (h1 z hz)
      have hc := ins_cut [] (if y.k = x.k then [y] else []) ((if y.k = x.k then [] else [y]) ++ l) x (fun z hz => by cases hz) (fun z hz => by
        split at hz
        · rename_i e; simp at hz; rw [hz]; exact e
        · cases hz) (fun z hz => by
        rcases List.mem_append.1 hz with hz | hz
        · split at hz
          · cases hz
          · rename_i e
            simp at hz
            rw [hz]
            rcases les_tot e with h' | h'
            · rw [hl] at h'; cases h'
            · exact h'
        · exact hgt z hz)
      by_cases e : y.k = x.k
      · have e' : ladS x (o, false) y = (o ++ [x], true) := by
          unfold ladS
          simp only [hl, and_self, if_true]
          rw [if_pos e]
        rw [e', lad_done x l _ hgt]
        rw [if_pos e, if_pos e] at hc
        simp only [List.nil_append, List.singleton_append] at hc
        rw [hc]
        simp
      · have e' : ladS x (o, false) y = (o ++ [x] ++ [y], true) := by
          unfold ladS
          simp only [hl, and_self, if_true]
          rw [if_neg e]
        rw [e', lad_done x l _ hgt]
        rw [if_neg e, if_neg e] at hc
        simp only [List.nil_append, List.singleton_append] at hc
        rw [hc]
        simp
theorem rlad_eq {l : List En} (h : Srt l) (x : En) : rlad l x = ins l x := by
  have := lad_eq x l [] h
  simpa [rlad] using this
theorem rfold_eq : ∀ (xs : List En) {l : List En}, Srt l → xs.foldl rlad l = xs.foldl ins l
  | [], _, _ => rfl
  | x :: xs, l, h => by
    rw [List.foldl_cons, List.foldl_cons, rlad_eq h, rfold_eq xs (srt_ins x h)]
theorem rcps_eq {s d : List En} {P : Pol} (hs : Wf s) (hd : Wf d) : (d.filter (rkp s d P)).map rcpy = cps s d P := by
  have : ∀ l : List En, (∀ x ∈ l, x ∈ d) → (l.filter (rkp s d P)).map rcpy = l.filterMap (fun x => if kpt s d P x = [] then none else some (cpy s d P x)) := by
    intro l
    induction l with
    | nil => intro _; rfl
    | cons x l ih =>
      intro h
      obtain ⟨r1, r2⟩ := rkp_eq (P := P) hs hd (h x List.mem_cons_self)
      have ih' := ih (fun y hy => h y (List.mem_cons_of_mem _ hy))
      by_cases hk : kpt s d P x = []
      · rw [List.filter_cons, r1, List.filterMap_cons, if_pos hk]
        simp only [hk, ne_eq, not_true_eq_false, decide_false, Bool.false_eq_true, if_false]
        exact ih'
      · rw [List.filter_cons, r1, List.filterMap_cons, if_neg hk]
        simp only [ne_eq, hk, not_false_eq_true, decide_true, if_true, List.map_cons]
        rw [ih']
        unfold rcpy cpy
        rw [r2 hk]
  exact this d (fun x hx => hx)
theorem rwnt_eq {s d : List En} {P : Pol} (hs : Wf s) (hd : Wf d) : rwnt s d P = wnt s d P := by
  have hf : d.filter (rsty s P.del) = d.filter (sty s P.del) := List.filter_congr fun x hx => rsty_eq hs (hd.2.1 x hx)
  have h0 : Srt ([] : List En) := List.Pairwise.nil
  unfold rwnt
  rw [hf, rcps_eq hs hd, rfold_eq _ h0, rfold_eq _ (fold_srt _ h0), rfold_eq _ (fold_srt _ (fold_srt _ h0))]
  have hfs : Srt (d.filter (sty s P.del)) := hd.1.filter _
  refine srt_ext (fold_srt _ (fold_srt _ (fold_srt _ h0))) (wnt_wf hs hd).1 fun y => ?_
  rw [mem_fold _ _ _ hs.1.keys, mem_fold _ _ _ (cps_keys hd.1), mem_fold _ _ _ hfs.keys, mem_wnt hs.1 hd.1, List.mem_filter, sty_iff]
  constructor
  · rintro (h | ⟨h | ⟨h | ⟨h, _⟩, h2⟩, h3⟩)
    · exact .inr (.inl h)
    · exact .inl h
    · obtain ⟨a, b⟩ := h
      rcases b with b | ⟨b1, b2, b3⟩
      · exact .inr (.inl (fn_some b).1)
      · exact .inr (.inr ⟨a, b1, b2, b3, h2⟩)
    · cases h
  · rintro (h | h | ⟨h1, h2, h3, h4, h5⟩)
    · refine .inr ⟨.inl h, fun x hx e => ?_⟩
      obtain ⟨z, _, hk, rfl⟩ := mem_cps.1 h
      rw [cpy_k] at e
      have := (kpt_ok hk).2.2.2.1
      rw [← e, hs.1.fn hx] at this
      cases this
    · exact .inl h
    · exact .inr ⟨.inr ⟨.inl ⟨h1, .inr ⟨h2, h3, h4⟩⟩, h5⟩, fun x hx => fn_none.1 h2 x hx⟩
theorem g1_eq {s d : List En} {P : Pol} (hs : Wf s) (hd : Wf d) {x : En} (hx : x ∈ d) : g1 s d P x = f1 s d P x ∧ (f1 s d P x = true → rke x = kpt s d P x) := by
  obtain ⟨r1, r2⟩ := rkp_eq (P := P) hs hd hx
  unfold g1 f1
  rw [r1]
  by_cases hk : kpt s d P x = []
  · simp [hk]
  · refine ⟨?_, fun _ => (r2 hk).symm⟩
    have e := r2 hk
    congr 1
    congr 1
    have h5 := (kpt_ok hk).2.2.2.2.1
    rw [Bool.eq_iff_iff, hav_iff, cpy_k, Bool.and_eq_true, decide_eq_true_eq, ← e]
    constructor
    · rintro ⟨a, b⟩
      obtain ⟨y, hy⟩ := gotB_some.1 a
      rw [(got_some hy).2] at b
      rw [hy]
      congr 1
      have hyd : y.d = false := by
        cases hb : y.d with
        | false => rfl
        | true => rw [hK_iff.2 ⟨y, hy, hb⟩] at h5; cases h5
      have hyk := (fn_some hy).2
      unfold cpy
      rw [← hyk, mk_dl, ← hyd, ← b]
    · intro h
      exact ⟨(got_some h).1, by rw [(got_some h).2]; rfl⟩
theorem g4_eq (d : List En) (x : En) : g4 d x = f4 d x := by
  unfold g4 f4
  cases hx : x.d with
  | true => rfl
  | false =>
    congr 1
    congr 1
    rw [Bool.eq_iff_iff, hav_iff, Bool.and_eq_true, Bool.and_eq_true, decide_eq_true_eq]
    constructor
    · rintro ⟨⟨a, b⟩, c⟩
      obtain ⟨y, hy⟩ := gotB_some.1 a
      rw [(got_some hy).2] at b c
      rw [hy]
      congr 1
      have hyd : y.d = false := by simpa using b
      have hyk := dl_inj (fn_some hy).2
      cases x; cases y
      simp only at hx hyd hyk c
      subst hx; subst hyd; subst hyk; subst c
      rfl
    · intro h
      obtain ⟨a, b⟩ := got_some h
      rw [b]
      exact ⟨⟨a, by simp [hx]⟩, rfl⟩
end Go.Proofs.YtajcabfeabbknaaGreatDoor
