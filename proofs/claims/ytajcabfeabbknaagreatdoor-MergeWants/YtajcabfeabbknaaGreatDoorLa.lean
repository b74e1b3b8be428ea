/-
  Merge, plainly: lists in order; an entry laid in its place; which entries are a tree; what stays, what is kept, what is wanted, and the steps.
  What is wanted is a tree; the steps lead to it.
  The steps, one behind the other, lead to what is wanted, by trees between.
  What the laws lean on, plainly: what is wanted, if it is told.
-/
import Derived.Test.YtajcabfeabbknaaGreatDoorTq
namespace Go.Proofs.YtajcabfeabbknaaGreatDoor
open Go.RowKit

theorem kep_cases (l : List UInt8) : kep l = [] ∨ (kep l = l ++ [126] ∧ chk (l ++ [126]) = 0 ∧ l ≠ []) := by
  unfold kep
  split
  · exact .inl rfl
  · rename_i h
    refine .inr ⟨rfl, ?_, fun e => h (.inl e)⟩
    by_cases hc : chk (l ++ [126]) = 0
    · exact hc
    · exact absurd (.inr (.inr hc)) h
theorem kep_kep (l : List UInt8) : kep (l ++ [126]) = [] := by
  unfold kep
  rw [if_pos]
  refine .inr (.inl ?_)
  rw [List.isSuffixOf_iff_suffix]
  exact ⟨l, rfl⟩
theorem par_kep (l : List UInt8) : par (l ++ [126]) = par l := by
  rcases par_bas l with ⟨h1, h2, h3, h4⟩ | ⟨h1, h2, h3⟩
  · rw [h3]
    rcases par_bas (l ++ [126]) with ⟨_, _, k3, _⟩ | ⟨_, k2, _⟩
    · exact k3
    · exfalso
      have hm : (47 : UInt8) ∈ l ++ [126] := by rw [k2]; simp
      rcases List.mem_append.1 hm with h | h
      · exact h2 47 h rfl
      · simp at h
  · rcases par_bas (l ++ [126]) with ⟨_, k2, _, _⟩ | ⟨_, k2, k3⟩
    · exfalso
      exact k2 47 (by rw [h2]; simp) rfl
    · have e : par l ++ 47 :: (bas l ++ [126]) = par (l ++ [126]) ++ 47 :: bas (l ++ [126]) := by
        rw [← k2]
        conv => rhs; rw [h2]
        simp
      have hb : ∀ c ∈ bas l ++ [126], c ≠ 47 := by
        intro c hc
        rcases List.mem_append.1 hc with h | h
        · exact h3 c h
        · simp only [List.mem_singleton] at h; subst h; decide
      have u1 : parts (par l ++ 47 :: (bas l ++ [126])) = parts (par l) ++ [bas l ++ [126]] := by rw [parts_app, parts_none _ hb]
      have u2 : parts (par (l ++ [126]) ++ 47 :: bas (l ++ [126])) = parts (par (l ++ [126])) ++ [bas (l ++ [126])] := by rw [parts_app, parts_none _ k3]
      rw [e, u2] at u1
      have u3 := List.append_inj_left' u1 rfl
      rw [← joi_parts (par (l ++ [126])), u3, joi_parts]
theorem res_kep (l : List UInt8) : res (l ++ [126]) = res l := by
  unfold res
  cases h : ownP.isPrefixOf l with
  | true =>
    rw [List.isPrefixOf_iff_prefix] at h ⊢
    obtain ⟨t, rfl⟩ := h
    exact ⟨t ++ [126], by simp⟩
  | false =>
    cases h2 : ownP.isPrefixOf (l ++ [126]) with
    | false => rfl
    | true =>
      exfalso
      rw [List.isPrefixOf_iff_prefix] at h2
      obtain ⟨t, ht⟩ := h2
      rcases List.eq_nil_or_concat t with rfl | ⟨t', x, rfl⟩
      · have e : ownP = [46, 115, 117, 109, 112, 116, 101] ++ [114] := rfl
        rw [List.append_nil, e] at ht
        have := List.append_inj_right' ht rfl
        simp at this
      · rw [List.concat_eq_append, ← List.append_assoc] at ht
        have h3 := List.append_inj_left' ht rfl
        have : ownP.isPrefixOf l = true := by
          rw [List.isPrefixOf_iff_prefix]
          exact ⟨t', h3⟩
        rw [h] at this
        cases this
theorem mk_ne {l : List UInt8} (h : l ≠ []) : ((mk l).toList).isEmpty = false := by
  rw [tol, dl_mk]
  simpa using h

theorem chk_small {l : List UInt8} (h : chk l = 0) : l.length ≤ 128 := by
  rcases Nat.lt_or_ge 128 l.length with h' | h'
  · rw [chk_long l h'] at h; cases h
  · exact h'
theorem les_tot {a b : List UInt8} (h : a ≠ b) : les a b = true ∨ les b a = true := by
  have hs : spl a ≠ spl b := fun e => h (spl_inj e)
  have := ltL_tri _ _ hs
  unfold les
  cases hb : ltL (spl b) (spl a) with
  | true => exact .inr rfl
  | false => rw [hb] at this; exact .inl this
theorem les_par {p : List UInt8} (h : par p ≠ []) : les (par p) p = true := by
  rcases par_bas p with ⟨_, _, h3, _⟩ | ⟨_, h2, _⟩
  · exact absurd h3 h
  · have hp : p ≠ [] := fun e => by
      have := congrArg List.length h2
      rw [List.length_append, List.length_cons, e] at this
      simp at this
    have e : parts p = parts (par p) ++ parts (bas p) := by
      have := parts_app (par p) (bas p)
      rwa [← h2] at this
    unfold les spl
    rw [if_neg h, if_neg hp, e]
    exact ltL_app _ _ (parts_ne _)

/-- The entry of a path. -/
def fn (l : List En) (q : List UInt8) : Option En := l.find? (fun y => decide (y.k = q))
/-- In order. -/
def Srt (l : List En) : Prop := l.Pairwise (fun x y => les x.k y.k = true)
theorem fn_some {l : List En} {q : List UInt8} {x : En} (h : fn l q = some x) : x ∈ l ∧ x.k = q := ⟨List.mem_of_find?_eq_some h, by simpa using List.find?_some h⟩
theorem fn_none {l : List En} {q : List UInt8} : fn l q = none ↔ ∀ x ∈ l, x.k ≠ q := by simp [fn, List.find?_eq_none]
theorem fn_got (l : List En) (q : List UInt8) : fn l q = if gotB l q then some (got l q) else none := got_find l q
theorem Srt.inj : ∀ {l : List En}, Srt l → ∀ {x y : En}, x ∈ l → y ∈ l → x.k = y.k → x = y
  | [], _, _, _, hx, _, _ => by cases hx
  | a :: l, h, x, y, hx, hy, e => by
    obtain ⟨h1, h2⟩ := List.pairwise_cons.1 h
    rcases List.mem_cons.1 hx with e1 | e1
    · rcases List.mem_cons.1 hy with e2 | e2
      · rw [e1, e2]
      · rw [e1] at e; exact absurd e (les_ne (h1 y e2))
    · rcases List.mem_cons.1 hy with e2 | e2
      · rw [e2] at e; exact absurd e.symm (les_ne (h1 x e1))
      · exact Srt.inj h2 e1 e2 e
theorem Srt.fn {l : List En} (h : Srt l) {x : En} (hx : x ∈ l) : fn l x.k = some x := by
  cases hf : Go.Proofs.YtajcabfeabbknaaGreatDoor.fn l x.k with
  | none => exact absurd rfl (fn_none.1 hf x hx)
  | some y => obtain ⟨a, b⟩ := fn_some hf; rw [h.inj a hx b]
theorem Srt.fnk {l : List En} (h : Srt l) {x : En} {q : List UInt8} (hx : x ∈ l) (e : x.k = q) : Go.Proofs.YtajcabfeabbknaaGreatDoor.fn l q = some x := by rw [← e]; exact h.fn hx
theorem srt_ext : ∀ {l m : List En}, Srt l → Srt m → (∀ x, x ∈ l ↔ x ∈ m) → l = m
  | [], [], _, _, _ => rfl
  | [], b :: m, _, _, h => absurd ((h b).2 List.mem_cons_self) List.not_mem_nil
  | a :: l, [], _, _, h => absurd ((h a).1 List.mem_cons_self) List.not_mem_nil
  | a :: l, b :: m, hl, hm, h => by
    obtain ⟨l1, l2⟩ := List.pairwise_cons.1 hl
    obtain ⟨m1, m2⟩ := List.pairwise_cons.1 hm
    have e : a = b := by
      rcases List.mem_cons.1 ((h a).1 List.mem_cons_self) with e | e
      · exact e
      · rcases List.mem_cons.1 ((h b).2 List.mem_cons_self) with e' | e'
        · exact e'.symm
        · have := les_asy (l1 b e'); rw [m1 a e] at this; cases this
    subst e
    rw [srt_ext l2 m2 (fun x => ⟨fun hx => ?_, fun hx => ?_⟩)]
    · rcases List.mem_cons.1 ((h x).1 (List.mem_cons_of_mem _ hx)) with e | e
      · subst e; exact absurd rfl (les_ne (l1 _ hx))
      · exact e
    · rcases List.mem_cons.1 ((h x).2 (List.mem_cons_of_mem _ hx)) with e | e
      · subst e; exact absurd rfl (les_ne (m1 _ hx))
      · exact e
theorem srt_len : ∀ {l m : List En}, Srt l → (∀ x ∈ l, ∃ y ∈ m, y.k = x.k) → l.length ≤ m.length
  | [], _, _, _ => Nat.zero_le _
  | a :: l, m, hl, h => by
    obtain ⟨l1, l2⟩ := List.pairwise_cons.1 hl
    obtain ⟨y, hy, e⟩ := h a List.mem_cons_self
    obtain ⟨A, B, rfl⟩ := List.append_of_mem hy
    have := srt_len (m := A ++ B) l2 (fun x hx => by
      obtain ⟨z, hz, e'⟩ := h x (List.mem_cons_of_mem _ hx)
      rcases List.mem_append.1 hz with hz | hz
      · exact ⟨z, List.mem_append.2 (.inl hz), e'⟩
      · rcases List.mem_cons.1 hz with rfl | hz
        · exact absurd (e.symm.trans e') (les_ne (l1 x hx))
        · exact ⟨z, List.mem_append.2 (.inr hz), e'⟩)
    rw [List.length_append] at this
    rw [List.length_append, List.length_cons, List.length_cons]
    omega

/-- What an entry of a tree is. -/
def Ok (x : En) : Prop := chk x.k = 0 ∧ res x.k = false ∧ x.z.length ≤ 65536 ∧ (x.d = true → x.z = [])
/-- What a tree is, but for its length. -/
def Wf (l : List En) : Prop := Srt l ∧ (∀ x ∈ l, Ok x) ∧ ∀ x ∈ l, par x.k ≠ [] → ∃ y ∈ l, y.k = par x.k ∧ y.d = true
theorem tree_wf {l : List En} (h : ckT l = 0) : Wf l := by
  refine ⟨List.pairwise_iff_getElem.2 fun i j hi hj hij => ?_, fun x hx => ?_, fun x hx hp => ?_⟩
  · have := tree_lt h j i hij hj
    rwa [atE_eq l i hi, atE_eq l j hj] at this
  · obtain ⟨i, hi, rfl⟩ := List.getElem_of_mem hx
    obtain ⟨a, b, c, d, _⟩ := ckI_ok ((ckT_all l h).2 i hi)
    rw [atE_eq l i hi] at a b c d
    exact ⟨a, b, c, fun e => List.eq_nil_of_length_eq_zero (d e)⟩
  · obtain ⟨i, hi, rfl⟩ := List.getElem_of_mem hx
    rw [← atE_eq l i hi] at hp ⊢
    obtain ⟨j, hj, e1, e2⟩ := tree_par h hi hp
    exact ⟨atE l j, atE_mem l j (by omega), e1, e2⟩
theorem wf_tree {l : List En} (h : Wf l) (hl : l.length ≤ 64) : ckT l = 0 := by
  refine ckT_ok l (by omega) fun i hi => ?_
  obtain ⟨h1, h2, h3⟩ := h
  have hx := atE_mem l i hi
  obtain ⟨a, b, c, d⟩ := h2 _ hx
  have lt : ∀ j k, j < k → k < l.length → les (atE l j).k (atE l k).k = true := fun j k h4 h5 => by
    rw [atE_eq l j (by omega), atE_eq l k h5]
    exact List.pairwise_iff_getElem.1 h1 j k (by omega) h5 h4
  unfold ckI
  rw [if_neg (fun e => e a), if_neg (fun e => by rw [b] at e; cases e), if_neg (by omega), if_neg (by rintro ⟨e1, e2⟩; rw [d e1] at e2; simp at e2), if_neg (by rintro ⟨e1, e2⟩; rw [lt (i - 1) i (by omega) hi] at e2; cases e2)]
  unfold ckP
  by_cases hp : par (atE l i).k = []
  · rw [if_pos hp]
  rw [if_neg hp]
  obtain ⟨y, hy, e1, e2⟩ := h3 _ hx hp
  obtain ⟨j, hj, rfl⟩ := List.getElem_of_mem hy
  rw [← atE_eq l j hj] at e1 e2
  have hji : j < i := by
    have e3 := les_par hp
    rw [← e1] at e3
    rcases Nat.lt_trichotomy j i with h | h | h
    · exact h
    · subst h; rw [les_irr] at e3; cases e3
    · have := les_asy (lt i j h hj); rw [e3] at this; cases this
  have hl2 : (l.take i).length = i := by rw [List.length_take]; omega
  have hf : (l.take i).findIdx (fun y => decide (y.k = par (atE l i).k)) = j := by
    refine findIdx_of _ _ j (by omega) (fun k hk => ?_) (by rw [atE_take l i j hji]; exact decide_eq_true e1)
    rw [atE_take l i k (by omega)]
    refine decide_eq_false fun e => ?_
    exact absurd (e.trans e1.symm) (les_ne (lt k j hk hj))
  rw [hf, hl2, if_neg (by omega), atE_take l i j hji, if_pos e2]

/-- An entry laid in its place, for what has its path. -/
def ins (l : List En) (x : En) : List En := l.filter (fun y => les y.k x.k) ++ x :: l.filter (fun y => les x.k y.k)
theorem mem_ins (l : List En) (x y : En) : y ∈ ins l x ↔ y = x ∨ (y ∈ l ∧ y.k ≠ x.k) := by
  unfold ins
  rw [List.mem_append, List.mem_cons, List.mem_filter, List.mem_filter]
  constructor
  · rintro (⟨a, b⟩ | rfl | ⟨a, b⟩)
    · exact .inr ⟨a, les_ne b⟩
    · exact .inl rfl
    · exact .inr ⟨a, (les_ne b).symm⟩
  · rintro (rfl | ⟨a, b⟩)
    · exact .inr (.inl rfl)
    · rcases les_tot b with c | c
      · exact .inl ⟨a, c⟩
      · exact .inr (.inr ⟨a, c⟩)
theorem srt_ins {l : List En} (x : En) (h : Srt l) : Srt (ins l x) := by
  unfold ins
  refine List.pairwise_append.2 ⟨h.filter _, List.pairwise_cons.2 ⟨fun y hy => (List.mem_filter.1 hy).2, h.filter _⟩, fun a ha b hb => ?_⟩
  have ha := (List.mem_filter.1 ha).2
  rcases List.mem_cons.1 hb with rfl | hb
  · exact ha
  · exact les_tra _ _ _ ha (List.mem_filter.1 hb).2
theorem ins_cut (A M B : List En) (x : En) (hA : ∀ y ∈ A, les y.k x.k = true) (hM : ∀ y ∈ M, y.k = x.k) (hB : ∀ y ∈ B, les x.k y.k = true) : ins (A ++ M ++ B) x = A ++ x :: B := by
  unfold ins
  have m1 : M.filter (fun y => les y.k x.k) = [] := List.filter_eq_nil_iff.2 fun y hy => by rw [hM y hy, les_irr]; simp
  have m2 : M.filter (fun y => les x.k y.k) = [] := List.filter_eq_nil_iff.2 fun y hy => by rw [hM y hy, les_irr]; simp
  have b1 : B.filter (fun y => les y.k x.k) = [] := List.filter_eq_nil_iff.2 fun y hy => by rw [les_asy (hB y hy)]; simp
  have a2 : A.filter (fun y => les x.k y.k) = [] := List.filter_eq_nil_iff.2 fun y hy => by rw [les_asy (hA y hy)]; simp
  rw [List.filter_append, List.filter_append, List.filter_append, List.filter_append, m1, m2, b1, a2, List.filter_eq_self.2 hA, List.filter_eq_self.2 hB]
  simp
theorem fn_ins {l : List En} {x : En} (h : Srt l) (q : List UInt8) : fn (ins l x) q = if q = x.k then some x else fn l q := by
  by_cases hq : q = x.k
  · rw [if_pos hq, hq]
    exact (srt_ins x h).fn ((mem_ins l x x).2 (.inl rfl))
  · rw [if_neg hq]
    cases hf : fn l q with
    | none =>
      refine fn_none.2 fun y hy e => ?_
      rcases (mem_ins l x y).1 hy with rfl | ⟨h1, _⟩
      · exact hq e.symm
      · exact fn_none.1 hf y h1 e
    | some y =>
      obtain ⟨a, b⟩ := fn_some hf
      exact (srt_ins x h).fnk ((mem_ins l x y).2 (.inr ⟨a, by rw [b]; exact hq⟩)) b
/-- Where an entry is put, and how it is laid, are one. -/
theorem mad_ins {l : List En} {x : En} (h : Srt l) (hc : chk x.k = 0) : mad l x = ins l x := by
  have hp := plc_le l x.k
  have lt : ∀ j k, j < k → k < l.length → les (atE l j).k (atE l k).k = true := fun j k h4 h5 => by
    rw [atE_eq l j (by omega), atE_eq l k h5]
    exact List.pairwise_iff_getElem.1 h j k (by omega) h5 h4
  have hA : ∀ y ∈ l.take (plc l x.k), les y.k x.k = true := fun y hy => by
    obtain ⟨i, hi, rfl⟩ := List.getElem_of_mem hy
    rw [List.length_take] at hi
    have := plc_lt hc (show i < plc l x.k by omega)
    rw [List.getElem_take]
    rwa [atE_eq l i (by omega)] at this
  unfold mad
  cases hh : has l x with
  | true =>
    obtain ⟨h1, h2⟩ := (has_iff l x).1 hh
    have hB : ∀ y ∈ l.drop (plc l x.k + 1), les x.k y.k = true := fun y hy => by
      obtain ⟨i, hi, rfl⟩ := List.getElem_of_mem hy
      rw [List.length_drop] at hi
      have := lt (plc l x.k) (plc l x.k + 1 + i) (by omega) (by omega)
      rw [List.getElem_drop]
      rwa [h2, atE_eq l _ (by omega)] at this
    have := ins_cut (l.take (plc l x.k)) [atE l (plc l x.k)] (l.drop (plc l x.k + 1)) x hA (fun y hy => by rw [List.mem_singleton] at hy; rw [hy]; exact h2) hB
    rw [atE_eq l _ h1, List.append_assoc, List.singleton_append, ← List.drop_eq_getElem_cons h1, List.take_append_drop] at this
    rw [this]
    simp
  | false =>
    have hB : ∀ y ∈ l.drop (plc l x.k), les x.k y.k = true := fun y hy => by
      obtain ⟨i, hi, rfl⟩ := List.getElem_of_mem hy
      rw [List.length_drop] at hi
      rw [List.getElem_drop]
      have h1 : plc l x.k < l.length := by omega
      have h3 : les x.k (atE l (plc l x.k)).k = true := by
        have h4 := plc_at hc h1
        have h5 : (atE l (plc l x.k)).k ≠ x.k := fun e => by
          have := (has_iff l x).2 ⟨h1, e⟩
          rw [hh] at this; cases this
        rcases les_tot h5 with h6 | h6
        · rw [h4] at h6; cases h6
        · exact h6
      rcases Nat.eq_zero_or_pos i with rfl | h0
      · rwa [atE_eq l _ (by omega)] at h3
      · have h6 := lt (plc l x.k) (plc l x.k + i) (by omega) (by omega)
        have := les_tra _ _ _ h3 h6
        rwa [atE_eq l _ (by omega)] at this
    have := ins_cut (l.take (plc l x.k)) [] (l.drop (plc l x.k)) x hA (fun y hy => by cases hy) hB
    rw [List.append_nil, List.take_append_drop] at this
    rw [this]
    simp
theorem fold_srt : ∀ (xs : List En) {l : List En}, Srt l → Srt (xs.foldl ins l)
  | [], _, h => h
  | x :: xs, _, h => fold_srt xs (srt_ins x h)
theorem mem_fold : ∀ (xs l : List En) (y : En), xs.Pairwise (fun a b => a.k ≠ b.k) → (y ∈ xs.foldl ins l ↔ y ∈ xs ∨ (y ∈ l ∧ ∀ x ∈ xs, x.k ≠ y.k))
  | [], l, y, _ => by simp
  | a :: xs, l, y, h => by
    obtain ⟨h1, h2⟩ := List.pairwise_cons.1 h
    rw [List.foldl_cons, mem_fold xs (ins l a) y h2, mem_ins]
    constructor
    · rintro (e | ⟨rfl | ⟨e1, e2⟩, e3⟩)
      · exact .inl (List.mem_cons_of_mem _ e)
      · exact .inl List.mem_cons_self
      · refine .inr ⟨e1, fun x hx => ?_⟩
        rcases List.mem_cons.1 hx with rfl | hx
        · exact fun e => e2 e.symm
        · exact e3 x hx
    · rintro (e | ⟨e1, e2⟩)
      · rcases List.mem_cons.1 e with rfl | e
        · exact .inr ⟨.inl rfl, fun x hx => (h1 x hx).symm⟩
        · exact .inl e
      · exact .inr ⟨.inr ⟨e1, fun e => e2 a List.mem_cons_self e.symm⟩, fun x hx => e2 x (List.mem_cons_of_mem _ hx)⟩
theorem Srt.keys {l : List En} (h : Srt l) : l.Pairwise (fun a b => a.k ≠ b.k) := List.Pairwise.imp (fun h => les_ne h) h

/-- What a mirror does with what the source has not. -/
structure Pol where
  del : Bool
  bak : Bool
/-- Whether a list has an entry; an entry of this path and kind; a file; a directory. -/
def hav (l : List En) (x : En) : Bool := gotB l x.k && samE (got l x.k) x
def hK (l : List En) (q : List UInt8) (d : Bool) : Bool := gotB l q && decide ((got l q).d = d)
/-- Whether something above a path is a file. -/
def blkN (s : List En) : Nat → List UInt8 → Bool
  | 0, _ => false
  | n + 1, q => if par q = [] then false else hK s (par q) false || blkN s n (par q)
def blk (s : List En) (q : List UInt8) : Bool := blkN s q.length q
/-- Whether an entry of the destination stays. -/
def sty (s : List En) (pd : Bool) (x : En) : Bool := if gotB s x.k then hav s x else !pd && !blk s x.k
/-- Where an entry of the destination is kept. -/
def kpt (s d : List En) (P : Pol) (x : En) : List UInt8 :=
  if P.bak = false ∨ x.d = true ∨ sty s P.del x = true then [] else if gotB s (kep x.k) = true ∨ hK d (kep x.k) true = true then []
  else if par (kep x.k) ≠ [] ∧ sty s P.del ⟨mk (par (kep x.k)), true, []⟩ = false then [] else kep x.k
def cpy (s d : List En) (P : Pol) (x : En) : En := ⟨mk (kpt s d P x), false, x.z⟩
/-- The files at which those of the destination are kept. -/
def cps (s d : List En) (P : Pol) : List En := d.filterMap fun x => if kpt s d P x = [] then none else some (cpy s d P x)
/-- What is wanted. -/
def wnt (s d : List En) (P : Pol) : List En := (cps s d P).foldl ins (s.foldl ins (d.filter (sty s P.del)))
def want (s d : List En) (P : Pol) : List En × Int := if ckT s ≠ 0 then ([], ckT s) else if ckT d ≠ 0 then ([], ckT d) else if 64 < (wnt s d P).length then ([], 10) else (wnt s d P, 0)
/-- A step. -/
structure St where
  κ : Int
  p : ByteArray
  t : ByteArray
def f1 (s d : List En) (P : Pol) (x : En) : Bool := decide (kpt s d P x ≠ []) && !hav d (cpy s d P x)
def f2 (W : List En) (x : En) : Bool := !hK W x.k x.d
def f3 (d : List En) (x : En) : Bool := x.d && !hK d x.k x.d
def f4 (d : List En) (x : En) : Bool := !x.d && !hav d x
def ste (κ : Int) (t : En → List UInt8) (x : En) : St := ⟨κ, x.p, mk (t x)⟩
def no (_ : En) : List UInt8 := []
/-- The steps. -/
def pln (s d W : List En) (P : Pol) : List St :=
  (d.filter (f1 s d P)).map (ste 0 (kpt s d P)) ++ ((d.filter (f2 W)).map (ste 1 no)).reverse ++ (W.filter (f3 d)).map (ste 2 no) ++ (s.filter (f4 d)).map (ste 3 no)
def plan (s d : List En) (P : Pol) : List St × Int := if (want s d P).2 ≠ 0 then ([], (want s d P).2) else (pln s d (want s d P).1 P, 0)
/-- What a step makes of a list. -/
def pf (l : List En) (to : ByteArray) (m : List En) (q : List UInt8) : List En × Int := if hK m q false then put l ⟨to, false, (got m q).z⟩ else ([], 8)
def apl (l : List En) (x : St) (s : List En) : List En × Int :=
  if x.κ = 0 then pf l x.t l (dl x.p) else if x.κ = 1 then rem l (dl x.p) else if x.κ = 2 then put l ⟨x.p, true, []⟩ else if x.κ = 3 then pf l x.p s (dl x.p) else ([], 2)
/-- Whether a path may have what it has. -/
def pth (d w : List En) (q : ByteArray) (x : En) (is : Bool) : Bool :=
  if is then decide (x.p = q) && (hav d x || hav w x) else !gotB d (dl q) || !gotB w (dl q) || decide ((got d (dl q)).d ≠ (got w (dl q)).d)
end Go.Proofs.YtajcabfeabbknaaGreatDoor
namespace Go.Proofs.YtajcabfeabbknaaGreatDoor
open Go.RowKit

theorem hav_iff {l : List En} {x : En} : hav l x = true ↔ fn l x.k = some x := by
  unfold hav
  rw [fn_got, Bool.and_eq_true, samE_iff]
  constructor
  · rintro ⟨a, b⟩; rw [if_pos a, b]
  · intro h
    split at h
    · rename_i a; exact ⟨a, Option.some.inj h⟩
    · cases h
theorem hK_iff {l : List En} {q : List UInt8} {d : Bool} : hK l q d = true ↔ ∃ y, fn l q = some y ∧ y.d = d := by
  unfold hK
  rw [fn_got, Bool.and_eq_true, decide_eq_true_eq]
  constructor
  · rintro ⟨a, b⟩; exact ⟨_, if_pos a, b⟩
  · rintro ⟨y, h, e⟩
    split at h
    · rename_i a; cases h; exact ⟨a, e⟩
    · cases h
theorem gotB_none {l : List En} {q : List UInt8} : gotB l q = false ↔ fn l q = none := by
  rw [fn_got]
  cases h : gotB l q <;> simp
theorem gotB_some {l : List En} {q : List UInt8} : gotB l q = true ↔ ∃ y, fn l q = some y := by
  rw [fn_got]
  cases h : gotB l q <;> simp
theorem got_some {l : List En} {q : List UInt8} {x : En} (h : fn l q = some x) : gotB l q = true ∧ got l q = x := by
  rw [fn_got] at h
  split at h
  · rename_i a; exact ⟨a, Option.some.inj h⟩
  · cases h
theorem par_nil : par [] = [] := by
  rcases par_bas [] with ⟨_, _, h, _⟩ | ⟨_, h, _⟩
  · exact h
  · simp at h
/-- What stands above a path. -/
inductive Up : List UInt8 → List UInt8 → Prop
  | one (q : List UInt8) : par q ≠ [] → Up (par q) q
  | up {r : List UInt8} (q : List UInt8) : par q ≠ [] → Up r (par q) → Up r q
def Blk (s : List En) (q : List UInt8) : Prop := ∃ r, Up r q ∧ hK s r false = true
theorem blk_none {s : List En} {q : List UInt8} (h : par q = []) : ¬ Blk s q := by
  rintro ⟨r, h1, _⟩
  cases h1 with
  | one _ h' => exact h' h
  | up _ h' _ => exact h' h
theorem blkN_iff (s : List En) : ∀ (n : Nat) (q : List UInt8), (q.length ≤ n ∨ (spl q).length ≤ n + 1) → (blkN s n q = true ↔ Blk s q)
  | 0, q, h => by
    have hp : par q = [] := by
      rcases h with h | h
      · rw [List.eq_nil_of_length_eq_zero (show q.length = 0 by omega)]; exact par_nil
      · rcases par_bas q with ⟨_, _, h', _⟩ | ⟨_, h2, _⟩
        · exact h'
        · exfalso
          have hq : q ≠ [] := fun e => by rw [e] at h2; simp at h2
          have e : parts q = parts (par q) ++ parts (bas q) := by
            have := parts_app (par q) (bas q)
            rwa [← h2] at this
          unfold spl at h
          rw [if_neg hq, e, List.length_append] at h
          have h3 := List.length_pos_iff.2 (parts_ne (par q))
          have h4 := List.length_pos_iff.2 (parts_ne (bas q))
          omega
    exact ⟨(fun e => by cases e), fun e => absurd e (blk_none hp)⟩
  | n + 1, q, h => by
    unfold blkN
    by_cases hp : par q = []
    · rw [if_pos hp]
      exact ⟨(fun e => by cases e), fun e => absurd e (blk_none hp)⟩
    · have hq : q ≠ [] := fun e => hp (by rw [e]; exact par_nil)
      have hn : (par q).length ≤ n ∨ (spl (par q)).length ≤ n + 1 := by
        rcases h with h | h
        · have := par_less hq
          exact .inl (by omega)
        · rcases par_bas q with ⟨_, _, h', _⟩ | ⟨_, h2, _⟩
          · exact absurd h' hp
          · have e : parts q = parts (par q) ++ parts (bas q) := by
              have := parts_app (par q) (bas q)
              rwa [← h2] at this
            unfold spl at h ⊢
            rw [if_neg hq, e, List.length_append] at h
            rw [if_neg hp]
            have h4 := List.length_pos_iff.2 (parts_ne (bas q))
            exact .inr (by omega)
      rw [if_neg hp, Bool.or_eq_true, blkN_iff s n (par q) hn]
      constructor
      · rintro (e | ⟨r, h1, h2⟩)
        · exact ⟨_, .one q hp, e⟩
        · exact ⟨r, .up q hp h1, h2⟩
      · rintro ⟨r, h1, h2⟩
        cases h1 with
        | one _ _ => exact .inl h2
        | up _ _ h3 => exact .inr ⟨r, h3, h2⟩
theorem blk_iff {s : List En} {q : List UInt8} : blk s q = true ↔ Blk s q := blkN_iff s q.length q (.inl (Nat.le_refl _))
theorem sty_iff {s : List En} {pd : Bool} {x : En} : sty s pd x = true ↔ fn s x.k = some x ∨ (fn s x.k = none ∧ pd = false ∧ ¬ Blk s x.k) := by
  unfold sty
  cases hg : gotB s x.k with
  | true =>
    rw [if_pos rfl, hav_iff]
    constructor
    · exact .inl
    · rintro (h | ⟨h, _⟩)
      · exact h
      · rw [gotB_none.2 h] at hg; cases hg
  | false =>
    rw [if_neg (by simp), gotB_none.1 hg, ← blk_iff]
    cases pd <;> simp
theorem kpt_ok {s d : List En} {P : Pol} {x : En} (h : kpt s d P x ≠ []) : P.bak = true ∧ x.d = false ∧ sty s P.del x = false ∧ fn s (kpt s d P x) = none ∧ hK d (kpt s d P x) true = false ∧
    (par (kpt s d P x) = [] ∨ sty s P.del ⟨mk (par (kpt s d P x)), true, []⟩ = true) ∧ kpt s d P x = x.k ++ [126] ∧ chk (kpt s d P x) = 0 ∧ kep x.k = x.k ++ [126] := by
  unfold kpt at h ⊢
  split at h
  · exact absurd rfl h
  rename_i h1
  split at h
  · exact absurd rfl h
  rename_i h2
  split at h
  · exact absurd rfl h
  rename_i h3
  rw [if_neg h1, if_neg h2, if_neg h3]
  rcases kep_cases x.k with h4 | ⟨h4, h5, _⟩
  · exact absurd h4 h
  refine ⟨?_, ?_, ?_, ?_, ?_, ?_, h4, by rw [h4]; exact h5, h4⟩
  · cases hb : P.bak with
    | true => rfl
    | false => exact absurd (.inl hb) h1
  · cases hb : x.d with
    | false => rfl
    | true => exact absurd (.inr (.inl hb)) h1
  · cases hb : sty s P.del x with
    | false => rfl
    | true => exact absurd (.inr (.inr hb)) h1
  · cases hb : gotB s (kep x.k) with
    | false => exact gotB_none.1 hb
    | true => exact absurd (.inl hb) h2
  · cases hb : hK d (kep x.k) true with
    | false => rfl
    | true => exact absurd (.inr hb) h2
  · by_cases hp : par (kep x.k) = []
    · exact .inl hp
    · refine .inr ?_
      cases hb : sty s P.del ⟨mk (par (kep x.k)), true, []⟩ with
      | true => rfl
      | false => exact absurd ⟨hp, hb⟩ h3
theorem cpy_k (s d : List En) (P : Pol) (x : En) : (cpy s d P x).k = kpt s d P x := dl_mk _
theorem mem_cps {s d : List En} {P : Pol} {c : En} : c ∈ cps s d P ↔ ∃ x ∈ d, kpt s d P x ≠ [] ∧ c = cpy s d P x := by
  unfold cps
  rw [List.mem_filterMap]
  constructor
  · rintro ⟨x, hx, h⟩
    split at h
    · cases h
    · rename_i h1; exact ⟨x, hx, h1, (Option.some.inj h).symm⟩
  · rintro ⟨x, hx, h, rfl⟩
    exact ⟨x, hx, if_neg h⟩
theorem cps_keys {s d : List En} {P : Pol} (h : Srt d) : (cps s d P).Pairwise (fun a b => a.k ≠ b.k) := by
  unfold cps
  rw [List.pairwise_filterMap]
  refine List.Pairwise.imp (fun {a b} hab => ?_) h.keys
  intro c hc c' hc' e
  split at hc
  · cases hc
  rename_i h1
  split at hc'
  · cases hc'
  rename_i h2
  cases hc
  cases hc'
  rw [cpy_k, cpy_k, (kpt_ok h1).2.2.2.2.2.2.1, (kpt_ok h2).2.2.2.2.2.2.1] at e
  exact hab (List.append_cancel_right e)
theorem mem_wnt {s d : List En} {P : Pol} (hs : Srt s) (hd : Srt d) (y : En) :
    y ∈ wnt s d P ↔ y ∈ cps s d P ∨ y ∈ s ∨ (y ∈ d ∧ fn s y.k = none ∧ P.del = false ∧ ¬ Blk s y.k ∧ ∀ c ∈ cps s d P, c.k ≠ y.k) := by
  unfold wnt
  rw [mem_fold _ _ _ (cps_keys hd), mem_fold _ _ _ hs.keys, List.mem_filter, sty_iff]
  constructor
  · rintro (h | ⟨h | ⟨⟨h1, h2⟩, h3⟩, h4⟩)
    · exact .inl h
    · exact .inr (.inl h)
    · rcases h2 with h2 | ⟨h5, h6, h7⟩
      · exact .inr (.inl (fn_some h2).1)
      · exact .inr (.inr ⟨h1, h5, h6, h7, h4⟩)
  · rintro (h | h | ⟨h1, h2, h3, h4, h5⟩)
    · exact .inl h
    · refine .inr ⟨.inl h, fun c hc e => ?_⟩
      obtain ⟨x, _, h1, rfl⟩ := mem_cps.1 hc
      rw [cpy_k] at e
      have := (kpt_ok h1).2.2.2.1
      rw [e, hs.fn h] at this
      cases this
    · exact .inr ⟨.inr ⟨⟨h1, .inr ⟨h2, h3, h4⟩⟩, fun x hx => fn_none.1 h2 x hx⟩, h5⟩
/-- No directory of the destination is where a file is kept. -/
theorem cps_dir {s d : List En} {P : Pol} (hd : Srt d) {y : En} (hy : y ∈ d) (h : y.d = true) : ∀ c ∈ cps s d P, c.k ≠ y.k := by
  intro c hc e
  obtain ⟨x, _, h1, rfl⟩ := mem_cps.1 hc
  rw [cpy_k] at e
  have := (kpt_ok h1).2.2.2.2.1
  rw [hK_iff.2 ⟨y, hd.fnk hy e.symm, h⟩] at this
  cases this
theorem ok_dir {x y : En} (hx : Ok x) (hy : Ok y) (e : x.k = y.k) (h1 : x.d = true) (h2 : y.d = true) : x = y := by
  cases x; cases y
  simp only at h1 h2
  subst h1; subst h2
  have a := hx.2.2.2 rfl
  have b := hy.2.2.2 rfl
  simp only at a b
  subst a; subst b
  simp only [En.k] at e
  rw [dl_inj e]
/-- What is wanted is a tree, but for its length. -/
theorem wnt_wf {s d : List En} {P : Pol} (hs : Wf s) (hd : Wf d) : Wf (wnt s d P) := by
  refine ⟨fold_srt _ (fold_srt _ (hd.1.filter _)), fun x hx => ?_, fun x hx hp => ?_⟩
  · rcases (mem_wnt hs.1 hd.1 x).1 hx with h | h | ⟨h, _⟩
    · obtain ⟨y, hy, h1, rfl⟩ := mem_cps.1 h
      obtain ⟨_, _, _, _, _, _, e, hc, _⟩ := kpt_ok h1
      obtain ⟨_, b, c, _⟩ := hd.2.1 y hy
      unfold Ok
      rw [cpy_k]
      refine ⟨hc, ?_, c, fun e' => by cases e'⟩
      rw [e, res_kep]; exact b
    · exact hs.2.1 x h
    · exact hd.2.1 x h
  · rcases (mem_wnt hs.1 hd.1 x).1 hx with h | h | ⟨h, h2, h3, h4, h5⟩
    · obtain ⟨y, hy, h1, rfl⟩ := mem_cps.1 h
      rw [cpy_k] at hp ⊢
      obtain ⟨_, _, _, _, _, hst, e, hc, _⟩ := kpt_ok h1
      rcases hst with hst | hst
      · exact absurd hst hp
      rcases sty_iff.1 hst with h6 | ⟨h6, h7, h8⟩
      · simp only [En.k, dl_mk] at h6
        exact ⟨_, (mem_wnt hs.1 hd.1 _).2 (.inr (.inl (fn_some h6).1)), (fn_some h6).2, rfl⟩
      · simp only [En.k, dl_mk] at h6 h8
        have ep : par (kpt s d P y) = par y.k := by rw [e, par_kep]
        obtain ⟨z, hz, e1, e2⟩ := hd.2.2 y hy (by rw [← ep]; exact hp)
        refine ⟨z, (mem_wnt hs.1 hd.1 _).2 (.inr (.inr ⟨hz, ?_, h7, ?_, cps_dir hd.1 hz e2⟩)), by rw [e1, ep], e2⟩
        · rw [e1, ← ep]; exact h6
        · rw [e1, ← ep]; exact h8
    · obtain ⟨z, hz, e1, e2⟩ := hs.2.2 x h hp
      exact ⟨z, (mem_wnt hs.1 hd.1 _).2 (.inr (.inl hz)), e1, e2⟩
    · obtain ⟨z, hz, e1, e2⟩ := hd.2.2 x h hp
      cases hf : fn s (par x.k) with
      | some y =>
        obtain ⟨a, b⟩ := fn_some hf
        refine ⟨y, (mem_wnt hs.1 hd.1 _).2 (.inr (.inl a)), b, ?_⟩
        cases hb : y.d with
        | true => rfl
        | false => exact absurd ⟨_, .one _ hp, hK_iff.2 ⟨y, hf, hb⟩⟩ h4
      | none =>
        refine ⟨z, (mem_wnt hs.1 hd.1 _).2 (.inr (.inr ⟨hz, by rw [e1]; exact hf, h3, ?_, cps_dir hd.1 hz e2⟩)), e1, e2⟩
        rintro ⟨r, h6, h7⟩
        rw [e1] at h6
        exact h4 ⟨r, .up _ hp h6, h7⟩

/-- What an entry makes of a tree. -/
theorem put_ins {l : List En} {y : En} (hl : Wf l) (h64 : l.length ≤ 64) (hy : Ok y) (hp : par y.k ≠ [] → ∃ z ∈ l, z.k = par y.k ∧ z.d = true) (hk : ∀ z, fn l y.k = some z → z.d = y.d) :
    Wf (ins l y) ∧ (((put l y).2 = 5 ∧ 64 ≤ l.length) ∨ (put l y = (ins l y, 0) ∧ (ins l y).length ≤ 64)) := by
  have hw : Wf (ins l y) := by
    refine ⟨srt_ins y hl.1, fun x hx => ?_, fun x hx hpx => ?_⟩
    · rcases (mem_ins l y x).1 hx with rfl | ⟨h, _⟩
      · exact hy
      · exact hl.2.1 x h
    · have : ∃ z ∈ l, z.k = par x.k ∧ z.d = true := by
        rcases (mem_ins l y x).1 hx with rfl | ⟨h, _⟩
        · exact hp hpx
        · exact hl.2.2 x h hpx
      obtain ⟨z, hz, e1, e2⟩ := this
      by_cases hzk : z.k = y.k
      · refine ⟨y, (mem_ins l y y).2 (.inl rfl), by rw [← e1, hzk], ?_⟩
        rw [← hk z (hl.1.fnk hz hzk)]; exact e2
      · exact ⟨z, (mem_ins l y z).2 (.inr ⟨hz, hzk⟩), e1, e2⟩
  refine ⟨hw, ?_⟩
  have ht := wf_tree hl h64
  have hm := mad_ins hl.1 hy.1
  unfold put
  rw [if_neg (by simp [ht]), hm]
  have hhas : ¬ (has l y = true ∧ (atE l (plc l y.k)).d ≠ y.d) := by
    rintro ⟨h1, h2⟩
    obtain ⟨h3, h4⟩ := (has_iff l y).1 h1
    exact h2 (hk _ (hl.1.fnk (atE_mem l _ h3) h4))
  rw [if_neg hhas]
  rcases Nat.lt_or_ge 64 (ins l y).length with h | h
  · left
    have h5 := ckT_long _ h
    rw [if_pos (by rw [h5]; simp), h5]
    refine ⟨rfl, ?_⟩
    have := mad_len l y
    rw [hm] at this
    split at this <;> omega
  · right
    have h5 := wf_tree hw h
    rw [if_neg (by simp [h5])]
    exact ⟨rfl, h⟩
/-- What is left of a tree without an entry. -/
theorem rem_fil {l : List En} {q : List UInt8} {x : En} (hl : Wf l) (h64 : l.length ≤ 64) (hx : fn l q = some x) (hc : ∀ y ∈ l, par y.k ≠ q) :
    ∃ m, rem l q = (m, 0) ∧ Wf m ∧ m.length ≤ 64 ∧ ∀ p, fn m p = if p = q then none else fn l p := by
  obtain ⟨h1, h2⟩ := fn_some hx
  have hf : fnd l q ≠ l.length := fun e => by
    have := got_some hx
    unfold gotB at this
    simp [e] at this
  obtain ⟨h3, h4⟩ := fnd_hit hf
  have hn : fnc l q = l.length := findIdx_none _ _ fun k hk => decide_eq_false (hc _ (atE_mem l k hk))
  have hsub : (l.take (fnd l q) ++ l.drop (fnd l q + 1)).Sublist l := by
    conv => rhs; rw [← List.take_append_drop (fnd l q) l, List.drop_eq_getElem_cons h3]
    exact List.Sublist.append (List.Sublist.refl _) (List.sublist_cons_self _ _)
  have hmem : ∀ y, y ∈ l.take (fnd l q) ++ l.drop (fnd l q + 1) ↔ y ∈ l ∧ y.k ≠ q := by
    intro y
    have hsp : l = l.take (fnd l q) ++ (l[fnd l q] :: l.drop (fnd l q + 1)) := by rw [← List.drop_eq_getElem_cons h3, List.take_append_drop]
    rw [atE_eq l _ h3] at h4
    constructor
    · intro hy
      refine ⟨hsub.subset hy, fun e => ?_⟩
      have hS := hl.1
      rw [hsp] at hS
      obtain ⟨s1, s2, s3⟩ := List.pairwise_append.1 hS
      rcases List.mem_append.1 hy with hy | hy
      · exact absurd (e.trans h4.symm) (les_ne (s3 y hy _ List.mem_cons_self))
      · exact absurd (h4.trans e.symm) (les_ne ((List.pairwise_cons.1 s2).1 y hy))
    · rintro ⟨hy, hq⟩
      rw [hsp] at hy
      rcases List.mem_append.1 hy with hy | hy
      · exact List.mem_append.2 (.inl hy)
      · rcases List.mem_cons.1 hy with e | hy
        · rw [e] at hq; exact absurd h4 hq
        · exact List.mem_append.2 (.inr hy)
  have hS : Srt (l.take (fnd l q) ++ l.drop (fnd l q + 1)) := hl.1.sublist hsub
  refine ⟨_, ?_, ⟨hS, fun y hy => hl.2.1 y ((hmem y).1 hy).1, fun y hy hp => ?_⟩, ?_, fun p => ?_⟩
  · unfold rem
    rw [if_neg (by simp [wf_tree hl h64]), if_neg hf, if_neg (by omega)]
  · obtain ⟨z, hz, e1, e2⟩ := hl.2.2 y ((hmem y).1 hy).1 hp
    refine ⟨z, (hmem z).2 ⟨hz, ?_⟩, e1, e2⟩
    rw [e1]; exact hc y ((hmem y).1 hy).1
  · exact Nat.le_trans hsub.length_le h64
  · by_cases hp : p = q
    · rw [if_pos hp, hp]
      exact fn_none.2 fun y hy => ((hmem y).1 hy).2
    · rw [if_neg hp]
      cases hf : fn l p with
      | none => exact fn_none.2 fun y hy => fn_none.1 hf y ((hmem y).1 hy).1
      | some y =>
        obtain ⟨a, b⟩ := fn_some hf
        exact hS.fnk ((hmem y).2 ⟨a, by rw [b]; exact hp⟩) b

/-- The steps go well from a tree on: each is a tree between (G), the last is what it should be (E); or there is no room. -/
def Rn (s : List En) (G E : List En → Prop) : List St → List En → Prop
  | [], l => E l
  | x :: r, l => ((apl l x s).2 = 5 ∧ 64 ≤ l.length) ∨ ((apl l x s).2 = 0 ∧ G (apl l x s).1 ∧ Rn s G E r (apl l x s).1)
theorem Rn.app {s : List En} {G E : List En → Prop} {b : List St} : ∀ {a : List St} {l : List En}, Rn s G (fun m => Rn s G E b m) a l → Rn s G E (a ++ b) l
  | [], _, h => h
  | x :: a, l, h => by
    rcases h with h | ⟨h1, h2, h3⟩
    · exact .inl h
    · exact .inr ⟨h1, h2, Rn.app h3⟩
theorem Rn.mono {s : List En} {G E E' : List En → Prop} (hE : ∀ l, E l → E' l) : ∀ {a : List St} {l : List En}, Rn s G E a l → Rn s G E' a l
  | [], _, h => hE _ h
  | x :: a, l, h => by
    rcases h with h | ⟨h1, h2, h3⟩
    · exact .inl h
    · exact .inr ⟨h1, h2, Rn.mono hE h3⟩
/-- Each path has what was there, or what is wanted, or nothing, where that may be. -/
def Btw (d W l : List En) : Prop := ∀ q, fn l q = fn d q ∨ fn l q = fn W q ∨ (fn l q = none ∧ ∀ a b, fn d q = some a → fn W q = some b → a.d ≠ b.d)
def Gd (d W l : List En) : Prop := ckT l = 0 ∧ Btw d W l
end Go.Proofs.YtajcabfeabbknaaGreatDoor
namespace Go.Proofs.YtajcabfeabbknaaGreatDoor
open Go.RowKit

/-- A path at which a file is kept. -/
def Kq (s d : List En) (P : Pol) (q : List UInt8) : Prop := ∃ x ∈ d, kpt s d P x ≠ [] ∧ kpt s d P x = q
theorem kq_W {s d : List En} {P : Pol} (hs : Wf s) (hd : Wf d) {x : En} (hx : x ∈ d) (hk : kpt s d P x ≠ []) : fn (wnt s d P) (kpt s d P x) = some (cpy s d P x) :=
  (wnt_wf hs hd).1.fnk ((mem_wnt hs.1 hd.1 _).2 (.inl (mem_cps.2 ⟨x, hx, hk, rfl⟩))) (cpy_k s d P x)
theorem f2_iff {W : List En} {x : En} : f2 W x = true ↔ ∀ y, fn W x.k = some y → y.d ≠ x.d := by
  unfold f2
  constructor
  · intro h y hy e
    rw [hK_iff.2 ⟨y, hy, e⟩] at h
    cases h
  · intro h
    cases hb : hK W x.k x.d with
    | false => rfl
    | true =>
      obtain ⟨y, h1, h2⟩ := hK_iff.1 hb
      exact absurd h2 (h y h1)

/-- While files are kept; xs: those to come. -/
def P1 (s d : List En) (P : Pol) (xs now : List En) : Prop := Wf now ∧ now.length ≤ 64 ∧ (∀ q, fn now q = fn d q ∨ (Kq s d P q ∧ fn now q = fn (wnt s d P) q)) ∧
  ∀ x ∈ d, kpt s d P x ≠ [] → x ∈ xs ∨ fn now (kpt s d P x) = fn (wnt s d P) (kpt s d P x)
theorem ph1 {s d : List En} {P : Pol} (hs : Wf s) (hd : Wf d) : ∀ (xs now : List En), (∀ x ∈ xs, x ∈ d ∧ kpt s d P x ≠ []) → P1 s d P xs now →
    Rn s (Gd d (wnt s d P)) (P1 s d P []) (xs.map (ste 0 (kpt s d P))) now
  | [], _, _, h => h
  | x :: xs, now, hx, ⟨h1, h2, h3, h4⟩ => by
    obtain ⟨hxd, hk⟩ := hx x List.mem_cons_self
    obtain ⟨_, k2, _, _, k5, _, k7, _, k9⟩ := kpt_ok hk
    have hW := wnt_wf (P := P) hs hd
    have hc := kq_W hs hd hxd hk
    have hnx : fn now x.k = some x := by
      rcases h3 x.k with e | ⟨⟨y, hy, hk', e⟩, _⟩
      · rw [e]; exact hd.1.fn hxd
      · exfalso
        rw [(kpt_ok hk').2.2.2.2.2.2.1] at e
        rw [← e, kep_kep] at k9
        simp at k9
    have hap : apl now (ste 0 (kpt s d P) x) s = put now (cpy s d P x) := by
      unfold apl ste pf
      rw [if_pos rfl, if_pos (hK_iff.2 ⟨x, hnx, k2⟩), (got_some hnx).2]
      rfl
    have hin := put_ins (y := cpy s d P x) h1 h2 (hW.2.1 _ (fn_some hc).1) (fun hp => by
      rw [cpy_k, k7, par_kep] at hp ⊢
      obtain ⟨z, hz, e1, e2⟩ := hd.2.2 x hxd hp
      refine ⟨z, ?_, e1, e2⟩
      rcases h3 z.k with e | ⟨⟨y, hy, hk', e⟩, _⟩
      · rw [hd.1.fn hz] at e; exact (fn_some e).1
      · exact absurd (by rw [cpy_k]; exact e) (cps_dir hd.1 hz e2 (cpy s d P y) (mem_cps.2 ⟨y, hy, hk', rfl⟩))) (fun z hz => by
      rw [cpy_k] at hz
      rcases h3 (kpt s d P x) with e | ⟨_, e⟩
      · rw [e] at hz
        cases hb : z.d with
        | false => rfl
        | true => rw [hK_iff.2 ⟨z, hz, hb⟩] at k5; cases k5
      · rw [e, hc] at hz
        cases hz; rfl)
    rw [List.map_cons]
    unfold Rn
    rw [hap]
    obtain ⟨g1, g2⟩ := hin
    rcases g2 with g2 | ⟨g2, g3⟩
    · exact .inl g2
    · right
      rw [g2]
      have h3' : ∀ q, fn (ins now (cpy s d P x)) q = fn d q ∨ (Kq s d P q ∧ fn (ins now (cpy s d P x)) q = fn (wnt s d P) q) := fun q => by
        rw [fn_ins h1.1, cpy_k]
        by_cases hq : q = kpt s d P x
        · rw [if_pos hq, hq]
          exact .inr ⟨⟨x, hxd, hk, rfl⟩, hc.symm⟩
        · rw [if_neg hq]; exact h3 q
      refine ⟨rfl, ⟨wf_tree g1 g3, fun q => ?_⟩, ph1 hs hd xs _ (fun y hy => hx y (List.mem_cons_of_mem _ hy)) ⟨g1, g3, h3', fun y hy hky => ?_⟩⟩
      · rcases h3' q with e | ⟨_, e⟩
        · exact .inl e
        · exact .inr (.inl e)
      · rcases h4 y hy hky with e | e
        · rcases List.mem_cons.1 e with rfl | e
          · right
            rw [fn_ins h1.1, cpy_k, if_pos rfl, hc]
          · exact .inl e
        · right
          rw [fn_ins h1.1, cpy_k]
          by_cases hq : kpt s d P y = kpt s d P x
          · rw [if_pos hq, hq, hc]
          · rw [if_neg hq]; exact e

/-- While entries are removed; zs: those to come. -/
def P2 (s d : List En) (P : Pol) (zs now : List En) : Prop := Wf now ∧ now.length ≤ 64 ∧ (∀ q, Kq s d P q → fn now q = fn (wnt s d P) q) ∧
  (∀ q, ¬ Kq s d P q → fn now q = fn d q ∨ (fn now q = none ∧ ∃ x ∈ d, f2 (wnt s d P) x = true ∧ x.k = q)) ∧ (∀ x ∈ d, f2 (wnt s d P) x = true → x ∈ zs ∨ fn now x.k = none) ∧ ∀ x ∈ zs, fn now x.k = some x
theorem f2_kq {s d : List En} {P : Pol} (hs : Wf s) (hd : Wf d) {x : En} (hx : x ∈ d) (h : f2 (wnt s d P) x = true) : ¬ Kq s d P x.k := by
  rintro ⟨y, hy, hk, e⟩
  have hc := kq_W hs hd hy hk
  rw [e] at hc
  have h1 := f2_iff.1 h _ hc
  have h2 := (kpt_ok hk).2.2.2.2.1
  cases hb : x.d with
  | false => rw [hb] at h1; exact h1 rfl
  | true => rw [hK_iff.2 ⟨x, hd.1.fnk hx e.symm, hb⟩] at h2; cases h2
theorem ph2 {s d : List En} {P : Pol} (hs : Wf s) (hd : Wf d) : ∀ (zs now : List En), zs.Pairwise (fun a b => les b.k a.k = true) → (∀ x ∈ zs, x ∈ d ∧ f2 (wnt s d P) x = true) → P2 s d P zs now →
    Rn s (Gd d (wnt s d P)) (P2 s d P []) (zs.map (ste 1 no)) now
  | [], _, _, _, h => h
  | x :: zs, now, hp, hx, ⟨h1, h2, h3, h4, h5, h6⟩ => by
    obtain ⟨p1, p2⟩ := List.pairwise_cons.1 hp
    obtain ⟨hxd, hf⟩ := hx x List.mem_cons_self
    have hW := wnt_wf (P := P) hs hd
    have hnk := f2_kq hs hd hxd hf
    have hnx := h6 x List.mem_cons_self
    have hdir : ∀ y ∈ d, par y.k = x.k → x.d = true := fun y hy e => by
      obtain ⟨z, hz, e1, e2⟩ := hd.2.2 y hy (by rw [e]; exact chk_ne (hd.2.1 x hxd).1)
      rw [hd.1.inj hxd hz (by rw [e1, e])]; exact e2
    have hnw : ∀ y, fn (wnt s d P) y.k = some y → par y.k = x.k → x.d = false := fun y hy e => by
      obtain ⟨z, hz, e1, e2⟩ := hW.2.2 y (fn_some hy).1 (by rw [e]; exact chk_ne (hd.2.1 x hxd).1)
      have := f2_iff.1 hf z (hW.1.fnk hz (by rw [e1, e]))
      rw [e2] at this
      cases hb : x.d with
      | false => rfl
      | true => rw [hb] at this; exact absurd rfl this
    have hch : ∀ y ∈ now, par y.k ≠ x.k := fun y hy e => by
      have hyn := h1.1.fn hy
      by_cases hq : Kq s d P y.k
      · have hyW := h3 _ hq
        rw [hyn] at hyW
        obtain ⟨y', hy', hk', e'⟩ := hq
        have := hdir y' hy' (by rw [← e, ← e', (kpt_ok hk').2.2.2.2.2.2.1, par_kep])
        rw [hnw y hyW.symm e] at this
        cases this
      · rcases h4 _ hq with e1 | ⟨e1, _⟩
        · rw [hyn] at e1
          have hyd := (fn_some e1.symm).1
          have hxt := hdir y hyd e
          have hfy : f2 (wnt s d P) y = true := f2_iff.2 fun z hz e2 => by
            obtain ⟨a, b⟩ := fn_some hz
            have := hnw z (hW.1.fn a) (by rw [b]; exact e)
            rw [hxt] at this; cases this
          rcases h5 y hyd hfy with e2 | e2
          · have hl : les x.k y.k = true := by
              rw [← e]; exact les_par (by rw [e]; exact chk_ne (hd.2.1 x hxd).1)
            rcases List.mem_cons.1 e2 with rfl | e2
            · rw [les_irr] at hl; cases hl
            · have := les_asy (p1 y e2); rw [hl] at this; cases this
          · rw [hyn] at e2; cases e2
        · rw [hyn] at e1; cases e1
    obtain ⟨m, hm, g1, g2, g3⟩ := rem_fil h1 h2 hnx hch
    have hap : apl now (ste 1 no x) s = (m, 0) := by
      unfold apl ste
      rw [if_neg (by simp), if_pos rfl]
      exact hm
    rw [List.map_cons]
    unfold Rn
    rw [hap]
    right
    have q3 : ∀ q, Kq s d P q → fn m q = fn (wnt s d P) q := fun q hq => by
      rw [g3, if_neg (fun e => hnk (by rw [← e]; exact hq))]; exact h3 q hq
    have q4 : ∀ q, ¬ Kq s d P q → fn m q = fn d q ∨ (fn m q = none ∧ ∃ x ∈ d, f2 (wnt s d P) x = true ∧ x.k = q) := fun q hq => by
      rw [g3]
      by_cases e : q = x.k
      · rw [if_pos e]; exact .inr ⟨rfl, x, hxd, hf, e.symm⟩
      · rw [if_neg e]; exact h4 q hq
    refine ⟨rfl, ⟨wf_tree g1 g2, fun q => ?_⟩, ph2 hs hd zs m p2 (fun y hy => hx y (List.mem_cons_of_mem _ hy)) ⟨g1, g2, q3, q4, fun y hy hfy => ?_, fun y hy => ?_⟩⟩
    · by_cases hq : Kq s d P q
      · exact .inr (.inl (q3 q hq))
      · rcases q4 q hq with e | ⟨e, y, hy, hfy, e2⟩
        · exact .inl e
        · refine .inr (.inr ⟨e, fun a b ha hb => ?_⟩)
          rw [← e2, hd.1.fn hy] at ha
          cases ha
          rw [← e2] at hb
          exact (f2_iff.1 hfy b hb).symm
    · rcases h5 y hy hfy with e | e
      · rcases List.mem_cons.1 e with rfl | e
        · right; rw [g3, if_pos rfl]
        · exact .inl e
      · right
        rw [g3]
        by_cases e' : y.k = x.k
        · rw [if_pos e']
        · rw [if_neg e']; exact e
    · rw [g3, if_neg (les_ne (p1 y hy))]
      exact h6 y (List.mem_cons_of_mem _ hy)

/-- While what is wanted is made: ds, fs: directories and files to come. -/
def P3 (d W ds fs now : List En) : Prop := Wf now ∧ (∀ x ∈ now, ∃ y, fn W x.k = some y ∧ y.d = x.d) ∧ Btw d W now ∧ (∀ x ∈ W, x.d = true → x ∈ ds ∨ fn now x.k = some x) ∧ ∀ x ∈ W, x.d = false → x ∈ fs ∨ fn now x.k = some x
theorem P3.len {d W ds fs now : List En} (h : P3 d W ds fs now) (h64 : W.length ≤ 64) : now.length ≤ 64 := by
  refine Nat.le_trans (srt_len h.1.1 fun x hx => ?_) h64
  obtain ⟨y, hy, _⟩ := h.2.1 x hx
  exact ⟨y, (fn_some hy).1, (fn_some hy).2⟩
/-- One entry of what is wanted is laid. -/
theorem P3.lay {d W ds fs now ds' fs' : List En} {x : En} (hW : Wf W) (h64 : W.length ≤ 64) (h : P3 d W ds fs now) (hx : x ∈ W) (hp : par x.k ≠ [] → ∃ z ∈ now, z.k = par x.k ∧ z.d = true)
    (hds : ∀ y ∈ ds, y = x ∨ y ∈ ds') (hfs : ∀ y ∈ fs, y = x ∨ y ∈ fs') : put now x = (ins now x, 0) ∧ Gd d W (ins now x) ∧ P3 d W ds' fs' (ins now x) := by
  have hl := h.len h64
  obtain ⟨h1, h2, h3, h4, h5⟩ := h
  have hxW := hW.1.fn hx
  obtain ⟨g1, g2⟩ := put_ins (y := x) h1 hl (hW.2.1 x hx) hp (fun z hz => by
    obtain ⟨y, hy, e⟩ := h2 z (fn_some hz).1
    rw [(fn_some hz).2, hxW] at hy
    cases hy; exact e.symm)
  have q2 : ∀ y ∈ ins now x, ∃ z, fn W y.k = some z ∧ z.d = y.d := fun y hy => by
    rcases (mem_ins now x y).1 hy with rfl | ⟨hy, _⟩
    · exact ⟨y, hxW, rfl⟩
    · exact h2 y hy
  have q3 : Btw d W (ins now x) := fun q => by
    rw [fn_ins h1.1]
    by_cases hq : q = x.k
    · rw [if_pos hq, hq]; exact .inr (.inl hxW.symm)
    · rw [if_neg hq]; exact h3 q
  have one : ∀ y ∈ W, fn now y.k = some y ∨ y = x → fn (ins now x) y.k = some y := fun y hy e => by
    rw [fn_ins h1.1]
    by_cases hq : y.k = x.k
    · rw [if_pos hq, hW.1.inj hy hx hq]
    · rw [if_neg hq]
      rcases e with e | e
      · exact e
      · exact absurd (by rw [e]) hq
  have all : P3 d W ds' fs' (ins now x) := by
    refine ⟨g1, q2, q3, fun y hy hd => ?_, fun y hy hd => ?_⟩
    · rcases h4 y hy hd with e | e
      · rcases hds y e with e | e
        · exact .inr (one y hy (.inr e))
        · exact .inl e
      · exact .inr (one y hy (.inl e))
    · rcases h5 y hy hd with e | e
      · rcases hfs y e with e | e
        · exact .inr (one y hy (.inr e))
        · exact .inl e
      · exact .inr (one y hy (.inl e))
  have hl2 := all.len h64
  rcases g2 with ⟨g2, g3⟩ | ⟨g2, _⟩
  · exfalso
    unfold put at g2
    have ht := wf_tree h1 hl
    rw [if_neg (by simp [ht]), mad_ins h1.1 (hW.2.1 x hx).1] at g2
    split at g2
    · cases g2
    · rw [if_neg (by simp [wf_tree g1 hl2])] at g2
      cases g2
  · exact ⟨g2, ⟨wf_tree g1 hl2, q3⟩, all⟩
theorem ph3 {s d W fs : List En} (hW : Wf W) (h64 : W.length ≤ 64) : ∀ (ds now : List En), Srt ds → (∀ x ∈ ds, x ∈ W ∧ x.d = true) → P3 d W ds fs now → Rn s (Gd d W) (P3 d W [] fs) (ds.map (ste 2 no)) now
  | [], _, _, _, h => h
  | x :: ds, now, hp, hx, h => by
    obtain ⟨p1, p2⟩ := List.pairwise_cons.1 hp
    obtain ⟨hxW, hxd⟩ := hx x List.mem_cons_self
    have hap : apl now (ste 2 no x) s = put now x := by
      unfold apl ste
      rw [if_neg (by simp), if_neg (by simp), if_pos rfl]
      have := (hW.2.1 x hxW).2.2.2 hxd
      cases x
      simp only at hxd this
      subst hxd; subst this
      rfl
    obtain ⟨g1, g2, g3⟩ := P3.lay (ds' := ds) (fs' := fs) hW h64 h hxW (fun hpx => by
      obtain ⟨z, hz, e1, e2⟩ := hW.2.2 x hxW hpx
      refine ⟨z, ?_, e1, e2⟩
      have hl : les z.k x.k = true := by rw [e1]; exact les_par hpx
      rcases h.2.2.2.1 z hz e2 with e | e
      · rcases List.mem_cons.1 e with rfl | e
        · rw [les_irr] at hl; cases hl
        · have := les_asy (p1 z e); rw [hl] at this; cases this
      · exact (fn_some e).1) (fun y hy => List.mem_cons.1 hy) (fun y hy => .inr hy)
    rw [List.map_cons]
    unfold Rn
    rw [hap, g1]
    exact .inr ⟨rfl, g2, ph3 hW h64 ds _ p2 (fun y hy => hx y (List.mem_cons_of_mem _ hy)) g3⟩
theorem ph4 {s d W : List En} (hs : Wf s) (hsW : ∀ x ∈ s, x ∈ W) (hW : Wf W) (h64 : W.length ≤ 64) : ∀ (fs now : List En), (∀ x ∈ fs, x ∈ s ∧ x.d = false) → P3 d W [] fs now → Rn s (Gd d W) (P3 d W [] []) (fs.map (ste 3 no)) now
  | [], _, _, h => h
  | x :: fs, now, hx, h => by
    obtain ⟨hxs, hxd⟩ := hx x List.mem_cons_self
    have hxW := hsW x hxs
    have hap : apl now (ste 3 no x) s = put now x := by
      unfold apl ste pf
      rw [if_neg (by simp), if_neg (by simp), if_neg (by simp), if_pos rfl, if_pos (hK_iff.2 ⟨x, hs.1.fn hxs, hxd⟩), (got_some (hs.1.fn hxs)).2]
      cases x
      simp only at hxd
      subst hxd
      rfl
    obtain ⟨g1, g2, g3⟩ := P3.lay (ds' := []) (fs' := fs) hW h64 h hxW (fun hpx => by
      obtain ⟨z, hz, e1, e2⟩ := hW.2.2 x hxW hpx
      refine ⟨z, ?_, e1, e2⟩
      rcases h.2.2.2.1 z hz e2 with e | e
      · cases e
      · exact (fn_some e).1) (fun y hy => by cases hy) (fun y hy => List.mem_cons.1 hy)
    rw [List.map_cons]
    unfold Rn
    rw [hap, g1]
    exact .inr ⟨rfl, g2, ph4 hs hsW hW h64 fs _ (fun y hy => hx y (List.mem_cons_of_mem _ hy)) g3⟩
/-- The steps lead to what is wanted. -/
theorem reach {s d : List En} {P : Pol} (hs : Wf s) (hd : ckT d = 0) (h64 : (wnt s d P).length ≤ 64) : Rn s (Gd d (wnt s d P)) (fun l => l = wnt s d P) (pln s d (wnt s d P) P) d := by
  have hdl := (ckT_all d hd).1
  have hd := tree_wf hd
  have hW := wnt_wf (P := P) hs hd
  have hsW : ∀ x ∈ s, x ∈ wnt s d P := fun x hx => (mem_wnt hs.1 hd.1 x).2 (.inr (.inl hx))
  unfold pln
  refine Rn.app (Rn.app (Rn.app (Rn.mono ?_ (ph1 hs hd _ _ (fun x hx => ?_) ⟨hd, hdl, fun q => .inl rfl, fun x hx hk => ?_⟩))))
  · rintro now ⟨h1, h2, h3, h4⟩
    rw [← List.map_reverse]
    refine Rn.mono ?_ (ph2 hs hd _ _ ?_ (fun x hx => ?_) ⟨h1, h2, fun q hq => ?_, fun q hq => ?_, fun x hx hf => ?_, fun x hx => ?_⟩)
    · rintro now ⟨h1, h2, h3, h4, h5, _⟩
      have keep : ∀ x ∈ d, ¬ Kq s d P x.k → f2 (wnt s d P) x = false → fn now x.k = some x := fun x hx hk hf => by
        rcases h4 _ hk with e | ⟨_, y, hy, hfy, e⟩
        · rw [e]; exact hd.1.fn hx
        · rw [hd.1.inj hy hx e, hf] at hfy; cases hfy
      refine Rn.mono ?_ (ph3 hW h64 (fs := s.filter (f4 d)) _ _ (hW.1.filter _) (fun x hx => ?_) ⟨h1, fun x hx => ?_, fun q => ?_, fun x hx hxd => ?_, fun x hx hxd => ?_⟩)
      · intro now h
        refine Rn.mono ?_ (ph4 hs hsW hW h64 _ _ (fun x hx => ?_) h)
        · rintro now ⟨h1, h2, h3, h4, h5⟩
          have all : ∀ x ∈ wnt s d P, fn now x.k = some x := fun x hx => by
            cases hb : x.d with
            | true => rcases h4 x hx hb with e | e
                      · cases e
                      · exact e
            | false => rcases h5 x hx hb with e | e
                       · cases e
                       · exact e
          refine srt_ext h1.1 hW.1 fun x => ⟨fun hx => ?_, fun hx => (fn_some (all x hx)).1⟩
          obtain ⟨y, hy, _⟩ := h2 x hx
          obtain ⟨a, b⟩ := fn_some hy
          have := all y a
          rw [b, h1.1.fn hx] at this
          cases this
          exact a
        · obtain ⟨a, b⟩ := List.mem_filter.1 hx
          refine ⟨a, ?_⟩
          unfold f4 at b
          cases hb : x.d with
          | false => rfl
          | true => rw [hb] at b; simp at b
      · obtain ⟨a, b⟩ := List.mem_filter.1 hx
        refine ⟨a, ?_⟩
        unfold f3 at b
        cases hb : x.d with
        | true => rfl
        | false => rw [hb] at b; simp at b
      · have hn := h1.1.fn hx
        by_cases hq : Kq s d P x.k
        · rw [h3 _ hq] at hn
          exact ⟨x, hn, rfl⟩
        · rcases h4 _ hq with e | ⟨e, _⟩
          · rw [hn] at e
            have hxd := (fn_some e.symm).1
            cases hf : f2 (wnt s d P) x with
            | true => rcases h5 x hxd hf with e' | e'
                      · cases e'
                      · rw [hn] at e'; cases e'
            | false =>
              unfold f2 at hf
              have hf' : hK (wnt s d P) x.k x.d = true := by simpa using hf
              exact hK_iff.1 hf'
          · rw [hn] at e; cases e
      · by_cases hq : Kq s d P q
        · exact .inr (.inl (h3 q hq))
        · rcases h4 q hq with e | ⟨e, y, hy, hfy, e2⟩
          · exact .inl e
          · refine .inr (.inr ⟨e, fun a b ha hb => ?_⟩)
            rw [← e2, hd.1.fn hy] at ha
            cases ha
            rw [← e2] at hb
            exact (f2_iff.1 hfy b hb).symm
      · by_cases hf : f3 d x = true
        · exact .inl (List.mem_filter.2 ⟨hx, hf⟩)
        · right
          unfold f3 at hf
          have hk : hK d x.k x.d = true := by simpa [hxd] using hf
          obtain ⟨y, hy, e⟩ := hK_iff.1 hk
          obtain ⟨a, b⟩ := fn_some hy
          have exy : y = x := ok_dir (hd.2.1 y a) (hW.2.1 x hx) b (by rw [e, hxd]) hxd
          subst exy
          refine keep y a (fun hq => ?_) ?_
          · obtain ⟨z, hz, hk, e'⟩ := hq
            exact cps_dir hd.1 a hxd (cpy s d P z) (mem_cps.2 ⟨z, hz, hk, rfl⟩) (by rw [cpy_k]; exact e')
          · unfold f2
            rw [hK_iff.2 ⟨y, hW.1.fn hx, rfl⟩]; rfl
      · rcases (mem_wnt hs.1 hd.1 x).1 hx with h | h | ⟨h, _, _, _, hc⟩
        · right
          obtain ⟨y, hy, hk, rfl⟩ := mem_cps.1 h
          rw [h3 _ ⟨y, hy, hk, (cpy_k s d P y).symm⟩]
          exact hW.1.fn hx
        · by_cases hf : f4 d x = true
          · exact .inl (List.mem_filter.2 ⟨h, hf⟩)
          · right
            unfold f4 at hf
            have hk : hav d x = true := by simpa [hxd] using hf
            have hxd' := (fn_some (hav_iff.1 hk)).1
            refine keep x hxd' (fun hq => ?_) ?_
            · obtain ⟨z, hz, hk, e'⟩ := hq
              have := (kpt_ok hk).2.2.2.1
              rw [e', hs.1.fn h] at this
              cases this
            · unfold f2
              rw [hK_iff.2 ⟨x, hW.1.fn hx, rfl⟩]; rfl
        · right
          refine keep x h (fun hq => ?_) ?_
          · obtain ⟨z, hz, hk, e'⟩ := hq
            exact hc (cpy s d P z) (mem_cps.2 ⟨z, hz, hk, rfl⟩) (by rw [cpy_k]; exact e')
          · unfold f2
            rw [hK_iff.2 ⟨x, hW.1.fn hx, rfl⟩]; rfl
    · rw [List.pairwise_reverse]
      exact hd.1.filter _
    · rw [List.mem_reverse, List.mem_filter] at hx
      exact hx
    · obtain ⟨x, hx, hk, rfl⟩ := hq
      rcases h4 x hx hk with e | e
      · cases e
      · exact e
    · rcases h3 q with e | ⟨e, _⟩
      · exact .inl e
      · exact absurd e hq
    · left
      rw [List.mem_reverse, List.mem_filter]
      exact ⟨hx, hf⟩
    · rw [List.mem_reverse, List.mem_filter] at hx
      rcases h3 x.k with e | ⟨e, _⟩
      · rw [e]; exact hd.1.fn hx.1
      · exact absurd e (f2_kq hs hd hx.1 hx.2)
  · obtain ⟨a, b⟩ := List.mem_filter.1 hx
    refine ⟨a, fun e => ?_⟩
    unfold f1 at b
    rw [decide_eq_false (by simp [e])] at b
    cases b
  · by_cases hf : f1 s d P x = true
    · exact .inl (List.mem_filter.2 ⟨hx, hf⟩)
    · right
      unfold f1 at hf
      have hh : hav d (cpy s d P x) = true := by simpa [hk] using hf
      have := hav_iff.1 hh
      rw [cpy_k] at this
      rw [this, kq_W hs hd hx hk]

/-- What is wanted, made the destination: nothing more is to be done. -/
theorem tree_up {W : List En} (hW : Wf W) {r q : List UInt8} (h : Up r q) : ∀ x ∈ W, x.k = q → ∃ y ∈ W, y.k = r ∧ y.d = true := by
  induction h with
  | one q hp => intro x hx e; rw [← e] at hp ⊢; exact hW.2.2 x hx hp
  | up q hp _ ih =>
    intro x hx e
    rw [← e] at hp ih
    obtain ⟨y, hy, e1, _⟩ := hW.2.2 x hx hp
    exact ih y hy e1
def P0 : Pol := ⟨false, false⟩
theorem kpt_bak {s d : List En} {P : Pol} (h : P.bak = false) (x : En) : kpt s d P x = [] := by unfold kpt; rw [if_pos (.inl h)]
theorem cps_bak {s d : List En} {P : Pol} (h : P.bak = false) : cps s d P = [] := by
  refine List.eq_nil_iff_forall_not_mem.2 fun c hc => ?_
  obtain ⟨x, _, hk, _⟩ := mem_cps.1 hc
  exact hk (kpt_bak h x)
theorem again {s d : List En} {P : Pol} (hs : Wf s) (hd : Wf d) : wnt s (wnt s d P) P0 = wnt s d P ∧ pln s (wnt s d P) (wnt s d P) P0 = [] := by
  have hW := wnt_wf (P := P) hs hd
  have hsW : ∀ x ∈ s, x ∈ wnt s d P := fun x hx => (mem_wnt hs.1 hd.1 x).2 (.inr (.inl hx))
  refine ⟨srt_ext (wnt_wf hs hW).1 hW.1 fun x => ?_, ?_⟩
  · rw [mem_wnt hs.1 hW.1 x, cps_bak rfl]
    constructor
    · rintro (h | h | ⟨h, _⟩)
      · cases h
      · exact hsW x h
      · exact h
    · intro h
      cases hf : fn s x.k with
      | some y =>
        obtain ⟨a, b⟩ := fn_some hf
        rw [← hW.1.inj (hsW y a) h b]
        exact .inr (.inl a)
      | none =>
        refine .inr (.inr ⟨h, rfl, rfl, ?_, fun c hc => by cases hc⟩)
        rintro ⟨r, h1, h2⟩
        obtain ⟨y, hy, e⟩ := hK_iff.1 h2
        obtain ⟨a, b⟩ := fn_some hy
        obtain ⟨z, hz, e1, e2⟩ := tree_up hW h1 x h rfl
        rw [hW.1.inj hz (hsW y a) (by rw [e1, b]), e] at e2
        cases e2
  · unfold pln
    have a1 : (wnt s d P).filter (f1 s (wnt s d P) P0) = [] := List.filter_eq_nil_iff.2 fun x _ => by unfold f1; rw [kpt_bak rfl]; simp
    have a2 : (wnt s d P).filter (f2 (wnt s d P)) = [] := List.filter_eq_nil_iff.2 fun x hx => by unfold f2; rw [hK_iff.2 ⟨x, hW.1.fn hx, rfl⟩]; simp
    have a3 : (wnt s d P).filter (f3 (wnt s d P)) = [] := List.filter_eq_nil_iff.2 fun x hx => by unfold f3; rw [hK_iff.2 ⟨x, hW.1.fn hx, rfl⟩]; simp
    have a4 : s.filter (f4 (wnt s d P)) = [] := List.filter_eq_nil_iff.2 fun x hx => by unfold f4; rw [hav_iff.2 (hW.1.fn (hsW x hx))]; simp
    rw [a1, a2, a3, a4]
    rfl
/-- With deleting what is wanted is the source's tree, and what is kept. -/
theorem dele {s d : List En} (hs : Wf s) (hd : Wf d) : wnt s d ⟨true, false⟩ = s := by
  refine srt_ext (wnt_wf hs hd).1 hs.1 fun x => ?_
  rw [mem_wnt hs.1 hd.1 x, cps_bak rfl]
  constructor
  · rintro (h | h | ⟨_, _, h, _⟩)
    · cases h
    · exact h
    · cases h
  · exact fun h => .inr (.inl h)
end Go.Proofs.YtajcabfeabbknaaGreatDoor
namespace Go.Proofs.YtajcabfeabbknaaGreatDoor
open Go.RowKit

theorem want_ok {s d : List En} {P : Pol} (h : (want s d P).2 = 0) : ckT s = 0 ∧ ckT d = 0 ∧ (want s d P).1 = wnt s d P ∧ (wnt s d P).length ≤ 64 := by
  unfold want at h ⊢
  split at h
  · rename_i h1; exact absurd h h1
  rename_i h1
  split at h
  · rename_i h2; exact absurd h h2
  rename_i h2
  split at h
  · cases h
  rename_i h3
  rw [if_neg h1, if_neg h2, if_neg h3]
  exact ⟨Decidable.not_not.1 h1, Decidable.not_not.1 h2, rfl, by omega⟩
theorem want_of {s d : List En} {P : Pol} (h1 : ckT s = 0) (h2 : ckT d = 0) (h3 : (wnt s d P).length ≤ 64) : want s d P = (wnt s d P, 0) := by
  unfold want
  rw [if_neg (by simp [h1]), if_neg (by simp [h2]), if_neg (by omega)]
theorem want_full {s d : List En} {P : Pol} (h1 : ckT s = 0) (h2 : ckT d = 0) (h3 : (want s d P).2 ≠ 0) : want s d P = ([], 10) := by
  unfold want at h3 ⊢
  rw [if_neg (by simp [h1]), if_neg (by simp [h2])] at h3 ⊢
  split
  · rfl
  · rename_i h; rw [if_neg h] at h3; exact absurd rfl h3
/-- Made the destination. -/
theorem again_all {s d : List En} {P : Pol} (h : (want s d P).2 = 0) : ckT (want s d P).1 = 0 ∧ (∀ x ∈ s, gotB (want s d P).1 x.k = true ∧ got (want s d P).1 x.k = x) ∧ want s (want s d P).1 P0 = ((want s d P).1, 0) ∧ plan s (want s d P).1 P0 = ([], 0) := by
  obtain ⟨h1, h2, h3, h4⟩ := want_ok h
  have hs := tree_wf h1
  have hd := tree_wf h2
  have hW := wnt_wf (P := P) hs hd
  obtain ⟨a1, a2⟩ := again (P := P) hs hd
  rw [h3]
  have hc := wf_tree hW h4
  have e : want s (wnt s d P) P0 = (wnt s d P, 0) := by
    rw [want_of h1 hc (by rw [a1]; exact h4), a1]
  refine ⟨hc, fun x hx => ?_, e, ?_⟩
  · exact got_some (hW.1.fn ((mem_wnt hs.1 hd.1 x).2 (.inr (.inl hx))))
  · unfold plan
    rw [e, if_neg (by simp), a2]
/-- With deleting. -/
theorem dele_all {s d : List En} (h1 : ckT s = 0) (h2 : ckT d = 0) : want s d ⟨true, false⟩ = (s, 0) := by
  have e := dele (tree_wf h1) (tree_wf h2)
  rw [want_of h1 h2 (by rw [e]; exact (ckT_all s h1).1), e]
theorem dele_keep {s d : List En} (h : (want s d ⟨true, true⟩).2 = 0) : ∀ y ∈ (want s d ⟨true, true⟩).1, gotB s y.k = false →
    ∃ x, x ∈ d ∧ y.k = x.k ++ [126] ∧ x.k = y.k.dropLast ∧ gotB d x.k = true ∧ got d x.k = x ∧ y.d = false ∧ x.d = false ∧ y.z = x.z ∧ kep x.k = y.k := by
  obtain ⟨h1, h2, h3, _⟩ := want_ok h
  have hs := tree_wf h1
  have hd := tree_wf h2
  rw [h3]
  intro y hy hg
  have hn := gotB_none.1 hg
  rcases (mem_wnt hs.1 hd.1 y).1 hy with h | h | ⟨_, _, h, _⟩
  · obtain ⟨x, hx, hk, rfl⟩ := mem_cps.1 h
    obtain ⟨_, k2, _, _, _, _, k7, _, k9⟩ := kpt_ok hk
    obtain ⟨g1, g2⟩ := got_some (hd.1.fn hx)
    refine ⟨x, hx, by rw [cpy_k, k7], by rw [cpy_k, k7]; simp, g1, g2, rfl, k2, rfl, by rw [cpy_k, k7, k9]⟩
  · rw [hs.1.fn h] at hn; cases hn
  · cases h
end Go.Proofs.YtajcabfeabbknaaGreatDoor
