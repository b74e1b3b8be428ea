/-
  Paths, plainly: the texts between the bytes 47, joined again; the last of them; which of two stands ahead; what is a name, and a path.
-/
import Derived.Test.YtcenchnmibdebaaDoorShelf
import Derived.Lib.Join
namespace Go.Proofs.YtcenchnmibdebaaDoor
open Go.RowKit
set_option maxRecDepth 100000

/-- A string's bytes. -/
abbrev dl (s : ByteArray) : List UInt8 := s.data.toList
/-- The string of bytes. -/
def mk (l : List UInt8) : ByteArray := ⟨l.toArray⟩
theorem dl_mk (l : List UInt8) : dl (mk l) = l := by simp [mk]
theorem mk_dl (s : ByteArray) : mk (dl s) = s := by cases s; simp [mk]
theorem dl_inj {s t : ByteArray} (h : dl s = dl t) : s = t := by rw [← mk_dl s, ← mk_dl t, h]
theorem mk_inj {l m : List UInt8} (h : mk l = mk m) : l = m := by rw [← dl_mk l, ← dl_mk m, h]
theorem dl_len (s : ByteArray) : (dl s).length = s.size := rfl
theorem mk_size (l : List UInt8) : (mk l).size = l.length := by simp [mk, ByteArray.size]
theorem mk_nil : mk [] = ⟨#[]⟩ := rfl
theorem tol (s : ByteArray) : s.toList = dl s := Lib.toList_data s
theorem mk_append (l m : List UInt8) : mk l ++ mk m = mk (l ++ m) := by
  apply dl_inj
  rw [dl_mk]
  simp [dl, mk]

/-- What stands between the bytes 47. -/
def parts : List UInt8 → List (List UInt8)
  | [] => [[]]
  | c :: r => if c = 47 then [] :: parts r else match parts r with
    | [] => [[c]]
    | x :: xs => (c :: x) :: xs
/-- The same; of nothing: nothing. -/
def spl (l : List UInt8) : List (List UInt8) := if l = [] then [] else parts l
theorem parts_ne (l : List UInt8) : parts l ≠ [] := by
  cases l with
  | nil => simp [parts]
  | cons c r =>
    unfold parts
    split
    · simp
    · split <;> simp
theorem parts_slash (r : List UInt8) : parts (47 :: r) = [] :: parts r := by rw [parts, if_pos rfl]
theorem parts_other (c : UInt8) (r x : List UInt8) (xs : List (List UInt8)) (h : ¬ c = 47) (hp : parts r = x :: xs) : parts (c :: r) = (c :: x) :: xs := by rw [parts, if_neg h, hp]
theorem parts_none : ∀ x : List UInt8, (∀ c ∈ x, c ≠ 47) → parts x = [x]
  | [], _ => rfl
  | c :: r, h => by
    have h1 := parts_none r (fun d hd => h d (by simp [hd]))
    have h2 : ¬ c = 47 := h c (by simp)
    unfold parts
    rw [if_neg h2, h1]
theorem parts_app : ∀ a b : List UInt8, parts (a ++ 47 :: b) = parts a ++ parts b
  | [], b => parts_slash b
  | c :: r, b => by
    have h := parts_app r b
    show parts (c :: (r ++ 47 :: b)) = _
    by_cases hc : c = 47
    · subst hc; rw [parts_slash, parts_slash, h]; rfl
    · cases hp : parts r with
      | nil => exact absurd hp (parts_ne r)
      | cons x xs =>
        rw [hp] at h
        rw [parts_other c _ _ _ hc h, parts_other c r x xs hc hp]
        rfl
theorem parts_cut (x r : List UInt8) (h : ∀ c ∈ x, c ≠ 47) : parts (x ++ 47 :: r) = x :: parts r := by
  rw [parts_app, parts_none x h]; rfl
theorem parts_free : ∀ (l : List UInt8), ∀ x ∈ parts l, ∀ c ∈ x, c ≠ 47
  | [], x, hx, c, hc => by
    simp only [parts, List.mem_singleton] at hx
    subst hx
    cases hc
  | d :: r, x, hx, c, hc => by
    have ih := parts_free r
    unfold parts at hx
    by_cases hd : d = 47
    · rw [if_pos hd] at hx
      rcases List.mem_cons.1 hx with rfl | hx
      · cases hc
      · exact ih x hx c hc
    · rw [if_neg hd] at hx
      cases hp : parts r with
      | nil => exact absurd hp (parts_ne r)
      | cons y ys =>
        rw [hp] at hx ih
        rcases List.mem_cons.1 hx with rfl | hx
        · rcases List.mem_cons.1 hc with rfl | hc
          · exact hd
          · exact ih y (by simp) c hc
        · exact ih x (by simp [hx]) c hc
/-- Texts, with 47 between. -/
def joi : List (List UInt8) → List UInt8
  | [] => []
  | [x] => x
  | x :: y :: r => x ++ 47 :: joi (y :: r)
theorem joi_cons (x : List UInt8) (r : List (List UInt8)) (h : r ≠ []) : joi (x :: r) = x ++ 47 :: joi r := by
  cases r with
  | nil => exact absurd rfl h
  | cons y r => rfl
theorem joi_app : ∀ a b : List (List UInt8), a ≠ [] → b ≠ [] → joi (a ++ b) = joi a ++ 47 :: joi b
  | [], _, h, _ => absurd rfl h
  | [x], b, _, hb => joi_cons x b hb
  | x :: y :: r, b, _, hb => by
    have := joi_app (y :: r) b (by simp) hb
    show joi (x :: ((y :: r) ++ b)) = _
    rw [joi_cons x _ (by simp), this, joi_cons x (y :: r) (by simp)]
    simp
theorem joi_parts : ∀ l : List UInt8, joi (parts l) = l
  | [] => rfl
  | c :: r => by
    have ih := joi_parts r
    unfold parts
    by_cases hc : c = 47
    · rw [if_pos hc, joi_cons _ _ (parts_ne r), ih, hc]; rfl
    · rw [if_neg hc]
      cases hp : parts r with
      | nil => exact absurd hp (parts_ne r)
      | cons x xs =>
        rw [hp] at ih
        cases xs with
        | nil => simp only [joi] at ih ⊢; rw [ih]
        | cons y ys => rw [joi_cons _ _ (by simp)] at ih ⊢; simp only [List.cons_append]; rw [ih]
theorem joi_lib : ∀ xs : List (List UInt8), Lib.join xs [47] = joi xs
  | [] => rfl
  | [x] => by rw [Lib.join_one]; rfl
  | x :: y :: r => by
    have ih := joi_lib (y :: r)
    rw [Lib.join_cons] at ih ⊢
    rw [joi_cons _ _ (by simp), ← ih]
    simp [Lib.joinTail]
theorem joi_snoc (xs : List (List UInt8)) (x : List UInt8) (h : xs ≠ []) : joi (xs ++ [x]) = joi xs ++ 47 :: x := joi_app xs [x] h (by simp)
theorem joi_le : ∀ (xs : List (List UInt8)) (m : Nat), (∀ x ∈ xs, x.length ≤ m) → (joi xs).length ≤ xs.length * (m + 1)
  | [], m, _ => by simp [joi]
  | [x], m, h => by have := h x (by simp); simp only [joi, List.length_cons, List.length_nil]; omega
  | x :: y :: r, m, h => by
    have ih := joi_le (y :: r) m (fun z hz => h z (by simp [hz]))
    have h1 := h x (by simp)
    rw [joi_cons _ _ (by simp), List.length_append, List.length_cons]
    have e : (x :: y :: r).length * (m + 1) = (y :: r).length * (m + 1) + (m + 1) := by rw [List.length_cons, Nat.succ_mul]
    omega
theorem spl_len (l : List UInt8) : (spl l).length ≤ l.length + 1 := by
  have h : ∀ l : List UInt8, (parts l).length ≤ l.length + 1 := by
    intro l
    induction l with
    | nil => simp [parts]
    | cons c r ih =>
      unfold parts
      split
      · simp only [List.length_cons]; omega
      · cases hp : parts r with
        | nil => exact absurd hp (parts_ne r)
        | cons x xs => rw [hp] at ih; simp only [List.length_cons] at *; omega
  unfold spl
  split
  · simp
  · exact h l
theorem spl_nil_iff (l : List UInt8) : spl l = [] ↔ l = [] := by
  unfold spl
  split
  · simp [*]
  · simp [*, parts_ne]
theorem joi_spl (l : List UInt8) : joi (spl l) = l := by
  unfold spl
  split
  · subst l; rfl
  · exact joi_parts l
theorem spl_inj {l m : List UInt8} (h : spl l = spl m) : l = m := by rw [← joi_spl l, ← joi_spl m, h]

/-- The library's Split is this one. -/
theorem splitK_parts : ∀ l : List UInt8, Lib.splitK [47] 0 (Lib.count l [47]) l = parts l
  | [] => by rw [Lib.count_miss (by simp [Lib.index])]; rfl
  | c :: r => by
    have ih := splitK_parts r
    by_cases hc : c = 47
    · subst hc
      have hix : Lib.index (47 :: r) [47] = ((0 : Nat) : Int) := by rw [Lib.index]; simp [List.isPrefixOf]
      rw [Lib.count_cons_eq, Nat.add_comm, Lib.splitK, hix, parts_slash, ← ih]
      simp
    · have hp : ([47] : List UInt8).isPrefixOf (c :: r) = false := by simp [List.isPrefixOf, Ne.symm hc]
      have hix : Lib.index (c :: r) [47] = if Lib.index r [47] == -1 then -1 else Lib.index r [47] + 1 := by rw [Lib.index, hp]; simp
      rw [Lib.count_cons_ne c 47 r hc]
      cases hk : Lib.count r [47] with
      | zero =>
        rw [hk] at ih
        exact (parts_other c r r [] hc ih.symm).symm
      | succ k =>
        rw [hk] at ih
        have hm : ¬ Lib.index r [47] = -1 := fun e => by rw [Lib.count_miss e] at hk; omega
        have hge := Lib.index_ge r [47]
        obtain ⟨j, hj⟩ : ∃ j : Nat, Lib.index r [47] = j := ⟨(Lib.index r [47]).toNat, by omega⟩
        have hj1 : Lib.index (c :: r) [47] = ((j + 1 : Nat) : Int) := by rw [hix, if_neg (fun e => hm (beq_iff_eq.1 e)), hj]; omega
        have n1 : ¬ (((j : Nat) : Int) == -1) = true := fun e => by have := beq_iff_eq.1 e; omega
        have n2 : ¬ (((j + 1 : Nat) : Int) == -1) = true := fun e => by have := beq_iff_eq.1 e; omega
        rw [Lib.splitK, hj, if_neg n1] at ih
        rw [Lib.splitK, hj1, if_neg n2]
        refine Eq.trans ?_ (parts_other c r _ _ hc ih.symm).symm
        simp [Int.toNat_natCast]

theorem bl_cons (a b : UInt8) (x y : List UInt8) : Op.bytesLess (a :: x) (b :: y) = if a = b then Op.bytesLess x y else decide (a < b) := by
  rw [Op.bytesLess]
  by_cases h : a = b
  · subst h; simp [UInt8.lt_irrefl]
  · simp [h]
theorem bl_irr : ∀ x : List UInt8, Op.bytesLess x x = false
  | [] => rfl
  | a :: x => by rw [bl_cons, if_pos rfl]; exact bl_irr x
theorem bl_tri : ∀ x y : List UInt8, x ≠ y → Op.bytesLess x y = !Op.bytesLess y x
  | [], [], h => absurd rfl h
  | [], _ :: _, _ => rfl
  | _ :: _, [], _ => rfl
  | a :: x, b :: y, h => by
    rw [bl_cons, bl_cons]
    by_cases hab : a = b
    · subst hab
      rw [if_pos rfl, if_pos rfl]
      exact bl_tri x y (fun e => h (by rw [e]))
    · rw [if_neg hab, if_neg (Ne.symm hab)]
      by_cases hlt : a < b
      · have : ¬ b < a := fun e => UInt8.lt_irrefl a (UInt8.lt_trans hlt e)
        simp [hlt, this]
      · have : b < a := UInt8.lt_of_le_of_ne (UInt8.not_lt.1 hlt) (Ne.symm hab)
        simp [hlt, this]
theorem bl_tra : ∀ x y z : List UInt8, Op.bytesLess x y = true → Op.bytesLess y z = true → Op.bytesLess x z = true
  | _, _, [], _, h => by cases ‹List UInt8› <;> simp [Op.bytesLess] at h
  | _, [], _ :: _, h, _ => by cases ‹List UInt8› <;> simp [Op.bytesLess] at h
  | [], _ :: _, _ :: _, _, _ => rfl
  | a :: x, b :: y, c :: z, h1, h2 => by
    rw [bl_cons] at h1 h2 ⊢
    by_cases hab : a = b
    · subst hab
      rw [if_pos rfl] at h1
      by_cases hac : a = c
      · rw [if_pos hac] at h2 ⊢; exact bl_tra x y z h1 h2
      · rw [if_neg hac] at h2 ⊢; exact h2
    · rw [if_neg hab] at h1
      have l1 : a < b := by simpa using h1
      by_cases hbc : b = c
      · subst hbc; rw [if_neg hab]; exact h1
      · rw [if_neg hbc] at h2
        have l2 : b < c := by simpa using h2
        have l3 := UInt8.lt_trans l1 l2
        have hac : ¬ a = c := fun e => by subst e; exact UInt8.lt_irrefl a l3
        rw [if_neg hac]; simpa using l3
/-- Of two lists: by the first texts that differ. -/
def ltL : List (List UInt8) → List (List UInt8) → Bool
  | _, [] => false
  | [], _ :: _ => true
  | x :: xs, y :: ys => if x = y then ltL xs ys else Op.bytesLess x y
theorem ltL_cons (x y : List UInt8) (xs ys : List (List UInt8)) : ltL (x :: xs) (y :: ys) = if x = y then ltL xs ys else Op.bytesLess x y := by rw [ltL]
theorem ltL_nil (xs : List (List UInt8)) : ltL xs [] = false := by cases xs <;> rfl
theorem ltL_irr : ∀ x : List (List UInt8), ltL x x = false
  | [] => rfl
  | a :: x => by rw [ltL_cons, if_pos rfl]; exact ltL_irr x
theorem ltL_tri : ∀ x y : List (List UInt8), x ≠ y → ltL x y = !ltL y x
  | [], [], h => absurd rfl h
  | [], _ :: _, _ => rfl
  | _ :: _, [], _ => rfl
  | a :: x, b :: y, h => by
    rw [ltL_cons, ltL_cons]
    by_cases hab : a = b
    · subst hab
      rw [if_pos rfl, if_pos rfl]
      exact ltL_tri x y (fun e => h (by rw [e]))
    · rw [if_neg hab, if_neg (Ne.symm hab)]
      exact bl_tri a b hab
theorem ltL_tra : ∀ x y z : List (List UInt8), ltL x y = true → ltL y z = true → ltL x z = true
  | _, _, [], _, h => by rw [ltL_nil] at h; cases h
  | _, [], _ :: _, h, _ => by rw [ltL_nil] at h; cases h
  | [], _ :: _, _ :: _, _, _ => rfl
  | a :: x, b :: y, c :: z, h1, h2 => by
    rw [ltL_cons] at h1 h2 ⊢
    by_cases hab : a = b
    · subst hab
      rw [if_pos rfl] at h1
      by_cases hac : a = c
      · rw [if_pos hac] at h2 ⊢; exact ltL_tra x y z h1 h2
      · rw [if_neg hac] at h2 ⊢; exact h2
    · rw [if_neg hab] at h1
      by_cases hbc : b = c
      · subst hbc; rw [if_neg hab]; exact h1
      · rw [if_neg hbc] at h2
        have l3 := bl_tra a b c h1 h2
        have hac : ¬ a = c := fun e => by subst e; rw [bl_irr] at l3; cases l3
        rw [if_neg hac]; exact l3
theorem ltL_app : ∀ (d e : List (List UInt8)), e ≠ [] → ltL d (d ++ e) = true
  | [], e, h => by cases e with
    | nil => exact absurd rfl h
    | cons y ys => rfl
  | x :: d, e, h => by
    show ltL (x :: d) (x :: (d ++ e)) = true
    rw [ltL_cons, if_pos rfl]; exact ltL_app d e h
theorem ltL_between : ∀ (d x e : List (List UInt8)), ltL d x = true → ltL x (d ++ e) = true → ∃ t, t ≠ [] ∧ x = d ++ t
  | [], x, _, h, _ => ⟨x, (fun h0 => by subst h0; cases h), rfl⟩
  | c :: d, [], _, h, _ => by rw [ltL_nil] at h; cases h
  | c :: d, y :: x, e, h1, h2 => by
    have h2' : ltL (y :: x) (c :: (d ++ e)) = true := h2
    rw [ltL_cons] at h1 h2'
    by_cases hcy : c = y
    · subst hcy
      rw [if_pos rfl] at h1 h2'
      obtain ⟨t, h3, rfl⟩ := ltL_between d x e h1 h2'
      exact ⟨t, h3, rfl⟩
    · rw [if_neg hcy] at h1
      rw [if_neg (Ne.symm hcy)] at h2'
      have := bl_tra _ _ _ h1 h2'
      rw [bl_irr] at this
      cases this
/-- slices.Compare of two lists of texts. -/
def cmpT (x y : List UInt8) : Int := if Op.bytesLess x y then -1 else if x = y then 0 else 1
def cmpL : List (List UInt8) → List (List UInt8) → Int
  | [], [] => 0
  | [], _ :: _ => -1
  | _ :: _, [] => 1
  | x :: xs, y :: ys => if x = y then cmpL xs ys else cmpT x y
theorem cmpL_lt : ∀ x y : List (List UInt8), decide (cmpL x y < 0) = ltL x y
  | [], [] => rfl
  | [], _ :: _ => rfl
  | _ :: _, [] => rfl
  | a :: x, b :: y => by
    rw [ltL_cons, cmpL]
    by_cases h : a = b
    · rw [if_pos h, if_pos h]; exact cmpL_lt x y
    · rw [if_neg h, if_neg h, cmpT]
      cases hb : Op.bytesLess a b
      · simp [h]
      · simp

/-- A byte that may stand in a name. -/
def okc (c : UInt8) : Bool := decide (33 ≤ (c.toNat : Int)) && decide ((c.toNat : Int) ≤ 126) && decide ((c.toNat : Int) ≠ 47)
def nameB (l : List UInt8) : Bool := decide (l ≠ []) && decide (l.length ≤ 32) && decide (l ≠ [46]) && decide (l ≠ [46, 46]) && l.all okc
def chk (l : List UInt8) : Int := if 128 < l.length then 5 else if spl l = [] then 6 else if (spl l).all nameB = false then 6 else if 8 < (spl l).length then 5 else 0
/-- The place of the last 47; below nought: there is none. -/
def lasl (l : List UInt8) : Int := Lib.lastIndexByte (mk l) 47
def par (l : List UInt8) : List UInt8 := if lasl l < 0 then [] else l.take (lasl l).toNat
def bas (l : List UInt8) : List UInt8 := l.drop (lasl l + 1).toNat
def und (p d : List UInt8) : Bool := if d = [] then decide (p ≠ []) else (d ++ [47]).isPrefixOf p
def les (a b : List UInt8) : Bool := ltL (spl a) (spl b)
def ownP : List UInt8 := [46, 115, 117, 109, 112, 116, 101, 114]
def res (p : List UInt8) : Bool := ownP.isPrefixOf p
def kep (p : List UInt8) : List UInt8 := if p = [] ∨ [126].isSuffixOf p = true ∨ chk (p ++ [126]) ≠ 0 then [] else p ++ [126]
theorem lasl_spec (l : List UInt8) : (lasl l = -1 ∧ (∀ c ∈ l, c ≠ 47)) ∨ ∃ a b, l = a ++ 47 :: b ∧ (∀ c ∈ b, c ≠ 47) ∧ lasl l = a.length := by
  have get : ∀ j, j < l.length → (mk l).data[j]! = l.getD j 0 := fun j hj => by
    have : l.toArray[j]! = l[j] := by simp [hj]
    simp [mk, List.getD, hj]
  have h := Lib.lastIdx_spec (mk l) 47 (mk l).size
  rw [mk_size] at h
  have e : lasl l = Lib.lastIdx (mk l) 47 l.length := by unfold lasl Lib.lastIndexByte; rw [mk_size]
  rw [← e] at h
  have tn : ∀ c : UInt8, ((c.toNat : Nat) : Int) = 47 ↔ c = 47 := fun c => by
    constructor
    · intro h
      have : c.toNat = 47 := by omega
      exact UInt8.toNat_inj.1 this
    · intro h
      subst h
      rfl
  rcases h with ⟨h1, h2⟩ | ⟨i, hi, h1, h2, h3⟩
  · refine .inl ⟨h1, fun c hc => ?_⟩
    obtain ⟨j, hj, rfl⟩ := List.getElem_of_mem hc
    have := h2 j hj
    rw [get j hj] at this
    intro e
    exact this ((tn _).2 (by simp [List.getD, hj, e]))
  · refine .inr ⟨l.take i, l.drop (i + 1), ?_, ?_, ?_⟩
    · have e1 : l[i] = 47 := by
        rw [get i hi] at h2
        have := (tn _).1 h2
        simpa [List.getD, hi] using this
      rw [← e1, ← List.drop_eq_getElem_cons hi, List.take_append_drop]
    · intro c hc
      obtain ⟨j, hj, rfl⟩ := List.getElem_of_mem hc
      have hj' : j < l.length - (i + 1) := by simpa using hj
      have := h3 (i + 1 + j) (by omega) (by omega)
      rw [get _ (by omega)] at this
      intro e
      refine this ((tn _).2 ?_)
      simp [List.getD, show i + 1 + j < l.length by omega]
      simpa using e
    · rw [h1, List.length_take]; omega
theorem par_bas (l : List UInt8) : (lasl l = -1 ∧ (∀ c ∈ l, c ≠ 47) ∧ par l = [] ∧ bas l = l) ∨ (lasl l = (par l).length ∧ l = par l ++ 47 :: bas l ∧ (∀ c ∈ bas l, c ≠ 47)) := by
  rcases lasl_spec l with ⟨h1, h2⟩ | ⟨a, b, h1, h2, h3⟩
  · exact .inl ⟨h1, h2, by unfold par; rw [h1]; rfl, by unfold bas; rw [h1]; rfl⟩
  · have e1 : par l = a := by
      unfold par
      rw [if_neg (by omega), h3, h1]
      simp
    have e2 : bas l = b := by
      unfold bas
      rw [h3, h1]
      have : ((a.length : Int) + 1).toNat = a.length + 1 := by omega
      rw [this]
      simp
    exact .inr ⟨by rw [e1]; exact h3, by rw [e1, e2]; exact h1, by rw [e2]; exact h2⟩
end Go.Proofs.YtcenchnmibdebaaDoor
