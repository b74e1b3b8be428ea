/-
  Paths, plainly: the texts between the bytes 47, joined again; the last of them; which of two stands ahead; what is a name, and a path.
  What path.Name answers: whether a text is a name; and Reserved.
  What path.Split, Parent, Base and Under answer.
  What path.Check and Kept answer.
  What path.Kept, slices.Compare of texts and path.Less answer.
  What slices.Compare of texts and path.Less answer.
-/
import Derived.Test.YtajcabfeabbknaaGreatDoorShelf
import Derived.Lib.Join
import Derived.Deep.QuietTactic
import Derived.BigQuiet
import Derived.WalkLawsBesides
import Derived.WalkSpells
namespace Go.Proofs.YtajcabfeabbknaaGreatDoor
open Go.RowKit

/-- A string's bytes. -/
abbrev dl (s : ByteArray) : List UInt8 := s.data.toList
/-- The string of bytes. -/
def mk (l : List UInt8) : ByteArray := ⟨l.toArray⟩
theorem dl_mk (l : List UInt8) : dl (mk l) = l := by simp [mk]
theorem mk_dl (s : ByteArray) : mk (dl s) = s := by cases s; simp [mk]
theorem dl_inj {s t : ByteArray} (h : dl s = dl t) : s = t := by rw [← mk_dl s, ← mk_dl t, h]
theorem mk_inj {l m : List UInt8} (h : mk l = mk m) : l = m := by rw [← dl_mk l, ← dl_mk m, h]
theorem dl_len (s : ByteArray) : (dl s).length = s.size := rfl
theorem mk_size (l : List UInt8) : (mk l).size = l.length := by simp [mk, ByteArray.size]
theorem mk_nil : mk [] = ⟨#[]⟩ := rfl
theorem tol (s : ByteArray) : s.toList = dl s := Lib.toList_data s
theorem mk_append (l m : List UInt8) : mk l ++ mk m = mk (l ++ m) := by
  apply dl_inj
  rw [dl_mk]
  simp [dl, mk]

/-- What stands between the bytes 47. -/
def parts : List UInt8 → List (List UInt8)
  | [] => [[]]
  | c :: r => if c = 47 then [] :: parts r else match parts r with
    | [] => [[c]]
    | x :: xs => (c :: x) :: xs
/-- The same; of nothing: nothing. -/
def spl (l : List UInt8) : List (List UInt8) := if l = [] then [] else parts l
theorem parts_ne (l : List UInt8) : parts l ≠ [] := by
  cases l with
  | nil => simp [parts]
  | cons c r =>
    unfold parts
    split
    · simp
    · split <;> simp
theorem parts_slash (r : List UInt8) : parts (47 :: r) = [] :: parts r := by rw [parts, if_pos rfl]
theorem parts_other (c : UInt8) (r x : List UInt8) (xs : List (List UInt8)) (h : ¬ c = 47) (hp : parts r = x :: xs) : parts (c :: r) = (c :: x) :: xs := by rw [parts, if_neg h, hp]
theorem parts_none : ∀ x : List UInt8, (∀ c ∈ x, c ≠ 47) → parts x = [x]
  | [], _ => rfl
  | c :: r, h => by
    have h1 := parts_none r (fun d hd => h d (by simp [hd]))
    have h2 : ¬ c = 47 := h c (by simp)
    unfold parts
    rw [if_neg h2, h1]
theorem parts_app : ∀ a b : List UInt8, parts (a ++ 47 :: b) = parts a ++ parts b
  | [], b => parts_slash b
  | c :: r, b => by
    have h := parts_app r b
    show parts (c :: (r ++ 47 :: b)) = _
    by_cases hc : c = 47
    · subst hc; rw [parts_slash, parts_slash, h]; rfl
    · cases hp : parts r with
      | nil => exact absurd hp (parts_ne r)
      | cons x xs =>
        rw [hp] at h
        rw [parts_other c _ _ _ hc h, parts_other c r x xs hc hp]
        rfl
theorem parts_cut (x r : List UInt8) (h : ∀ c ∈ x, c ≠ 47) : parts (x ++ 47 :: r) = x :: parts r := by
  rw [parts_app, parts_none x h]; rfl
theorem parts_free : ∀ (l : List UInt8), ∀ x ∈ parts l, ∀ c ∈ x, c ≠ 47
  | [], x, hx, c, hc => by
    simp only [parts, List.mem_singleton] at hx
    subst hx
    cases hc
  | d :: r, x, hx, c, hc => by
    have ih := parts_free r
    unfold parts at hx
    by_cases hd : d = 47
    · rw [if_pos hd] at hx
      rcases List.mem_cons.1 hx with rfl | hx
      · cases hc
      · exact ih x hx c hc
    · rw [if_neg hd] at hx
      cases hp : parts r with
      | nil => exact absurd hp (parts_ne r)
      | cons y ys =>
        rw [hp] at hx ih
        rcases List.mem_cons.1 hx with rfl | hx
        · rcases List.mem_cons.1 hc with rfl | hc
          · exact hd
          · exact ih y (by simp) c hc
        · exact ih x (by simp [hx]) c hc
/-- Texts, with 47 between. -/
def joi : List (List UInt8) → List UInt8
  | [] => []
  | [x] => x
  | x :: y :: r => x ++ 47 :: joi (y :: r)
theorem joi_cons (x : List UInt8) (r : List (List UInt8)) (h : r ≠ []) : joi (x :: r) = x ++ 47 :: joi r := by
  cases r with
  | nil => exact absurd rfl h
  | cons y r => rfl
theorem joi_app : ∀ a b : List (List UInt8), a ≠ [] → b ≠ [] → joi (a ++ b) = joi a ++ 47 :: joi b
  | [], _, h, _ => absurd rfl h
  | [x], b, _, hb => joi_cons x b hb
  | x :: y :: r, b, _, hb => by
    have := joi_app (y :: r) b (by simp) hb
    show joi (x :: ((y :: r) ++ b)) = _
    rw [joi_cons x _ (by simp), this, joi_cons x (y :: r) (by simp)]
    simp
theorem joi_parts : ∀ l : List UInt8, joi (parts l) = l
  | [] => rfl
  | c :: r => by
    have ih := joi_parts r
    unfold parts
    by_cases hc : c = 47
    · rw [if_pos hc, joi_cons _ _ (parts_ne r), ih, hc]; rfl
    · rw [if_neg hc]
      cases hp : parts r with
      | nil => exact absurd hp (parts_ne r)
      | cons x xs =>
        rw [hp] at ih
        cases xs with
        | nil => simp only [joi] at ih ⊢; rw [ih]
        | cons y ys => rw [joi_cons _ _ (by simp)] at ih ⊢; simp only [List.cons_append]; rw [ih]
theorem joi_lib : ∀ xs : List (List UInt8), Lib.join xs [47] = joi xs
  | [] => rfl
  | [x] => by rw [Lib.join_one]; rfl
  | x :: y :: r => by
    have ih := joi_lib (y :: r)
    rw [Lib.join_cons] at ih ⊢
    rw [joi_cons _ _ (by simp), ← ih]
    simp [Lib.joinTail]
theorem joi_snoc (xs : List (List UInt8)) (x : List UInt8) (h : xs ≠ []) : joi (xs ++ [x]) = joi xs ++ 47 :: x := joi_app xs [x] h (by simp)
theorem joi_le : ∀ (xs : List (List UInt8)) (m : Nat), (∀ x ∈ xs, x.length ≤ m) → (joi xs).length ≤ xs.length * (m + 1)
  | [], m, _ => by simp [joi]
  | [x], m, h => by have := h x (by simp); simp only [joi, List.length_cons, List.length_nil]; omega
  | x :: y :: r, m, h => by
    have ih := joi_le (y :: r) m (fun z hz => h z (by simp [hz]))
    have h1 := h x (by simp)
    rw [joi_cons _ _ (by simp), List.length_append, List.length_cons]
    have e : (x :: y :: r).length * (m + 1) = (y :: r).length * (m + 1) + (m + 1) := by rw [List.length_cons, Nat.succ_mul]
    omega
theorem spl_len (l : List UInt8) : (spl l).length ≤ l.length + 1 := by
  have h : ∀ l : List UInt8, (parts l).length ≤ l.length + 1 := by
    intro l
    induction l with
    | nil => simp [parts]
    | cons c r ih =>
      unfold parts
      split
      · simp only [List.length_cons]; omega
      · cases hp : parts r with
        | nil => exact absurd hp (parts_ne r)
        | cons x xs => rw [hp] at ih; simp only [List.length_cons] at *; omega
  unfold spl
  split
  · simp
  · exact h l
theorem spl_nil_iff (l : List UInt8) : spl l = [] ↔ l = [] := by
  unfold spl
  split
  · simp [*]
  · simp [*, parts_ne]
theorem joi_spl (l : List UInt8) : joi (spl l) = l := by
  unfold spl
  split
  · subst l; rfl
  · exact joi_parts l
theorem spl_inj {l m : List UInt8} (h : spl l = spl m) : l = m := by rw [← joi_spl l, ← joi_spl m, h]

/-- The library's Split is this one. -/
theorem splitK_parts : ∀ l : List UInt8, Lib.splitK [47] 0 (Lib.count l [47]) l = parts l
  | [] => by rw [Lib.count_miss (by simp [Lib.index])]; rfl
  | c :: r => by
    have ih := splitK_parts r
    by_cases hc : c = 47
    · subst hc
      have hix : Lib.index (47 :: r) [47] = ((0 : Nat) : Int) := by rw [Lib.index]; simp [List.isPrefixOf]
      rw [Lib.count_cons_eq, Nat.add_comm, Lib.splitK, hix, parts_slash, ← ih]
      simp
    · have hp : ([47] : List UInt8).isPrefixOf (c :: r) = false := by simp [List.isPrefixOf, Ne.symm hc]
      have hix : Lib.index (c :: r) [47] = if Lib.index r [47] == -1 then -1 else Lib.index r [47] + 1 := by rw [Lib.index, hp]; simp
      rw [Lib.count_cons_ne c 47 r hc]
      cases hk : Lib.count r [47] with
      | zero =>
        rw [hk] at ih
        exact (parts_other c r r [] hc ih.symm).symm
      | succ k =>
        rw [hk] at ih
        have hm : ¬ Lib.index r [47] = -1 := fun e => by rw [Lib.count_miss e] at hk; omega
        have hge := Lib.index_ge r [47]
        obtain ⟨j, hj⟩ : ∃ j : Nat, Lib.index r [47] = j := ⟨(Lib.index r [47]).toNat, by omega⟩
        have hj1 : Lib.index (c :: r) [47] = ((j + 1 : Nat) : Int) := by rw [hix, if_neg (fun e => hm (beq_iff_eq.1 e)), hj]; omega
        have n1 : ¬ (((j : Nat) : Int) == -1) = true := fun e => by have := beq_iff_eq.1 e; omega
        have n2 : ¬ (((j + 1 : Nat) : Int) == -1) = true := fun e => by have := beq_iff_eq.1 e; omega
        rw [Lib.splitK, hj, if_neg n1] at ih
        rw [Lib.splitK, hj1, if_neg n2]
        refine Eq.trans ?_ (parts_other c r _ _ hc ih.symm).symm
        simp [Int.toNat_natCast]

theorem bl_cons (a b : UInt8) (x y : List UInt8) : Op.bytesLess (a :: x) (b :: y) = if a = b then Op.bytesLess x y else decide (a < b) := by
  rw [Op.bytesLess]
  by_cases h : a = b
  · subst h; simp [UInt8.lt_irrefl]
  · simp [h]
theorem bl_irr : ∀ x : List UInt8, Op.bytesLess x x = false
  | [] => rfl
  | a :: x => by rw [bl_cons, if_pos rfl]; exact bl_irr x
theorem bl_tri : ∀ x y : List UInt8, x ≠ y → Op.bytesLess x y = !Op.bytesLess y x
  | [], [], h => absurd rfl h
  | [], _ :: _, _ => rfl
  | _ :: _, [], _ => rfl
  | a :: x, b :: y, h => by
    rw [bl_cons, bl_cons]
    by_cases hab : a = b
    · subst hab
      rw [if_pos rfl, if_pos rfl]
      exact bl_tri x y (fun e => h (by rw [e]))
    · rw [if_neg hab, if_neg (Ne.symm hab)]
      by_cases hlt : a < b
      · have : ¬ b < a := fun e => UInt8.lt_irrefl a (UInt8.lt_trans hlt e)
        simp [hlt, this]
      · have : b < a := UInt8.lt_of_le_of_ne (UInt8.not_lt.1 hlt) (Ne.symm hab)
        simp [hlt, this]
theorem bl_tra : ∀ x y z : List UInt8, Op.bytesLess x y = true → Op.bytesLess y z = true → Op.bytesLess x z = true
  | _, _, [], _, h => by cases ‹List UInt8› <;> simp [Op.bytesLess] at h
  | _, [], _ :: _, h, _ => by cases ‹List UInt8› <;> simp [Op.bytesLess] at h
  | [], _ :: _, _ :: _, _, _ => rfl
  | a :: x, b :: y, c :: z, h1, h2 => by
    rw [bl_cons] at h1 h2 ⊢
    by_cases hab : a = b
    · subst hab
      rw [if_pos rfl] at h1
      by_cases hac : a = c
      · rw [if_pos hac] at h2 ⊢; exact bl_tra x y z h1 h2
      · rw [if_neg hac] at h2 ⊢; exact h2
    · rw [if_neg hab] at h1
      have l1 : a < b := by simpa using h1
      by_cases hbc : b = c
      · subst hbc; rw [if_neg hab]; exact h1
      · rw [if_neg hbc] at h2
        have l2 : b < c := by simpa using h2
        have l3 := UInt8.lt_trans l1 l2
        have hac : ¬ a = c := fun e => by subst e; exact UInt8.lt_irrefl a l3
        rw [if_neg hac]; simpa using l3
/-- Of two lists: by the first texts that differ. -/
def ltL : List (List UInt8) → List (List UInt8) → Bool
  | _, [] => false
  | [], _ :: _ => true
  | x :: xs, y :: ys => if x = y then ltL xs ys else Op.bytesLess x y
theorem ltL_cons (x y : List UInt8) (xs ys : List (List UInt8)) : ltL (x :: xs) (y :: ys) = if x = y then ltL xs ys else Op.bytesLess x y := by rw [ltL]
theorem ltL_nil (xs : List (List UInt8)) : ltL xs [] = false := by cases xs <;> rfl
theorem ltL_irr : ∀ x : List (List UInt8), ltL x x = false
  | [] => rfl
  | a :: x => by rw [ltL_cons, if_pos rfl]; exact ltL_irr x
theorem ltL_tri : ∀ x y : List (List UInt8), x ≠ y → ltL x y = !ltL y x
  | [], [], h => absurd rfl h
  | [], _ :: _, _ => rfl
  | _ :: _, [], _ => rfl
  | a :: x, b :: y, h => by
    rw [ltL_cons, ltL_cons]
    by_cases hab : a = b
    · subst hab
      rw [if_pos rfl, if_pos rfl]
      exact ltL_tri x y (fun e => h (by rw [e]))
    · rw [if_neg hab, if_neg (Ne.symm hab)]
      exact bl_tri a b hab
theorem ltL_tra : ∀ x y z : List (List UInt8), ltL x y = true → ltL y z = true → ltL x z = true
  | _, _, [], _, h => by rw [ltL_nil] at h; cases h
  | _, [], _ :: _, h, _ => by rw [ltL_nil] at h; cases h
  | [], _ :: _, _ :: _, _, _ => rfl
  | a :: x, b :: y, c :: z, h1, h2 => by
    rw [ltL_cons] at h1 h2 ⊢
    by_cases hab : a = b
    · subst hab
      rw [if_pos rfl] at h1
      by_cases hac : a = c
      · rw [if_pos hac] at h2 ⊢; exact ltL_tra x y z h1 h2
      · rw [if_neg hac] at h2 ⊢; exact h2
    · rw [if_neg hab] at h1
      by_cases hbc : b = c
      · subst hbc; rw [if_neg hab]; exact h1
      · rw [if_neg hbc] at h2
        have l3 := bl_tra a b c h1 h2
        have hac : ¬ a = c := fun e => by subst e; rw [bl_irr] at l3; cases l3
        rw [if_neg hac]; exact l3
theorem ltL_app : ∀ (d e : List (List UInt8)), e ≠ [] → ltL d (d ++ e) = true
  | [], e, h => by cases e with
    | nil => exact absurd rfl h
    | cons y ys => rfl
  | x :: d, e, h => by
    show ltL (x :: d) (x :: (d ++ e)) = true
    rw [ltL_cons, if_pos rfl]; exact ltL_app d e h
theorem ltL_between : ∀ (d x e : List (List UInt8)), ltL d x = true → ltL x (d ++ e) = true → ∃ t, t ≠ [] ∧ x = d ++ t
  | [], x, _, h, _ => ⟨x, (fun h0 => by subst h0; cases h), rfl⟩
  | c :: d, [], _, h, _ => by rw [ltL_nil] at h; cases h
  | c :: d, y :: x, e, h1, h2 => by
    have h2' : ltL (y :: x) (c :: (d ++ e)) = true := h2
    rw [ltL_cons] at h1 h2'
    by_cases hcy : c = y
    · subst hcy
      rw [if_pos rfl] at h1 h2'
      obtain ⟨t, h3, rfl⟩ := ltL_between d x e h1 h2'
      exact ⟨t, h3, rfl⟩
    · rw [if_neg hcy] at h1
      rw [if_neg (Ne.symm hcy)] at h2'
      have := bl_tra _ _ _ h1 h2'
      rw [bl_irr] at this
      cases this
/-- slices.Compare of two lists of texts. -/
def cmpT (x y : List UInt8) : Int := if Op.bytesLess x y then -1 else if x = y then 0 else 1
def cmpL : List (List UInt8) → List (List UInt8) → Int
  | [], [] => 0
  | [], _ :: _ => -1
  | _ :: _, [] => 1
  | x :: xs, y :: ys => if x = y then cmpL xs ys else cmpT x y
theorem cmpL_lt : ∀ x y : List (List UInt8), decide (cmpL x y < 0) = ltL x y
  | [], [] => rfl
  | [], _ :: _ => rfl
  | _ :: _, [] => rfl
  | a :: x, b :: y => by
    rw [ltL_cons, cmpL]
    by_cases h : a = b
    · rw [if_pos h, if_pos h]; exact cmpL_lt x y
    · rw [if_neg h, if_neg h, cmpT]
      cases hb : Op.bytesLess a b
      · simp [h]
      · simp

/-- A byte that may stand in a name. -/
def okc (c : UInt8) : Bool := decide (33 ≤ (c.toNat : Int)) && decide ((c.toNat : Int) ≤ 126) && decide ((c.toNat : Int) ≠ 47)
def nameB (l : List UInt8) : Bool := decide (l ≠ []) && decide (l.length ≤ 32) && decide (l ≠ [46]) && decide (l ≠ [46, 46]) && l.all okc
def chk (l : List UInt8) : Int := if 128 < l.length then 5 else if spl l = [] then 6 else if (spl l).all nameB = false then 6 else if 8 < (spl l).length then 5 else 0
/-- The place of the last 47; below nought: there is none. -/
def lasl (l : List UInt8) : Int := Lib.lastIndexByte (mk l) 47
def par (l : List UInt8) : List UInt8 := if lasl l < 0 then [] else l.take (lasl l).toNat
def bas (l : List UInt8) : List UInt8 := l.drop (lasl l + 1).toNat
def und (p d : List UInt8) : Bool := if d = [] then decide (p ≠ []) else (d ++ [47]).isPrefixOf p
def les (a b : List UInt8) : Bool := ltL (spl a) (spl b)
def ownP : List UInt8 := [46, 115, 117, 109, 112, 116, 101, 114]
def res (p : List UInt8) : Bool := ownP.isPrefixOf p
def kep (p : List UInt8) : List UInt8 := if p = [] ∨ [126].isSuffixOf p = true ∨ chk (p ++ [126]) ≠ 0 then [] else p ++ [126]
theorem lasl_spec (l : List UInt8) : (lasl l = -1 ∧ (∀ c ∈ l, c ≠ 47)) ∨ ∃ a b, l = a ++ 47 :: b ∧ (∀ c ∈ b, c ≠ 47) ∧ lasl l = a.length := by
  have get : ∀ j, j < l.length → (mk l).data[j]! = l.getD j 0 := fun j hj => by
    have : l.toArray[j]! = l[j] := by simp [hj]
    simp [mk, List.getD, hj]
  have h := Lib.lastIdx_spec (mk l) 47 (mk l).size
  rw [mk_size] at h
  have e : lasl l = Lib.lastIdx (mk l) 47 l.length := by unfold lasl Lib.lastIndexByte; rw [mk_size]
  rw [← e] at h
  have tn : ∀ c : UInt8, ((c.toNat : Nat) : Int) = 47 ↔ c = 47 := fun c => by
    constructor
    · intro h
      have : c.toNat = 47 := by omega
      exact UInt8.toNat_inj.1 this
    · intro h
      subst h
      rfl
  rcases h with ⟨h1, h2⟩ | ⟨i, hi, h1, h2, h3⟩
  · refine .inl ⟨h1, fun c hc => ?_⟩
    obtain ⟨j, hj, rfl⟩ := List.getElem_of_mem hc
    have := h2 j hj
    rw [get j hj] at this
    intro e
    exact this ((tn _).2 (by simp [List.getD, hj, e]))
  · refine .inr ⟨l.take i, l.drop (i + 1), ?_, ?_, ?_⟩
    · have e1 : l[i] = 47 := by
        rw [get i hi] at h2
        have := (tn _).1 h2
        simpa [List.getD, hi] using this
      rw [← e1, ← List.drop_eq_getElem_cons hi, List.take_append_drop]
    · intro c hc
      obtain ⟨j, hj, rfl⟩ := List.getElem_of_mem hc
      have hj' : j < l.length - (i + 1) := by simpa using hj
      have := h3 (i + 1 + j) (by omega) (by omega)
      rw [get _ (by omega)] at this
      intro e
      refine this ((tn _).2 ?_)
      simp [List.getD, show i + 1 + j < l.length by omega]
      simpa using e
    · rw [h1, List.length_take]; omega
theorem par_bas (l : List UInt8) : (lasl l = -1 ∧ (∀ c ∈ l, c ≠ 47) ∧ par l = [] ∧ bas l = l) ∨ (lasl l = (par l).length ∧ l = par l ++ 47 :: bas l ∧ (∀ c ∈ bas l, c ≠ 47)) := by
  rcases lasl_spec l with ⟨h1, h2⟩ | ⟨a, b, h1, h2, h3⟩
  · exact .inl ⟨h1, h2, by unfold par; rw [h1]; rfl, by unfold bas; rw [h1]; rfl⟩
  · have e1 : par l = a := by
      unfold par
      rw [if_neg (by omega), h3, h1]
      simp
    have e2 : bas l = b := by
      unfold bas
      rw [h3, h1]
      have : ((a.length : Int) + 1).toNat = a.length + 1 := by omega
      rw [this]
      simp
    exact .inr ⟨by rw [e1]; exact h3, by rw [e1, e2]; exact h1, by rw [e2]; exact h2⟩
end Go.Proofs.YtajcabfeabbknaaGreatDoor
namespace Go.Proofs.YtajcabfeabbknaaGreatDoor
open Go.RowKit

theorem run_index_dl (s : ByteArray) (w : World) (i : Nat) (h : i < s.size) : (Instr.index 9 (.string s) (.int .i64 (i : Int))).run Tryz.prog w = .ok (.int .u8 (((dl s).getD i 0).toNat : Int)) w := by
  have e : s[i]? = some s[i] := by rw [getElem?_pos s i h]
  have e2 : (dl s).getD i 0 = s[i] := by
    have h' : i < s.data.toList.length := h
    simp only [dl, List.getD, List.getElem?_eq_getElem h', Option.getD_some]
    rfl
  rw [e2]
  simp [Instr.index, asIntOf, run_underlying Tryz.underlying9, e]
theorem tl_beq (s t : ByteArray) : (s.toList == t.toList) = decide (s = t) := by
  rw [tol, tol]
  by_cases h : s = t
  · simp [h]
  · have : ¬ dl s = dl t := fun e => h (dl_inj e)
    simp [h]
    simpa using this

set_option maxHeartbeats 1000000 in
theorem ofName_any (c : Int) (w : World) :
    Calls Tryz.prog 100 #[.int .u8 c] w fun e w' => e = .returned (.bool (decide (33 ≤ c) && decide (c ≤ 126) && decide (c ≠ 47))) ∧ w' = w := by
  by_cases h1 : 33 ≤ c
  · by_cases h2 : c ≤ 126
    · by_cases h3 : c = 47
      · subst h3
        go_enter Tryz.func100, Tryz.ntmps100
        go_wp2
        go_ret
        exact ⟨rfl, rfl⟩
      · have t3 : (c != 47) = true := by simp [h3]
        go_enter Tryz.func100, Tryz.ntmps100
        go_wp2
        go_ret
        exact ⟨by simp [h1, h2, h3], rfl⟩
    · go_enter Tryz.func100, Tryz.ntmps100
      go_wp2
      go_ret
      exact ⟨by simp; omega, rfl⟩
  · go_enter Tryz.func100, Tryz.ntmps100
    go_wp2
    go_ret
    exact ⟨by simp; omega, rfl⟩

theorem nameB_true (l : List UInt8) (h0 : l ≠ []) (h1 : l.length ≤ 32) (h2 : l ≠ [46]) (h3 : l ≠ [46, 46]) (h : ∀ i, i < l.length → okc (l.getD i 0) = true) : nameB l = true := by
  unfold nameB
  simp only [h0, h1, h2, h3, ne_eq, not_false_eq_true, decide_true, Bool.true_and, List.all_eq_true]
  intro c hc
  obtain ⟨i, hi, rfl⟩ := List.getElem_of_mem hc
  have := h i hi
  simpa [List.getD, hi] using this
theorem nameB_false (l : List UInt8) (h : l = [] ∨ 32 < l.length ∨ l = [46] ∨ l = [46, 46] ∨ ∃ i, i < l.length ∧ okc (l.getD i 0) = false) : nameB l = false := by
  rcases h with rfl | h | rfl | rfl | ⟨i, hi, h⟩
  · rfl
  · unfold nameB; have : ¬ l.length ≤ 32 := by omega
    simp [this]
  · rfl
  · rfl
  · cases hn : nameB l with
    | false => rfl
    | true =>
      unfold nameB at hn
      simp only [Bool.and_eq_true, List.all_eq_true] at hn
      have := hn.2 l[i] (List.getElem_mem hi)
      simp [List.getD, hi] at h
      rw [h] at this
      cases this

set_option maxHeartbeats 1000000 in
theorem name_any (s : ByteArray) (w : World) (hs : s.size ≤ maxLen) :
    Calls Tryz.prog 92 #[.string s] w fun e w' => e = .returned (.bool (nameB (dl s))) ∧ w' = w := by
  have HF : Hid (s.toList = [] ∨ 32 < s.size ∨ s.toList = [46] ∨ s.toList = [46, 46] ∨ (∃ i, i < s.size ∧ okc ((dl s).getD i 0) = false) → nameB (dl s) = false) := fun h => by
    rw [tol, ← dl_len] at h
    exact nameB_false _ h
  have HT : Hid (s.toList ≠ [] → s.size ≤ 32 → s.toList ≠ [46] → s.toList ≠ [46, 46] → (∀ i, i < s.size → okc ((dl s).getD i 0) = true) → nameB (dl s) = true) := fun h0 h1 h2 h3 h => by
    rw [tol] at h0 h2 h3
    exact nameB_true _ h0 h1 h2 h3 h
  have HIX : Hid (∀ (w : World) (i : Nat), i < s.size → (Instr.index 9 (.string s) (.int .i64 (i : Int))).run Tryz.prog w = .ok (.int .u8 (((dl s).getD i 0).toNat : Int)) w) := fun w i hi => run_index_dl s w i hi
  obtain ⟨l, hl⟩ : ∃ l, l = dl s := ⟨_, rfl⟩
  rw [← hl] at HF HT HIX ⊢
  clear hl
  generalize nameB l = r at *
  by_cases h0 : s.toList = []
  · have hr : Hid (r = false) := HF.out (.inl h0)
    clear HF HT
    go_enter Tryz.func92, Tryz.ntmps92
    go_wp2
    go_ret
    exact ⟨by rw [hr.out]; rfl, rfl⟩
  by_cases h1 : 32 < s.size
  · have hr : Hid (r = false) := HF.out (.inr (.inl h1))
    have h1' : 32 < (s.size : Int) := by omega
    clear HF HT
    go_enter Tryz.func92, Tryz.ntmps92
    go_wp2
    go_ret
    exact ⟨by rw [hr.out]; rfl, rfl⟩
  have h1' : ¬ 32 < (s.size : Int) := by omega
  by_cases h2 : s.toList = [46]
  · have hr : Hid (r = false) := HF.out (.inr (.inr (.inl h2)))
    clear HF HT
    go_enter Tryz.func92, Tryz.ntmps92
    go_wp2
    go_ret
    exact ⟨by rw [hr.out]; rfl, rfl⟩
  by_cases h3 : s.toList = [46, 46]
  · have hr : Hid (r = false) := HF.out (.inr (.inr (.inr (.inl h3))))
    clear HF HT
    go_enter Tryz.func92, Tryz.ntmps92
    go_wp2
    go_ret
    exact ⟨by rw [hr.out]; rfl, rfl⟩
  have HT' : Hid ((∀ i, i < s.size → okc (l.getD i 0) = true) → r = true) := HT.out h0 (by omega) h2 h3
  have HF' : Hid (∀ i, i < s.size → okc (l.getD i 0) = false → r = false) := fun i hi h => HF.out (.inr (.inr (.inr (.inr ⟨i, hi, h⟩))))
  have t0 : s.toList.isEmpty = false := by simp [h0]
  have t2 : (s.toList == [46]) = false := by simp [h2]
  have t3 : (s.toList == [46, 46]) = false := by simp [h3]
  clear HF HT h0 h2 h3
  go_enter Tryz.func92, Tryz.ntmps92
  go_wp2
  go_loop [21] (fun q => ∃ j : Nat, j ≤ s.size ∧ q = .int .i64 j ∧ ∀ k, k < j → okc (l.getD k 0) = true) (fun q => s.size - (intOf q).toNat)
  case atStart => exact ⟨0, by omega, rfl, fun k hk => by omega⟩
  case round =>
    obtain ⟨j, hj, rfl, ok⟩ := hrel
    have OK : Hid (∀ k, k < j → okc (l.getD k 0) = true) := ok
    clear ok
    by_cases hlt : j < s.size
    · have lt2 : (j : Int) < (s.size : Int) := by omega
      have ix := HIX.out w j hlt
      have c := ofName_any ((l.getD j 0).toNat : Int) w
      have HF2 := HF'.out j hlt
      have NK : Hid (okc (l.getD j 0) = true → ∀ k, k < j + 1 → okc (l.getD k 0) = true) := fun h k hk => by
        rcases Nat.lt_or_ge k j with h' | h'
        · exact OK.out k h'
        · rw [show k = j by omega]; exact h
      have HE : Hid (okc (l.getD j 0) = (decide (33 ≤ ((l.getD j 0).toNat : Int)) && decide (((l.getD j 0).toNat : Int) ≤ 126) && decide (((l.getD j 0).toNat : Int) ≠ 47))) := rfl
      rw [← HE.out] at c
      have q1 : IntKind.i64.wrap ((j : Int) + 1) = ((j + 1 : Nat) : Int) := by simp [IntKind.wrap, IntKind.bits, IntKind.signed]; unfold maxLen at hs; omega
      generalize hx : ((l.getD j 0).toNat : Int) = x at *
      clear HE hx
      cases hb : okc (l.getD j 0) with
      | true =>
        have NK2 : Hid (∀ k, k < j + 1 → okc (l.getD k 0) = true) := NK.out hb
        rw [hb] at c
        clear NK hb HF2 OK
        go_wp2_with (go_at_call 100; refine c.mono ?_; rintro e w' ⟨rfl, rfl⟩)
        exact ⟨⟨j + 1, by omega, by go_num, NK2.out⟩, by simp [intOf]; omega⟩
      | false =>
        have hr : Hid (r = false) := HF2 hb
        rw [hb] at c
        clear NK hb HF2 OK
        go_wp2_with (go_at_call 100; refine c.mono ?_; rintro e w' ⟨rfl, rfl⟩)
        go_ret
        exact ⟨by rw [hr.out]; rfl, rfl⟩
    · obtain rfl : j = s.size := by omega
      have hr : Hid (r = true) := HT'.out OK.out
      clear HT' HF' OK
      go_wp2
      go_ret
      exact ⟨by rw [hr.out]; rfl, rfl⟩
set_option maxHeartbeats 1000000 in
theorem reserved_any (s : ByteArray) (w : World) :
    Calls Tryz.prog 74 #[.string s] w fun e w' => e = .returned (.bool (res (dl s))) ∧ w' = w := by
  have c := Tryz.strings_HasPrefix s ⟨#[46, 115, 117, 109, 112, 116, 101, 114]⟩ w
  have HE : Hid (Lib.hasPrefix s.data.toList (⟨#[46, 115, 117, 109, 112, 116, 101, 114]⟩ : ByteArray).data.toList = res (dl s)) := rfl
  rw [HE.out] at c
  clear HE
  generalize res (dl s) = r at *
  go_enter Tryz.func74, Tryz.ntmps74
  go_wp2_with (go_at_call 93; refine c.mono ?_; rintro e w' ⟨rfl, rfl⟩)
  go_ret
  exact ⟨rfl, rfl⟩
end Go.Proofs.YtajcabfeabbknaaGreatDoor
namespace Go.Proofs.YtajcabfeabbknaaGreatDoor
open Go.RowKit

/-- The library's variable holds some number. -/
def Mx (w : World) : Prop := ∃ m, w.cell? ⟨0, 0, none⟩ = some (.int .i64 m)
theorem Mx.kept {w w' : World} (h : Mx w) (hb : Below w.heap.size w w') : Mx w' := by
  obtain ⟨m, h⟩ := h
  exact ⟨m, (hb.cell (World.block_lt_of_cell? _ _ h)).trans h⟩
/-- A value that is a slice of the texts xs. -/
def SS (w : World) (v : Value) (xs : List ByteArray) : Prop :=
  ∃ a c, v = .slice a xs.length c ∧ xs.length ≤ c ∧ (xs = [] ∨ ∃ b off, a = some ⟨b, off, none⟩ ∧ ∀ (i : Nat) x, xs[i]? = some x → w.cell? ⟨b, off + i, none⟩ = some (.string x))
theorem SS.kept {w w' : World} {v : Value} {xs : List ByteArray} (h : SS w v xs) (hb : Below w.heap.size w w') : SS w' v xs := by
  obtain ⟨a, c, h1, h2, h3⟩ := h
  refine ⟨a, c, h1, h2, ?_⟩
  rcases h3 with h3 | ⟨b, off, h4, h5⟩
  · exact .inl h3
  · exact .inr ⟨b, off, h4, fun i x hx => (hb.cell (World.block_lt_of_cell? _ _ (h5 i x hx))).trans (h5 i x hx)⟩
theorem SS.nil (w : World) : SS w (.slice .none 0 0) [] := ⟨.none, 0, rfl, Nat.le_refl _, .inl rfl⟩
/-- A path's texts. -/
def sps (s : ByteArray) : List ByteArray := (spl (dl s)).map mk
theorem sps_dl (s : ByteArray) : (sps s).map dl = spl (dl s) := by
  unfold sps
  rw [List.map_map]
  have : (dl ∘ mk) = id := by funext l; exact dl_mk l
  rw [this, List.map_id]
theorem sps_len (s : ByteArray) : (sps s).length = (spl (dl s)).length := by unfold sps; simp
theorem split_eq (s : ByteArray) : Lib.splitB ⟨#[47]⟩ 0 (Lib.countB s ⟨#[47]⟩) s = (parts (dl s)).map mk := by
  have h := Lib.splitB_data ⟨#[47]⟩ 0 (Lib.countB s ⟨#[47]⟩) s
  have e : Lib.splitK (⟨#[47]⟩ : ByteArray).data.toList 0 (Lib.countB s ⟨#[47]⟩) s.data.toList = parts (dl s) := splitK_parts (dl s)
  rw [e] at h
  rw [← h, List.map_map]
  have : (mk ∘ fun x : ByteArray => x.data.toList) = id := by funext x; exact mk_dl x
  rw [this, List.map_id]
theorem count_len (s : ByteArray) : Lib.countB s ⟨#[47]⟩ + 1 = ((parts (dl s)).map mk).length := by
  rw [← split_eq, Lib.splitB_all ⟨#[47]⟩ (by decide) 0 _ s rfl]

set_option maxHeartbeats 1000000 in
theorem split_any (s : ByteArray) (w : World) (hm : Mx w) (hs : s.size < 4294967281) :
    Calls Tryz.prog 91 #[.string s] w fun e w' => ∃ v, e = .returned v ∧ SS w' v (sps s) ∧ Below w.heap.size w w' := by
  by_cases h0 : s.toList = []
  · have e : Hid (sps s = []) := by
      unfold Hid sps
      rw [tol] at h0
      rw [h0]
      rfl
    generalize sps s = xs at *
    go_enter Tryz.func91, Tryz.ntmps91
    go_wp2
    go_ret
    refine ⟨_, rfl, ?_, Below.refl _ _⟩
    rw [e.out]
    exact SS.nil w
  · obtain ⟨m, hm⟩ := hm
    have c := Tryz.strings_Split s ⟨#[47]⟩ m w hs hm (by decide)
    have e : Hid (sps s = (parts (dl s)).map mk) := by
      unfold Hid sps spl
      rw [if_neg (by rw [← tol]; exact h0)]
    rw [split_eq, count_len, ← e.out] at c
    clear e
    generalize sps s = xs at *
    have t0 : s.toList.isEmpty = false := by simp [h0]
    have HS : Hid (SS (w.alloc (.cells ((xs.map Value.string).toArray) 9)) (.slice (some ⟨w.heap.size, 0, none⟩) xs.length xs.length) xs) := by
      refine ⟨_, _, rfl, Nat.le_refl _, .inr ⟨_, _, rfl, fun i x hx => ?_⟩⟩
      rw [World.cell?_alloc_new]
      simp [hx]
    have HB : Hid (Below w.heap.size w (w.alloc (.cells ((xs.map Value.string).toArray) 9))) := (Below.refl _ _).alloc (Nat.le_refl _) _
    obtain ⟨n, hn⟩ : ∃ n, n = xs.length := ⟨_, rfl⟩
    rw [← hn] at c HS
    clear h0 hn
    generalize hW : w.alloc (.cells ((xs.map Value.string).toArray) 9) = W at *
    clear hW
    go_enter Tryz.func91, Tryz.ntmps91
    go_wp2_with (go_at_call 99; refine c.mono ?_; rintro e w' ⟨rfl, rfl⟩)
    go_ret
    exact ⟨_, rfl, HS.out, HB.out⟩
set_option maxHeartbeats 1000000 in
theorem last_any (s : ByteArray) (w : World) (hs : s.size < 4611686018427387904) :
    Calls Tryz.prog 80 #[.string s] w fun e w' => e = .returned (.int .i64 (lasl (dl s))) ∧ w' = w := by
  have c := Tryz.strings_LastIndex_one s ⟨#[47]⟩ rfl hs w
  have e : Hid (Lib.lastIndexByte s (((⟨#[47]⟩ : ByteArray)[0]'(by decide)).toNat : Int) = lasl (dl s)) := by
    unfold Hid lasl
    rw [mk_dl]
    rfl
  rw [e.out] at c
  clear e
  generalize lasl (dl s) = r at *
  go_enter Tryz.func80, Tryz.ntmps80
  go_wp2_with (go_at_call 97; refine c.mono ?_; rintro e w' ⟨rfl, rfl⟩)
  go_ret
  exact ⟨rfl, rfl⟩
theorem lasl_lt (l : List UInt8) : -1 ≤ lasl l ∧ lasl l < l.length := by
  rcases lasl_spec l with ⟨h, _⟩ | ⟨a, b, h1, _, h3⟩
  · omega
  · rw [h3, h1]; simp; omega
theorem par_neg (l : List UInt8) (h : lasl l < 0) : par l = [] := by unfold par; rw [if_pos h]
theorem par_at (s : ByteArray) (i : Nat) (h : lasl (dl s) = i) : s.extract 0 i = mk (par (dl s)) := by
  apply dl_inj
  rw [dl_mk]
  unfold par
  rw [if_neg (by omega), h]
  show (s.extract 0 i).data.toList = _
  rw [Lib.extract_data]
  simp
set_option maxHeartbeats 1000000 in
theorem parent_any (s : ByteArray) (w : World) (hs : s.size < 4611686018427387904) :
    Calls Tryz.prog 57 #[.string s] w fun e w' => e = .returned (.string (mk (par (dl s)))) ∧ w' = w := by
  have c := last_any s w hs
  have hr := lasl_lt (dl s)
  rw [dl_len] at hr
  by_cases h0 : lasl (dl s) < 0
  · have e : Hid (mk (par (dl s)) = ⟨#[]⟩) := by unfold Hid; rw [par_neg _ h0]; rfl
    generalize mk (par (dl s)) = r at *
    generalize lasl (dl s) = k at *
    go_enter Tryz.func57, Tryz.ntmps57
    go_wp2_with (go_at_call 80; refine c.mono ?_; rintro e w' ⟨rfl, rfl⟩)
    go_ret
    exact ⟨by rw [e.out]; rfl, rfl⟩
  · obtain ⟨i, hi⟩ : ∃ i : Nat, lasl (dl s) = i := ⟨(lasl (dl s)).toNat, by omega⟩
    have e : Hid (s.extract 0 i = mk (par (dl s))) := par_at s i hi
    rw [hi] at c hr
    have hlt : i < s.size := by omega
    generalize mk (par (dl s)) = r at *
    clear h0 hi hr
    go_enter Tryz.func57, Tryz.ntmps57
    go_wp2_with (go_at_call 80; refine c.mono ?_; rintro e w' ⟨rfl, rfl⟩)
    go_ret
    exact ⟨by rw [← e.out]; rfl, rfl⟩
end Go.Proofs.YtajcabfeabbknaaGreatDoor
namespace Go.Proofs.YtajcabfeabbknaaGreatDoor
open Go.RowKit

theorem SS.at {w : World} {a : Option Addr} {n c : Nat} {xs : List ByteArray} (h : SS w (.slice a n c) xs) (j : Nat) (hj : j < xs.length) :
    ∃ b off, a = some ⟨b, off, none⟩ ∧ w.cell? ⟨b, off + j, none⟩ = some (.string (xs.getD j ⟨#[]⟩)) := by
  obtain ⟨a', c', h1, h2, h3⟩ := h
  cases h1
  rcases h3 with h3 | ⟨b, off, h4, h5⟩
  · subst h3; simp at hj
  · exact ⟨b, off, h4, h5 j _ (by simp [List.getD, hj])⟩
theorem SS.shape {w : World} {v : Value} {xs : List ByteArray} (h : SS w v xs) : ∃ a c, v = .slice a xs.length c ∧ xs.length ≤ c := by
  obtain ⟨a, c, h1, h2, _⟩ := h
  exact ⟨a, c, h1, h2⟩
theorem sps_get (s : ByteArray) (j : Nat) : dl ((sps s).getD j ⟨#[]⟩) = (spl (dl s)).getD j [] := by
  unfold sps
  by_cases h : j < (spl (dl s)).length
  · simp only [List.getD, List.getElem?_map, List.getElem?_eq_getElem h, Option.map_some, Option.getD_some]
    exact dl_mk _
  · have h1 : (spl (dl s))[j]? = none := List.getElem?_eq_none (by omega)
    simp [List.getD, h1]
theorem parts_size (l : List UInt8) : ∀ x ∈ parts l, x.length ≤ l.length := by
  induction l with
  | nil => intro x hx; simp [parts] at hx; simp [hx]
  | cons c r ih =>
    intro x hx
    by_cases hc : c = 47
    · subst hc
      rw [parts_slash] at hx
      rcases List.mem_cons.1 hx with rfl | hx
      · simp
      · have := ih x hx; simp only [List.length_cons]; omega
    · cases hp : parts r with
      | nil => exact absurd hp (parts_ne r)
      | cons y ys =>
        rw [parts_other c r y ys hc hp] at hx
        rcases List.mem_cons.1 hx with rfl | hx
        · have := ih y (by rw [hp]; simp); simp only [List.length_cons]; omega
        · have := ih x (by rw [hp]; simp [hx]); simp only [List.length_cons]; omega
theorem spl_size (l : List UInt8) : ∀ x ∈ spl l, x.length ≤ l.length := by
  unfold spl
  split
  · intro x hx; cases hx
  · exact parts_size l
theorem sps_size (s : ByteArray) (j : Nat) : ((sps s).getD j ⟨#[]⟩).size ≤ s.size := by
  rw [← dl_len, ← dl_len, sps_get]
  by_cases h : j < (spl (dl s)).length
  · have := spl_size (dl s) _ (List.getElem_mem h)
    simpa [List.getD, h] using this
  · simp [List.getD, List.getElem?_eq_none (show (spl (dl s)).length ≤ j by omega)]
theorem chk_long (l : List UInt8) (h : 128 < l.length) : chk l = 5 := by unfold chk; rw [if_pos h]
theorem chk_nil : chk [] = 6 := rfl
theorem chk_bad (l : List UInt8) (h : ¬ 128 < l.length) (j : Nat) (hj : j < (spl l).length) (hn : nameB ((spl l).getD j []) = false) : chk l = 6 := by
  unfold chk
  rw [if_neg h]
  split
  · rfl
  · rw [if_pos]
    cases ha : (spl l).all nameB with
    | false => rfl
    | true =>
      rw [List.all_eq_true] at ha
      have := ha _ (List.getElem_mem hj)
      simp [List.getD, hj] at hn
      rw [hn] at this
      cases this
theorem all_names (L : List (List UInt8)) (h : ∀ j, j < L.length → nameB (L.getD j []) = true) : L.all nameB = true := by
  rw [List.all_eq_true]
  intro x hx
  obtain ⟨j, hj, rfl⟩ := List.getElem_of_mem hx
  have := h j hj
  simpa [List.getD, hj] using this
theorem chk_good (l : List UInt8) (h : ¬ 128 < l.length) (h0 : (spl l).length ≠ 0) (hn : ∀ j, j < (spl l).length → nameB ((spl l).getD j []) = true) : chk l = if 8 < (spl l).length then 5 else 0 := by
  unfold chk
  rw [if_neg h, if_neg (fun e => h0 (by rw [e]; rfl)), all_names _ hn, if_neg (by simp)]

set_option maxHeartbeats 1000000 in
theorem check_any (s : ByteArray) (w : World) (hm : Mx w) (hs : s.size ≤ maxLen) :
    Calls Tryz.prog 73 #[.string s] w fun e w' => e = .returned (.int .i64 (chk (dl s))) ∧ Below w.heap.size w w' := by
  by_cases h1 : 128 < s.size
  · have hr : Hid (chk (dl s) = 5) := chk_long _ h1
    have h1' : 128 < (s.size : Int) := by omega
    generalize chk (dl s) = r at *
    go_enter Tryz.func73, Tryz.ntmps73
    go_wp2
    go_ret
    exact ⟨by rw [hr.out]; rfl, Below.refl _ _⟩
  have h1' : ¬ 128 < (s.size : Int) := by omega
  have c := split_any s w hm (by omega)
  have HL : Hid ((sps s).length = (spl (dl s)).length) := sps_len s
  have HN : Hid (∀ (w : World) (j : Nat), Calls Tryz.prog 92 #[.string ((sps s).getD j ⟨#[]⟩)] w fun e w' => e = .returned (.bool (nameB ((spl (dl s)).getD j []))) ∧ w' = w) := fun w j => by
    have := name_any ((sps s).getD j ⟨#[]⟩) w (by have := sps_size s j; omega)
    rwa [sps_get] at this
  have HBAD : Hid (∀ j, j < (spl (dl s)).length → nameB ((spl (dl s)).getD j []) = false → chk (dl s) = 6) := fun j hj hn => chk_bad _ (by rw [dl_len]; omega) j hj hn
  have HGOOD : Hid ((spl (dl s)).length ≠ 0 → (∀ j, j < (spl (dl s)).length → nameB ((spl (dl s)).getD j []) = true) → chk (dl s) = if 8 < (spl (dl s)).length then 5 else 0) := chk_good _ (by rw [dl_len]; omega)
  have HNIL : Hid ((spl (dl s)).length = 0 → chk (dl s) = 6) := fun h => by
    have h2 := (spl_nil_iff (dl s)).1 (List.length_eq_zero_iff.1 h)
    rw [h2]
    rfl
  have hlen := spl_len (dl s)
  rw [dl_len] at hlen
  generalize chk (dl s) = r at *
  generalize sps s = xs at *
  obtain ⟨NB, hNB⟩ : ∃ NB : Nat → Bool, NB = fun j => nameB ((spl (dl s)).getD j []) := ⟨_, rfl⟩
  have HN : Hid (∀ (w : World) (j : Nat), Calls Tryz.prog 92 #[.string (xs.getD j ⟨#[]⟩)] w fun e w' => e = .returned (.bool (NB j)) ∧ w' = w) := by rw [hNB]; exact HN.out
  have HBAD : Hid (∀ j, j < (spl (dl s)).length → NB j = false → r = 6) := by rw [hNB]; exact HBAD.out
  have HGOOD : Hid ((spl (dl s)).length ≠ 0 → (∀ j, j < (spl (dl s)).length → NB j = true) → r = if 8 < (spl (dl s)).length then 5 else 0) := by rw [hNB]; exact HGOOD.out
  clear hNB
  generalize (spl (dl s)).length = n at *
  go_enter Tryz.func73, Tryz.ntmps73
  go_wp2_with fail
  refine c.mono ?_
  rintro e w1 ⟨v, rfl, ss, b1⟩
  clear c
  have HS : Hid (SS w1 v xs) := ss
  have HB : Hid (Below w.heap.size w w1) := b1
  obtain ⟨a, cp, rfl, hcp⟩ := ss.shape
  rw [HL.out] at HS hcp ⊢
  clear ss b1 hm
  by_cases h0 : n = 0
  · have hr : Hid (r = 6) := HNIL.out h0
    subst h0
    clear HNIL HBAD HGOOD
    go_wp2
    go_ret
    exact ⟨by rw [hr.out]; rfl, HB.out⟩
  have h0' : ((n : Int) == 0) = false := by simp; omega
  have HGOOD2 : Hid ((∀ j, j < n → NB j = true) → r = if 8 < n then 5 else 0) := HGOOD.out h0
  clear HGOOD HNIL
  go_wp2_with fail
  go_loop [16] (fun q => ∃ j : Nat, j ≤ n ∧ q = .int .i64 j ∧ ∀ k, k < j → NB k = true) (fun q => n - (intOf q).toNat)
  case atStart => exact ⟨0, by omega, rfl, fun k hk => by omega⟩
  case round =>
    obtain ⟨j, hj, rfl, ok⟩ := hrel
    have OK : Hid (∀ k, k < j → NB k = true) := ok
    clear ok
    by_cases hlt : j < n
    · have lt2 : (j : Int) < (n : Int) := by omega
      obtain ⟨b, off, rfl, hc⟩ := HS.out.at j (by rw [HL.out]; exact hlt)
      have c := HN.out w1 j
      have NK : Hid (NB j = true → ∀ k, k < j + 1 → NB k = true) := fun h k hk => by
        rcases Nat.lt_or_ge k j with h' | h'
        · exact OK.out k h'
        · rw [show k = j by omega]; exact h
      have HF2 : Hid (NB j = false → r = 6) := HBAD.out j hlt
      have q1 : IntKind.i64.wrap ((j : Int) + 1) = ((j + 1 : Nat) : Int) := by simp [IntKind.wrap, IntKind.bits, IntKind.signed]; omega
      generalize xs.getD j ⟨#[]⟩ = x at *
      cases hb : NB j with
      | true =>
        have NK2 : Hid (∀ k, k < j + 1 → NB k = true) := NK.out hb
        rw [hb] at c
        clear NK hb HF2 OK
        go_wp2_with (go_at_call 92; refine c.mono ?_; rintro e w' ⟨rfl, rfl⟩)
        exact ⟨⟨j + 1, by omega, by go_num, NK2.out⟩, by simp [intOf]; omega⟩
      | false =>
        have hr : Hid (r = 6) := HF2.out hb
        rw [hb] at c
        clear NK hb HF2 OK
        go_wp2_with (go_at_call 92; refine c.mono ?_; rintro e w' ⟨rfl, rfl⟩)
        go_ret
        exact ⟨by rw [hr.out]; rfl, HB.out⟩
    · obtain rfl : j = n := by omega
      have hr : Hid (r = if 8 < j then 5 else 0) := HGOOD2.out OK.out
      clear HGOOD2 HBAD OK
      by_cases h8 : 8 < j
      · have hr2 : Hid (r = 5) := by unfold Hid; rw [hr.out, if_pos h8]
        have h8' : 8 < (j : Int) := by omega
        clear hr
        go_wp2
        go_ret
        exact ⟨by rw [hr2.out]; rfl, HB.out⟩
      · have hr2 : Hid (r = 0) := by unfold Hid; rw [hr.out, if_neg h8]
        have h8' : ¬ 8 < (j : Int) := by omega
        clear hr
        go_wp2
        go_ret
        exact ⟨by rw [hr2.out]; rfl, HB.out⟩
end Go.Proofs.YtajcabfeabbknaaGreatDoor
namespace Go.Proofs.YtajcabfeabbknaaGreatDoor
open Go.RowKit

theorem app126 (s : ByteArray) : s ++ ⟨#[126]⟩ = mk (dl s ++ [126]) := by
  conv => lhs; rw [← mk_dl s]
  exact mk_append _ _
theorem kep_nil : kep [] = [] := rfl
set_option maxHeartbeats 1000000 in
theorem kept_any (s : ByteArray) (w : World) (hm : Mx w) (hs : s.size < 4611686018427387904) :
    Calls Tryz.prog 56 #[.string s] w fun e w' => e = .returned (.string (mk (kep (dl s)))) ∧ Below w.heap.size w w' := by
  have hsz : (s ++ ⟨#[126]⟩ : ByteArray).size = s.size + 1 := by rw [ByteArray.size_append]; rfl
  by_cases h0 : s.toList = []
  · have hr : Hid (mk (kep (dl s)) = ⟨#[]⟩) := by
      unfold Hid
      rw [← tol, h0]
      rfl
    generalize mk (kep (dl s)) = r at *
    go_enter Tryz.func56, Tryz.ntmps56
    go_wp2
    go_ret
    exact ⟨by rw [hr.out]; rfl, Below.refl _ _⟩
  have t0 : s.toList.isEmpty = false := by simp [h0]
  have n0 : dl s ≠ [] := by rw [← tol]; exact h0
  have c := Tryz.strings_HasSuffix s ⟨#[126]⟩ w (by omega)
  have e : Hid (Lib.hasSuffix s.data.toList (⟨#[126]⟩ : ByteArray).data.toList = [126].isSuffixOf (dl s)) := rfl
  rw [e.out] at c
  clear e
  cases hsf : [126].isSuffixOf (dl s) with
  | true =>
    rw [hsf] at c
    have hr : Hid (mk (kep (dl s)) = ⟨#[]⟩) := by
      unfold Hid kep
      rw [if_pos (.inr (.inl hsf))]
      rfl
    generalize mk (kep (dl s)) = r at *
    clear h0 hsf n0
    go_enter Tryz.func56, Tryz.ntmps56
    go_wp2_with (go_at_call 79; refine c.mono ?_; rintro e w' ⟨rfl, rfl⟩)
    go_ret
    exact ⟨by rw [hr.out]; rfl, Below.refl _ _⟩
  | false =>
    rw [hsf] at c
    have c2 := check_any (s ++ ⟨#[126]⟩) w hm (by rw [hsz]; unfold maxLen; omega)
    rw [app126, dl_mk, ← app126] at c2
    by_cases hk : chk (dl s ++ [126]) = 0
    · have hr : Hid (mk (kep (dl s)) = s ++ ⟨#[126]⟩) := by
        unfold Hid kep
        rw [if_neg, app126]
        rintro (h | h | h)
        · exact n0 h
        · rw [hsf] at h; cases h
        · exact h hk
      rw [hk] at c2
      generalize mk (kep (dl s)) = r at *
      generalize hS : s ++ ⟨#[126]⟩ = S at *
      clear h0 hsf n0 hk
      go_enter Tryz.func56, Tryz.ntmps56
      go_wp2_with (first
        | (go_at_call 79; refine c.mono ?_; rintro e w' ⟨rfl, rfl⟩)
        | (go_at_call 73; refine c2.mono ?_; rintro e w' ⟨rfl, b2⟩))
      go_ret
      exact ⟨by rw [hr.out]; rfl, b2⟩
    · have hr : Hid (mk (kep (dl s)) = ⟨#[]⟩) := by
        unfold Hid kep
        rw [if_pos (.inr (.inr hk))]
        rfl
      have t4 : (chk (dl s ++ [126]) == 0) = false := by simp [hk]
      generalize mk (kep (dl s)) = r at *
      generalize chk (dl s ++ [126]) = k at *
      generalize hS : s ++ ⟨#[126]⟩ = S at *
      clear h0 hsf n0
      go_enter Tryz.func56, Tryz.ntmps56
      go_wp2_with (first
        | (go_at_call 79; refine c.mono ?_; rintro e w' ⟨rfl, rfl⟩)
        | (go_at_call 73; refine c2.mono ?_; rintro e w' ⟨rfl, b2⟩))
      go_ret
      exact ⟨by rw [hr.out]; rfl, b2⟩

set_option maxHeartbeats 1000000 in
theorem nan_any (s : ByteArray) (w : World) :
    Calls Tryz.prog 107 #[.string s] w fun e w' => e = .returned (.bool false) ∧ w' = w := by
  go_enter Tryz.func107, Tryz.ntmps107
  go_wp2
  go_ret
  exact ⟨rfl, rfl⟩
set_option maxHeartbeats 1000000 in
theorem cmpT_any (s t : ByteArray) (w : World) :
    Calls Tryz.prog 102 #[.string s, .string t] w fun e w' => e = .returned (.int .i64 (cmpT (dl s) (dl t))) ∧ w' = w := by
  have c1 := nan_any s w
  have c2 := nan_any t w
  cases hb : Op.bytesLess s.toList t.toList with
  | true =>
    have hr : Hid (cmpT (dl s) (dl t) = -1) := by unfold Hid cmpT; rw [← tol, ← tol, hb]; rfl
    generalize cmpT (dl s) (dl t) = r at *
    go_enter Tryz.func102, Tryz.ntmps102
    go_wp2_with (first | (go_at_call_of 107 (Value.string s); refine c1.mono ?_; rintro e w' ⟨rfl, rfl⟩) | (go_at_call_of 107 (Value.string t); refine c2.mono ?_; rintro e w' ⟨rfl, rfl⟩))
    go_ret
    exact ⟨by rw [hr.out]; rfl, rfl⟩
  | false =>
    by_cases he : s = t
    · subst he
      have hr : Hid (cmpT (dl s) (dl s) = 0) := by unfold Hid cmpT; rw [bl_irr]; simp
      generalize cmpT (dl s) (dl s) = r at *
      go_enter Tryz.func102, Tryz.ntmps102
      go_wp2_with (go_at_call 107; refine c1.mono ?_; rintro e w' ⟨rfl, rfl⟩)
      go_ret
      exact ⟨by rw [hr.out]; rfl, rfl⟩
    · have te : (s.toList == t.toList) = false := by rw [tl_beq]; simp [he]
      have hr : Hid (cmpT (dl s) (dl t) = 1) := by
        unfold Hid cmpT
        rw [← tol, ← tol, hb, if_neg (by simp), if_neg]
        rw [tol, tol]
        exact fun e => he (dl_inj e)
      generalize cmpT (dl s) (dl t) = r at *
      go_enter Tryz.func102, Tryz.ntmps102
      go_wp2_with (first | (go_at_call_of 107 (Value.string s); refine c1.mono ?_; rintro e w' ⟨rfl, rfl⟩) | (go_at_call_of 107 (Value.string t); refine c2.mono ?_; rintro e w' ⟨rfl, rfl⟩))
      go_ret
      exact ⟨by rw [hr.out]; rfl, rfl⟩
end Go.Proofs.YtajcabfeabbknaaGreatDoor
namespace Go.Proofs.YtajcabfeabbknaaGreatDoor
open Go.RowKit

theorem drop_at {α : Type} (X : List α) (d : α) (j : Nat) (h : j < X.length) : X.drop j = X.getD j d :: X.drop (j + 1) := by
  rw [List.drop_eq_getElem_cons h]
  simp [List.getD, h]
theorem cmpL_end (X Y : List (List UInt8)) : cmpL (X.drop X.length) (Y.drop X.length) = if X.length < Y.length then -1 else 0 := by
  rw [List.drop_length]
  by_cases h : X.length < Y.length
  · rw [if_pos h, drop_at Y [] _ h]
    rfl
  · rw [if_neg h, List.drop_of_length_le (by omega)]
    rfl
theorem cmpL_over (X Y : List (List UInt8)) (j : Nat) (h1 : j < X.length) (h2 : Y.length ≤ j) : cmpL (X.drop j) (Y.drop j) = 1 := by
  rw [drop_at X [] j h1, List.drop_of_length_le h2]
  rfl
theorem cmpL_step (X Y : List (List UInt8)) (j : Nat) (h1 : j < X.length) (h2 : j < Y.length) : cmpL (X.drop j) (Y.drop j) = if X.getD j [] = Y.getD j [] then cmpL (X.drop (j + 1)) (Y.drop (j + 1)) else cmpT (X.getD j []) (Y.getD j []) := by
  rw [drop_at X [] j h1, drop_at Y [] j h2, cmpL]
theorem cmpT_ne (x y : List UInt8) (h : x ≠ y) : cmpT x y ≠ 0 := by
  unfold cmpT
  split
  · decide
  · first | decide | (rw [if_neg h]; decide)
theorem cmpT_self (x : List UInt8) : cmpT x x = 0 := by unfold cmpT; rw [bl_irr]; simp
theorem dl_getD (xs : List ByteArray) (j : Nat) : (xs.map dl).getD j [] = dl (xs.getD j ⟨#[]⟩) := by
  by_cases h : j < xs.length
  · simp [List.getD, h]
  · simp [List.getD, List.getElem?_eq_none (show xs.length ≤ j by omega)]

set_option maxHeartbeats 1000000 in
theorem compare_any (v1 v2 : Value) (xs ys : List ByteArray) (w : World) (h1 : SS w v1 xs) (h2 : SS w v2 ys) (hl : xs.length ≤ 1000000000) :
    Calls Tryz.prog 94 #[v1, v2] w fun e w' => e = .returned (.int .i64 (cmpL (xs.map dl) (ys.map dl))) ∧ w' = w := by
  have HS1 : Hid (SS w v1 xs) := h1
  have HS2 : Hid (SS w v2 ys) := h2
  obtain ⟨a1, c1, rfl, k1⟩ := h1.shape
  obtain ⟨a2, c2, rfl, k2⟩ := h2.shape
  clear h1 h2
  have HEND : Hid (cmpL ((xs.map dl).drop xs.length) ((ys.map dl).drop xs.length) = if xs.length < ys.length then -1 else 0) := by
    have := cmpL_end (xs.map dl) (ys.map dl)
    unfold Hid
    simpa using this
  have HOVER : Hid (∀ j, j < xs.length → ys.length ≤ j → cmpL ((xs.map dl).drop j) ((ys.map dl).drop j) = 1) := fun j ha hb => cmpL_over _ _ j (by simpa using ha) (by simpa using hb)
  have HSTEP : Hid (∀ j, j < xs.length → j < ys.length → cmpL ((xs.map dl).drop j) ((ys.map dl).drop j) = if xs.getD j ⟨#[]⟩ = ys.getD j ⟨#[]⟩ then cmpL ((xs.map dl).drop (j + 1)) ((ys.map dl).drop (j + 1)) else cmpT (dl (xs.getD j ⟨#[]⟩)) (dl (ys.getD j ⟨#[]⟩))) := fun j ha hb => by
    have := cmpL_step (xs.map dl) (ys.map dl) j (by simpa using ha) (by simpa using hb)
    rw [dl_getD, dl_getD] at this
    rw [this]
    by_cases he : xs.getD j ⟨#[]⟩ = ys.getD j ⟨#[]⟩
    · rw [if_pos he, if_pos (by rw [he])]
    · rw [if_neg he, if_neg (fun e => he (dl_inj e))]
  have H0 : Hid (cmpL ((xs.map dl).drop 0) ((ys.map dl).drop 0) = cmpL (xs.map dl) (ys.map dl)) := rfl
  generalize cmpL (xs.map dl) (ys.map dl) = r at *
  obtain ⟨K, hK⟩ : ∃ K : Nat → Int, K = fun j => cmpL ((xs.map dl).drop j) ((ys.map dl).drop j) := ⟨_, rfl⟩
  have HEND : Hid (K xs.length = if xs.length < ys.length then -1 else 0) := by rw [hK]; exact HEND.out
  have HOVER : Hid (∀ j, j < xs.length → ys.length ≤ j → K j = 1) := by rw [hK]; exact HOVER.out
  have HSTEP : Hid (∀ j, j < xs.length → j < ys.length → K j = if xs.getD j ⟨#[]⟩ = ys.getD j ⟨#[]⟩ then K (j + 1) else cmpT (dl (xs.getD j ⟨#[]⟩)) (dl (ys.getD j ⟨#[]⟩))) := by rw [hK]; exact HSTEP.out
  have H0 : Hid (K 0 = r) := by rw [hK]; exact H0.out
  clear hK
  obtain ⟨n1, hn1⟩ : ∃ n, n = xs.length := ⟨_, rfl⟩
  obtain ⟨n2, hn2⟩ : ∃ n, n = ys.length := ⟨_, rfl⟩
  have HN1 : Hid (n1 = xs.length) := hn1
  have HN2 : Hid (n2 = ys.length) := hn2
  rw [← hn1] at HS1 HEND HOVER HSTEP k1 hl ⊢
  rw [← hn2] at HS2 HEND HOVER HSTEP k2 ⊢
  clear hn1 hn2
  go_enter Tryz.func94, Tryz.ntmps94
  go_wp2
  go_loop [11] (fun q => ∃ j : Nat, j ≤ n1 ∧ q = .int .i64 j ∧ K j = r) (fun q => n1 - (intOf q).toNat)
  case atStart => exact ⟨0, by omega, rfl, H0.out⟩
  case round =>
    obtain ⟨j, hj, rfl, ok⟩ := hrel
    have OK : Hid (K j = r) := ok
    clear ok
    by_cases hlt : j < n1
    · have lt2 : (j : Int) < (n1 : Int) := by omega
      obtain ⟨b1, o1, rfl, hc1⟩ := HS1.out.at j (by rw [← HN1.out]; exact hlt)
      have q1 : IntKind.i64.wrap ((j : Int) + 1) = ((j + 1 : Nat) : Int) := by simp [IntKind.wrap, IntKind.bits, IntKind.signed]; omega
      by_cases hlt2 : j < n2
      · have lt3 : ¬ (n2 : Int) ≤ (j : Int) := by omega
        have lt4 : (j : Int) < (n2 : Int) := by omega
        obtain ⟨b2, o2, rfl, hc2⟩ := HS2.out.at j (by rw [← HN2.out]; exact hlt2)
        have c := cmpT_any (xs.getD j ⟨#[]⟩) (ys.getD j ⟨#[]⟩) w
        have ST : Hid (K j = if xs.getD j ⟨#[]⟩ = ys.getD j ⟨#[]⟩ then K (j + 1) else cmpT (dl (xs.getD j ⟨#[]⟩)) (dl (ys.getD j ⟨#[]⟩))) := HSTEP.out j hlt hlt2
        clear HOVER HSTEP HEND
        generalize xs.getD j ⟨#[]⟩ = x at *
        generalize ys.getD j ⟨#[]⟩ = y at *
        by_cases he : x = y
        · subst he
          have NK : Hid (K (j + 1) = r) := by unfold Hid; rw [← OK.out, ST.out, if_pos rfl]
          rw [cmpT_self] at c
          clear ST OK
          go_wp2_with (go_at_call 102; refine c.mono ?_; rintro e w' ⟨rfl, rfl⟩)
          exact ⟨⟨j + 1, by omega, by go_num, NK.out⟩, by simp [intOf]; omega⟩
        · have hr : Hid (cmpT (dl x) (dl y) = r) := by unfold Hid; rw [← OK.out, ST.out, if_neg he]
          have t0 : (cmpT (dl x) (dl y) == 0) = false := by
            have := cmpT_ne (dl x) (dl y) (fun e => he (dl_inj e))
            simpa using this
          clear ST OK
          generalize cmpT (dl x) (dl y) = k at *
          go_wp2_with (go_at_call 102; refine c.mono ?_; rintro e w' ⟨rfl, rfl⟩)
          go_ret
          exact ⟨by rw [← hr.out]; rfl, rfl⟩
      · have lt3 : (n2 : Int) ≤ (j : Int) := by omega
        have hr : Hid (r = 1) := by unfold Hid; rw [← OK.out]; exact HOVER.out j hlt (by omega)
        clear HOVER HSTEP HEND OK
        generalize xs.getD j ⟨#[]⟩ = x at *
        go_wp2
        go_ret
        exact ⟨by rw [hr.out]; rfl, rfl⟩
    · obtain rfl : j = n1 := by omega
      have hr : Hid (r = if j < n2 then -1 else 0) := by unfold Hid; rw [← OK.out]; exact HEND.out
      clear HOVER HSTEP HEND OK
      by_cases h : j < n2
      · have hr2 : Hid (r = -1) := by unfold Hid; rw [hr.out, if_pos h]
        have h' : (j : Int) < (n2 : Int) := by omega
        clear hr
        go_wp2
        go_ret
        exact ⟨by rw [hr2.out]; rfl, rfl⟩
      · have hr2 : Hid (r = 0) := by unfold Hid; rw [hr.out, if_neg h]
        have h' : ¬ (j : Int) < (n2 : Int) := by omega
        clear hr
        go_wp2
        go_ret
        exact ⟨by rw [hr2.out]; rfl, rfl⟩

set_option maxHeartbeats 1000000 in
theorem less_any (s t : ByteArray) (w : World) (hm : Mx w) (hs : s.size ≤ 100000000) (ht : t.size ≤ 100000000) :
    Calls Tryz.prog 75 #[.string s, .string t] w fun e w' => e = .returned (.bool (les (dl s) (dl t))) ∧ Below w.heap.size w w' := by
  have c1 := split_any s w hm (by omega)
  have HT : Hid (∀ w, Mx w → Calls Tryz.prog 91 #[.string t] w fun e w' => ∃ v, e = .returned v ∧ SS w' v (sps t) ∧ Below w.heap.size w w') := fun w hm => split_any t w hm (by omega)
  have L1 : Hid ((sps s).length ≤ 1000000000) := by unfold Hid; have := spl_len (dl s); rw [sps_len]; rw [dl_len] at this; omega
  have hr : Hid (decide (cmpL ((sps s).map dl) ((sps t).map dl) < 0) = les (dl s) (dl t)) := by
    unfold Hid les
    rw [sps_dl, sps_dl, cmpL_lt]
  generalize les (dl s) (dl t) = r at *
  generalize sps s = xs at *
  generalize sps t = ys at *
  have HM : Hid (Mx w) := hm
  clear hm
  go_enter Tryz.func75, Tryz.ntmps75
  go_wp2_with fail
  refine c1.mono ?_
  rintro e w1 ⟨v1, rfl, s1, b1⟩
  clear c1
  have S1 : Hid (SS w1 v1 xs) := s1
  have B1 : Hid (Below w.heap.size w w1) := b1
  have c2 := HT.out w1 (HM.out.kept b1)
  obtain ⟨a1, k1, rfl, -⟩ := s1.shape
  clear s1 b1 HT
  obtain ⟨n1, hn1⟩ : ∃ n, n = xs.length := ⟨_, rfl⟩
  rw [← hn1] at S1 ⊢
  clear hn1
  go_wp2_with fail
  refine c2.mono ?_
  rintro e w2 ⟨v2, rfl, s2, b2⟩
  clear c2
  have B2 : Hid (Below w.heap.size w w2) := B1.out.trans (b2.mono B1.out.size)
  have c3 := compare_any _ v2 xs ys w2 (S1.out.kept b2) s2 L1.out
  obtain ⟨a2, k2, rfl, -⟩ := s2.shape
  clear s2 b2
  generalize cmpL (xs.map dl) (ys.map dl) = k at *
  obtain ⟨n2, hn2⟩ : ∃ n, n = ys.length := ⟨_, rfl⟩
  rw [← hn2] at c3 ⊢
  clear hn2
  go_wp2_with fail
  refine c3.mono ?_
  rintro e w3 ⟨rfl, rfl⟩
  clear c3
  go_wp2
  go_ret
  exact ⟨by rw [← hr.out]; rfl, B2.out⟩
end Go.Proofs.YtajcabfeabbknaaGreatDoor
