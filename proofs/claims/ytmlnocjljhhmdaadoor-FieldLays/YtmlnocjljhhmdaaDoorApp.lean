/-
  'append' of a slice of bytes, nil or not, onto one of the call's own; and what both readers answer, whatever error they bear: one step of each.
-/
import Derived.Test.YtmlnocjljhhmdaaDoorRByte
import Derived.Test.YtmlnocjljhhmdaaDoorRText
namespace Go.Proofs.YtmlnocjljhhmdaaDoor
open Go.RowKit

theorem wpList_append_sl {w : World} {ops : Array Oper} {rest : List Oper} {o : Oper} {a : Act} {Q : Exit → Act → World → Prop} (hgd : o.guard = none) (s x : Operand)
    (ho : o.op = .call { callee := .builtin .append, args := #[s, x], argTypes := #[25, 25] })
    (base : Nat) (v : Value) (n : Nat) (xs : List Value) (hs : a.eval s = v) (hown : w.ownsRow base 5 1 v n xs)
    (src : Value) (Z : List Int) (hx : a.eval x = src) (hsl : Sl w src Z) (hbig : n + Z.length ≤ 200000000000000) (hbase : base ≤ w.heap.size)
    (h : ∀ v' w', w'.ownsRow base 5 1 v' (n + Z.length) (xs ++ Z.map (Value.int .u8)) → w.grownBy w' v.ownBlock → wpList Tryd.prog ops Q rest (a.put o.dst v') w') : wpList Tryd.prog ops Q (o :: rest) a w := by
  obtain ⟨i0, hi, hz0, hz1, hz2⟩ := info_parts info5'
  obtain ⟨ad, cap, rfl, h1, h2, h3, h4⟩ := hsl
  cases ad with
  | none =>
    obtain rfl := h3 rfl
    obtain rfl : Z = [] := List.length_eq_zero_iff.1 (by omega)
    refine wpList_append_own_none hgd s x 25 ho base 5 i0 1 Tryd.underlying25 hi v n xs hs hown hx ?_
    exact h v w (by simpa using hown) ⟨rfl, rfl, rfl, Nat.le_refl _, fun _ _ _ => rfl⟩
  | some y =>
    refine wpList_append_own_wide w hgd s x 25 ho base 5 i0 (.int .u8 0) 1 1 Tryd.underlying25 hi hz0 hz1 hz2 rfl (by decide) v n xs hs hown y Z.length cap (Z.map (Value.int .u8)) hx (by rw [List.length_map, Nat.mul_one]) (news_row h4) (ints_one Z) (by unfold maxLen; omega) (by omega) hbase ?_
    intro v' w' ho' hg _
    exact h v' w' ho' hg

/-- What both readers leave and answer, by what the call is. -/
def stX (q : Nat) (xs : List Int) (e m : Int) : List Int :=
  if e = 0 then (match q with | 0 => xs.drop (naU xs m).toNat | 1 => txR xs m | 2 => xs.drop (raN xs m) | _ => xs.drop (raN xs 1)) else xs
def stE (q : Nat) (xs : List Int) (e m : Int) : Int :=
  if e = 0 then (match q with | 0 => naE xs m | 1 => txE xs m | 2 => raE xs m | _ => raE xs 1) else e
def vN (xs : List Int) (e m : Int) : Int := if e = 0 then naN xs m else 0
def vT (xs : List Int) (e m : Int) : ByteArray := if e = 0 then strB (txS xs m) else strB []
def vR (xs : List Int) (e m : Int) : ByteArray := if e = 0 then strB (xs.take (raN xs m)) else strB []
def vB (xs : List Int) (e : Int) : Int := if e = 0 then byV xs else 0

theorem n_real (g s : Nat) (xs : List Int) (e m : Int) (w : World) (hw : Wid w) (h : Rd w g s xs e) :
    Calls Tryd.prog 17 #[.pointer (some ⟨g, 0, none⟩), .int .i64 m] w fun r w' => r = .returned (.int .i64 (vN xs e m)) ∧ Rd w' g s (stX 0 xs e m) (stE 0 xs e m) ∧ Off g w w' := by
  unfold vN stX stE
  by_cases he : e = 0
  · subst he; exact num_any g s xs m w hw h
  · rw [if_neg he, if_neg he, if_neg he]
    refine (num_stop g s xs e m w h he).mono ?_
    rintro r w' ⟨rfl, rfl⟩
    exact ⟨rfl, h, Off.refl _ _⟩
theorem t_real (g s : Nat) (xs : List Int) (e m : Int) (w : World) (hw : Wid w) (h : Rd w g s xs e) :
    Calls Tryd.prog 19 #[.pointer (some ⟨g, 0, none⟩), .int .i64 m] w fun r w' => r = .returned (.string (vT xs e m)) ∧ Rd w' g s (stX 1 xs e m) (stE 1 xs e m) ∧ Off g w w' := by
  unfold vT stX stE
  by_cases he : e = 0
  · subst he; exact text_any g s xs m w hw h
  · rw [if_neg he, if_neg he, if_neg he]
    refine (text_stop g s xs e m w h he).mono ?_
    rintro r w' ⟨rfl, rfl⟩
    exact ⟨rfl, h, Off.refl _ _⟩
theorem r_real (g s : Nat) (xs : List Int) (e m : Int) (w : World) (h : Rd w g s xs e) :
    Calls Tryd.prog 21 #[.pointer (some ⟨g, 0, none⟩), .int .i64 m] w fun r w' => r = .returned (.string (vR xs e m)) ∧ Rd w' g s (stX 2 xs e m) (stE 2 xs e m) ∧ Off g w w' := by
  unfold vR stX stE
  by_cases he : e = 0
  · subst he; exact raw_any g s xs m w h
  · rw [if_neg he, if_neg he, if_neg he]
    refine (raw_stop g s xs e m w h he).mono ?_
    rintro r w' ⟨rfl, rfl⟩
    exact ⟨rfl, h, Off.refl _ _⟩
theorem b_real (g s : Nat) (xs : List Int) (e m : Int) (w : World) (h : Rd w g s xs e) :
    Calls Tryd.prog 23 #[.pointer (some ⟨g, 0, none⟩)] w fun r w' => r = .returned (.int .u8 (vB xs e)) ∧ Rd w' g s (stX 3 xs e m) (stE 3 xs e m) ∧ Off g w w' := by
  unfold vB stX stE
  by_cases he : e = 0
  · subst he; exact byte_any g s xs w h
  · rw [if_neg he, if_neg he, if_neg he]
    refine (byte_stop g s xs e w h he).mono ?_
    rintro r w' ⟨rfl, rfl⟩
    exact ⟨rfl, h, Off.refl _ _⟩

/-- What a call of the document's reader leaves: a slice, of which the same holds in every world where it held of the one before. -/
def Left (a : Option Addr) (c : Nat) (xs : List Int) (v : Value) (X : List Int) : Prop := ∃ a' c', v = .slice a' X.length c' ∧ ∀ W, Rv W (.slice a xs.length c) xs → Rv W (.slice a' X.length c') X
theorem left_of {w : World} {a : Option Addr} {c : Nat} {xs X : List Int} {v : Value} (h : Rv w (.slice a xs.length c) xs) (hv : ∀ W, Rv W (.slice a xs.length c) xs → Rv W v X) : Left a c xs v X := by
  obtain ⟨a', c', rfl, _⟩ := hv w h
  exact ⟨a', c', rfl, hv⟩
theorem left_same (a : Option Addr) (c : Nat) (xs : List Int) : Left a c xs (.slice a xs.length c) xs := ⟨a, c, rfl, fun _ h => h⟩

theorem n_doc (a : Option Addr) (c : Nat) (xs : List Int) (e m : Int) (w : World) (h : Rv w (.slice a xs.length c) xs) :
    Calls Tryd.prog 16 #[.agg #[.slice a xs.length c, .int .i64 e], .int .i64 m] w fun r w' => ∃ v, r = .returned (.tuple #[.agg #[v, .int .i64 (stE 0 xs e m)], .int .i64 (vN xs e m)]) ∧ Left a c xs v (stX 0 xs e m) ∧ Below w.heap.size w w' := by
  unfold vN stX stE
  by_cases he : e = 0
  · subst he
    refine (rnum_any a c xs m w h).mono ?_
    rintro r w' ⟨v, rfl, hv, b⟩
    exact ⟨v, rfl, left_of h hv, b⟩
  · rw [if_neg he, if_neg he, if_neg he]
    refine (rnum_stop a _ c e m w he).mono ?_
    rintro r w' ⟨rfl, b⟩
    exact ⟨_, rfl, left_same a c xs, b⟩
theorem t_doc (a : Option Addr) (c : Nat) (xs : List Int) (e m : Int) (w : World) (h : Rv w (.slice a xs.length c) xs) :
    Calls Tryd.prog 18 #[.agg #[.slice a xs.length c, .int .i64 e], .int .i64 m] w fun r w' => ∃ v, r = .returned (.tuple #[.agg #[v, .int .i64 (stE 1 xs e m)], .string (vT xs e m)]) ∧ Left a c xs v (stX 1 xs e m) ∧ Below w.heap.size w w' := by
  unfold vT stX stE
  by_cases he : e = 0
  · subst he
    refine (rtext_any a c xs m w h).mono ?_
    rintro r w' ⟨v, rfl, hv, b⟩
    exact ⟨v, rfl, left_of h hv, b⟩
  · rw [if_neg he, if_neg he, if_neg he]
    refine (rtext_stop a _ c e m w he).mono ?_
    rintro r w' ⟨rfl, b⟩
    exact ⟨_, rfl, left_same a c xs, b⟩
theorem r_doc (a : Option Addr) (c : Nat) (xs : List Int) (e m : Int) (w : World) (h : Rv w (.slice a xs.length c) xs) :
    Calls Tryd.prog 20 #[.agg #[.slice a xs.length c, .int .i64 e], .int .i64 m] w fun r w' => ∃ v, r = .returned (.tuple #[.agg #[v, .int .i64 (stE 2 xs e m)], .string (vR xs e m)]) ∧ Left a c xs v (stX 2 xs e m) ∧ Below w.heap.size w w' := by
  unfold vR stX stE
  by_cases he : e = 0
  · subst he
    refine (rraw_any a c xs m w h).mono ?_
    rintro r w' ⟨v, rfl, hv, b⟩
    exact ⟨v, rfl, left_of h hv, b⟩
  · rw [if_neg he, if_neg he, if_neg he]
    refine (rraw_stop a _ c e m w he).mono ?_
    rintro r w' ⟨rfl, b⟩
    exact ⟨_, rfl, left_same a c xs, b⟩
theorem b_doc (a : Option Addr) (c : Nat) (xs : List Int) (e m : Int) (w : World) (h : Rv w (.slice a xs.length c) xs) :
    Calls Tryd.prog 22 #[.agg #[.slice a xs.length c, .int .i64 e]] w fun r w' => ∃ v, r = .returned (.tuple #[.agg #[v, .int .i64 (stE 3 xs e m)], .int .u8 (vB xs e)]) ∧ Left a c xs v (stX 3 xs e m) ∧ Below w.heap.size w w' := by
  unfold vB stX stE
  by_cases he : e = 0
  · subst he
    refine (rbyte_any a c xs w h).mono ?_
    rintro r w' ⟨v, rfl, hv, b⟩
    exact ⟨v, rfl, left_of h hv, b⟩
  · rw [if_neg he, if_neg he, if_neg he]
    refine (rbyte_stop a _ c e w he).mono ?_
    rintro r w' ⟨rfl, b⟩
    exact ⟨_, rfl, left_same a c xs, b⟩
end Go.Proofs.YtmlnocjljhhmdaaDoor
