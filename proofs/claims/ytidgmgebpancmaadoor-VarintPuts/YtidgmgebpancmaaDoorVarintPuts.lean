/-
  VarintPuts answers true for every number and every width, and nothing that was there is changed; the package-level table of widths starts as the program's text lays it (the card ties it).
-/
import Derived.Test.YtidgmgebpancmaaDoorFrame
import Derived.Test.YtidgmgebpancmaaDoorRPut
namespace Go.Proofs.YtidgmgebpancmaaDoor.varintPuts
open Go.ChangeShapes Go.WideShapes Go.ChangeAt Go.RowKit

/-- What a call that answers bytes leaves: nothing that was there is changed; the bytes s lie behind the slice. -/
def Told (w w' : World) (a : Option Addr) (len cap : Nat) (s : List Int) : Prop :=
  Below w.heap.size w w' ∧ (∀ b, a = some b → b.block < w'.heap.size) ∧ ∃ zs, Row w' a len cap zs ∧ len ≤ zs.length ∧ zs.take len = s

theorem Told.later {w w' w'' : World} {a : Option Addr} {len cap : Nat} {s : List Int} (h : Told w w' a len cap s) (hb : Below w'.heap.size w' w'') : Told w w'' a len cap s := by
  obtain ⟨h1, h2, zs, hr, h3, h4⟩ := h
  exact ⟨h1.trans (hb.mono h1.size), fun b e => Nat.lt_of_lt_of_le (h2 b e) hb.size, zs, hr.below hb h2, h3, h4⟩

theorem Told.conv {w w' : World} {a : Option Addr} {len cap : Nat} {s : List Int} (h : Told w w' a len cap s) : (convert 25 9 (.slice a len cap)).run Tryd.prog w' = .ok (.string (strB s)) w' := by
  obtain ⟨_, _, zs, hr, h3, rfl⟩ := h
  exact conv_any a len cap zs w' h3 hr

theorem told_nil (w : World) : Told w w none 0 0 [] := ⟨Below.refl _ _, fun b h => (by cases h), [], .inl rfl, Nat.le_refl _, rfl⟩

theorem told_row {w w' : World} {g : Nat} {cap W : Nat} {n : Int} (hW : IsW W) (hb : Below w.heap.size w w') (hr : Row w' (some ⟨g, 0, none⟩) W cap (pb n W)) : Told w w' (some ⟨g, 0, none⟩) W cap (pb n W) := by
  refine ⟨hb, fun b e => ?_, pb n W, hr, by rw [pb_len n W hW]; exact Nat.le_refl _, List.take_of_length_le (by rw [pb_len n W hW]; exact Nat.le_refl _)⟩
  cases e
  rcases hr with h | ⟨_, b, off, e, _, _, hc, _⟩
  · rcases hW with rfl | rfl | rfl | rfl <;> omega
  · cases e
    have := World.block_lt_of_cell? w' _ (hc 0 (by rcases hW with rfl | rfl | rfl | rfl <;> omega))
    exact this

def putS (n : Int) : List Int := if lenOf n = 0 then [] else pb n (lenOf n).toNat
def putE (n : Int) : Int := if lenOf n = 0 then 13 else 0
def inS (n x : Int) : List Int := if (x.toNat = 1 ∨ x.toNat = 2 ∨ x.toNat = 4 ∨ x.toNat = 8) ∧ 0 ≤ x ∧ 0 ≤ n ∧ n < lim x.toNat then pb n x.toNat else []
def inE (n x : Int) : Int := if (x.toNat = 1 ∨ x.toNat = 2 ∨ x.toNat = 4 ∨ x.toNat = 8) ∧ 0 ≤ x ∧ 0 ≤ n ∧ n < lim x.toNat then 0 else if (x.toNat = 1 ∨ x.toNat = 2 ∨ x.toNat = 4 ∨ x.toNat = 8) ∧ 0 ≤ x then 13 else 2

theorem put_told (n : Int) (w : World) (hw : Wid w) : Calls Tryd.prog 12 #[.int .i64 n] w fun e w' => ∃ a len cap, e = .returned (.tuple #[.slice a len cap, .int .i64 (putE n)]) ∧ Told w w' a len cap (putS n) := by
  unfold putE putS
  by_cases h : lenOf n = 0
  · rw [if_pos h, if_pos h]
    refine (put_no n w hw h).mono ?_
    rintro e w' ⟨rfl, rfl⟩
    exact ⟨_, _, _, rfl, told_nil _⟩
  · rw [if_neg h, if_neg h]
    obtain ⟨W, hW⟩ : ∃ W : Nat, lenOf n = W := ⟨(lenOf n).toNat, by rcases lenOf_cases n with h | h | h | h | h | h <;> omega⟩
    obtain ⟨hI, h1, h2⟩ := lenOf_eq n W hW (by omega)
    rw [hW]
    refine (put_ok n W w hw hW (by omega)).mono ?_
    rintro e w' ⟨rfl, rfl⟩
    exact ⟨_, _, _, rfl, told_row hI ((Below.refl _ _).alloc (Nat.le_refl _) _) (row_put n W w hI h1 h2)⟩

theorem rput_told (n : Int) (w : World) : Calls Tryd.prog 13 #[.int .i64 n] w fun e w' => ∃ a len cap, e = .returned (.tuple #[.slice a len cap, .int .i64 (putE n)]) ∧ Told w w' a len cap (putS n) := by
  unfold putE putS
  by_cases h : lenOf n = 0
  · rw [if_pos h, if_pos h]
    refine (rput_no n w h).mono ?_
    rintro e w' ⟨rfl, rfl⟩
    exact ⟨_, _, _, rfl, told_nil _⟩
  · rw [if_neg h, if_neg h]
    obtain ⟨W, hW⟩ : ∃ W : Nat, lenOf n = W := ⟨(lenOf n).toNat, by rcases lenOf_cases n with h | h | h | h | h | h <;> omega⟩
    obtain ⟨hI, h1, h2⟩ := lenOf_eq n W hW (by omega)
    rw [hW]
    refine (rput_ok n W w hW (by omega)).mono ?_
    rintro e w' ⟨g, cap, rfl, _, hr, hb⟩
    exact ⟨_, _, _, rfl, told_row hI hb hr⟩

theorem not_w (x : Int) (h : ¬ (IsW x.toNat ∧ 0 ≤ x)) : x ≠ 1 ∧ x ≠ 2 ∧ x ≠ 4 ∧ x ≠ 8 := by
  unfold IsW at h
  omega

theorem in_ok (n : Int) (W : Nat) (hW : IsW W) (h1 : 0 ≤ n) (h2 : n < lim W) : inS n W = pb n W ∧ inE n W = 0 := by
  have h : ((W : Int).toNat = 1 ∨ (W : Int).toNat = 2 ∨ (W : Int).toNat = 4 ∨ (W : Int).toNat = 8) ∧ 0 ≤ (W : Int) ∧ 0 ≤ n ∧ n < lim (W : Int).toNat := ⟨hW, Int.natCast_nonneg W, h1, h2⟩
  unfold inS inE
  rw [if_pos h, if_pos h, Int.toNat_natCast]
  exact ⟨rfl, rfl⟩
theorem in_range (n : Int) (W : Nat) (hW : IsW W) (hr : ¬ (0 ≤ n ∧ n < lim W)) : inS n W = [] ∧ inE n W = 13 := by
  have h : ¬ (((W : Int).toNat = 1 ∨ (W : Int).toNat = 2 ∨ (W : Int).toNat = 4 ∨ (W : Int).toNat = 8) ∧ 0 ≤ (W : Int) ∧ 0 ≤ n ∧ n < lim (W : Int).toNat) := fun h => hr h.2.2
  have h' : ((W : Int).toNat = 1 ∨ (W : Int).toNat = 2 ∨ (W : Int).toNat = 4 ∨ (W : Int).toNat = 8) ∧ 0 ≤ (W : Int) := ⟨hW, Int.natCast_nonneg W⟩
  unfold inS inE
  rw [if_neg h, if_neg h, if_pos h']
  exact ⟨rfl, rfl⟩
theorem in_arg (n x : Int) (hx : ¬ (IsW x.toNat ∧ 0 ≤ x)) : inS n x = [] ∧ inE n x = 2 := by
  have h' : ¬ ((x.toNat = 1 ∨ x.toNat = 2 ∨ x.toNat = 4 ∨ x.toNat = 8) ∧ 0 ≤ x) := hx
  have h : ¬ ((x.toNat = 1 ∨ x.toNat = 2 ∨ x.toNat = 4 ∨ x.toNat = 8) ∧ 0 ≤ x ∧ 0 ≤ n ∧ n < lim x.toNat) := fun h => h' ⟨h.1, h.2.1⟩
  unfold inS inE
  rw [if_neg h, if_neg h, if_neg h']
  exact ⟨rfl, rfl⟩

theorem in_told (n x : Int) (w : World) (hw : Wid w) : Calls Tryd.prog 14 #[.int .i64 n, .int .i64 x] w fun e w' => ∃ a len cap, e = .returned (.tuple #[.slice a len cap, .int .i64 (inE n x)]) ∧ Told w w' a len cap (inS n x) := by
  by_cases hx : IsW x.toNat ∧ 0 ≤ x
  · obtain ⟨hI, h0⟩ := hx
    obtain ⟨W, rfl⟩ : ∃ W : Nat, x = W := ⟨x.toNat, by omega⟩
    rw [Int.toNat_natCast] at hI
    by_cases hr : 0 ≤ n ∧ n < lim W
    · obtain ⟨e1, e2⟩ := in_ok n W hI hr.1 hr.2
      rw [e1, e2]
      refine (putIn_ok n W w hI hw hr.1 hr.2).mono ?_
      rintro e w' ⟨rfl, rfl⟩
      exact ⟨_, _, _, rfl, told_row hI ((Below.refl _ _).alloc (Nat.le_refl _) _) (row_put n W w hI hr.1 hr.2)⟩
    · obtain ⟨e1, e2⟩ := in_range n W hI hr
      rw [e1, e2]
      refine (putIn_range n W w hI hw (by omega)).mono ?_
      rintro e w' ⟨rfl, rfl⟩
      exact ⟨_, _, _, rfl, told_nil _⟩
  · obtain ⟨e1, e2⟩ := in_arg n x hx
    rw [e1, e2]
    obtain ⟨a, b, c, d⟩ := not_w x hx
    refine (putIn_arg n x w hw a b c d).mono ?_
    rintro e w' ⟨rfl, rfl⟩
    exact ⟨_, _, _, rfl, told_nil _⟩

theorem rin_told (n x : Int) (w : World) : Calls Tryd.prog 15 #[.int .i64 n, .int .i64 x] w fun e w' => ∃ a len cap, e = .returned (.tuple #[.slice a len cap, .int .i64 (inE n x)]) ∧ Told w w' a len cap (inS n x) := by
  by_cases hx : IsW x.toNat ∧ 0 ≤ x
  · obtain ⟨hI, h0⟩ := hx
    obtain ⟨W, rfl⟩ : ∃ W : Nat, x = W := ⟨x.toNat, by omega⟩
    rw [Int.toNat_natCast] at hI
    by_cases hr : 0 ≤ n ∧ n < lim W
    · obtain ⟨e1, e2⟩ := in_ok n W hI hr.1 hr.2
      rw [e1, e2]
      refine (rputIn_ok n W w hI hr.1 hr.2).mono ?_
      rintro e w' ⟨g, cap, rfl, _, hr, hb⟩
      exact ⟨_, _, _, rfl, told_row hI hb hr⟩
    · obtain ⟨e1, e2⟩ := in_range n W hI hr
      rw [e1, e2]
      refine (rputIn_range n W w hI (by omega)).mono ?_
      rintro e w' ⟨rfl, rfl⟩
      exact ⟨_, _, _, rfl, told_nil _⟩
  · obtain ⟨e1, e2⟩ := in_arg n x hx
    rw [e1, e2]
    obtain ⟨a, b, c, d⟩ := not_w x hx
    refine (rputIn_arg n x w a b c d).mono ?_
    rintro e w' ⟨rfl, rfl⟩
    exact ⟨_, _, _, rfl, told_nil _⟩

set_option maxHeartbeats 2000000 in
theorem walk (n x : Int) (w : World) (hw : Wid w) (_wn : (Lit.int .i64 n).wf = true) (_wx : (Lit.int .i64 x).wf = true) :
    Calls Tryd.prog 4 #[.int .i64 n, .int .i64 x] w fun e w' => e = .returned (.bool true) ∧ Below w.heap.size w w' := by
  have hp := hw.pos
  obtain ⟨s1, hs1⟩ : ∃ s, putS n = s := ⟨_, rfl⟩
  obtain ⟨e1, he1⟩ : ∃ s, putE n = s := ⟨_, rfl⟩
  obtain ⟨s2, hs2⟩ : ∃ s, inS n x = s := ⟨_, rfl⟩
  obtain ⟨e2, he2⟩ : ∃ s, inE n x = s := ⟨_, rfl⟩
  have c1 := put_told n w hw
  have c2 := rput_told n
  have c3 := in_told n x
  have c4 := rin_told n x
  rw [hs1, he1] at c1
  rw [hs1, he1] at c2
  rw [hs2, he2] at c3
  rw [hs2, he2] at c4
  clear hs1 he1 hs2 he2
  go_enter Tryd.func4, Tryd.ntmps4
  go_wp2_with fail
  refine c1.mono ?_
  rintro e w1 ⟨a1, l1, k1, rfl, T1⟩
  have b1 := T1.1
  go_wp2_with fail
  refine (c2 w1).mono ?_
  rintro e w2 ⟨a2, l2, k2, rfl, T2⟩
  have b2 := b1.trans (T2.1.mono b1.size)
  go_wp2_with fail
  refine (c3 w2 (hw.below b2 hp)).mono ?_
  rintro e w3 ⟨a3, l3, k3, rfl, T3⟩
  have b3 := b2.trans (T3.1.mono b2.size)
  go_wp2_with fail
  refine (c4 w3).mono ?_
  rintro e w4 ⟨a4, l4, k4, rfl, T4⟩
  have b4 := b3.trans (T4.1.mono b3.size)
  have aw := awake_any w4 (hw.below b4 hp)
  have v1 := (((T1.later T2.1).later T3.1).later T4.1).conv
  have v2 := ((T2.later T3.1).later T4.1).conv
  have v3 := (T3.later T4.1).conv
  have v4 := T4.conv
  clear c1 c2 c3 c4 T1 T2 T3 T4 b1 b2 b3
  go_wp2_with (go_at_call 11; refine aw.mono ?_; rintro e w5 ⟨rfl, b5⟩)
  go_ret
  exact ⟨rfl, b4.trans (Below.mono (by assumption) b4.size)⟩

theorem contract (H : Type) (enc : TypeId × Value → H) (W : World) (base : Nat) (args : Array Value) (ds gs : List (DataW H)) (before : List MemPlace)
    (hval : ∀ (j : Nat) t v, Tryd.f4.params[j]? = some t → args[j]? = some v → Value.okWide Tryd.prog W .any base t v)
    (hW : DataW.Whole enc Tryd.prog Tryd.f4.params.toList Rows.varintPutsSpec.vars false W args.toList ds gs before) (hL : laidMetH Tryd.prog Rows.varintPutsRow.laid W)
    (hsz0 : (DataW.weightsEach Tryd.prog (Tryd.f4.params.toList ++ Rows.varintPutsSpec.plain.varTypes Tryd.prog) (ds ++ gs)).all (· ≤ reachBytes) = true) :
    Calls Tryd.prog 4 args W fun e W' => ∃ v, e = .returned v ∧ Rows.varintPutsSpec.post enc Tryd.prog Tryd.f4 false true false false W args v W' := by
  have hW' := hW
  obtain ⟨p, q, hA0, hV, rfl, hfz, hnd⟩ := hW
  have hA : DataW.TrodAll enc Tryd.prog W 0 (fun _ => true) true Tryd.f4.params.toList args.toList ds p := hA0
  rw [Tryd.params4] at hA hval hsz0
  obtain ⟨v0, vs0, d0, ds0, p0, q0, hargs, rfl, rfl, h0, r0⟩ := trodAll_cons hA
  obtain ⟨v1, vs1, d1, ds1, p1, q1, rfl, rfl, rfl, h1, r1⟩ := trodAll_cons r0
  obtain ⟨rfl, rfl, rfl⟩ := trodAll_nil r1
  obtain rfl : args = #[v0, v1] := by cases args; simp_all
  obtain ⟨rfl, rfl⟩ := trodVars_none hV
  obtain ⟨a0, rfl, rfl, rfl, w0⟩ := open_int Tryd.underlying3 (hval 0 3 v0 rfl rfl) h0
  obtain ⟨a1, rfl, rfl, rfl, w1⟩ := open_int Tryd.underlying3 (hval 1 3 v1 rfl rfl) h1
  clear hA0
  refine (walk a0 a1 W (wid_of hL) w0 w1).mono fun e W' ⟨he, bel⟩ => ?_
  subst he
  exact ⟨_, rfl, _, _, _, [], _, [], hW', trodAll_mk1 (shut_bool Tryd.underlying4 _), (trodAll_cons_mk (shut_int Tryd.underlying3 w0) (trodAll_cons_mk (shut_int Tryd.underlying3 w1) trodAll_mk0)), rfl, bel.frame _, fun h => by cases h⟩

theorem laid_met (os : Os) : laidMet Tryd.prog Rows.varintPutsRow.laid (({ World.holding Tryd.prog os ⟨#[], #[], []⟩ with heap := (World.holding Tryd.prog os ⟨#[], #[], []⟩).heap.modify 0 fun
      | .cells _ t frozen => .cells #[.int .i64 1, .int .i64 2, .int .i64 4, .int .i64 8] t frozen
      | o => o } : World).forCall (fun _ _ => 0) ⟨#[], #[.int .i64 0, .int .i64 0], []⟩).memory :=
  laidMet_of_run' 8 (by kernel_rfl) (by kernel_rfl)
theorem reads (os : Os) {H : Type} (enc : TypeId × Value → H) : ∃ places, DataW.whole enc Tryd.prog (({ World.holding Tryd.prog os ⟨#[], #[], []⟩ with heap := (World.holding Tryd.prog os ⟨#[], #[], []⟩).heap.modify 0 fun
      | .cells _ t frozen => .cells #[.int .i64 1, .int .i64 2, .int .i64 4, .int .i64 8] t frozen
      | o => o } : World).forCall (fun _ _ => 0) ⟨#[], #[.int .i64 0, .int .i64 0], []⟩).memory Tryd.f4.params.toList Rows.varintPutsSpec.vars false #[Value.int .i64 0, .int .i64 0].toList 8 = some ([.lit (.int .i64 0), .lit (.int .i64 0)], [], places) :=
  ⟨[], by kernel_rfl⟩

set_option maxRecDepth 100000 in
theorem lifted (os : Os) (started : os.Started) (H : Type) (enc : TypeId × Value → H) (F : Stop.Interp) :
    ReturnsInHanded {} Tryd.checked os 4 .any ((OpenSpec.ofChange Rows.varintPutsSpec).preRow enc Tryd.prog Tryd.f4 Rows.varintPutsRow.domain false Rows.varintPutsRow.laid) (((OpenSpec.ofChange Rows.varintPutsSpec).at F).post enc Tryd.prog Tryd.f4 false true false false) := by
  obtain ⟨places, hx⟩ := reads os enc
  refine returnsInHanded_of_row (C := Tryd.checked) (s := OpenSpec.ofChange Rows.varintPutsSpec) own started (by kernel_rfl) Tryd.func4
    (witness_row_at (enc := enc) (C := Tryd.checked) false ({ World.holding Tryd.prog os ⟨#[], #[], []⟩ with heap := (World.holding Tryd.prog os ⟨#[], #[], []⟩).heap.modify 0 fun
      | .cells _ t frozen => .cells #[.int .i64 1, .int .i64 2, .int .i64 4, .int .i64 8] t frozen
      | o => o } : World) #[.int .i64 0, .int .i64 0] rfl (by kernel_rfl) (by kernel_rfl) (by kernel_rfl)
      (OpenSpec.preRow_of_cond 8 hx (by kernel_rfl) (fun k hk => by cases hk) (by kernel_rfl) (laid_met os))) ?_
  intro W base args ds gs before hval hW _ _ hsz hL _ _
  exact contract H enc W base args ds gs before hval hW hL hsz

theorem said : Rows.VarintPutsSaid :=
  OpenClaim.holds_of_cond 4 Tryd.f4 rfl rfl rfl rfl rfl rfl rfl ⟨rfl, rfl, rfl, rfl, rfl⟩ rfl rfl rfl rfl rfl (by kernel_rfl) Tryd.func4 (by kernel_rfl)
    (of_decide_eq_true (by kernel_rfl)) (by unfold Func.isWrapper; first | (rw [if_pos (by decide +kernel)]; kernel_rfl) | (rw [if_neg (by decide +kernel)]; exact ⟨rfl, rfl⟩))
    (fun os started H enc _ F => by rw [OpenClaim.pre_eq_preRow]; exact lifted os started H enc F)

theorem plain (f : FuncId) (fn : Func) (hf : Tryd.pinned.checked.prog.funcNamed "sumpter/sumpterlaw01.VarintPuts" = some f) (hfn : Tryd.pinned.checked.prog.funcs[f]? = some fn) :
    false = Tryd.pinned.checked.prog.looks [] ∧ ∀ (j : Nat) t, fn.params[j]? = some t → Tryd.pinned.checked.prog.wantsStandIn t = false := by
  obtain rfl : f = 4 := Option.some.inj ((show Tryd.prog.funcNamed "sumpter/sumpterlaw01.VarintPuts" = some 4 by kernel_rfl).symm.trans hf) |>.symm
  obtain rfl : fn = Tryd.f4 := (Option.some.inj (Tryd.func4.symm.trans hfn)).symm
  refine ⟨by kernel_rfl, fun j t ht => ?_⟩
  rw [Tryd.params4] at ht
  have hm : t ∈ [3, 3] := by simpa using Array.mem_of_getElem? ht
  have hall : ([3, 3].all fun u => !Tryd.prog.wantsStandIn u) = true := by kernel_rfl
  exact (show Tryd.prog.wantsStandIn t = false by simpa using List.all_eq_true.1 hall t hm)
end Go.Proofs.YtidgmgebpancmaaDoor.varintPuts

namespace Go.Proofs.YtidgmgebpancmaaDoor
/-- The card of VarintPuts. -/
theorem varintPuts_card : Rows.VarintPutsCardSaid :=
  Claim7.holds_tied_plain_at .later [] _ _ _ _ varintPuts.said (fun _ h => by cases h) (by kernel_rfl) (fun _ h => by cases h) varintPuts_row_tie rfl ⟨rfl, rfl⟩ (by kernel_rfl) rfl varintPuts.plain (by kernel_rfl)
#print axioms varintPuts_card
end Go.Proofs.YtidgmgebpancmaaDoor
