/-
  What a set tells.
-/
import Derived.Test.YtaghmoddalbepaaDoorGp
namespace Go.Proofs.YtaghmoddalbepaaDoor
open Go.RowKit Go.Shelf
set_option maxRecDepth 100000

/-- A set: its variable, its spans in a row of the call's own. -/
structure ST (w : World) (B g : Nat) (v : Value) (l : List Sp) : Prop where
  sb : SB w g v
  rs : RSp w B v l
  cn : Canon l
  ln : l.length ≤ 1000
theorem ST.below {w w' : World} {B g : Nat} {v : Value} {l : List Sp} (h : ST w B g v l) (hb : Below w.heap.size w w') : ST w' B g v l := ⟨h.sb.kept hb, h.rs.below hb, h.cn, h.ln⟩
theorem rsp_va {w : World} {B : Nat} {v : Value} {l : List Sp} (h : RSp w B v l) : v = .slice none 0 0 ∨ ∃ bb off m c, v = .slice (some ⟨bb, off, none⟩) m c := by
  rcases h.1.2 with ⟨e, _⟩ | ⟨g, cap, cur, rfl, _⟩
  · exact .inl e
  · exact .inr ⟨g, 0, _, cap, rfl⟩
theorem rsp_vr {w : World} {B : Nat} {v : Value} {l : List Sp} (h : RSp w B v l) : ∀ k, rowB v = some k → k < w.heap.size := fun k hk => by
  rcases h.1.2 with ⟨rfl, _⟩ | ⟨g, cap, cur, rfl, _, hh, _⟩
  · cases hk
  · have e : g = k := by simpa [rowB] using hk
    rw [← e]
    exact blk_lt hh
theorem ST.sq {w : World} {B g : Nat} {v : Value} {l : List Sp} (h : ST w B g v l) {f t : Int} (hft : f ≤ t) : Sq w (some ⟨g, 0, none⟩) f t (clip l f t) := sq_some h.sb h.rs.is h.cn h.ln hft (rsp_va h.rs) (rsp_vr h.rs)
theorem ST.sqA {w : World} {B g : Nat} {v : Value} {l : List Sp} (h : ST w B g v l) : Sq w (some ⟨g, 0, none⟩) 0 1099511627776 l := by
  have := h.sq (f := 0) (t := 1099511627776) (by omega)
  rwa [clip_all h.cn] at this
set_option maxHeartbeats 1000000 in
theorem collect_any (w : World) (b : Nat) (p : Option Addr) (f t : Int) (c : List Sp) (hc : C3p w b p f t) (hq : Sq w p f t c) :
    Calls Tryd.prog 38 #[.func (.func 60) #[] #[.pointer (some ⟨b, 0, none⟩), .pointer (some ⟨b + 1, 0, none⟩), .pointer (some ⟨b + 2, 0, none⟩)]] w fun e w' => ∃ v', e = .returned v' ∧ RSp w' w.heap.size v' c ∧ Below w.heap.size w w' := by
  have ca := appendSeq_any w b p f t c hc hq
  clear hc hq
  go_enter Tryd.func38, Tryd.ntmps38
  go_wp2_with fail
  refine ca.mono ?_
  rintro e w1 ⟨v1, rfl, r1, b1⟩
  obtain ⟨a1, c1, rfl, -, -, -⟩ := r1.is.shape
  have R1 : Hid (RSp w1 w.heap.size (.slice a1 c.length c1) c ∧ Below w.heap.size w w1) := ⟨r1, b1⟩
  clear ca r1 b1
  generalize c.length = n9 at *
  go_wp2
  go_ret
  exact ⟨_, rfl, R1.out.1, R1.out.2⟩
set_option maxHeartbeats 1000000 in
theorem spans_any (w : World) (p : Option Addr) (c : List Sp) (hq : Sq w p 0 1099511627776 c) :
    Calls Tryd.prog 17 #[.pointer p] w fun e w' => ∃ v', e = .returned v' ∧ RSp w' w.heap.size v' c ∧ Below w.heap.size w w' := by
  have cw := within_any p 0 1099511627776 w
  have cc := collect_any (WW w (.pointer p) 0 1099511627776) w.heap.size p 0 1099511627776 c (WW.c3 w p _ _) (hq.kept (WW.below _ _ _ _))
  have HB : Hid (Below w.heap.size w (WW w (.pointer p) 0 1099511627776)) := WW.below _ _ _ _
  clear hq
  go_enter Tryd.func17, Tryd.ntmps17
  go_wp2_with fail
  refine cw.mono ?_
  rintro e w1 ⟨rfl, rfl⟩
  clear cw
  go_wp2_with fail
  refine cc.mono ?_
  rintro e w1 ⟨v1, rfl, r1, b1⟩
  obtain ⟨a1, c1, rfl, -, -, -⟩ := r1.is.shape
  have R1 : Hid (RSp w1 w.heap.size (.slice a1 c.length c1) c ∧ Below w.heap.size w w1) := ⟨r1.mono HB.out.size, HB.out.trans (b1.mono HB.out.size)⟩
  clear cc r1 b1
  generalize c.length = n9 at *
  go_wp2
  go_ret
  exact ⟨_, rfl, R1.out.1, R1.out.2⟩
set_option maxHeartbeats 1000000 in
theorem has_any (w : World) (p : Option Addr) (n : Int) (c : List Sp) (hq : Sq w p n n c) :
    Calls Tryd.prog 16 #[.pointer p, .int .i64 n] w fun e w' => e = .returned (.bool (decide (0 < cnt c))) ∧ Below w.heap.size w w' := by
  have cc := count_any w p n n c hq
  clear hq
  generalize cnt c = k at *
  go_enter Tryd.func16, Tryd.ntmps16
  go_wp2_with fail
  refine cc.mono ?_
  rintro e w1 ⟨rfl, b1⟩
  have B1 : Hid (Below w.heap.size w w1) := b1
  clear cc b1
  go_wp2
  go_ret
  exact ⟨rfl, B1.out⟩
set_option maxHeartbeats 1000000 in
theorem countAll_any (w : World) (p : Option Addr) (c : List Sp) (hq : Sq w p 0 1099511627776 c) :
    Calls Tryd.prog 19 #[.pointer p] w fun e w' => e = .returned (.int .i64 (cnt c)) ∧ Below w.heap.size w w' := by
  have cc := count_any w p 0 1099511627776 c hq
  clear hq
  generalize cnt c = k at *
  go_enter Tryd.func19, Tryd.ntmps19
  go_wp2_with fail
  refine cc.mono ?_
  rintro e w1 ⟨rfl, b1⟩
  have B1 : Hid (Below w.heap.size w w1) := b1
  clear cc b1
  go_wp2
  go_ret
  exact ⟨rfl, B1.out⟩
set_option maxHeartbeats 1000000 in
theorem gaps_any (w : World) (p : Option Addr) (f t : Int) (c : List Sp) (hq : may f t = true → Sq w p f t c) :
    Calls Tryd.prog 20 #[.pointer p, .int .i64 f, .int .i64 t] w fun e w' => ∃ v', e = .returned v' ∧ RSp w' w.heap.size v' (if p.isSome = true ∧ may f t = true then gap t f c else []) ∧ Below w.heap.size w w' := by
  cases p with
  | none =>
    have HB : Hid (Below w.heap.size w (w.alloc (.cells #[.int .i64 f] 3))) := al_below _ _
    have HR : Hid (RSp (w.alloc (.cells #[.int .i64 f] 3)) w.heap.size (.slice none 0 0) []) := RSp.nil _ _
    clear hq
    rw [if_neg (fun h => by cases h.1)]
    go_enter Tryd.func20, Tryd.ntmps20
    go_wp2
    go_ret
    exact ⟨_, rfl, HR.out, HB.out⟩
  | some a =>
    by_cases hm : may f t = true
    · refine (gaps_core w a f t c (hq hm) hm).mono ?_
      rintro e w' ⟨v', rfl, r, b⟩
      exact ⟨v', rfl, by rw [if_pos ⟨rfl, hm⟩]; exact r, b⟩
    · have HB : Hid (Below w.heap.size w (w.alloc (.cells #[.int .i64 f] 3))) := al_below _ _
      have HR : Hid (RSp (w.alloc (.cells #[.int .i64 f] 3)) w.heap.size (.slice none 0 0) []) := RSp.nil _ _
      have hm' : may f t = false := by simpa using hm
      have cm := mayBe_any f t (w.alloc (.cells #[.int .i64 f] 3))
      rw [hm'] at cm
      rw [if_neg (fun h => hm h.2)]
      clear hq hm hm'
      go_enter Tryd.func20, Tryd.ntmps20
      go_wp2_with fail
      refine cm.mono ?_
      rintro e w1 ⟨rfl, rfl⟩
      clear cm
      go_wp2
      go_ret
      exact ⟨_, rfl, HR.out, HB.out⟩
set_option maxHeartbeats 400000 in
theorem len_any (w : World) (B g : Nat) (v : Value) (l : List Sp) (h : ST w B g v l) :
    Calls Tryd.prog 18 #[.pointer (some ⟨g, 0, none⟩)] w fun e w' => e = .returned (.int .i64 (l.length : Nat)) ∧ w' = w := by
  obtain ⟨a, c, rfl, -, -, -⟩ := h.rs.is.shape
  have k0 := h.sb.cell
  clear h
  generalize l.length = n9 at *
  go_enter Tryd.func18, Tryd.ntmps18
  go_wp2
  go_ret
  exact ⟨rfl, rfl⟩
set_option maxHeartbeats 400000 in
theorem len_nil (w : World) : Calls Tryd.prog 18 #[.pointer none] w fun e w' => e = .returned (.int .i64 0) ∧ w' = w := by
  go_enter Tryd.func18, Tryd.ntmps18
  go_wp2
  go_ret
  exact ⟨rfl, rfl⟩
set_option maxHeartbeats 1000000 in
theorem max_any (w : World) (B g : Nat) (v : Value) (l : List Sp) (h : ST w B g v l) :
    Calls Tryd.prog 13 #[.pointer (some ⟨g, 0, none⟩)] w fun e w' => e = .returned (.tuple #[.int .i64 (if l = [] then 0 else (atS l (l.length - 1)).2), .bool (decide (l ≠ []))]) ∧ w' = w := by
  have cl := len_any w B g v l h
  obtain ⟨a, c, rfl, -, -, -⟩ := h.rs.is.shape
  have k0 := h.sb.cell
  by_cases hl : l = []
  · rw [if_pos hl, decide_eq_false (fun e => e hl)]
    subst hl
    simp only [List.length_nil, Int.natCast_zero] at cl k0
    clear h
    go_enter Tryd.func13, Tryd.ntmps13
    go_wp2_with fail
    refine cl.mono ?_
    rintro e w1 ⟨rfl, rfl⟩
    clear cl
    go_wp2
    exact bodyPost_ret (results_tmp2 rfl _ _ _) rfl ⟨rfl, rfl⟩
  · rw [if_neg hl, decide_eq_true hl]
    have hp := List.length_pos_iff.2 hl
    obtain ⟨bb, off, rfl, hr⟩ := h.rs.is.at (l.length - 1) (by omega)
    obtain ⟨-, k1⟩ := spC hr
    have hln := h.ln
    have HS : Hid (SSp w (.slice (some ⟨bb, off, none⟩) l.length c) l) := h.rs.is
    clear h hr hl
    generalize atS l (l.length - 1) = x at *
    generalize l.length = n9 at *
    have x1 : ((n9 : Int) == 0) = false := by simp; omega
    have x2 : IntKind.i64.wrap ((n9 : Int) - 1) = ((n9 - 1 : Nat) : Int) := by rw [IntKind.wrap_i64]; omega
    have x3 : (n9 : Int) - 1 = ((n9 - 1 : Nat) : Int) := by omega
    have x4 : ((n9 - 1 : Nat) : Int) < (n9 : Int) := by omega
    go_enter Tryd.func13, Tryd.ntmps13
    go_wp2_with fail
    refine cl.mono ?_
    rintro e w1 ⟨rfl, e1⟩
    subst e1
    clear cl
    go_wp2
    exact bodyPost_ret (results_tmp2 rfl _ _ _) rfl ⟨rfl, rfl⟩
set_option maxHeartbeats 400000 in
theorem max_nil (w : World) : Calls Tryd.prog 13 #[.pointer none] w fun e w' => e = .returned (.tuple #[.int .i64 0, .bool false]) ∧ w' = w := by
  have cl := len_nil w
  go_enter Tryd.func13, Tryd.ntmps13
  go_wp2_with fail
  refine cl.mono ?_
  rintro e w1 ⟨rfl, rfl⟩
  clear cl
  go_wp2
  exact bodyPost_ret (results_tmp2 rfl _ _ _) rfl ⟨rfl, rfl⟩
set_option maxHeartbeats 400000 in
theorem new_any (w : World) : Calls Tryd.prog 9 #[] w fun e w' => e = .returned (.pointer (some ⟨w.heap.size, 0, none⟩)) ∧ w' = w.alloc (.cells #[.slice none 0 0] 60) := by
  go_enter Tryd.func9, Tryd.ntmps9
  go_wp2
  go_ret
  exact ⟨rfl, rfl⟩
theorem st_new (w : World) (B : Nat) : ST (w.alloc (.cells #[.slice none 0 0] 60)) B w.heap.size (.slice none 0 0) [] := ⟨heap_alloc_new _ _, RSp.nil _ _, Canon.nil, by simp⟩
end Go.Proofs.YtaghmoddalbepaaDoor
