/-
  What a set tells.
-/
import Derived.Test.YtamjbmbflllbfaaGp
namespace Go.Proofs.Ytamjbmbflllbfaa
open Go.RowKit Go.Shelf
set_option maxRecDepth 100000

/-- A set: its variable, its spans in a row of the call's own. -/
structure ST (w : World) (B g : Nat) (v : Value) (l : List Sp) : Prop where
  sb : SB w g v
  rs : RSp w B v l
  cn : Canon l
  ln : l.length ≤ 1000
theorem ST.below {w w' : World} {B g : Nat} {v : Value} {l : List Sp} (h : ST w B g v l) (hb : Below w.heap.size w w') : ST w' B g v l := ⟨h.sb.kept hb, h.rs.below hb, h.cn, h.ln⟩
theorem rsp_va {w : World} {B : Nat} {v : Value} {l : List Sp} (h : RSp w B v l) : v = .slice none 0 0 ∨ ∃ bb off m c, v = .slice (some ⟨bb, off, none⟩) m c := by
  rcases h.1.2 with ⟨e, _⟩ | ⟨g, cap, cur, rfl, _⟩
  · exact .inl e
  · exact .inr ⟨g, 0, _, cap, rfl⟩
theorem rsp_vr {w : World} {B : Nat} {v : Value} {l : List Sp} (h : RSp w B v l) : ∀ k, rowB v = some k → k < w.heap.size := fun k hk => by
  rcases h.1.2 with ⟨rfl, _⟩ | ⟨g, cap, cur, rfl, _, hh, _⟩
  · cases hk
  · have e : g = k := by simpa [rowB] using hk
    rw [← e]
    exact blk_lt hh
theorem ST.sq {w : World} {B g : Nat} {v : Value} {l : List Sp} (h : ST w B g v l) {f t : Int} (hft : f ≤ t) : Sq w (some ⟨g, 0, none⟩) f t (clip l f t) := sq_some h.sb h.rs.is h.cn h.ln hft (rsp_va h.rs) (rsp_vr h.rs)
theorem ST.sqA {w : World} {B g : Nat} {v : Value} {l : List Sp} (h : ST w B g v l) : Sq w (some ⟨g, 0, none⟩) 0 1099511627776 l := by
  have := h.sq (f := 0) (t := 1099511627776) (by omega)
  rwa [clip_all h.cn] at this
set_option maxHeartbeats 1000000 in
theorem collect_any (w : World) (b : Nat) (p : Option Addr) (f t : Int) (c : List Sp) (hc : C3p w b p f t) (hq : Sq w p f t c) :
    Calls Try.prog 55 #[.func (.func 64) #[] #[.pointer (some ⟨b, 0, none⟩), .pointer (some ⟨b + 1, 0, none⟩), .pointer (some ⟨b + 2, 0, none⟩)]] w fun e w' => ∃ v', e = .returned v' ∧ RSp w' w.heap.size v' c ∧ Below w.heap.size w w' := by
  have ca := appendSeq_any w b p f t c hc hq
  clear hc hq
  go_enter Try.func55, Try.ntmps55
  go_wp2_with fail
  refine ca.mono ?_
  rintro e w1 ⟨v1, rfl, r1, b1⟩
  obtain ⟨a1, c1, rfl, -, -, -⟩ := r1.is.shape
  have R1 : Hid (RSp w1 w.heap.size (.slice a1 c.length c1) c ∧ Below w.heap.size w w1) := ⟨r1, b1⟩
  clear ca r1 b1
  generalize c.length = n9 at *
  go_wp2
  go_ret
  exact ⟨_, rfl, R1.out.1, R1.out.2⟩
set_option maxHeartbeats 1000000 in
theorem spans_any (w : World) (p : Option Addr) (c : List Sp) (hq : Sq w p 0 1099511627776 c) :
    Calls Try.prog 52 #[.pointer p] w fun e w' => ∃ v', e = .returned v' ∧ RSp w' w.heap.size v' c ∧ Below w.heap.size w w' := by
  have cw := within_any p 0 1099511627776 w
  have cc := collect_any (WW w (.pointer p) 0 1099511627776) w.heap.size p 0 1099511627776 c (WW.c3 w p _ _) (hq.kept (WW.below _ _ _ _))
  have HB : Hid (Below w.heap.size w (WW w (.pointer p) 0 1099511627776)) := WW.below _ _ _ _
  clear hq
  go_enter Try.func52, Try.ntmps52
  go_wp2_with fail
  refine cw.mono ?_
  rintro e w1 ⟨rfl, rfl⟩
  clear cw
  go_wp2_with fail
  refine cc.mono ?_
  rintro e w1 ⟨v1, rfl, r1, b1⟩
  obtain ⟨a1, c1, rfl, -, -, -⟩ := r1.is.shape
  have R1 : Hid (RSp w1 w.heap.size (.slice a1 c.length c1) c ∧ Below w.heap.size w w1) := ⟨r1.mono HB.out.size, HB.out.trans (b1.mono HB.out.size)⟩
  clear cc r1 b1
  generalize c.length = n9 at *
  go_wp2
  go_ret
  exact ⟨_, rfl, R1.out.1, R1.out.2⟩
set_option maxHeartbeats 400000 in
theorem new_any (w : World) : Calls Try.prog 53 #[] w fun e w' => e = .returned (.pointer (some ⟨w.heap.size, 0, none⟩)) ∧ w' = w.alloc (.cells #[.slice none 0 0] 98) := by
  go_enter Try.func53, Try.ntmps53
  go_wp2
  go_ret
  exact ⟨rfl, rfl⟩
theorem st_new (w : World) (B : Nat) : ST (w.alloc (.cells #[.slice none 0 0] 98)) B w.heap.size (.slice none 0 0) [] := ⟨heap_alloc_new _ _, RSp.nil _ _, Canon.nil, by simp⟩
end Go.Proofs.Ytamjbmbflllbfaa
