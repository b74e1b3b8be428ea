/-
  Whether a plain form is light.
  A plain form that came in by value.
-/
import Derived.Test.YtmplpdjkhdaniaaGreatDoorWbv
import Derived.Test.YtmplpdjkhdaniaaGreatDoorWbw
import Derived.Test.YtmplpdjkhdaniaaGreatDoorWbj
namespace Go.Proofs.YtmplpdjkhdaniaaGreatDoor
open Go.RowKit Go.Shelf
set_option maxRecDepth 100000

def liM (p : Fm) : Bool := decide ((p.tx.size : Int) ≤ 1200) && decide ((p.sp.length : Int) ≤ 70)
set_option maxHeartbeats 4000000 in
theorem light_any (p : Fm) (u : Value) (w : World) (hn : p.nc.length = 16) (hu : SSp w u p.sp) :
    Calls Tryz.prog 4 #[.agg (plA p u)] w fun e w' => e = .returned (.bool (liM p)) ∧ Below w.heap.size w w' := by
  obtain ⟨W1, hW1⟩ : ∃ W1, W1 = w.alloc (.cells (plA p u) 25) := ⟨_, rfl⟩
  have b1 : Below w.heap.size w W1 := by rw [hW1]; exact al_below _ _
  have g1 : PF W1 w.heap.size 25 p u := by rw [hW1]; exact PF.new w _ p u
  have HB1 : Hid (Below w.heap.size w W1) := b1
  obtain ⟨c0, c1, c2, c3, c4, c5, c22, cn⟩ := g1.pc hn
  obtain ⟨a, c, rfl, -, -, -⟩ := hu.shape
  unfold liM
  generalize p.sp.length = n at *
  clear b1 g1 cn hn hu
  by_cases h1 : (p.tx.size : Int) ≤ 1200
  · have e1 : decide ((p.tx.size : Int) ≤ 1200) = true := decide_eq_true h1
    go_enter Tryz.func4, Tryz.ntmps4
    go_upto_region 1 with fail
    rw [← hW1]
    clear hW1
    go_wp2
    go_ret
    exact ⟨by rw [e1, Bool.true_and]; rfl, HB1.out⟩
  · have e1 : decide ((p.tx.size : Int) ≤ 1200) = false := decide_eq_false h1
    go_enter Tryz.func4, Tryz.ntmps4
    go_upto_region 1 with fail
    rw [← hW1]
    clear hW1
    go_wp2
    go_ret
    exact ⟨by first | (rw [e1, Bool.false_and]; rfl) | rfl, HB1.out⟩
end Go.Proofs.YtmplpdjkhdaniaaGreatDoor
namespace Go.Proofs.YtmplpdjkhdaniaaGreatDoor
open Go.ChangeShapes Go.WideShapes Go.ChangeAt Go.RowKit Go.Deep Go.Shelf
set_option maxRecDepth 100000

theorem vfmi_fi {W : World} {p : Fm} {sv : Value} (h : FmI W p sv) (hl : liM p = true) : FI W p sv ∧ p.sp.length ≤ 1000 ∧ p.tx.size ≤ 100000 := by
  unfold liM at hl
  rw [Bool.and_eq_true, decide_eq_true_eq, decide_eq_true_eq] at hl
  refine ⟨⟨⟨h.k.1, by have := h.k.2; omega, h.id.1, h.id.2, h.n.1, h.n.2, h.cd.1, h.cd.2, h.nl, h.nb⟩, h.sp, by omega, by omega⟩, by omega, by omega⟩
theorem vok_sp {p : Fm} (h : Ok p) : p.sp.length ≤ 64 := by
  by_cases hs : hS p.k = true
  · exact (h.sp hs).2.2
  · rw [h.d.2.2.2.2.2.2 (by simpa using hs)]; simp
theorem vspO_ok {p : Fm} (h : Ok p) : spO p = p.sp := by
  unfold spO
  split
  · rfl
  · rename_i hs
    rw [h.d.2.2.2.2.2.2 (by simpa using hs)]
theorem vok_fp {w : World} {p : Fm} {sv : Value} (hk : FK p) (h : Ok p) (hs : SSp w sv p.sp) : FP w p sv := by
  have ht := h.tx
  have hm := mT_le p.k
  have hl := vok_sp h
  exact ⟨hk, h.kk, h.nb, fun _ => hs, by omega, by omega⟩
/-- A plain form by value. -/
structure PlnI (W : World) (v : Value) (q : Fm × Value) : Prop where
  v : v = .agg (plA q.1 q.2)
  i : FmI W q.1 q.2
theorem pln_in {H : Type} {enc : TypeId × Value → H} {W : World} {base : Nat} {v : Value} {d : DataW H} {p : List MemPlace}
    (hval : Value.okWide Tryz.prog W .any base 25 v) (h : DataW.Trod enc Tryz.prog W 0 (fun _ => true) true 25 v d p) : ∃ q, PlnI W v q := by
  obtain ⟨cs, rfl, hsz⟩ := okWide_struct Tryz.underlying25 hval
  obtain ⟨fuel, hf⟩ := h
  obtain ⟨q, sv, e, hi⟩ := fm_trod hf
  refine ⟨(q, sv), ?_, hi⟩
  congr 1
  apply Array.ext'
  have e' : cs.toList = plL q sv := e
  rw [e']
  rfl
end Go.Proofs.YtmplpdjkhdaniaaGreatDoor
