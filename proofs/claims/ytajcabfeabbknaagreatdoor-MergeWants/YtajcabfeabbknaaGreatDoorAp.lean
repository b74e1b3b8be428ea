/-
  What Apply and Path answer.
-/
import Derived.Test.YtajcabfeabbknaaGreatDoorMu
import Derived.Test.YtajcabfeabbknaaGreatDoorPu
import Derived.Test.YtajcabfeabbknaaGreatDoorRm
namespace Go.Proofs.YtajcabfeabbknaaGreatDoor
open Go.RowKit

theorem got_lt {l : List En} (h : Lt l) (q : List UInt8) : (got l q).p.size ≤ 1000 ∧ (got l q).z.length ≤ 100000 := by
  unfold got
  split
  · decide
  · exact h.at _
set_option maxHeartbeats 2000000 in
theorem putFile_any (v u : Value) (l m : List En) (to q : ByteArray) (w : World) (h : ES w v l) (hl : Lt l) (hu : ES w u m) (hlm : Lt m) (ht : to.size ≤ 1000) (hm : Mx w) :
    Calls Tryz.prog 43 #[v, .string to, u, .string q] w fun e w' => ∃ v', e = .returned (.tuple #[v', .int .i64 (pf l to m (dl q)).2]) ∧ OE w' w.heap.size v' (pf l to m (dl q)).1 ∧ Below w.heap.size w w' := by
  have CG := get_any u m q w hu hlm
  have HG := (got_lt hlm (dl q)).2
  have HPU : Hid (∀ W y, Below w.heap.size w W → Sl W y (got m (dl q)).z → ∀ ya yn yc, y = .slice ya yn yc → Calls Tryz.prog 45 #[v, .agg #[.string to, .bool false, .slice ya yn yc]] W fun e w' => ∃ v', e = .returned (.tuple #[v', .int .i64 (put l ⟨to, false, (got m (dl q)).z⟩).2]) ∧ OE w' W.heap.size v' (put l ⟨to, false, (got m (dl q)).z⟩).1 ∧ Below W.heap.size W w') := fun W y hb hs ya yn yc e =>
    put_any v _ l ⟨to, false, (got m (dl q)).z⟩ W (h.kept hb) hl ⟨ya, yn, yc, rfl, by rw [← e]; exact hs⟩ ht HG (hm.kept hb)
  have HR : Hid (pf l to m (dl q) = if hK m (dl q) false then put l ⟨to, false, (got m (dl q)).z⟩ else ([], 8)) := rfl
  have HK : Hid (hK m (dl q) false = (gotB m (dl q) && decide ((got m (dl q)).d = false))) := rfl
  obtain ⟨a, c, rfl, _, _, _⟩ := h.shape
  obtain ⟨a2, c2, rfl, _, _, _⟩ := hu.shape
  generalize pf l to m (dl q) = R at *
  generalize hK m (dl q) false = hb at *
  generalize put l ⟨to, false, (got m (dl q)).z⟩ = RP at *
  generalize gotB m (dl q) = gb at *
  generalize got m (dl q) = gx at *
  generalize l.length = n at *
  generalize m.length = n2 at *
  clear h hl hu hlm ht hm HG
  go_enter Tryz.func43, Tryz.ntmps43
  go_wp2_with fail
  refine CG.mono ?_
  rintro e w2 ⟨u2, rfl, ev, b2⟩
  obtain ⟨ya, yn, yc, rfl, sy⟩ := ev
  obtain ⟨W3, hW3⟩ : ∃ W3, W3 = w2.alloc (.cells #[.string gx.p, .bool gx.d, .slice ya yn yc] 46) := ⟨_, rfl⟩
  have b3 : Below w2.heap.size w2 W3 := by rw [hW3]; exact (Below.refl _ _).alloc (Nat.le_refl _) _
  have B3 : Hid (Below w.heap.size w W3) := b2.trans (b3.mono b2.size)
  have B3' : Hid (Below w.heap.size w (w2.alloc (.cells #[.string gx.p, .bool gx.d, .slice ya yn yc] 46))) := by rw [← hW3]; exact B3.out
  have C3 := HPU.out W3 (.slice ya yn yc) B3.out (sy.kept b3) ya yn yc rfl
  have S3 : Hid (w.heap.size ≤ W3.heap.size) := B3.out.size
  clear CG b2 b3 HPU sy
  generalize gx.p = yp at *
  generalize gx.d = yd at *
  cases gb with
  | false =>
    have HR2 : Hid (R = ([], 8)) := by unfold Hid; rw [HR.out, HK.out]; rfl
    clear HR HK hW3
    go_wp2
    refine bodyPost_ret (v := .tuple #[.slice none 0 0, .int .i64 8]) ?h1 rfl ?_
    case h1 => simp [results, Tryz.results43, go_sem, *]
    exact ⟨_, by rw [HR2.out], by rw [HR2.out]; exact OE.nil _ _, B3'.out⟩
  | true =>
  cases yd with
  | true =>
    have HR2 : Hid (R = ([], 8)) := by unfold Hid; rw [HR.out, HK.out]; rfl
    clear HR HK hW3
    go_wp2
    refine bodyPost_ret (v := .tuple #[.slice none 0 0, .int .i64 8]) ?h2 rfl ?_
    case h2 => simp [results, Tryz.results43, go_sem, *]
    exact ⟨_, by rw [HR2.out], by rw [HR2.out]; exact OE.nil _ _, B3'.out⟩
  | false =>
    have HR2 : Hid (R = RP) := by unfold Hid; rw [HR.out, HK.out]; rfl
    clear HR HK B3'
    go_wp2_with fail
    rw [← hW3]
    clear hW3
    refine C3.mono ?_
    rintro e w4 ⟨v4, rfl, o4, b4⟩
    have B4 : Hid (Below w.heap.size w w4) := B3.out.trans (b4.mono B3.out.size)
    have O4 : Hid (OE w4 W3.heap.size v4 RP.1) := o4
    obtain ⟨va, vc, rfl, _, _, _⟩ := o4.es.shape
    clear C3 b4 o4
    generalize hrk : RP.2 = rk at *
    generalize RP.1.length = rn at *
    go_wp2
    refine bodyPost_ret (v := .tuple #[.slice va rn vc, .int .i64 rk]) ?h3 rfl ?_
    case h3 => simp [results, Tryz.results43, go_sem, *]
    exact ⟨_, by rw [HR2.out, hrk], by rw [HR2.out]; exact O4.out.mono S3.out, B4.out⟩

/-- A value that is a step. -/
def SV (v : Value) (x : St) : Prop := v = .agg #[.int .u8 x.κ, .string x.p, .string x.t]
set_option maxHeartbeats 2000000 in
theorem apply_any (v u : Value) (l s : List En) (x : St) (w : World) (h : ES w v l) (hl : Lt l) (hu : ES w u s) (hls : Lt s) (hp : x.p.size ≤ 1000) (ht : x.t.size ≤ 1000) (hm : Mx w) :
    Calls Tryz.prog 14 #[v, .agg #[.int .u8 x.κ, .string x.p, .string x.t], u] w fun e w' => ∃ v', e = .returned (.tuple #[v', .int .i64 (apl l x s).2]) ∧ OE w' w.heap.size v' (apl l x s).1 ∧ Below w.heap.size w w' := by
  obtain ⟨W1, hW1⟩ : ∃ W1, W1 = w.alloc (.cells #[.int .u8 x.κ, .string x.p, .string x.t] 51) := ⟨_, rfl⟩
  have b1 : Below w.heap.size w W1 := by rw [hW1]; exact (Below.refl _ _).alloc (Nat.le_refl _) _
  have B1 : Hid (Below w.heap.size w W1) := b1
  have C0 := putFile_any v v l l x.t x.p W1 (h.kept b1) hl (h.kept b1) hl ht (hm.kept b1)
  have C1 := rem_any v l x.p W1 (h.kept b1) hl (hm.kept b1)
  have C2 := put_any v (.agg #[.string x.p, .bool true, .slice none 0 0]) l ⟨x.p, true, []⟩ W1 (h.kept b1) hl ⟨none, 0, 0, rfl, Sl.none _⟩ hp (by simp) (hm.kept b1)
  have C3 := putFile_any v u l s x.p x.p W1 (h.kept b1) hl (hu.kept b1) hls hp (hm.kept b1)
  have HR : Hid (apl l x s = if x.κ = 0 then pf l x.t l (dl x.p) else if x.κ = 1 then rem l (dl x.p) else if x.κ = 2 then put l ⟨x.p, true, []⟩ else if x.κ = 3 then pf l x.p s (dl x.p) else ([], 2)) := rfl
  have S1 : Hid (w.heap.size ≤ W1.heap.size) := b1.size
  obtain ⟨a, c, rfl, _, _, _⟩ := h.shape
  obtain ⟨a2, c2, rfl, _, _, _⟩ := hu.shape
  generalize apl l x s = R at *
  generalize pf l x.t l (dl x.p) = R0 at *
  generalize rem l (dl x.p) = R1 at *
  generalize put l ⟨x.p, true, []⟩ = R2 at *
  generalize pf l x.p s (dl x.p) = R3 at *
  generalize x.κ = κ at *
  generalize x.p = xp at *
  generalize x.t = xt at *
  generalize l.length = n at *
  generalize s.length = n2 at *
  clear h hl hu hls hp ht hm b1
  go_enter Tryz.func14, Tryz.ntmps14
  by_cases h0 : κ = 0
  · subst h0
    have HR2 : Hid (R = R0) := by unfold Hid; rw [HR.out, if_pos rfl]
    clear HR C1 C2 C3
    go_wp2_with fail
    rw [← hW1]
    clear hW1
    refine C0.mono ?_
    rintro e w2 ⟨v2, rfl, o2, b2⟩
    have B2 : Hid (Below w.heap.size w w2) := B1.out.trans (b2.mono B1.out.size)
    have O2 : Hid (OE w2 W1.heap.size v2 R0.1) := o2
    obtain ⟨va, vc, rfl, _, _, _⟩ := o2.es.shape
    clear C0 b2 o2
    generalize hrk : R0.2 = rk at *
    generalize R0.1.length = rn at *
    go_wp2
    refine bodyPost_ret (v := .tuple #[.slice va rn vc, .int .i64 rk]) ?h0 rfl ?_
    case h0 => simp [results, Tryz.results14, go_sem, *]
    exact ⟨_, by rw [HR2.out, hrk], by rw [HR2.out]; exact O2.out.mono S1.out, B2.out⟩
  by_cases h1 : κ = 1
  · subst h1
    have HR2 : Hid (R = R1) := by unfold Hid; rw [HR.out, if_neg (by omega), if_pos rfl]
    clear HR C0 C2 C3
    go_wp2_with fail
    rw [← hW1]
    clear hW1
    refine C1.mono ?_
    rintro e w2 ⟨v2, rfl, o2, b2⟩
    have B2 : Hid (Below w.heap.size w w2) := B1.out.trans (b2.mono B1.out.size)
    have O2 : Hid (OE w2 W1.heap.size v2 R1.1) := o2
    obtain ⟨va, vc, rfl, _, _, _⟩ := o2.es.shape
    clear C1 b2 o2
    generalize hrk : R1.2 = rk at *
    generalize R1.1.length = rn at *
    go_wp2
    refine bodyPost_ret (v := .tuple #[.slice va rn vc, .int .i64 rk]) ?h1 rfl ?_
    case h1 => simp [results, Tryz.results14, go_sem, *]
    exact ⟨_, by rw [HR2.out, hrk], by rw [HR2.out]; exact O2.out.mono S1.out, B2.out⟩
  by_cases h2 : κ = 2
  · subst h2
    have HR2 : Hid (R = R2) := by unfold Hid; rw [HR.out, if_neg (by omega), if_neg (by omega), if_pos rfl]
    clear HR C0 C1 C3
    go_wp2_with fail
    rw [← hW1]
    clear hW1
    refine C2.mono ?_
    rintro e w2 ⟨v2, rfl, o2, b2⟩
    have B2 : Hid (Below w.heap.size w w2) := B1.out.trans (b2.mono B1.out.size)
    have O2 : Hid (OE w2 W1.heap.size v2 R2.1) := o2
    obtain ⟨va, vc, rfl, _, _, _⟩ := o2.es.shape
    clear C2 b2 o2
    generalize hrk : R2.2 = rk at *
    generalize R2.1.length = rn at *
    go_wp2
    refine bodyPost_ret (v := .tuple #[.slice va rn vc, .int .i64 rk]) ?h2 rfl ?_
    case h2 => simp [results, Tryz.results14, go_sem, *]
    exact ⟨_, by rw [HR2.out, hrk], by rw [HR2.out]; exact O2.out.mono S1.out, B2.out⟩
  by_cases h3 : κ = 3
  · subst h3
    have HR2 : Hid (R = R3) := by unfold Hid; rw [HR.out, if_neg (by omega), if_neg (by omega), if_neg (by omega), if_pos rfl]
    clear HR C0 C1 C2
    go_wp2_with fail
    rw [← hW1]
    clear hW1
    refine C3.mono ?_
    rintro e w2 ⟨v2, rfl, o2, b2⟩
    have B2 : Hid (Below w.heap.size w w2) := B1.out.trans (b2.mono B1.out.size)
    have O2 : Hid (OE w2 W1.heap.size v2 R3.1) := o2
    obtain ⟨va, vc, rfl, _, _, _⟩ := o2.es.shape
    clear C3 b2 o2
    generalize hrk : R3.2 = rk at *
    generalize R3.1.length = rn at *
    go_wp2
    refine bodyPost_ret (v := .tuple #[.slice va rn vc, .int .i64 rk]) ?h3 rfl ?_
    case h3 => simp [results, Tryz.results14, go_sem, *]
    exact ⟨_, by rw [HR2.out, hrk], by rw [HR2.out]; exact O2.out.mono S1.out, B2.out⟩
  have HR2 : Hid (R = ([], 2)) := by unfold Hid; rw [HR.out, if_neg h0, if_neg h1, if_neg h2, if_neg h3]
  have B1' : Hid (Below w.heap.size w (w.alloc (.cells #[.int .u8 κ, .string xp, .string xt] 51))) := by rw [← hW1]; exact B1.out
  have n0 : (κ == 0) = false := by simp [h0]
  have n1 : (κ == 1) = false := by simp [h1]
  have n2' : (κ == 2) = false := by simp [h2]
  have n3 : (κ == 3) = false := by simp [h3]
  clear HR C0 C1 C2 C3 hW1
  go_wp2
  refine bodyPost_ret (v := .tuple #[.slice none 0 0, .int .i64 2]) ?h9 rfl ?_
  case h9 => simp [results, Tryz.results14, go_sem, *]
  exact ⟨_, by rw [HR2.out], by rw [HR2.out]; exact OE.nil _ _, B1'.out⟩
end Go.Proofs.YtajcabfeabbknaaGreatDoor
