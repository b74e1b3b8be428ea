/-
  Whether a state may be.
-/
import Derived.Test.YtbomkapnkpjjbaaOrd
namespace Go.Proofs.Ytbomkapnkpjjbaa
open Go.RowKit

def chk (x : Sta) : Bool := if x.h = true then tm x.l && tm x.m && tm x.s && tm x.v && decide (x.m ≤ x.l) else decide (x.l = 0) && decide (x.m = 0) && decide (x.s = 0) && decide (x.v = 0)
def kn (x : Sta) : Bool := x.h && chk x
theorem heap_new (w : World) (o : Obj) : (w.alloc o).heap[w.heap.size]? = some o := heap_alloc_new w o
/-- A block that is a state. -/
def SB (w : World) (g : Nat) (t : TypeId) (x : Sta) : Prop := w.heap[g]? = some (.cells x.c t (0, 0))
theorem SB.lt {w : World} {g : Nat} {t : TypeId} {x : Sta} (h : SB w g t x) : g < w.heap.size := (Array.getElem?_eq_some_iff.1 h).1
theorem SB.kept {w w' : World} {g : Nat} {t : TypeId} {x : Sta} (h : SB w g t x) (hb : Below w.heap.size w w') : SB w' g t x := (hb.block g h.lt).trans h
structure SC (w : World) (g : Nat) (x : Sta) : Prop where
  c0 : w.cell? ⟨g, 0, none⟩ = some (.bool x.h)
  c1 : w.cell? ⟨g, 1, none⟩ = some (.int .i64 x.l)
  c2 : w.cell? ⟨g, 2, none⟩ = some (.int .i64 x.m)
  c3 : w.cell? ⟨g, 3, none⟩ = some (.int .i64 x.s)
  c4 : w.cell? ⟨g, 4, none⟩ = some (.int .i64 x.v)
theorem SB.sc {w : World} {g : Nat} {t : TypeId} {x : Sta} (h : SB w g t x) : SC w g x := by
  unfold SB at h
  refine ⟨?_, ?_, ?_, ?_, ?_⟩ <;> simp [World.cell?, h, Sta.c]
set_option maxHeartbeats 8000000 in
theorem check_any (h : Bool) (l m s v : Int) (w : World) : Calls Try.prog 10 #[.agg #[.bool h, .int .i64 l, .int .i64 m, .int .i64 s, .int .i64 v]] w fun e w' => e = .returned (.bool (chk ⟨h, l, m, s, v⟩)) ∧ Below w.heap.size w w' := by
  obtain ⟨W1, hW1⟩ : ∃ W1, W1 = w.alloc (.cells #[.bool h, .int .i64 l, .int .i64 m, .int .i64 s, .int .i64 v] 24) := ⟨_, rfl⟩
  have b1 : Below w.heap.size w W1 := by rw [hW1]; exact al_below _ _
  have g1 : SB W1 w.heap.size 24 ⟨h, l, m, s, v⟩ := by rw [hW1]; exact heap_new _ _
  have HB : Hid (Below w.heap.size w W1) := b1
  obtain ⟨c0, c1, c2, c3, c4⟩ := g1.sc
  clear b1 g1
  cases h
  · have e : chk ⟨false, l, m, s, v⟩ = (decide (l = 0) && decide (m = 0) && decide (s = 0) && decide (v = 0)) := rfl
    rw [e]
    clear e
    by_cases zl : l = 0
    · subst zl
      by_cases zm : m = 0
      · subst zm
        by_cases zs : s = 0
        · subst zs
          by_cases zv : v = 0
          · subst zv
            go_enter Try.func10, Try.ntmps10
            go_upto_region 1 with fail
            rw [← hW1]
            clear hW1
            go_wp2
            go_ret
            exact ⟨by simp [*], HB.out⟩
          · go_enter Try.func10, Try.ntmps10
            go_upto_region 1 with fail
            rw [← hW1]
            clear hW1
            go_wp2
            go_ret
            exact ⟨by simp [*], HB.out⟩
        · go_enter Try.func10, Try.ntmps10
          go_upto_region 1 with fail
          rw [← hW1]
          clear hW1
          go_wp2
          go_ret
          exact ⟨by simp [*], HB.out⟩
      · go_enter Try.func10, Try.ntmps10
        go_upto_region 1 with fail
        rw [← hW1]
        clear hW1
        go_wp2
        go_ret
        exact ⟨by simp [*], HB.out⟩
    · go_enter Try.func10, Try.ntmps10
      go_upto_region 1 with fail
      rw [← hW1]
      clear hW1
      go_wp2
      go_ret
      exact ⟨by simp [*], HB.out⟩
  · have e : chk ⟨true, l, m, s, v⟩ = (tm l && tm m && tm s && tm v && decide (m ≤ l)) := rfl
    rw [e]
    clear e
    by_cases yl : tm l = true
    ·
      by_cases ym : tm m = true
      ·
        by_cases ys : tm s = true
        ·
          by_cases yv : tm v = true
          ·
            by_cases hm : m ≤ l
            · go_enter Try.func10, Try.ntmps10
              go_upto_region 1 with fail
              rw [← hW1]
              clear hW1
              go_wp2_with fail
              refine (isTime_any _ _).mono ?_
              rintro e w' ⟨rfl, rfl⟩
              go_wp2_with fail
              refine (isTime_any _ _).mono ?_
              rintro e w' ⟨rfl, rfl⟩
              go_wp2_with fail
              refine (isTime_any _ _).mono ?_
              rintro e w' ⟨rfl, rfl⟩
              go_wp2_with fail
              refine (isTime_any _ _).mono ?_
              rintro e w' ⟨rfl, rfl⟩
              go_wp2
              go_ret
              exact ⟨by simp [*], HB.out⟩
            · go_enter Try.func10, Try.ntmps10
              go_upto_region 1 with fail
              rw [← hW1]
              clear hW1
              go_wp2_with fail
              refine (isTime_any _ _).mono ?_
              rintro e w' ⟨rfl, rfl⟩
              go_wp2_with fail
              refine (isTime_any _ _).mono ?_
              rintro e w' ⟨rfl, rfl⟩
              go_wp2_with fail
              refine (isTime_any _ _).mono ?_
              rintro e w' ⟨rfl, rfl⟩
              go_wp2_with fail
              refine (isTime_any _ _).mono ?_
              rintro e w' ⟨rfl, rfl⟩
              go_wp2
              go_ret
              exact ⟨by simp [*], HB.out⟩
          · have yv' : tm v = false := by simpa using yv
            clear yv
            go_enter Try.func10, Try.ntmps10
            go_upto_region 1 with fail
            rw [← hW1]
            clear hW1
            go_wp2_with fail
            refine (isTime_any _ _).mono ?_
            rintro e w' ⟨rfl, rfl⟩
            go_wp2_with fail
            refine (isTime_any _ _).mono ?_
            rintro e w' ⟨rfl, rfl⟩
            go_wp2_with fail
            refine (isTime_any _ _).mono ?_
            rintro e w' ⟨rfl, rfl⟩
            go_wp2_with fail
            refine (isTime_any _ _).mono ?_
            rintro e w' ⟨rfl, rfl⟩
            go_wp2
            go_ret
            exact ⟨by simp [*], HB.out⟩
        · have ys' : tm s = false := by simpa using ys
          clear ys
          go_enter Try.func10, Try.ntmps10
          go_upto_region 1 with fail
          rw [← hW1]
          clear hW1
          go_wp2_with fail
          refine (isTime_any _ _).mono ?_
          rintro e w' ⟨rfl, rfl⟩
          go_wp2_with fail
          refine (isTime_any _ _).mono ?_
          rintro e w' ⟨rfl, rfl⟩
          go_wp2_with fail
          refine (isTime_any _ _).mono ?_
          rintro e w' ⟨rfl, rfl⟩
          go_wp2
          go_ret
          exact ⟨by simp [*], HB.out⟩
      · have ym' : tm m = false := by simpa using ym
        clear ym
        go_enter Try.func10, Try.ntmps10
        go_upto_region 1 with fail
        rw [← hW1]
        clear hW1
        go_wp2_with fail
        refine (isTime_any _ _).mono ?_
        rintro e w' ⟨rfl, rfl⟩
        go_wp2_with fail
        refine (isTime_any _ _).mono ?_
        rintro e w' ⟨rfl, rfl⟩
        go_wp2
        go_ret
        exact ⟨by simp [*], HB.out⟩
    · have yl' : tm l = false := by simpa using yl
      clear yl
      go_enter Try.func10, Try.ntmps10
      go_upto_region 1 with fail
      rw [← hW1]
      clear hW1
      go_wp2_with fail
      refine (isTime_any _ _).mono ?_
      rintro e w' ⟨rfl, rfl⟩
      go_wp2
      go_ret
      exact ⟨by simp [*], HB.out⟩
theorem isKnown_any (h : Bool) (l m s v : Int) (w : World) : Calls Try.prog 18 #[.agg #[.bool h, .int .i64 l, .int .i64 m, .int .i64 s, .int .i64 v]] w fun e w' => e = .returned (.bool (kn ⟨h, l, m, s, v⟩)) ∧ Below w.heap.size w w' := by
  obtain ⟨W1, hW1⟩ : ∃ W1, W1 = w.alloc (.cells #[.bool h, .int .i64 l, .int .i64 m, .int .i64 s, .int .i64 v] 24) := ⟨_, rfl⟩
  have b1 : Below w.heap.size w W1 := by rw [hW1]; exact al_below _ _
  have g1 : SB W1 w.heap.size 24 ⟨h, l, m, s, v⟩ := by rw [hW1]; exact heap_new _ _
  have HB : Hid (Below w.heap.size w W1) := b1
  obtain ⟨c0, c1, c2, c3, c4⟩ := g1.sc
  have cc := check_any h l m s v W1
  clear b1 g1
  cases h
  · go_enter Try.func18, Try.ntmps18
    go_upto_region 1 with fail
    rw [← hW1]
    clear hW1
    go_wp2
    go_ret
    exact ⟨rfl, HB.out⟩
  · go_enter Try.func18, Try.ntmps18
    go_upto_region 1 with fail
    rw [← hW1]
    clear hW1
    go_wp2_with fail
    refine cc.mono ?_
    rintro e w2 ⟨rfl, b2⟩
    have HB2 : Hid (Below w.heap.size w w2) := HB.out.trans (b2.mono HB.out.size)
    clear cc b2
    go_wp2
    go_ret
    exact ⟨rfl, HB2.out⟩
theorem rtime_any (n : Int) (w : World) : Calls Try.prog 21 #[.int .i64 n] w fun e w' => e = .returned (.bool (tm n)) ∧ w' = w := by
  by_cases h0 : 0 ≤ n
  · by_cases h1 : n ≤ 1099511627776
    · have e : tm n = true := tm_iff.2 ⟨h0, h1⟩
      rw [e]
      go_enter Try.func21, Try.ntmps21
      go_wp2
      go_ret
      exact ⟨rfl, rfl⟩
    · have e : tm n = false := by unfold tm; simp [h1]
      rw [e]
      go_enter Try.func21, Try.ntmps21
      go_wp2
      go_ret
      exact ⟨rfl, rfl⟩
  · have e : tm n = false := by unfold tm; simp [h0]
    rw [e]
    go_enter Try.func21, Try.ntmps21
    go_wp2
    go_ret
    exact ⟨rfl, rfl⟩
set_option maxHeartbeats 8000000 in
theorem rcheck_any (h : Bool) (l m s v : Int) (w : World) : Calls Try.prog 11 #[.agg #[.bool h, .int .i64 l, .int .i64 m, .int .i64 s, .int .i64 v]] w fun e w' => e = .returned (.bool (chk ⟨h, l, m, s, v⟩)) ∧ Below w.heap.size w w' := by
  obtain ⟨W1, hW1⟩ : ∃ W1, W1 = w.alloc (.cells #[.bool h, .int .i64 l, .int .i64 m, .int .i64 s, .int .i64 v] 23) := ⟨_, rfl⟩
  have b1 : Below w.heap.size w W1 := by rw [hW1]; exact al_below _ _
  have g1 : SB W1 w.heap.size 23 ⟨h, l, m, s, v⟩ := by rw [hW1]; exact heap_new _ _
  have HB : Hid (Below w.heap.size w W1) := b1
  obtain ⟨c0, c1, c2, c3, c4⟩ := g1.sc
  clear b1 g1
  cases h
  · have e : chk ⟨false, l, m, s, v⟩ = (decide (l = 0) && decide (m = 0) && decide (s = 0) && decide (v = 0)) := rfl
    rw [e]
    clear e
    by_cases zl : l = 0
    · subst zl
      by_cases zm : m = 0
      · subst zm
        by_cases zs : s = 0
        · subst zs
          by_cases zv : v = 0
          · subst zv
            go_enter Try.func11, Try.ntmps11
            go_upto_region 1 with fail
            rw [← hW1]
            clear hW1
            go_wp2
            go_ret
            exact ⟨by simp [*], HB.out⟩
          · go_enter Try.func11, Try.ntmps11
            go_upto_region 1 with fail
            rw [← hW1]
            clear hW1
            go_wp2
            go_ret
            exact ⟨by simp [*], HB.out⟩
        · go_enter Try.func11, Try.ntmps11
          go_upto_region 1 with fail
          rw [← hW1]
          clear hW1
          go_wp2
          go_ret
          exact ⟨by simp [*], HB.out⟩
      · go_enter Try.func11, Try.ntmps11
        go_upto_region 1 with fail
        rw [← hW1]
        clear hW1
        go_wp2
        go_ret
        exact ⟨by simp [*], HB.out⟩
    · go_enter Try.func11, Try.ntmps11
      go_upto_region 1 with fail
      rw [← hW1]
      clear hW1
      go_wp2
      go_ret
      exact ⟨by simp [*], HB.out⟩
  · have e : chk ⟨true, l, m, s, v⟩ = (tm l && tm m && tm s && tm v && decide (m ≤ l)) := rfl
    rw [e]
    clear e
    by_cases yl : tm l = true
    ·
      by_cases ym : tm m = true
      ·
        by_cases ys : tm s = true
        ·
          by_cases yv : tm v = true
          ·
            by_cases hm : m ≤ l
            · go_enter Try.func11, Try.ntmps11
              go_upto_region 1 with fail
              rw [← hW1]
              clear hW1
              go_wp2_with fail
              refine (rtime_any _ _).mono ?_
              rintro e w' ⟨rfl, rfl⟩
              go_wp2_with fail
              refine (rtime_any _ _).mono ?_
              rintro e w' ⟨rfl, rfl⟩
              go_wp2_with fail
              refine (rtime_any _ _).mono ?_
              rintro e w' ⟨rfl, rfl⟩
              go_wp2_with fail
              refine (rtime_any _ _).mono ?_
              rintro e w' ⟨rfl, rfl⟩
              go_wp2
              go_ret
              exact ⟨by simp [*], HB.out⟩
            · go_enter Try.func11, Try.ntmps11
              go_upto_region 1 with fail
              rw [← hW1]
              clear hW1
              go_wp2_with fail
              refine (rtime_any _ _).mono ?_
              rintro e w' ⟨rfl, rfl⟩
              go_wp2_with fail
              refine (rtime_any _ _).mono ?_
              rintro e w' ⟨rfl, rfl⟩
              go_wp2_with fail
              refine (rtime_any _ _).mono ?_
              rintro e w' ⟨rfl, rfl⟩
              go_wp2_with fail
              refine (rtime_any _ _).mono ?_
              rintro e w' ⟨rfl, rfl⟩
              go_wp2
              go_ret
              exact ⟨by simp [*], HB.out⟩
          · have yv' : tm v = false := by simpa using yv
            clear yv
            go_enter Try.func11, Try.ntmps11
            go_upto_region 1 with fail
            rw [← hW1]
            clear hW1
            go_wp2_with fail
            refine (rtime_any _ _).mono ?_
            rintro e w' ⟨rfl, rfl⟩
            go_wp2_with fail
            refine (rtime_any _ _).mono ?_
            rintro e w' ⟨rfl, rfl⟩
            go_wp2_with fail
            refine (rtime_any _ _).mono ?_
            rintro e w' ⟨rfl, rfl⟩
            go_wp2_with fail
            refine (rtime_any _ _).mono ?_
            rintro e w' ⟨rfl, rfl⟩
            go_wp2
            go_ret
            exact ⟨by simp [*], HB.out⟩
        · have ys' : tm s = false := by simpa using ys
          clear ys
          go_enter Try.func11, Try.ntmps11
          go_upto_region 1 with fail
          rw [← hW1]
          clear hW1
          go_wp2_with fail
          refine (rtime_any _ _).mono ?_
          rintro e w' ⟨rfl, rfl⟩
          go_wp2_with fail
          refine (rtime_any _ _).mono ?_
          rintro e w' ⟨rfl, rfl⟩
          go_wp2_with fail
          refine (rtime_any _ _).mono ?_
          rintro e w' ⟨rfl, rfl⟩
          go_wp2
          go_ret
          exact ⟨by simp [*], HB.out⟩
      · have ym' : tm m = false := by simpa using ym
        clear ym
        go_enter Try.func11, Try.ntmps11
        go_upto_region 1 with fail
        rw [← hW1]
        clear hW1
        go_wp2_with fail
        refine (rtime_any _ _).mono ?_
        rintro e w' ⟨rfl, rfl⟩
        go_wp2_with fail
        refine (rtime_any _ _).mono ?_
        rintro e w' ⟨rfl, rfl⟩
        go_wp2
        go_ret
        exact ⟨by simp [*], HB.out⟩
    · have yl' : tm l = false := by simpa using yl
      clear yl
      go_enter Try.func11, Try.ntmps11
      go_upto_region 1 with fail
      rw [← hW1]
      clear hW1
      go_wp2_with fail
      refine (rtime_any _ _).mono ?_
      rintro e w' ⟨rfl, rfl⟩
      go_wp2
      go_ret
      exact ⟨by simp [*], HB.out⟩
end Go.Proofs.Ytbomkapnkpjjbaa
