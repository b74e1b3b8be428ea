/-
  A plain form in memory; the table of shapes; the small functions.
-/
import Derived.Test.YthhghehnaopmhaaDoorFp
import Derived.Test.YthhghehnaopmhaaDoorCs
import Derived.Test.YthhghehnaopmhaaDoorBr
import Derived.Test.YthhghehnaopmhaaDoorFiTools
namespace Go.Proofs.YthhghehnaopmhaaDoor
open Go.RowKit
set_option maxRecDepth 100000

/-- The cells of a plain form, its Spans being some slice. -/
def plL (p : Fm) (sv : Value) : List Value := [.int .u8 p.k, .int .i64 p.id, .int .i64 p.n, .int .i64 p.cd, .bool p.fin, .string p.tx] ++ (p.nc.map (Value.int .u8) ++ [sv])
def plA (p : Fm) (sv : Value) : Array Value := (plL p sv).toArray
theorem plL_len {p : Fm} (h : p.nc.length = 16) (sv : Value) : (plL p sv).length = 23 := by simp [plL, h]
theorem plA_size {p : Fm} (h : p.nc.length = 16) (sv : Value) : (plA p sv).size = 23 := by unfold plA; rw [List.size_toArray]; exact plL_len h sv
theorem plL_one {p : Fm} {sv : Value} (hs : sv.oneCell' = true) : ∀ v ∈ plL p sv, v.oneCell' = true := fun v hv => by
  unfold plL at hv
  rcases List.mem_append.1 hv with h | h
  · simp only [List.mem_cons, List.not_mem_nil, or_false] at h
    rcases h with rfl | rfl | rfl | rfl | rfl | rfl <;> rfl
  · rcases List.mem_append.1 h with h | h
    · obtain ⟨x, _, rfl⟩ := List.mem_map.1 h
      rfl
    · rw [List.mem_singleton.1 h]
      exact hs
theorem infoP : (Tryd.prog.info? 36).map (·.size) = some 23 := by kernel_rfl
theorem infoNc : (Tryd.prog.info? 27).map (·.size) = some 16 := by kernel_rfl
/-- A block that is a plain form. -/
def PF (w : World) (g : Nat) (t : TypeId) (p : Fm) (sv : Value) : Prop := w.heap[g]? = some (.cells (plA p sv) t (0, 0))
theorem PF.new (w : World) (t : TypeId) (p : Fm) (sv : Value) : PF (w.alloc (.cells (plA p sv) t)) w.heap.size t p sv := heap_alloc_new _ _
theorem PF.kept {w w' : World} {g : Nat} {t : TypeId} {p : Fm} {sv : Value} (h : PF w g t p sv) (hb : Below w.heap.size w w') : PF w' g t p sv := blk_kept h hb (blk_lt h)
theorem PF.range {w : World} {g : Nat} {t : TypeId} {p : Fm} {sv : Value} (h : PF w g t p sv) : w.rangeAt g 0 (plL p sv) := blk_range h
/-- What a plain form's cells hold. -/
structure PC (w : World) (g : Nat) (p : Fm) (sv : Value) : Prop where
  c0 : w.cell? ⟨g, 0, none⟩ = some (.int .u8 p.k)
  c1 : w.cell? ⟨g, 1, none⟩ = some (.int .i64 p.id)
  c2 : w.cell? ⟨g, 2, none⟩ = some (.int .i64 p.n)
  c3 : w.cell? ⟨g, 3, none⟩ = some (.int .i64 p.cd)
  c4 : w.cell? ⟨g, 4, none⟩ = some (.bool p.fin)
  c5 : w.cell? ⟨g, 5, none⟩ = some (.string p.tx)
  c22 : w.cell? ⟨g, 22, none⟩ = some sv
  nc : w.rangeAt g 6 (p.nc.map (Value.int .u8))
theorem range_pc {w : World} {g : Nat} {p : Fm} {sv : Value} (h : w.rangeAt g 0 (plL p sv)) (hn : p.nc.length = 16) : PC w g p sv := by
  have hh : ∀ j v, (plL p sv)[j]? = some v → w.cell? ⟨g, j, none⟩ = some v := fun j v hv => by have := h j v hv; rwa [Nat.zero_add] at this
  refine ⟨hh 0 _ rfl, hh 1 _ rfl, hh 2 _ rfl, hh 3 _ rfl, hh 4 _ rfl, hh 5 _ rfl, hh 22 _ ?_, fun j v hv => ?_⟩
  · unfold plL
    rw [List.getElem?_append_right (by simp), List.getElem?_append_right (by simp [hn])]
    simp [hn]
  · have hj : j < 16 := by have := (List.getElem?_eq_some_iff.1 hv).1; rw [List.length_map, hn] at this; exact this
    refine hh (6 + j) v ?_
    unfold plL
    rw [List.getElem?_append_right (by simp), List.getElem?_append_left (by simp [hn]; omega)]
    simpa using hv
theorem PF.pc {w : World} {g : Nat} {t : TypeId} {p : Fm} {sv : Value} (h : PF w g t p sv) (hn : p.nc.length = 16) : PC w g p sv := range_pc h.range hn
/-- The numbers of the kinds' parts. -/
def pkN (k : Int) : Int := if k = 2 then 66 else if k = 3 then 39 else if k = 4 then 11 else if k = 5 then 9 else if k = 6 then 2 else if k = 7 then 3 else if k = 8 then 2 else if k = 9 then 48 else if k = 10 then 40 else 0
/-- The table of shapes, as it is laid. -/
def Shp (w : World) : Prop := ∀ k : Nat, k ≤ 10 → w.cell? ⟨0, k * 2, none⟩ = some (.int .i64 (pkN k)) ∧ w.cell? ⟨0, k * 2 + 1, none⟩ = some (.int .i64 (mT k))
theorem Shp.below {w w' : World} {B : Nat} (h : Shp w) (hb : Below B w w') (hB : 0 < B) : Shp w' := fun k hk => ⟨(hb.cell (p := ⟨0, k * 2, none⟩) hB).trans (h k hk).1, (hb.cell (p := ⟨0, k * 2 + 1, none⟩) hB).trans (h k hk).2⟩
theorem Shp.pos {w : World} (h : Shp w) : 0 < w.heap.size := World.block_lt_of_cell? w _ (h 0 (by omega)).1
/-- Both tables. -/
structure Tb (w : World) : Prop where
  s : Shp w
  v : Fi.Wid w
theorem Tb.below {w w' : World} {B : Nat} (h : Tb w) (hb : Below B w w') (hB : 2 ≤ B) : Tb w' := ⟨h.s.below hb (by omega), h.v.below hb (by omega)⟩
theorem Tb.pos {w : World} (h : Tb w) : 2 ≤ w.heap.size := by have := h.v.pos; omega
theorem Tb.next {w w' : World} (h : Tb w) (hb : Below w.heap.size w w') : Tb w' := h.below hb h.pos
def bandN (x y : Int) : Int := bits .and .i64 x y
set_option maxHeartbeats 1000000 in
theorem has_any (x y q : Int) (w : World) :
    Calls Tryd.prog 27 #[.agg #[.int .i64 x, .int .i64 y], .int .i64 q] w fun e w' => e = .returned (.bool (bandN x q != 0)) ∧ Below w.heap.size w w' := by
  have b1 := al_below w (.cells #[.int .i64 x, .int .i64 y] 63)
  have HB : Hid (Below w.heap.size w (w.alloc (.cells #[.int .i64 x, .int .i64 y] 63))) := b1
  clear b1
  unfold bandN
  go_enter Tryd.func27, Tryd.ntmps27
  go_wp2
  go_ret
  exact ⟨rfl, HB.out⟩
theorem band_tab : ∀ k : Fin 11, (bandN (pkN (k.val : Int)) 1 != 0) = hI k.val ∧ (bandN (pkN (k.val : Int)) 2 != 0) = hN k.val ∧ (bandN (pkN (k.val : Int)) 4 != 0) = hF k.val ∧ (bandN (pkN (k.val : Int)) 8 != 0) = hC k.val ∧ (bandN (pkN (k.val : Int)) 16 != 0) = hO k.val ∧ (bandN (pkN (k.val : Int)) 32 != 0) = hT k.val ∧ (bandN (pkN (k.val : Int)) 64 != 0) = hS k.val := by decide +kernel
/-- Whether a kind has a part: by its number. -/
theorem has_k (k : Int) (h0 : 0 ≤ k) (h1 : k ≤ 10) (w : World) (q : Int) (b : Bool)
    (hq : (q = 1 ∧ b = hI k) ∨ (q = 2 ∧ b = hN k) ∨ (q = 4 ∧ b = hF k) ∨ (q = 8 ∧ b = hC k) ∨ (q = 16 ∧ b = hO k) ∨ (q = 32 ∧ b = hT k) ∨ (q = 64 ∧ b = hS k)) :
    Calls Tryd.prog 27 #[.agg #[.int .i64 (pkN k), .int .i64 (mT k)], .int .i64 q] w fun e w' => e = .returned (.bool b) ∧ Below w.heap.size w w' := by
  have c := has_any (pkN k) (mT k) q w
  have t := band_tab ⟨k.toNat, by omega⟩
  simp only [Int.toNat_of_nonneg h0] at t
  obtain ⟨t1, t2, t3, t4, t5, t6, t7⟩ := t
  have e : (bandN (pkN k) q != 0) = b := by
    rcases hq with ⟨rfl, rfl⟩ | ⟨rfl, rfl⟩ | ⟨rfl, rfl⟩ | ⟨rfl, rfl⟩ | ⟨rfl, rfl⟩ | ⟨rfl, rfl⟩ | ⟨rfl, rfl⟩ <;> assumption
  rw [e] at c
  exact c
set_option maxHeartbeats 1000000 in
theorem isK_any (k : Int) (w : World) :
    Calls Tryd.prog 24 #[.int .u8 k] w fun e w' => e = .returned (.bool (isK k)) ∧ w' = w := by
  unfold isK
  by_cases h1 : 1 ≤ k
  · by_cases h2 : k ≤ 10
    · have t1 : decide ((1 : Int) ≤ k) = true := by simp [h1]
      have t2 : decide (k ≤ (10 : Int)) = true := by simp [h2]
      go_enter Tryd.func24, Tryd.ntmps24
      go_wp2
      go_ret
      exact ⟨by simp [h1, h2], rfl⟩
    · have t1 : decide ((1 : Int) ≤ k) = true := by simp [h1]
      have t2 : decide (k ≤ (10 : Int)) = false := by simp; omega
      go_enter Tryd.func24, Tryd.ntmps24
      go_wp2
      go_ret
      exact ⟨by simp, rfl⟩
  · have t1 : decide ((1 : Int) ≤ k) = false := by simp; omega
    go_enter Tryd.func24, Tryd.ntmps24
    go_wp2
    go_ret
    exact ⟨by simp, rfl⟩
set_option maxHeartbeats 1000000 in
theorem upTo_any (n m : Int) (w : World) :
    Calls Tryd.prog 26 #[.int .i64 n, .int .i64 m] w fun e w' => e = .returned (.bool (decide (0 ≤ n) && decide (n ≤ m))) ∧ w' = w := by
  by_cases h1 : 0 ≤ n
  · by_cases h2 : n ≤ m
    · have t1 : decide ((0 : Int) ≤ n) = true := by simp [h1]
      have t2 : decide (n ≤ m) = true := by simp [h2]
      go_enter Tryd.func26, Tryd.ntmps26
      go_wp2
      go_ret
      exact ⟨by simp [h1, h2], rfl⟩
    · have t1 : decide ((0 : Int) ≤ n) = true := by simp [h1]
      have t2 : decide (n ≤ m) = false := by simp; omega
      go_enter Tryd.func26, Tryd.ntmps26
      go_wp2
      go_ret
      exact ⟨by simp, rfl⟩
  · have t1 : decide ((0 : Int) ≤ n) = false := by simp; omega
    go_enter Tryd.func26, Tryd.ntmps26
    go_wp2
    go_ret
    exact ⟨by simp, rfl⟩
set_option maxHeartbeats 1000000 in
theorem fin_any (b : Bool) (w : World) :
    Calls Tryd.prog 31 #[.bool b] w fun e w' => e = .returned (.int .u8 (finB b)) ∧ w' = w := by
  cases b <;>
  · go_enter Tryd.func31, Tryd.ntmps31
    go_wp2
    go_ret
    exact ⟨rfl, rfl⟩
def fltE (e : Int) : Int := if e = 5 then 4 else e
set_option maxHeartbeats 1000000 in
theorem fault_any (g s : Nat) (xs : List Int) (e : Int) (w : World) (h : Fi.Rd w g s xs e) :
    Calls Tryd.prog 42 #[.pointer (some ⟨g, 0, none⟩)] w fun r w' => r = .returned (.int .i64 (fltE e)) ∧ w' = w := by
  have c := Fi.err_any g s xs e w h
  unfold fltE
  clear h
  by_cases h5 : e = 5
  · subst h5
    go_enter Tryd.func42, Tryd.ntmps42
    go_wp2_with fail
    refine c.mono ?_
    rintro e w1 ⟨rfl, e1⟩
    rw [e1]
    clear c e1
    go_wp2
    go_ret
    exact ⟨rfl, rfl⟩
  · have t1 : (e != 5) = true := by simpa using h5
    rw [if_neg h5]
    go_enter Tryd.func42, Tryd.ntmps42
    go_wp2_with fail
    refine c.mono ?_
    rintro e w1 ⟨rfl, e1⟩
    rw [e1]
    clear c e1
    go_wp2
    go_ret
    exact ⟨rfl, rfl⟩
end Go.Proofs.YthhghehnaopmhaaDoor
