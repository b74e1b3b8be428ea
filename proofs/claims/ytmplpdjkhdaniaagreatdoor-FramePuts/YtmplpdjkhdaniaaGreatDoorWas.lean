/-
  What a nil Reader answers; two parts joined; bytes as a string.
  A plain form in memory; the table of shapes; the small functions.
  What the document's Num, Text and Join answer: just the bytes that field's do; nothing that was there is changed.
-/
import Derived.Test.YtmplpdjkhdaniaaGreatDoorWai
import Derived.Test.YtmplpdjkhdaniaaGreatDoorWaa
import Derived.Test.YtmplpdjkhdaniaaGreatDoorWaq
import Derived.Lib.AppendStr
import Derived.Test.YtmplpdjkhdaniaaGreatDoorWar
namespace Go.Proofs.YtmplpdjkhdaniaaGreatDoor.Fi
open Go.RowKit
set_option maxRecDepth 100000

theorem parts2 (w : World) (u1 u2 : Value) (X Y : List Int) (s1 : Sl w u1 X) (s2 : Sl w u2 Y) : Parts (w.alloc (.cells #[u1, u2] 34)) (some ⟨w.heap.size, 0, none⟩) [X, Y] := by
  have hb : Below w.heap.size w (w.alloc (.cells #[u1, u2] 34)) := (Below.refl _ _).alloc (Nat.le_refl _) _
  refine ⟨by simp, .inr ⟨_, 0, rfl, fun i hi => ?_⟩⟩
  have hi2 : i = 0 ∨ i = 1 := by simp at hi; omega
  rcases hi2 with rfl | rfl
  · exact ⟨u1, by rw [World.cell?_alloc_at _ _ _ _ rfl]; rfl, s1.kept hb⟩
  · exact ⟨u2, by rw [World.cell?_alloc_at _ _ _ _ rfl]; rfl, s2.kept hb⟩

/-- 'string(b)'. -/
theorem Sl.conv {w : World} {a : Option Addr} {len cap : Nat} {xs : List Int} (h : Sl w (.slice a len cap) xs) : (convert 34 9 (.slice a len cap)).run Tryz.prog w = .ok (.string (strB xs)) w := by
  obtain ⟨a', cap', e, h1, h2, h3, h4⟩ := h
  cases e
  have := conv_any a xs.length cap xs w (Nat.le_refl _) h4
  rwa [List.take_length] at this

end Go.Proofs.YtmplpdjkhdaniaaGreatDoor.Fi
namespace Go.Proofs.YtmplpdjkhdaniaaGreatDoor
open Go.RowKit
set_option maxRecDepth 100000

/-- The cells of a plain form, its Spans being some slice. -/
def plL (p : Fm) (sv : Value) : List Value := [.int .u8 p.k, .int .i64 p.id, .int .i64 p.n, .int .i64 p.cd, .bool p.fin, .string p.tx] ++ (p.nc.map (Value.int .u8) ++ [sv])
def plA (p : Fm) (sv : Value) : Array Value := (plL p sv).toArray
theorem plL_len {p : Fm} (h : p.nc.length = 16) (sv : Value) : (plL p sv).length = 23 := by simp [plL, h]
theorem plA_size {p : Fm} (h : p.nc.length = 16) (sv : Value) : (plA p sv).size = 23 := by unfold plA; rw [List.size_toArray]; exact plL_len h sv
theorem plL_one {p : Fm} {sv : Value} (hs : sv.oneCell' = true) : ∀ v ∈ plL p sv, v.oneCell' = true := fun v hv => by
  unfold plL at hv
  rcases List.mem_append.1 hv with h | h
  · simp only [List.mem_cons, List.not_mem_nil, or_false] at h
    rcases h with rfl | rfl | rfl | rfl | rfl | rfl <;> rfl
  · rcases List.mem_append.1 h with h | h
    · obtain ⟨x, _, rfl⟩ := List.mem_map.1 h
      rfl
    · rw [List.mem_singleton.1 h]
      exact hs
theorem infoP : (Tryz.prog.info? 33).map (·.size) = some 23 := by kernel_rfl
theorem infoNc : (Tryz.prog.info? 22).map (·.size) = some 16 := by kernel_rfl
/-- A block that is a plain form. -/
def PF (w : World) (g : Nat) (t : TypeId) (p : Fm) (sv : Value) : Prop := w.heap[g]? = some (.cells (plA p sv) t (0, 0))
theorem PF.new (w : World) (t : TypeId) (p : Fm) (sv : Value) : PF (w.alloc (.cells (plA p sv) t)) w.heap.size t p sv := heap_alloc_new _ _
theorem PF.kept {w w' : World} {g : Nat} {t : TypeId} {p : Fm} {sv : Value} (h : PF w g t p sv) (hb : Below w.heap.size w w') : PF w' g t p sv := blk_kept h hb (blk_lt h)
theorem PF.range {w : World} {g : Nat} {t : TypeId} {p : Fm} {sv : Value} (h : PF w g t p sv) : w.rangeAt g 0 (plL p sv) := blk_range h
/-- What a plain form's cells hold. -/
structure PC (w : World) (g : Nat) (p : Fm) (sv : Value) : Prop where
  c0 : w.cell? ⟨g, 0, none⟩ = some (.int .u8 p.k)
  c1 : w.cell? ⟨g, 1, none⟩ = some (.int .i64 p.id)
  c2 : w.cell? ⟨g, 2, none⟩ = some (.int .i64 p.n)
  c3 : w.cell? ⟨g, 3, none⟩ = some (.int .i64 p.cd)
  c4 : w.cell? ⟨g, 4, none⟩ = some (.bool p.fin)
  c5 : w.cell? ⟨g, 5, none⟩ = some (.string p.tx)
  c22 : w.cell? ⟨g, 22, none⟩ = some sv
  nc : w.rangeAt g 6 (p.nc.map (Value.int .u8))
theorem range_pc {w : World} {g : Nat} {p : Fm} {sv : Value} (h : w.rangeAt g 0 (plL p sv)) (hn : p.nc.length = 16) : PC w g p sv := by
  have hh : ∀ j v, (plL p sv)[j]? = some v → w.cell? ⟨g, j, none⟩ = some v := fun j v hv => by have := h j v hv; rwa [Nat.zero_add] at this
  refine ⟨hh 0 _ rfl, hh 1 _ rfl, hh 2 _ rfl, hh 3 _ rfl, hh 4 _ rfl, hh 5 _ rfl, hh 22 _ ?_, fun j v hv => ?_⟩
  · unfold plL
    rw [List.getElem?_append_right (by simp), List.getElem?_append_right (by simp [hn])]
    simp [hn]
  · have hj : j < 16 := by have := (List.getElem?_eq_some_iff.1 hv).1; rw [List.length_map, hn] at this; exact this
    refine hh (6 + j) v ?_
    unfold plL
    rw [List.getElem?_append_right (by simp), List.getElem?_append_left (by simp [hn]; omega)]
    simpa using hv
theorem PF.pc {w : World} {g : Nat} {t : TypeId} {p : Fm} {sv : Value} (h : PF w g t p sv) (hn : p.nc.length = 16) : PC w g p sv := range_pc h.range hn
/-- The numbers of the kinds' parts. -/
def pkN (k : Int) : Int := if k = 2 then 66 else if k = 3 then 39 else if k = 4 then 11 else if k = 5 then 9 else if k = 6 then 2 else if k = 7 then 3 else if k = 8 then 2 else if k = 9 then 48 else if k = 10 then 40 else 0
/-- The table of shapes, as it is laid. -/
def Shp (w : World) : Prop := ∀ k : Nat, k ≤ 10 → w.cell? ⟨0, k * 2, none⟩ = some (.int .i64 (pkN k)) ∧ w.cell? ⟨0, k * 2 + 1, none⟩ = some (.int .i64 (mT k))
theorem Shp.below {w w' : World} {B : Nat} (h : Shp w) (hb : Below B w w') (hB : 0 < B) : Shp w' := fun k hk => ⟨(hb.cell (p := ⟨0, k * 2, none⟩) hB).trans (h k hk).1, (hb.cell (p := ⟨0, k * 2 + 1, none⟩) hB).trans (h k hk).2⟩
theorem Shp.pos {w : World} (h : Shp w) : 0 < w.heap.size := World.block_lt_of_cell? w _ (h 0 (by omega)).1
/-- Both tables. -/
structure Tb (w : World) : Prop where
  s : Shp w
  v : Fi.Wid w
theorem Tb.below {w w' : World} {B : Nat} (h : Tb w) (hb : Below B w w') (hB : 2 ≤ B) : Tb w' := ⟨h.s.below hb (by omega), h.v.below hb (by omega)⟩
theorem Tb.pos {w : World} (h : Tb w) : 2 ≤ w.heap.size := by have := h.v.pos; omega
theorem Tb.next {w w' : World} (h : Tb w) (hb : Below w.heap.size w w') : Tb w' := h.below hb h.pos
def bandN (x y : Int) : Int := bits .and .i64 x y
set_option maxHeartbeats 1000000 in
theorem has_any (x y q : Int) (w : World) :
    Calls Tryz.prog 28 #[.agg #[.int .i64 x, .int .i64 y], .int .i64 q] w fun e w' => e = .returned (.bool (bandN x q != 0)) ∧ Below w.heap.size w w' := by
  have b1 := al_below w (.cells #[.int .i64 x, .int .i64 y] 57)
  have HB : Hid (Below w.heap.size w (w.alloc (.cells #[.int .i64 x, .int .i64 y] 57))) := b1
  clear b1
  unfold bandN
  go_enter Tryz.func28, Tryz.ntmps28
  go_wp2
  go_ret
  exact ⟨rfl, HB.out⟩
theorem band_tab : ∀ k : Fin 11, (bandN (pkN (k.val : Int)) 1 != 0) = hI k.val ∧ (bandN (pkN (k.val : Int)) 2 != 0) = hN k.val ∧ (bandN (pkN (k.val : Int)) 4 != 0) = hF k.val ∧ (bandN (pkN (k.val : Int)) 8 != 0) = hC k.val ∧ (bandN (pkN (k.val : Int)) 16 != 0) = hO k.val ∧ (bandN (pkN (k.val : Int)) 32 != 0) = hT k.val ∧ (bandN (pkN (k.val : Int)) 64 != 0) = hS k.val := by decide +kernel
/-- Whether a kind has a part: by its number. -/
theorem has_k (k : Int) (h0 : 0 ≤ k) (h1 : k ≤ 10) (w : World) (q : Int) (b : Bool)
    (hq : (q = 1 ∧ b = hI k) ∨ (q = 2 ∧ b = hN k) ∨ (q = 4 ∧ b = hF k) ∨ (q = 8 ∧ b = hC k) ∨ (q = 16 ∧ b = hO k) ∨ (q = 32 ∧ b = hT k) ∨ (q = 64 ∧ b = hS k)) :
    Calls Tryz.prog 28 #[.agg #[.int .i64 (pkN k), .int .i64 (mT k)], .int .i64 q] w fun e w' => e = .returned (.bool b) ∧ Below w.heap.size w w' := by
  have c := has_any (pkN k) (mT k) q w
  have t := band_tab ⟨k.toNat, by omega⟩
  simp only [Int.toNat_of_nonneg h0] at t
  obtain ⟨t1, t2, t3, t4, t5, t6, t7⟩ := t
  have e : (bandN (pkN k) q != 0) = b := by
    rcases hq with ⟨rfl, rfl⟩ | ⟨rfl, rfl⟩ | ⟨rfl, rfl⟩ | ⟨rfl, rfl⟩ | ⟨rfl, rfl⟩ | ⟨rfl, rfl⟩ | ⟨rfl, rfl⟩ <;> assumption
  rw [e] at c
  exact c
set_option maxHeartbeats 1000000 in
theorem isK_any (k : Int) (w : World) :
    Calls Tryz.prog 25 #[.int .u8 k] w fun e w' => e = .returned (.bool (isK k)) ∧ w' = w := by
  unfold isK
  by_cases h1 : 1 ≤ k
  · by_cases h2 : k ≤ 10
    · have t1 : decide ((1 : Int) ≤ k) = true := by simp [h1]
      have t2 : decide (k ≤ (10 : Int)) = true := by simp [h2]
      go_enter Tryz.func25, Tryz.ntmps25
      go_wp2
      go_ret
      exact ⟨by simp [h1, h2], rfl⟩
    · have t1 : decide ((1 : Int) ≤ k) = true := by simp [h1]
      have t2 : decide (k ≤ (10 : Int)) = false := by simp; omega
      go_enter Tryz.func25, Tryz.ntmps25
      go_wp2
      go_ret
      exact ⟨by simp, rfl⟩
  · have t1 : decide ((1 : Int) ≤ k) = false := by simp; omega
    go_enter Tryz.func25, Tryz.ntmps25
    go_wp2
    go_ret
    exact ⟨by simp, rfl⟩
set_option maxHeartbeats 1000000 in
theorem upTo_any (n m : Int) (w : World) :
    Calls Tryz.prog 27 #[.int .i64 n, .int .i64 m] w fun e w' => e = .returned (.bool (decide (0 ≤ n) && decide (n ≤ m))) ∧ w' = w := by
  by_cases h1 : 0 ≤ n
  · by_cases h2 : n ≤ m
    · have t1 : decide ((0 : Int) ≤ n) = true := by simp [h1]
      have t2 : decide (n ≤ m) = true := by simp [h2]
      go_enter Tryz.func27, Tryz.ntmps27
      go_wp2
      go_ret
      exact ⟨by simp [h1, h2], rfl⟩
    · have t1 : decide ((0 : Int) ≤ n) = true := by simp [h1]
      have t2 : decide (n ≤ m) = false := by simp; omega
      go_enter Tryz.func27, Tryz.ntmps27
      go_wp2
      go_ret
      exact ⟨by simp, rfl⟩
  · have t1 : decide ((0 : Int) ≤ n) = false := by simp; omega
    go_enter Tryz.func27, Tryz.ntmps27
    go_wp2
    go_ret
    exact ⟨by simp, rfl⟩
set_option maxHeartbeats 1000000 in
theorem fin_any (b : Bool) (w : World) :
    Calls Tryz.prog 45 #[.bool b] w fun e w' => e = .returned (.int .u8 (finB b)) ∧ w' = w := by
  cases b <;>
  · go_enter Tryz.func45, Tryz.ntmps45
    go_wp2
    go_ret
    exact ⟨rfl, rfl⟩
def fltE (e : Int) : Int := if e = 5 then 4 else e
set_option maxHeartbeats 1000000 in
theorem fault_any (g s : Nat) (xs : List Int) (e : Int) (w : World) (h : Fi.Rd w g s xs e) :
    Calls Tryz.prog 56 #[.pointer (some ⟨g, 0, none⟩)] w fun r w' => r = .returned (.int .i64 (fltE e)) ∧ w' = w := by
  have c := Fi.err_any g s xs e w h
  unfold fltE
  clear h
  by_cases h5 : e = 5
  · subst h5
    go_enter Tryz.func56, Tryz.ntmps56
    go_wp2_with fail
    refine c.mono ?_
    rintro e w1 ⟨rfl, e1⟩
    rw [e1]
    clear c e1
    go_wp2
    go_ret
    exact ⟨rfl, rfl⟩
  · have t1 : (e != 5) = true := by simpa using h5
    rw [if_neg h5]
    go_enter Tryz.func56, Tryz.ntmps56
    go_wp2_with fail
    refine c.mono ?_
    rintro e w1 ⟨rfl, e1⟩
    rw [e1]
    clear c e1
    go_wp2
    go_ret
    exact ⟨rfl, rfl⟩
end Go.Proofs.YtmplpdjkhdaniaaGreatDoor
namespace Go.Proofs.YtmplpdjkhdaniaaGreatDoor.Fi
open Go.RowKit
set_option maxRecDepth 100000

set_option maxHeartbeats 1000000 in
theorem rnumB_any (n : Int) (w : World) :
    Calls Tryz.prog 19 #[.int .i64 n] w fun r w' => ∃ v, r = .returned v ∧ w'.ownsRow w.heap.size 5 1 v (numB n).length ((numB n).map (Value.int .u8)) ∧ Below w.heap.size w w' := by
  by_cases h0 : lenOf n = 0
  · have hn : numB n = [] := by unfold numB; rw [if_pos h0]
    rw [hn]
    have c := rput_no n w h0
    clear hn h0
    go_enter Tryz.func19, Tryz.ntmps19
    go_wp2_with (go_at_call 39; refine c.mono ?_; rintro e w' ⟨rfl, rfl⟩)
    go_ret
    exact ⟨_, rfl, World.ownsRow_nil _ _ _ _, Below.refl _ _⟩
  · obtain ⟨W, hW, hW0, hI, h1, h2, hn⟩ := pos_lim n h0
    have c := rput_own n W w hW hW0
    have hl := pb_len n W hI
    rw [hn, hl]
    clear hn h0 hW hW0 hl
    go_enter Tryz.func19, Tryz.ntmps19
    go_wp2_with (go_at_call 39; refine c.mono ?_; rintro e w' ⟨g, cap, rfl, ho, hb⟩)
    go_ret
    exact ⟨_, rfl, by assumption, by assumption⟩

theorem strCells_sb (s : ByteArray) : Lib.strCells s = (sb s).map (Value.int .u8) := by
  unfold Lib.strCells sb
  rw [List.map_map]
  rfl

set_option maxHeartbeats 1000000 in
theorem rtextB_any (s : ByteArray) (w : World) (hs : s.size ≤ 140737488351232) :
    Calls Tryz.prog 23 #[.string s] w fun r w' => ∃ v, r = .returned v ∧ w'.ownsRow w.heap.size 5 1 v (textB s).length ((textB s).map (Value.int .u8)) ∧ Below w.heap.size w w' := by
  obtain ⟨i0, hi, hz0, hz1, hz2⟩ := info_parts info5'
  have c1 := rnumB_any s.size w
  have hnl : (numB (s.size : Int)).length ≤ 8 := by have nl := numB_len (s.size : Int); rcases lenOf_cases (s.size : Int) with h | h | h | h | h | h <;> omega
  have HT : Hid (∀ (w' : World) v, w'.ownsRow w.heap.size 5 1 v ((numB (s.size : Int)).length + s.size) ((numB (s.size : Int)).map (Value.int .u8) ++ Lib.strCells s) → w'.ownsRow w.heap.size 5 1 v (textB s).length ((textB s).map (Value.int .u8))) := fun w' v h => by
    unfold textB
    rw [List.length_append, sb_len, List.map_append, ← strCells_sb]
    exact h
  generalize (numB (s.size : Int)).length = L at *
  generalize (numB (s.size : Int)).map (Value.int .u8) = X at *
  go_enter Tryz.func23, Tryz.ntmps23
  go_wp2_with fail
  refine c1.mono ?_
  rintro e w1 ⟨v1, rfl, own1, bel1⟩
  clear c1
  have hob := own_base own1
  have hsz := bel1.size
  go_wp2_with (at_builtin; refine Lib.wpList_append_own_string _ rfl _ _ 34 9 rfl w.heap.size 5 i0 Tryz.underlying34 Tryz.underlying9 hi hz0 hz1 hz2 _ _ _ rfl own1 s rfl (by unfold maxLen; omega) (by omega) hsz ?_)
  intro v2 w2 own2 hgrow _
  have B2 : Below w.heap.size w w2 := bel1.grown hgrow hsz hob
  have HO : Hid (w2.ownsRow w.heap.size 5 1 v2 (textB s).length ((textB s).map (Value.int .u8))) := HT.out _ _ own2
  clear own1 own2 hgrow bel1 hob hsz HT
  go_wp2
  go_ret
  exact ⟨_, rfl, HO.out, B2⟩
end Go.Proofs.YtmplpdjkhdaniaaGreatDoor.Fi
