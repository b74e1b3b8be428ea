/-
  A span read.
  A hasher, as the walks read it: eight words, 64 bytes, a number.
  What sha.New, (*sha.Hasher).Fork and Len answer.
-/
import Derived.Test.YtiollhmbdhepkaaGreatDoorZap
import Derived.Test.YtiollhmbdhepkaaGreatDoorZat
import Derived.Test.YtiollhmbdhepkaaGreatDoorZay
namespace Go.Proofs.YtiollhmbdhepkaaGreatDoor
open Go.RowKit Go.Shelf
set_option maxRecDepth 100000

/-- All that was there but a block stays. -/
structure Bt (g : Nat) (w w' : World) : Prop where
  os : w'.os = w.os
  tape : w'.tape = w.tape
  output : w'.output = w.output
  size : w.heap.size ≤ w'.heap.size
  block : ∀ k, k < w.heap.size → k ≠ g → w'.heap[k]? = w.heap[k]?
theorem Bt.refl (g : Nat) (w : World) : Bt g w w := ⟨rfl, rfl, rfl, Nat.le_refl _, fun _ _ _ => rfl⟩
theorem Bt.trans {g : Nat} {a b c : World} (h : Bt g a b) (k : Bt g b c) : Bt g a c :=
  ⟨k.os.trans h.os, k.tape.trans h.tape, k.output.trans h.output, Nat.le_trans h.size k.size, fun i hi hn => (k.block i (Nat.lt_of_lt_of_le hi h.size) hn).trans (h.block i hi hn)⟩
theorem Bt.of {g : Nat} {w w' : World} (h : Below w.heap.size w w') : Bt g w w' := ⟨h.os, h.tape, h.output, h.size, fun k hk _ => h.block k hk⟩
theorem Bt.off {g : Nat} {w w' : World} (h : Fi.Off g w w') : Bt g w w' := ⟨h.os, h.tape, h.output, Nat.le_of_eq h.size.symm, fun k _ hn => h.block k hn⟩
theorem Bt.below {g n : Nat} {w a b : World} (h : Bt g a b) (hb : Below n w a) (hn : n ≤ g) (hs : n ≤ a.heap.size) : Below n w b := hb.trans ⟨h.os, h.tape, h.output, h.size, fun k hk => h.block k (by omega) (by omega)⟩
theorem RSp.bt {w w' : World} {B g : Nat} {v : Value} {l : List Sp} (h : RSp w B v l) (hb : Bt g w w') (hg : v.ownBlock ≠ some g) : RSp w' B v l := h.keep fun k _ hk hh => (hb.block k (blk_lt hh) (fun e => hg (e ▸ hk))).trans hh
end Go.Proofs.YtiollhmbdhepkaaGreatDoor
namespace Go.Proofs.YtiollhmbdhepkaaGreatDoor.Sh
open Go.RowKit
set_option maxRecDepth 100000

/-- The two tables, as the walks read them. -/
def Tab (w : World) : Prop := (∀ i, i < 8 → w.cell? ⟨2, i, none⟩ = some (.int .u32 ((Pl.words Pl.init).getD i 0 : Nat))) ∧ (∀ i, i < 64 → w.cell? ⟨3, i, none⟩ = some (.int .u32 (Pl.K.getD i 0 : Nat)))
theorem Tab.below {w w' : World} {B : Nat} (h : Tab w) (hb : Below B w w') (hB : 4 ≤ B) : Tab w' :=
  ⟨fun i hi => (hb.cell (p := ⟨2, i, none⟩) (show 2 < B by omega)).trans (h.1 i hi), fun i hi => (hb.cell (p := ⟨3, i, none⟩) (show 3 < B by omega)).trans (h.2 i hi)⟩
theorem Tab.size {w : World} (h : Tab w) : 4 ≤ w.heap.size := World.block_lt_of_cell? _ _ (h.2 0 (by omega))

/-- All but block g is as it was. -/
structure But (g : Nat) (w w' : World) : Prop where
  os : w'.os = w.os
  tape : w'.tape = w.tape
  output : w'.output = w.output
  size : w.heap.size ≤ w'.heap.size
  block : ∀ k, k < w.heap.size → k ≠ g → w'.heap[k]? = w.heap[k]?

theorem But.refl (g : Nat) (w : World) : But g w w := ⟨rfl, rfl, rfl, Nat.le_refl _, fun _ _ _ => rfl⟩
theorem But.trans {g : Nat} {a b c : World} (h : But g a b) (k : But g b c) : But g a c :=
  ⟨k.os.trans h.os, k.tape.trans h.tape, k.output.trans h.output, Nat.le_trans h.size k.size, fun i hi hn => (k.block i (Nat.lt_of_lt_of_le hi h.size) hn).trans (h.block i hi hn)⟩
theorem But.of {g : Nat} {w w' : World} (h : Below w.heap.size w w') : But g w w' := ⟨h.os, h.tape, h.output, h.size, fun k hk _ => h.block k hk⟩
theorem But.set (g i : Nat) (w : World) (v : Value) : But g w (w.setCell ⟨g, i, none⟩ v) :=
  ⟨rfl, rfl, rfl, by simp [World.setCell], fun k _ hn => heap_setCell_other _ _ _ _ hn⟩
theorem But.cells (g : Nat) : ∀ (vs : List Value) (o : Nat) (w : World), But g w (w.setCells g o vs)
  | [], _, w => But.refl g w
  | v :: r, o, w => (But.set g o w v).trans (But.cells g r (o + 1) _)
theorem But.below {g B : Nat} {w w' : World} (h : But g w w') (hB : B ≤ g) (hw : B ≤ w.heap.size) : Below B w w' :=
  ⟨h.os, h.tape, h.output, h.size, fun k hk => h.block k (by omega) (by omega)⟩
theorem But.drew {g : Nat} {w w' : World} (h : But g w w') : But g w w'.drew := ⟨h.os, h.tape, h.output, h.size, h.block⟩
theorem But.cell {g : Nat} {w w' : World} (h : But g w w') {p : Addr} (hp : p.block < w.heap.size) (hn : p.block ≠ g) : w'.cell? p = w.cell? p := World.cell?_of_block (w := w) (h.block p.block hp hn)
theorem Tab.but {w w' : World} {g : Nat} (h : Tab w) (hb : But g w w') (hg : 4 ≤ g) : Tab w' :=
  ⟨fun i hi => (hb.cell (p := ⟨2, i, none⟩) (show 2 < _ by have := h.size; omega) (show 2 ≠ g by omega)).trans (h.1 i hi),
   fun i hi => (hb.cell (p := ⟨3, i, none⟩) (show 3 < _ by have := h.size; omega) (show 3 ≠ g by omega)).trans (h.2 i hi)⟩
theorem _root_.Go.Proofs.YtiollhmbdhepkaaGreatDoor.Sl.but {w w' : World} {v : Value} {xs : List Int} {g : Nat} (h : Sl w v xs) (hb : But g w w') (hn : ∀ a l c, v = .slice (some a) l c → 0 < l → a.block ≠ g) : Sl w' v xs := by
  obtain ⟨a, cap, rfl, h1, h2, h3, h4⟩ := h
  refine ⟨a, cap, rfl, h1, h2, h3, ?_⟩
  rcases h4 with h4 | ⟨hp, b, off, rfl, hlc, hm, hc, hz⟩
  · exact .inl h4
  · have hbn : b ≠ g := hn _ _ _ rfl hp
    exact .inr ⟨hp, b, off, rfl, hlc, hm, fun i hi => (hb.cell (p := ⟨b, off + i, Option.none⟩) (World.block_lt_of_cell? _ _ (hc i hi)) hbn).trans (hc i hi), hz⟩

/-- A hasher's cells. -/
def hlist (S : List Nat) (R : List Int) (n : Nat) : List Value := (S.map fun (k : Nat) => Value.int .u32 (k : Int)) ++ (R.map (Value.int .u8) ++ [.int .i64 n])
def Hs (w : World) (g : Nat) (S : List Nat) (R : List Int) (n : Nat) : Prop := w.heap[g]? = some (.cells (hlist S R n).toArray 209 (0, 0)) ∧ S.length = 8 ∧ R.length = 64

theorem Hs.frozen {w : World} {g : Nat} {S : List Nat} {R : List Int} {n : Nat} (h : Hs w g S R n) (i : Nat) : w.frozen? ⟨g, i, none⟩ = false := frozen_of_row _ _ _ _ _ h.1
theorem Hs.word {w : World} {g : Nat} {S : List Nat} {R : List Int} {n : Nat} (h : Hs w g S R n) (i : Nat) (hi : i < 8) : w.cell? ⟨g, i, none⟩ = some (.int .u32 (S.getD i 0 : Nat)) := by
  obtain ⟨h1, h2, h3⟩ := h
  rw [cell_of_row _ _ _ _ _ _ h1]
  have : i < S.length := by omega
  simp [hlist, List.getElem?_append_left, this, List.getD]
theorem Hs.rest {w : World} {g : Nat} {S : List Nat} {R : List Int} {n : Nat} (h : Hs w g S R n) (i : Nat) (hi : i < 64) : w.cell? ⟨g, 8 + i, none⟩ = some (.int .u8 (R.getD i 0)) := by
  obtain ⟨h1, h2, h3⟩ := h
  rw [cell_of_row _ _ _ _ _ _ h1]
  have : i < R.length := by omega
  simp only [hlist, List.getElem?_toArray]
  rw [List.getElem?_append_right (by simp; omega), List.getElem?_append_left (by simp; omega)]
  simp [h2, List.getElem?_eq_getElem this, List.getD]
theorem Hs.num {w : World} {g : Nat} {S : List Nat} {R : List Int} {n : Nat} (h : Hs w g S R n) : w.cell? ⟨g, 72, none⟩ = some (.int .i64 n) := by
  obtain ⟨h1, h2, h3⟩ := h
  rw [cell_of_row _ _ _ _ _ _ h1]
  simp only [hlist, List.getElem?_toArray]
  rw [List.getElem?_append_right (by simp; omega), List.getElem?_append_right (by simp; omega)]
  simp [h2, h3]
theorem Hs.lt {w : World} {g : Nat} {S : List Nat} {R : List Int} {n : Nat} (h : Hs w g S R n) : g < w.heap.size := World.block_lt_of_cell? _ _ h.num
theorem Hs.below {w w' : World} {B g : Nat} {S : List Nat} {R : List Int} {n : Nat} (h : Hs w g S R n) (hb : Below B w w') (hB : g < B) : Hs w' g S R n := ⟨(hb.block g hB).trans h.1, h.2⟩
theorem Hs.kept {w w' : World} {g : Nat} {S : List Nat} {R : List Int} {n : Nat} (h : Hs w g S R n) (hb : Below w.heap.size w w') : Hs w' g S R n := h.below hb h.lt
theorem Hs.but {w w' : World} {f g : Nat} {S : List Nat} {R : List Int} {n : Nat} (h : Hs w g S R n) (hb : But f w w') (hB : g ≠ f) : Hs w' g S R n := ⟨(hb.block g h.lt hB).trans h.1, h.2⟩
theorem Hs.drew {w : World} {g : Nat} {S : List Nat} {R : List Int} {n : Nat} (h : Hs w g S R n) : Hs w.drew g S R n := h

theorem Hs.setWord {w : World} {g : Nat} {S : List Nat} {R : List Int} {n : Nat} (h : Hs w g S R n) (i : Nat) (hi : i < 8) (k : Nat) : Hs (w.setCell ⟨g, i, none⟩ (.int .u32 (k : Int))) g (S.set i k) R n := by
  obtain ⟨h1, h2, h3⟩ := h
  refine ⟨?_, by simpa using h2, h3⟩
  rw [heap_setCell_same _ _ _ _ _ _ h1]
  congr 2
  apply Array.ext'
  simp only [hlist, List.setIfInBounds_toArray]
  rw [List.set_append_left _ _ (by simp; omega), List.map_set]
theorem Hs.setNum {w : World} {g : Nat} {S : List Nat} {R : List Int} {n : Nat} (h : Hs w g S R n) (k : Nat) : Hs (w.setCell ⟨g, 72, none⟩ (.int .i64 (k : Int))) g S R k := by
  obtain ⟨h1, h2, h3⟩ := h
  refine ⟨?_, h2, h3⟩
  rw [heap_setCell_same _ _ _ _ _ _ h1]
  congr 2
  apply Array.ext'
  simp only [hlist, List.setIfInBounds_toArray]
  rw [List.set_append_right _ _ (by simp; omega), List.set_append_right _ _ (by simp; omega)]
  simp [h2, h3]
theorem Hs.setByte {w : World} {g : Nat} {S : List Nat} {R : List Int} {n : Nat} (h : Hs w g S R n) (i : Nat) (hi : i < 64) (z : Int) : Hs (w.setCell ⟨g, 8 + i, none⟩ (.int .u8 z)) g S (R.set i z) n := by
  obtain ⟨h1, h2, h3⟩ := h
  refine ⟨?_, h2, by simpa using h3⟩
  rw [heap_setCell_same _ _ _ _ _ _ h1]
  congr 2
  apply Array.ext'
  simp only [hlist, List.setIfInBounds_toArray]
  rw [List.set_append_right _ _ (by simp; omega), List.set_append_left _ _ (by simp; omega), List.map_set]
  simp [h2]
/-- Bytes laid over others. -/
def over : List Int → Nat → List Int → List Int
  | R, _, [] => R
  | R, i, z :: r => over (R.set i z) (i + 1) r
theorem Hs.setBytes {g : Nat} {S : List Nat} {n : Nat} : ∀ (zs : List Int) (i : Nat) (w : World) (R : List Int), Hs w g S R n → i + zs.length ≤ 64 → Hs (w.setCells g (8 + i) (zs.map (Value.int .u8))) g S (over R i zs) n
  | [], _, _, _, h, _ => h
  | z :: r, i, w, R, h, hl => by
    have hl' : i + (r.length + 1) ≤ 64 := by simpa using hl
    show Hs ((w.setCell ⟨g, 8 + i, none⟩ (.int .u8 z)).setCells g (8 + i + 1) (r.map (Value.int .u8))) g S (over (R.set i z) (i + 1) r) n
    exact Hs.setBytes r (i + 1) _ _ (h.setByte i (by omega) z) (by omega)
theorem over_len : ∀ (zs : List Int) (R : List Int) (i : Nat), (over R i zs).length = R.length
  | [], _, _ => rfl
  | z :: r, R, i => by show (over (R.set i z) (i + 1) r).length = _; rw [over_len r]; simp
theorem over_get : ∀ (zs : List Int) (R : List Int) (i : Nat) (k : Nat), i + zs.length ≤ R.length → (over R i zs).getD k 0 = if i ≤ k ∧ k < i + zs.length then zs.getD (k - i) 0 else R.getD k 0
  | [], R, i, k, _ => by rw [if_neg (by simp)]; rfl
  | z :: r, R, i, k, h => by
    have h' : i + (r.length + 1) ≤ R.length := by simpa using h
    show (over (R.set i z) (i + 1) r).getD k 0 = _
    rw [over_get r _ _ _ (by simp; omega)]
    have hl : (z :: r).length = r.length + 1 := rfl
    rw [hl]
    by_cases h1 : i + 1 ≤ k ∧ k < i + 1 + r.length
    · rw [if_pos h1, if_pos (by omega)]
      rw [show k - i = (k - (i + 1)) + 1 by omega]
      simp [List.getD]
    · rw [if_neg h1]
      by_cases h2 : k = i
      · subst h2
        rw [if_pos (by omega)]
        simp [List.getD]
        rw [List.getElem?_set_self (by omega)]
        simp
      · rw [if_neg (by omega)]
        simp [List.getD, List.getElem?_set_ne (show i ≠ k by omega)]
end Go.Proofs.YtiollhmbdhepkaaGreatDoor.Sh
namespace Go.Proofs.YtiollhmbdhepkaaGreatDoor.Sh
open Go.RowKit
set_option maxRecDepth 100000

theorem size47 : (Tryz.prog.info? 192).map (fun i => i.size) = some 8 := by kernel_rfl
theorem size65 : (Tryz.prog.info? 209).map (fun i => i.size) = some 73 := by kernel_rfl
theorem size26 : (Tryz.prog.info? 47).map (fun i => i.size) = some 32 := by kernel_rfl

def hz : Array Value := (hlist (List.replicate 8 0) (List.replicate 64 0) 0).toArray
theorem zero65 : ∀ w, (zeroValue 209).run Tryz.prog w = .ok (.agg hz) w := (zero_of_info (P := Tryz.prog) (t := 209) (v := .agg hz) (n := 73) (by kernel_rfl)).1
def h0 : Array Value := (hlist (Pl.words Pl.init) (List.replicate 64 0) 0).toArray
def i8 : Array Value := ((Pl.words Pl.init).map fun (n : Nat) => Value.int .u32 (n : Int)).toArray
theorem built65 : Tryz.prog.built 209 [(0, .agg i8)] = some h0 := by kernel_rfl
theorem size_hz : hz.size = 73 := by kernel_rfl

theorem range_words {w : World} {b : Nat} {S : List Nat} (h : ∀ i, i < S.length → w.cell? ⟨b, i, none⟩ = some (.int .u32 (S.getD i 0 : Nat))) : w.rangeAt b 0 (S.map fun (n : Nat) => Value.int .u32 (n : Int)) := by
  intro j v hv
  have hj : j < S.length := by
    have := (List.getElem?_eq_some_iff.1 hv).1
    simpa using this
  rw [Nat.zero_add, h j hj]
  rw [List.getElem?_map, List.getElem?_eq_getElem hj] at hv
  simp only [Option.map_some, Option.some.injEq] at hv
  rw [← hv]
  simp [List.getD, List.getElem?_eq_getElem hj]

set_option maxHeartbeats 1000000 in
set_option maxRecDepth 100000 in
theorem new_any (w : World) (ht : Tab w) :
    Calls Tryz.prog 134 #[] w fun e w' => e = .returned (.pointer (some ⟨w.heap.size, 0, none⟩)) ∧ Hs w' w.heap.size (Pl.words Pl.init) (List.replicate 64 0) 0 ∧ Below w.heap.size w w' := by
  have hr := range_words (b := 2) (S := Pl.words Pl.init) (fun i hi => ht.1 i hi)
  have HR : Hid (w.rangeAt 2 0 ((Pl.words Pl.init).map fun (n : Nat) => Value.int .u32 (n : Int))) := hr
  clear hr ht
  go_enter Tryz.func134, Tryz.ntmps134
  go_wp2_with (refine wpList_load_mid rfl 192 _ rfl 2 0 rfl ((Pl.words Pl.init).map fun (n : Nat) => Value.int .u32 (n : Int)) _ HR.out Tryz.underlying192 rfl size47 (Hid.out ?_))
  unfold Hid
  refine wpList_build rfl 209 _ rfl ?_ ?_
  · simp only [List.map_toArray, List.map_cons, List.map_nil]
    change (Tryz.prog.built 209 [(0, .agg i8)]).isSome = true
    rw [built65]; rfl
  simp only [List.map_toArray, List.map_cons, List.map_nil]
  change wpList _ _ _ _ (Act.put _ _ (.agg ((Tryz.prog.built 209 [(0, .agg i8)]).getD #[]))) _
  rw [built65]
  change wpList _ _ _ _ (Act.put _ _ (.agg h0)) _
  go_wp2
  go_ret
  exact ⟨rfl, ⟨heap_alloc_new _ _, rfl, rfl⟩, (Below.refl _ _).alloc (Nat.le_refl _) _⟩

theorem hlist_len (S : List Nat) (R : List Int) (n : Nat) : (hlist S R n).length = S.length + R.length + 1 := by simp [hlist]; omega
theorem hlist_one (S : List Nat) (R : List Int) (n : Nat) : (hlist S R n).toArray.all (·.oneCell') = true := by
  refine all_oneCell_toArray ?_
  intro v hv
  simp only [hlist, List.mem_append, List.mem_map, List.mem_singleton] at hv
  rcases hv with ⟨_, _, rfl⟩ | ⟨_, _, rfl⟩ | rfl <;> rfl

set_option maxHeartbeats 1000000 in
set_option maxRecDepth 100000 in
theorem fork_any (G : Nat) (S : List Nat) (R : List Int) (n : Nat) (w : World) (hh : Hs w G S R n) :
    Calls Tryz.prog 151 #[.pointer (some ⟨G, 0, none⟩)] w fun e w' => e = .returned (.pointer (some ⟨w.heap.size, 0, none⟩)) ∧ Hs w' w.heap.size S R n ∧ Below w.heap.size w w' := by
  have HH : Hid (Hs w G S R n) := hh
  have HI : Hid ((Tryz.prog.info? 209).map (·.size) = some (hlist S R n).toArray.size) := by unfold Hid; rw [List.size_toArray, hlist_len, hh.2.1, hh.2.2]; exact size65
  have z65 := zero65
  have HS : Hid ((hlist S R n).toArray.size = 73) := by unfold Hid; rw [List.size_toArray, hlist_len, hh.2.1, hh.2.2]
  clear hh
  go_enter Tryz.func151, Tryz.ntmps151
  go_wp2_with (first
    | refine wpList_load_row rfl 209 _ rfl G rfl 209 (hlist S R n).toArray (0, 0) _ HH.out.1 Tryz.underlying209 rfl HI.out ?_
    | (refine wpList_store_row rfl 209 _ _ rfl w.heap.size (hlist S R n).toArray rfl rfl 209 _ (heap_alloc_new _ _) HI.out (by rw [HS.out, size_hz]) (hlist_one S R n) ?_; rw [World.setRow_alloc_new]))
  go_ret
  exact ⟨rfl, ⟨heap_alloc_new _ _, HH.out.2⟩, (Below.refl _ _).alloc (Nat.le_refl _) _⟩
end Go.Proofs.YtiollhmbdhepkaaGreatDoor.Sh
