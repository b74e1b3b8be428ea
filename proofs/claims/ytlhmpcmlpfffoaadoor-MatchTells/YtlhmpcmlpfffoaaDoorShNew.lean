/-
  What sha.New, (*sha.Hasher).Fork and Len answer.
-/
import Derived.Test.YtlhmpcmlpfffoaaDoorShHas
namespace Go.Proofs.YtlhmpcmlpfffoaaDoor.Sh
open Go.RowKit
set_option maxRecDepth 100000

theorem size47 : (Tryd.prog.info? 83).map (fun i => i.size) = some 8 := by kernel_rfl
theorem size65 : (Tryd.prog.info? 103).map (fun i => i.size) = some 73 := by kernel_rfl
theorem size26 : (Tryd.prog.info? 48).map (fun i => i.size) = some 32 := by kernel_rfl

def hz : Array Value := (hlist (List.replicate 8 0) (List.replicate 64 0) 0).toArray
theorem zero65 : ∀ w, (zeroValue 103).run Tryd.prog w = .ok (.agg hz) w := (zero_of_info (P := Tryd.prog) (t := 103) (v := .agg hz) (n := 73) (by kernel_rfl)).1
def h0 : Array Value := (hlist (Pl.words Pl.init) (List.replicate 64 0) 0).toArray
def i8 : Array Value := ((Pl.words Pl.init).map fun (n : Nat) => Value.int .u32 (n : Int)).toArray
theorem built65 : Tryd.prog.built 103 [(0, .agg i8)] = some h0 := by kernel_rfl
theorem size_h0 : h0.size = 73 := by kernel_rfl
theorem size_hz : hz.size = 73 := by kernel_rfl

theorem range_words {w : World} {b : Nat} {S : List Nat} (h : ∀ i, i < S.length → w.cell? ⟨b, i, none⟩ = some (.int .u32 (S.getD i 0 : Nat))) : w.rangeAt b 0 (S.map fun (n : Nat) => Value.int .u32 (n : Int)) := by
  intro j v hv
  have hj : j < S.length := by
    have := (List.getElem?_eq_some_iff.1 hv).1
    simpa using this
  rw [Nat.zero_add, h j hj]
  rw [List.getElem?_map, List.getElem?_eq_getElem hj] at hv
  simp only [Option.map_some, Option.some.injEq] at hv
  rw [← hv]
  simp [List.getD, List.getElem?_eq_getElem hj]

theorem words_cells (s : Pl.S8) : (Pl.words s).map (fun (n : Nat) => Value.int .u32 (n : Int)) = [.int .u32 s.a, .int .u32 s.b, .int .u32 s.c, .int .u32 s.d, .int .u32 s.e, .int .u32 s.f, .int .u32 s.g, .int .u32 s.h] := rfl

set_option maxHeartbeats 1000000 in
set_option maxRecDepth 100000 in
theorem new_any (w : World) (ht : Tab w) :
    Calls Tryd.prog 40 #[] w fun e w' => e = .returned (.pointer (some ⟨w.heap.size, 0, none⟩)) ∧ Hs w' w.heap.size (Pl.words Pl.init) (List.replicate 64 0) 0 ∧ Below w.heap.size w w' := by
  have hr := range_words (b := 0) (S := Pl.words Pl.init) (fun i hi => ht.1 i hi)
  have HR : Hid (w.rangeAt 0 0 ((Pl.words Pl.init).map fun (n : Nat) => Value.int .u32 (n : Int))) := hr
  clear hr ht
  go_enter Tryd.func40, Tryd.ntmps40
  go_wp2_with (refine wpList_load_mid rfl 83 _ rfl 0 0 rfl ((Pl.words Pl.init).map fun (n : Nat) => Value.int .u32 (n : Int)) _ HR.out Tryd.underlying83 rfl size47 (Hid.out ?_))
  unfold Hid
  refine wpList_build rfl 103 _ rfl ?_ ?_
  · simp only [List.map_toArray, List.map_cons, List.map_nil]
    change (Tryd.prog.built 103 [(0, .agg i8)]).isSome = true
    rw [built65]; rfl
  simp only [List.map_toArray, List.map_cons, List.map_nil]
  change wpList _ _ _ _ (Act.put _ _ (.agg ((Tryd.prog.built 103 [(0, .agg i8)]).getD #[]))) _
  rw [built65]
  change wpList _ _ _ _ (Act.put _ _ (.agg h0)) _
  go_wp2
  go_ret
  exact ⟨rfl, ⟨heap_alloc_new _ _, rfl, rfl⟩, (Below.refl _ _).alloc (Nat.le_refl _) _⟩

set_option maxHeartbeats 1000000 in
theorem fork_nil (w : World) : Calls Tryd.prog 58 #[.pointer none] w fun e w' => e = .returned (.pointer none) ∧ w' = w := by
  go_enter Tryd.func58, Tryd.ntmps58
  go_wp2
  go_ret
  exact ⟨rfl, rfl⟩

theorem hlist_len (S : List Nat) (R : List Int) (n : Nat) : (hlist S R n).length = S.length + R.length + 1 := by simp [hlist]; omega
theorem hlist_one (S : List Nat) (R : List Int) (n : Nat) : (hlist S R n).toArray.all (·.oneCell') = true := by
  refine all_oneCell_toArray ?_
  intro v hv
  simp only [hlist, List.mem_append, List.mem_map, List.mem_singleton] at hv
  rcases hv with ⟨_, _, rfl⟩ | ⟨_, _, rfl⟩ | rfl <;> rfl

set_option maxHeartbeats 1000000 in
set_option maxRecDepth 100000 in
theorem fork_any (G : Nat) (S : List Nat) (R : List Int) (n : Nat) (w : World) (hh : Hs w G S R n) :
    Calls Tryd.prog 58 #[.pointer (some ⟨G, 0, none⟩)] w fun e w' => e = .returned (.pointer (some ⟨w.heap.size, 0, none⟩)) ∧ Hs w' w.heap.size S R n ∧ Below w.heap.size w w' := by
  have HH : Hid (Hs w G S R n) := hh
  have HI : Hid ((Tryd.prog.info? 103).map (·.size) = some (hlist S R n).toArray.size) := by unfold Hid; rw [List.size_toArray, hlist_len, hh.2.1, hh.2.2]; exact size65
  have z65 := zero65
  have HS : Hid ((hlist S R n).toArray.size = 73) := by unfold Hid; rw [List.size_toArray, hlist_len, hh.2.1, hh.2.2]
  clear hh
  go_enter Tryd.func58, Tryd.ntmps58
  go_wp2_with (first
    | refine wpList_load_row rfl 103 _ rfl G rfl 103 (hlist S R n).toArray (0, 0) _ HH.out.1 Tryd.underlying103 rfl HI.out ?_
    | (refine wpList_store_row rfl 103 _ _ rfl w.heap.size (hlist S R n).toArray rfl rfl 103 _ (heap_alloc_new _ _) HI.out (by rw [HS.out, size_hz]) (hlist_one S R n) ?_; rw [World.setRow_alloc_new]))
  go_ret
  exact ⟨rfl, ⟨heap_alloc_new _ _, HH.out.2⟩, (Below.refl _ _).alloc (Nat.le_refl _) _⟩
end Go.Proofs.YtlhmpcmlpfffoaaDoor.Sh
