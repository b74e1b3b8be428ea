/-
  What crc.Bytes, crc.Seal, bytes.Equal, crc.Open and the document's Of, More, Bytes answer; nothing that was there is changed. Condition: the table of half bytes holds what its initialiser lays.
-/
import Derived.Test.YtecmdhbalcenfaaDoorRef
import Derived.Test.YtecmdhbalcenfaaDoorCat
namespace Go.Proofs.YtecmdhbalcenfaaDoor
open Go.RowKit

/-- A sum's four bytes, the lowest first. -/
def leB (c : Nat) : List Int := [(c : Int) % 256, (c : Int) / 256 % 256, (c : Int) / 65536 % 256, (c : Int) / 16777216 % 256]

theorem leB_bytes (c : Nat) : ∀ i, 0 ≤ (leB c).getD i 0 ∧ (leB c).getD i 0 < 256 := by
  refine byteList _ ?_
  simp [leB]
  omega

set_option maxHeartbeats 1000000 in
theorem bytes_any (c : Nat) (w : World) :
    Calls Tryd.prog 13 #[.int .u32 c] w fun r w' => ∃ v, r = .returned v ∧ Sl w' v (leB c) ∧ Below w.heap.size w w' := by
  have hs : Sl (w.alloc (.cells ((leB c).map (Value.int .u8)).toArray 5)) (.slice (some ⟨w.heap.size, 0, none⟩) 4 4) (leB c) :=
    ⟨_, 4, rfl, by simp [leB], by simp [maxLen], fun e => (by cases e), row_new w (leB c) (leB_bytes c) (by simp [maxLen, leB])⟩
  have HS : Hid (Sl (w.alloc (.cells ((leB c).map (Value.int .u8)).toArray 5)) (.slice (some ⟨w.heap.size, 0, none⟩) 4 4) (leB c)) := hs
  clear hs
  go_enter Tryd.func13, Tryd.ntmps13
  go_wp2
  go_ret
  exact ⟨_, rfl, HS.out, (Below.refl _ _).alloc (Nat.le_refl _) _⟩

set_option maxHeartbeats 1000000 in
theorem rbytes_any (c : Nat) (w : World) :
    Calls Tryd.prog 14 #[.int .u32 c] w fun r w' => ∃ v, r = .returned v ∧ Sl w' v (leB c) ∧ Below w.heap.size w w' := by
  have hs : Sl (w.alloc (.cells ((leB c).map (Value.int .u8)).toArray 5)) (.slice (some ⟨w.heap.size, 0, none⟩) 4 4) (leB c) :=
    ⟨_, 4, rfl, by simp [leB], by simp [maxLen], fun e => (by cases e), row_new w (leB c) (leB_bytes c) (by simp [maxLen, leB])⟩
  have HS : Hid (Sl (w.alloc (.cells ((leB c).map (Value.int .u8)).toArray 5)) (.slice (some ⟨w.heap.size, 0, none⟩) 4 4) (leB c)) := hs
  clear hs
  go_enter Tryd.func14, Tryd.ntmps14
  go_wp2
  go_ret
  exact ⟨_, rfl, HS.out, (Below.refl _ _).alloc (Nat.le_refl _) _⟩

set_option maxHeartbeats 1000000 in
theorem rof_any (v : Value) (xs : List Int) (w : World) (sl : Sl w v xs) :
    Calls Tryd.prog 10 #[v] w fun e w' => e = .returned (.int .u32 (sumOf xs : Nat)) ∧ w' = w := by
  have c := rrun_any Reg.top v xs w Reg.top_lt sl
  have hn := not32 (Reg.run Reg.top xs) (Reg.run_lt _ Reg.top_lt (byt_getD sl.bytes))
  have ht : ((Reg.top : Nat) : Int) = 4294967295 := by decide
  rw [ht] at c
  unfold sumOf
  generalize Reg.inv (Reg.run Reg.top xs) = s at *
  generalize Reg.run Reg.top xs = r at *
  clear sl ht
  go_enter Tryd.func10, Tryd.ntmps10
  go_wp2_with (go_at_call 19; refine c.mono ?_; rintro e w1 ⟨rfl, rfl⟩)
  go_ret
  exact ⟨rfl, rfl⟩

set_option maxHeartbeats 1000000 in
theorem rmore_any (c : Nat) (v : Value) (xs : List Int) (w : World) (hc : c < 4294967296) (sl : Sl w v xs) :
    Calls Tryd.prog 12 #[.int .u32 c, v] w fun e w' => e = .returned (.int .u32 (Reg.inv (Reg.run (Reg.inv c) xs) : Nat)) ∧ w' = w := by
  have cr := rrun_any (Reg.inv c) v xs w (Reg.inv_lt hc) sl
  have hn1 := not32 c hc
  have hn := not32 (Reg.run (Reg.inv c) xs) (Reg.run_lt _ (Reg.inv_lt hc) (byt_getD sl.bytes))
  generalize Reg.inv (Reg.run (Reg.inv c) xs) = s at *
  generalize Reg.run (Reg.inv c) xs = r at *
  generalize Reg.inv c = q at *
  clear sl
  go_enter Tryd.func12, Tryd.ntmps12
  go_wp2_with fail
  refine cr.mono ?_
  rintro e w1 ⟨rfl, rfl⟩
  go_wp2
  go_ret
  exact ⟨rfl, rfl⟩
end Go.Proofs.YtecmdhbalcenfaaDoor
