/-
  What crc.Bytes, crc.Seal, bytes.Equal, crc.Open and the document's Of, More, Bytes answer; nothing that was there is changed. Condition: the table of half bytes holds what its initialiser lays.
-/
import Derived.Test.YtpkobpdiddjnpaaDoorCrRef
import Derived.Test.YtpkobpdiddjnpaaDoorCat
namespace Go.Proofs.YtpkobpdiddjnpaaDoor.Cr
open Go.RowKit
set_option maxRecDepth 100000

/-- A sum's four bytes, the lowest first. -/
def leB (c : Nat) : List Int := [(c : Int) % 256, (c : Int) / 256 % 256, (c : Int) / 65536 % 256, (c : Int) / 16777216 % 256]

theorem leB_bytes (c : Nat) : ∀ i, 0 ≤ (leB c).getD i 0 ∧ (leB c).getD i 0 < 256 := by
  refine byteList _ ?_
  simp [leB]
  omega

set_option maxHeartbeats 1000000 in
theorem bytes_any (c : Nat) (w : World) :
    Calls Tryd.prog 41 #[.int .u32 c] w fun r w' => ∃ v, r = .returned v ∧ Sl w' v (leB c) ∧ Below w.heap.size w w' := by
  have hs : Sl (w.alloc (.cells ((leB c).map (Value.int .u8)).toArray 5)) (.slice (some ⟨w.heap.size, 0, none⟩) 4 4) (leB c) :=
    ⟨_, 4, rfl, by simp [leB], by simp [maxLen], fun e => (by cases e), row_new w (leB c) (leB_bytes c) (by simp [maxLen, leB])⟩
  have HS : Hid (Sl (w.alloc (.cells ((leB c).map (Value.int .u8)).toArray 5)) (.slice (some ⟨w.heap.size, 0, none⟩) 4 4) (leB c)) := hs
  clear hs
  go_enter Tryd.func41, Tryd.ntmps41
  go_wp2
  go_ret
  exact ⟨_, rfl, HS.out, (Below.refl _ _).alloc (Nat.le_refl _) _⟩

set_option maxHeartbeats 1000000 in
theorem rbytes_any (c : Nat) (w : World) :
    Calls Tryd.prog 47 #[.int .u32 c] w fun r w' => ∃ v, r = .returned v ∧ Sl w' v (leB c) ∧ Below w.heap.size w w' := by
  have hs : Sl (w.alloc (.cells ((leB c).map (Value.int .u8)).toArray 5)) (.slice (some ⟨w.heap.size, 0, none⟩) 4 4) (leB c) :=
    ⟨_, 4, rfl, by simp [leB], by simp [maxLen], fun e => (by cases e), row_new w (leB c) (leB_bytes c) (by simp [maxLen, leB])⟩
  have HS : Hid (Sl (w.alloc (.cells ((leB c).map (Value.int .u8)).toArray 5)) (.slice (some ⟨w.heap.size, 0, none⟩) 4 4) (leB c)) := hs
  clear hs
  go_enter Tryd.func47, Tryd.ntmps47
  go_wp2
  go_ret
  exact ⟨_, rfl, HS.out, (Below.refl _ _).alloc (Nat.le_refl _) _⟩

set_option maxHeartbeats 1000000 in
theorem rof_any (v : Value) (xs : List Int) (w : World) (sl : Sl w v xs) :
    Calls Tryd.prog 48 #[v] w fun e w' => e = .returned (.int .u32 (sumOf xs : Nat)) ∧ w' = w := by
  have c := rrun_any Reg.top v xs w Reg.top_lt sl
  have hn := not32 (Reg.run Reg.top xs) (Reg.run_lt _ Reg.top_lt (byt_getD sl.bytes))
  have ht : ((Reg.top : Nat) : Int) = 4294967295 := by decide
  rw [ht] at c
  unfold sumOf
  generalize Reg.inv (Reg.run Reg.top xs) = s at *
  generalize Reg.run Reg.top xs = r at *
  clear sl ht
  go_enter Tryd.func48, Tryd.ntmps48
  go_wp2_with (go_at_call 65; refine c.mono ?_; rintro e w1 ⟨rfl, rfl⟩)
  go_ret
  exact ⟨rfl, rfl⟩

end Go.Proofs.YtpkobpdiddjnpaaDoor.Cr
