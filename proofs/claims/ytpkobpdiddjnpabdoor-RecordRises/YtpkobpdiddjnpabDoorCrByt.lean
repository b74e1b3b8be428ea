/-
  What crc.Bytes, crc.Seal, bytes.Equal, crc.Open and the document's Of, More, Bytes answer; nothing that was there is changed. Condition: the table of half bytes holds what its initialiser lays.
-/
import Derived.Test.YtpkobpdiddjnpabDoorCrRef
import Derived.Test.YtpkobpdiddjnpabDoorCat
namespace Go.Proofs.YtpkobpdiddjnpabDoor.Cr
open Go.RowKit
set_option maxRecDepth 100000

/-- A sum's four bytes, the lowest first. -/
def leB (c : Nat) : List Int := [(c : Int) % 256, (c : Int) / 256 % 256, (c : Int) / 65536 % 256, (c : Int) / 16777216 % 256]

theorem leB_bytes (c : Nat) : ∀ i, 0 ≤ (leB c).getD i 0 ∧ (leB c).getD i 0 < 256 := by
  refine byteList _ ?_
  simp [leB]
  omega

set_option maxHeartbeats 1000000 in
theorem bytes_any (c : Nat) (w : World) :
    Calls Tryd.prog 31 #[.int .u32 c] w fun r w' => ∃ v, r = .returned v ∧ Sl w' v (leB c) ∧ Below w.heap.size w w' := by
  have hs : Sl (w.alloc (.cells ((leB c).map (Value.int .u8)).toArray 5)) (.slice (some ⟨w.heap.size, 0, none⟩) 4 4) (leB c) :=
    ⟨_, 4, rfl, by simp [leB], by simp [maxLen], fun e => (by cases e), row_new w (leB c) (leB_bytes c) (by simp [maxLen, leB])⟩
  have HS : Hid (Sl (w.alloc (.cells ((leB c).map (Value.int .u8)).toArray 5)) (.slice (some ⟨w.heap.size, 0, none⟩) 4 4) (leB c)) := hs
  clear hs
  go_enter Tryd.func31, Tryd.ntmps31
  go_wp2
  go_ret
  exact ⟨_, rfl, HS.out, (Below.refl _ _).alloc (Nat.le_refl _) _⟩

end Go.Proofs.YtpkobpdiddjnpabDoor.Cr
