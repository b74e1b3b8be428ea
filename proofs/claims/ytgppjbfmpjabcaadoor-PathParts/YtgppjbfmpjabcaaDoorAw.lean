/-
  What every right program tells of some paths.
-/
import Derived.Test.YtgppjbfmpjabcaaDoorLe
namespace Go.Proofs.YtgppjbfmpjabcaaDoor
open Go.RowKit

set_option maxHeartbeats 2000000 in
theorem awake_any (w : World) (hm : Mx w) :
    Calls Tryd.prog 9 #[] w fun e w' => e = .returned (.bool true) ∧ Below w.heap.size w w' := by
  have C1 : Hid (∀ w, Mx w → Calls Tryd.prog 12 #[.string ⟨#[97, 47, 98]⟩] w fun e w' => e = .returned (.int .i64 0) ∧ Below w.heap.size w w') := fun w hm => check_any ⟨#[97, 47, 98]⟩ w hm (by decide)
  have C2 : Hid (∀ w, Mx w → Calls Tryd.prog 12 #[.string ⟨#[97, 47, 47, 98]⟩] w fun e w' => e = .returned (.int .i64 6) ∧ Below w.heap.size w w') := fun w hm => check_any ⟨#[97, 47, 47, 98]⟩ w hm (by decide)
  have C3 : Hid (∀ w, Mx w → Calls Tryd.prog 28 #[.string ⟨#[97, 47, 98]⟩, .string ⟨#[97, 46, 98]⟩] w fun e w' => e = .returned (.bool true) ∧ Below w.heap.size w w') := fun w hm => less_any ⟨#[97, 47, 98]⟩ ⟨#[97, 46, 98]⟩ w hm (by decide) (by decide)
  have C4 : Hid (∀ w, Mx w → Calls Tryd.prog 28 #[.string ⟨#[97, 46, 98]⟩, .string ⟨#[97, 47, 98]⟩] w fun e w' => e = .returned (.bool false) ∧ Below w.heap.size w w') := fun w hm => less_any ⟨#[97, 46, 98]⟩ ⟨#[97, 47, 98]⟩ w hm (by decide) (by decide)
  have C5 : Hid (∀ w, Mx w → Calls Tryd.prog 16 #[.string ⟨#[97]⟩] w fun e w' => e = .returned (.string ⟨#[97, 126]⟩) ∧ Below w.heap.size w w') := fun w hm => kept_any ⟨#[97]⟩ w hm (by decide)
  have C6 : Hid (∀ w, Calls Tryd.prog 26 #[.string ⟨#[97, 47, 98]⟩, .string ⟨#[97]⟩] w fun e w' => e = .returned (.bool true) ∧ w' = w) := fun w => under_any ⟨#[97, 47, 98]⟩ ⟨#[97]⟩ w (by decide)
  have C7 : Hid (∀ w, Calls Tryd.prog 22 #[.string ⟨#[97, 47, 98]⟩] w fun e w' => e = .returned (.string ⟨#[97]⟩) ∧ w' = w) := fun w => parent_any ⟨#[97, 47, 98]⟩ w (by decide)
  have C8 : Hid (∀ w, Calls Tryd.prog 24 #[.string ⟨#[97, 47, 98]⟩] w fun e w' => e = .returned (.string ⟨#[98]⟩) ∧ w' = w) := fun w => base_any ⟨#[97, 47, 98]⟩ w (by decide)
  have HM : Hid (Mx w) := hm
  clear hm
  go_enter Tryd.func9, Tryd.ntmps9
  go_wp2_with fail
  refine (C1.out w HM.out).mono ?_
  rintro e w1 ⟨rfl, b1⟩
  have HM1 : Hid (Mx w1) := HM.out.kept b1
  have B1 : Hid (Below w.heap.size w w1) := b1
  clear b1
  go_wp2_with fail
  refine (C2.out w1 HM1.out).mono ?_
  rintro e w2 ⟨rfl, b2⟩
  have HM2 : Hid (Mx w2) := HM1.out.kept b2
  have B2 : Hid (Below w.heap.size w w2) := B1.out.trans (b2.mono B1.out.size)
  clear b2
  go_wp2_with fail
  refine (C3.out w2 HM2.out).mono ?_
  rintro e w3 ⟨rfl, b3⟩
  have HM3 : Hid (Mx w3) := HM2.out.kept b3
  have B3 : Hid (Below w.heap.size w w3) := B2.out.trans (b3.mono B2.out.size)
  clear b3
  go_wp2_with fail
  refine (C4.out w3 HM3.out).mono ?_
  rintro e w4 ⟨rfl, b4⟩
  have HM4 : Hid (Mx w4) := HM3.out.kept b4
  have B4 : Hid (Below w.heap.size w w4) := B3.out.trans (b4.mono B3.out.size)
  clear b4
  go_wp2_with fail
  refine (C5.out w4 HM4.out).mono ?_
  rintro e w5 ⟨rfl, b5⟩
  have B5 : Hid (Below w.heap.size w w5) := B4.out.trans (b5.mono B4.out.size)
  clear b5
  have c6 := C6.out w5
  have c7 := C7.out w5
  have c8 := C8.out w5
  go_wp2_with (first
    | (go_at_call 26; refine c6.mono ?_; rintro e w' ⟨rfl, rfl⟩)
    | (go_at_call 22; refine c7.mono ?_; rintro e w' ⟨rfl, rfl⟩)
    | (go_at_call 24; refine c8.mono ?_; rintro e w' ⟨rfl, rfl⟩))
  go_ret
  exact ⟨rfl, B5.out⟩
end Go.Proofs.YtgppjbfmpjabcaaDoor
