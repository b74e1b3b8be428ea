/-
  What crc.Seal, bytes.Equal and crc.Open answer; nothing that was there is changed. Condition: the table of half bytes holds what its initialiser lays.
-/
import Derived.Test.YtpkobpdiddjnpaaDoorCrByt
import Derived.Test.YtpkobpdiddjnpaaDoorBa
import Derived.Deep.RegionHeld3
namespace Go.Proofs.YtpkobpdiddjnpaaDoor.Cr
open Go.RowKit
set_option maxRecDepth 100000

theorem Tab.pos {w : World} (h : Tab w) : 1 < w.heap.size := World.block_lt_of_cell? w _ (h 0 (by omega))
theorem Tab.below {w w' : World} {B : Nat} (h : Tab w) (hb : Below B w w') (hB : 1 < B) : Tab w' := fun i hi => (hb.cell (p := ⟨1, i, none⟩) hB).trans (h i hi)

set_option maxHeartbeats 1000000 in
theorem seal_any (v : Value) (xs : List Int) (w : World) (hw : Tab w) (sl : Sl w v xs) (hbig : xs.length ≤ 100000000000000) :
    Calls Tryd.prog 25 #[v] w fun r w' => ∃ v', r = .returned v' ∧ w'.ownsRow w.heap.size 5 1 v' (xs ++ leB (sumOf xs)).length ((xs ++ leB (sumOf xs)).map (Value.int .u8)) ∧ Below w.heap.size w w' := by
  have c1 := of_any v xs w hw sl
  have c2 := bytes_any (sumOf xs) w
  obtain ⟨a, cap, rfl, _⟩ := id sl
  generalize hC : sumOf xs = C at *
  have hfl : [xs, leB C].flatten = xs ++ leB C := by simp
  have HC : Hid (∀ (w1 : World) u1 u2, Sl w1 u1 xs → Sl w1 u2 (leB C) → Calls Tryd.prog 40 #[.slice (some ⟨w1.heap.size, 0, none⟩) 2 2] (w1.alloc (.cells #[u1, u2] 27)) fun r w' => ∃ v, r = .returned v ∧ w'.ownsRow (w1.heap.size + 1) 5 1 v (xs ++ leB C).length ((xs ++ leB C).map (Value.int .u8)) ∧ Below (w1.heap.size + 1) (w1.alloc (.cells #[u1, u2] 27)) w') := fun w1 u1 u2 s1 s2 => by
    have h := concat_any _ 2 _ _ (parts2 w1 u1 u2 xs (leB C) s1 s2) (by rw [hfl, List.length_append]; simp [leB]; omega)
    rw [hfl] at h
    simpa using h
  clear hfl
  have HSL : Hid (∀ w', Below w.heap.size w w' → Sl w' (.slice a xs.length cap) xs) := fun w' hb => sl.kept hb
  clear sl hw
  generalize xs.length = L at *
  go_enter Tryd.func25, Tryd.ntmps25
  go_wp2_with fail
  refine c1.mono ?_
  rintro e w1 ⟨rfl, e1⟩
  subst e1
  clear c1
  go_wp2_with fail
  refine c2.mono ?_
  rintro e w2 ⟨v2, rfl, sl2, bel2⟩
  clear c2
  have c3 := HC.out w2 _ v2 (HSL.out _ bel2) sl2
  obtain ⟨a2, cap2, rfl, _⟩ := sl2
  clear HC HSL
  have hl4 : (leB C).length = 4 := rfl
  rw [hl4] at c3 ⊢
  go_wp2_with fail
  refine c3.mono ?_
  rintro e w3 ⟨v3, rfl, own3, bel3⟩
  clear c3
  have B3 : Below w1.heap.size w1 w3 := (bel2.alloc bel2.size _).trans (bel3.mono (by have := bel2.size; omega))
  have HO : Hid (w3.ownsRow w1.heap.size 5 1 v3 (xs ++ leB C).length ((xs ++ leB C).map (Value.int .u8))) := own_mono own3 (by have := bel2.size; omega)
  clear own3 bel3 bel2
  go_wp2
  go_ret
  exact ⟨_, rfl, HO.out, B3⟩

/-- What Open answers. -/
def opE (ys : List Int) : Int := if ys.length < 4 then 3 else if ys.drop (ys.length - 4) = leB (sumOf (ys.take (ys.length - 4))) then 0 else 14
def opX (ys : List Int) : List Int := if opE ys = 0 then ys.take (ys.length - 4) else []

end Go.Proofs.YtpkobpdiddjnpaaDoor.Cr
