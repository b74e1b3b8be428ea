/-
  What the document's Light of items answers.
-/
import Derived.Test.YtdnbiibijoggoaaGreatDoorTe
import Derived.Test.YtdnbiibijoggoaaGreatDoorIa
namespace Go.Proofs.YtdnbiibijoggoaaGreatDoor
open Go.RowKit
set_option maxRecDepth 100000

def LtI (l : List It) : Prop := l.length ≤ 66 ∧ ∀ x ∈ l, x.p.size ≤ 1000
set_option maxHeartbeats 2000000 in
theorem lightI_any (v : Value) (l : List It) (w : World) (h : IS w v l) (hl9 : l.length ≤ 9223372036854775807) :
    Calls Tryz.prog 11 #[v, .int .i64 66] w (LR (LtI l) w) := by
  obtain ⟨a, c, rfl, g2, g3, _⟩ := h.shape
  have HS : Hid (IS w (.slice a l.length c) l) := h
  have HD : Hid (l.length ≤ 66 → (∀ k, k < l.length → (atI l k).p.size ≤ 1000) → LtI l) := fun h1 h2 => ⟨h1, fun x hx => by
    obtain ⟨i, hi, rfl⟩ := List.getElem_of_mem hx
    have := h2 i hi
    rwa [atI_eq l i hi] at this⟩
  generalize LtI l = G at *
  obtain ⟨n, hn'⟩ : ∃ n, n = l.length := ⟨_, rfl⟩
  have HN : Hid (n = l.length) := hn'
  rw [← hn'] at HS HD g2 hl9 ⊢
  clear h hn' g3
  by_cases hlong : 66 < n
  · have h1 : (66 : Int) < (n : Int) := by omega
    clear HD HS
    go_enter Tryz.func11, Tryz.ntmps11
    go_wp2
    go_ret
    exact LR.no _ _
  have h1 : ¬ (66 : Int) < (n : Int) := by omega
  have HD2 : Hid ((∀ k, k < n → (atI l k).p.size ≤ 1000) → G) := HD.out (by omega)
  clear HD
  go_enter Tryz.func11, Tryz.ntmps11
  go_wp2
  go_loop [5] (fun q => ∃ j : Nat, j ≤ n ∧ q = .int .i64 j ∧ ∀ k, k < j → (atI l k).p.size ≤ 1000) (fun q => n - (intOf q).toNat)
  case atStart => exact ⟨0, by omega, rfl, fun k hk => by omega⟩
  case round =>
    obtain ⟨j, hj, rfl, ok⟩ := hrel
    have OK : Hid (∀ k, k < j → (atI l k).p.size ≤ 1000) := ok
    clear ok
    by_cases hlt : j < n
    · have lt2 : (j : Int) < (n : Int) := by omega
      obtain ⟨b, off, rfl, hr⟩ := HS.out.at j (by rw [← HN.out]; exact hlt)
      obtain ⟨c1, c2, c3⟩ := range_head hr
      have q1 : IntKind.i64.wrap ((j : Int) + 1) = ((j + 1 : Nat) : Int) := by simp [IntKind.wrap, IntKind.bits, IntKind.signed]; omega
      have NX : Hid ((atI l j).p.size ≤ 1000 → ∀ k, k < j + 1 → (atI l k).p.size ≤ 1000) := fun h1 k hk => by
        rcases Nat.lt_or_ge k j with h' | h'
        · exact OK.out k h'
        · rw [show k = j by omega]; exact h1
      clear OK c2 hr
      generalize (atI l j).p = xp at *
      generalize (atI l j).n = xn at *
      by_cases hp : 1000 < xp.size
      · have hp2 : 1000 < (xp.size : Int) := by omega
        go_wp2
        go_ret
        exact LR.no _ _
      have hp2 : ¬ 1000 < (xp.size : Int) := by omega
      have NX2 : Hid (∀ k, k < j + 1 → (atI l k).p.size ≤ 1000) := NX.out (by omega)
      clear NX
      by_cases hu : 1099511627776 < xn
      · go_wp2
        go_ret
        exact LR.no _ _
      · go_wp2
        go_round
        case rel => exact ⟨j + 1, by omega, by go_num, NX2.out⟩
        case measure => simp [intOf]; omega
    · obtain rfl : j = n := by omega
      have HR : Hid G := HD2.out OK.out
      clear HD2 OK
      go_wp2
      go_ret
      exact LR.yes _ HR.out
end Go.Proofs.YtdnbiibijoggoaaGreatDoor
