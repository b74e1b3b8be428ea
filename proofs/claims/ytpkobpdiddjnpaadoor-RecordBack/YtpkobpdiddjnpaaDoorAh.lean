/-
  What recordAhead makes of bytes, plainly; what is read is a record.
-/
import Derived.Test.YtpkobpdiddjnpaaDoorRed
namespace Go.Proofs.YtpkobpdiddjnpaaDoor
open Go.RowKit
set_option maxRecDepth 100000

def Bts (xs : List Int) : Prop := ∀ i, 0 ≤ xs.getD i 0 ∧ xs.getD i 0 < 256
theorem bts_drop {xs : List Int} (h : Bts xs) (n : Nat) : Bts (xs.drop n) := bytes_drop xs n h
theorem bts_take {xs : List Int} (h : Bts xs) (n : Nat) : Bts (xs.take n) := bytes_take xs n h
theorem rB_rest {xs : List Int} (e : Int) (h : Bts xs) : Bts (rB xs e).2.1 := by
  unfold rB; split
  · exact bts_drop h _
  · exact h
theorem rN_rest {xs : List Int} (e m : Int) (h : Bts xs) : Bts (rN xs e m).2.1 := by
  unfold rN; split
  · exact bts_drop h _
  · exact h
theorem rT_rest {xs : List Int} (e m : Int) (h : Bts xs) : Bts (rT xs e m).2.1 := by
  unfold rT; split
  · show Bts (Fi.txR xs m)
    unfold Fi.txR; split
    · exact bts_drop h _
    · exact h
  · exact h
theorem rR_rest {xs : List Int} (e m : Int) (h : Bts xs) : Bts (rR xs e m).2.1 := by
  unfold rR; split
  · exact bts_drop h _
  · exact h
theorem naN_le (xs : List Int) (m : Int) (hm : 0 ≤ m) : Fi.naN xs m ≤ m := by
  unfold Fi.naN
  split
  · rename_i h
    unfold Fi.naE at h
    by_cases h1 : Fi.shE xs.length xs = 0
    · rw [if_pos h1] at h
      by_cases h2 : Fi.shN xs.length xs ≤ m
      · exact h2
      · rw [if_neg h2] at h; cases h
    · rw [if_neg h1] at h; exact absurd h h1
  · exact hm
theorem rT_len (xs : List Int) (e : Int) (m : Nat) : (rT xs e m).1.length ≤ m := by
  unfold rT; split
  · show (Fi.txS xs m).length ≤ m
    unfold Fi.txS; split
    · rw [List.length_take]
      have := naN_le xs m (by omega)
      omega
    · simp
  · simp
theorem rdR_ok (X : List Int) (h : Bts X) : (rdR X).ok ∧ (rdR X).x.p.size ≤ 128 ∧ (rdR X).x.i ≤ 4611686018427387904 := by
  have b0 := rB_bd X 0 h
  have h1 := rB_rest 0 h
  have n0 := rN_bd (rB X 0).2.1 (rB X 0).2.2 1099511627776 h1
  have h2 := rN_rest (rB X 0).2.2 1099511627776 h1
  unfold rdR
  simp only
  generalize hn : rN (rB X 0).2.1 (rB X 0).2.2 1099511627776 = n at *
  split
  · have h3 := rT_rest n.2.2 128 h2
    have h4 := rR_rest (rT n.2.1 n.2.2 128).2.2 32 h3
    have z0 := rN_bd (rR (rT n.2.1 n.2.2 128).2.1 (rT n.2.1 n.2.2 128).2.2 32).2.1 (rR (rT n.2.1 n.2.2 128).2.1 (rT n.2.1 n.2.2 128).2.2 32).2.2 65536 h4
    have q0 := rR_len (rT n.2.1 n.2.2 128).2.1 (rT n.2.1 n.2.2 128).2.2 32
    have q1 := rR_bytes (rT n.2.1 n.2.2 128).2.1 (rT n.2.1 n.2.2 128).2.2 32 h3
    have t0 := rT_len n.2.1 n.2.2 128
    refine ⟨⟨b0.1, b0.2, ov32_len _ q0, ov32_bytes _ q1, pw_le n0, pw_le z0, i64_0⟩, ?_, by show n.1 ≤ _; omega⟩
    show (Fi.strB (rT n.2.1 n.2.2 128).1).size ≤ 128
    rw [Fi.strB_size]
    exact t0
  · split
    · have o0 := rN_bd n.2.1 n.2.2 65536 h2
      exact ⟨⟨b0.1, b0.2, z32_len, z32_bytes, pw_le n0, i64_0, pw_le o0⟩, by show (⟨#[]⟩ : ByteArray).size ≤ 128; decide, by show n.1 ≤ _; omega⟩
    · exact ⟨nx_ok _ _ b0 n0, by show (⟨#[]⟩ : ByteArray).size ≤ 128; decide, by show n.1 ≤ _; omega⟩
/-- The bytes of the record ahead; what recordAhead tells. -/
def whl (X : List Int) : List Int := X.take ((laU X).toNat + (laN X).toNat)
def ahX (X : List Int) : Rc := rdR ((whl X).drop (laU X).toNat)
def ahE (X : List Int) : Int := if laE X ≠ 0 then laE X else if (X.length : Int) - laU X < laN X then 3 else if rck (ahX X) ≠ 0 ∨ ¬ putB (ahX X) = whl X then 4 else 0
def ahR (X : List Int) : Rc := if ahE X = 0 then ahX X else rc0
def ahU (X : List Int) : Int := if ahE X = 0 then (whl X).length else 0
theorem fil_bts {X : List Int} (h : Bts X) : Bts (fil X) := by
  unfold fil
  refine bytes_app (bts_take h 8) fun i => ?_
  rw [List.getD, List.getElem?_replicate]
  split <;> decide
theorem la_bd (X : List Int) (h : Bts X) : 0 ≤ laN X ∧ laN X ≤ 512 ∧ 0 ≤ laU X ∧ (laE X = 0 → laU X ≤ X.length ∧ 1 ≤ laU X) := by
  have hb := Fi.sh_bd (fil X) (fil_bts h)
  unfold laN laU
  by_cases h0 : laE X = 0
  · rw [if_pos h0, if_pos h0]
    have h1 := h0
    unfold laE at h1
    by_cases e1 : fE X = 0
    · rw [if_neg (by omega)] at h1
      by_cases e2 : (X.length : Int) < fU X
      · rw [if_pos e2] at h1; cases h1
      · rw [if_neg e2] at h1
        by_cases e3 : 512 < fN X
        · rw [if_pos e3] at h1; cases h1
        · refine ⟨hb.1, by omega, hb.2.2.1, fun _ => ⟨by omega, ?_⟩⟩
          have e1' : Fi.shE (fil X).length (fil X) = 0 := e1
          show 1 ≤ Fi.shU (fil X).length (fil X)
          unfold Fi.shE at e1'
          unfold Fi.shU
          by_cases g1 : Fi.getE (fil X).length (fil X) = 0
          · rw [if_pos g1] at e1'
            by_cases g2 : Fi.getU (fil X).length (fil X) ≤ Fi.lenOf (Fi.getN (fil X).length (fil X))
            · rw [if_pos ⟨g1, g2⟩]
              unfold Fi.getE at g1
              unfold Fi.getU
              split at g1
              · cases g1
              · rename_i g3
                rw [if_neg g3]
                have := Nat.one_le_two_pow (n := Fi.gk (fil X))
                omega
            · rw [if_neg g2] at e1'; cases e1'
          · rw [if_neg g1] at e1'; exact absurd e1' g1
    · rw [if_pos e1] at h1; cases h1
  · rw [if_neg h0, if_neg h0]
    exact ⟨by omega, by omega, by omega, fun h => absurd h h0⟩
end Go.Proofs.YtpkobpdiddjnpaaDoor
