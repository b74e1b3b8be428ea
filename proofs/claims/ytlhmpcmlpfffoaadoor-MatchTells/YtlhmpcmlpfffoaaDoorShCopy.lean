/-
  What copy into a hasher's bytes does; a hasher that has been written a list of bytes.
-/
import Derived.Test.YtlhmpcmlpfffoaaDoorShPad
namespace Go.Proofs.YtlhmpcmlpfffoaaDoor.Sh
open Go.RowKit
set_option maxRecDepth 100000

theorem bytes_take (xs : List Int) (m : Nat) (h : ∀ i, 0 ≤ xs.getD i 0 ∧ xs.getD i 0 < 256) : ∀ i, 0 ≤ (xs.take m).getD i 0 ∧ (xs.take m).getD i 0 < 256 := by
  intro i
  by_cases hi : i < m
  · have := h i
    simpa [List.getD, List.getElem?_take, hi] using this
  · simp [List.getD, List.getElem?_take, hi]
theorem bytes_drop (xs : List Int) (m : Nat) (h : ∀ i, 0 ≤ xs.getD i 0 ∧ xs.getD i 0 < 256) : ∀ i, 0 ≤ (xs.drop m).getD i 0 ∧ (xs.drop m).getD i 0 < 256 := by
  intro i
  have := h (m + i)
  simpa [List.getD, List.getElem?_drop] using this
theorem _root_.Go.Proofs.YtlhmpcmlpfffoaaDoor.Sl.take {w : World} {a : Option Addr} {len cap : Nat} {xs : List Int} (h : Sl w (.slice a len cap) xs) (m : Nat) (hm : m ≤ len) : Sl w (.slice a m cap) (xs.take m) := by
  obtain ⟨a', cap', e, h1, h2, h3, h4⟩ := h
  cases e
  have hlen : (xs.take m).length = m := by rw [List.length_take]; omega
  have hr := h4.cut m (by omega)
  refine ⟨a, cap, by rw [hlen], by rw [hlen]; omega, h2, h3, ?_⟩
  rw [hlen]
  rcases hr with h | ⟨hp, b, off, rfl, h1, h2, hc, hz'⟩
  · exact .inl h
  · refine .inr ⟨hp, b, off, rfl, h1, h2, fun i hi => ?_, bytes_take xs m hz'⟩
    rw [hc i hi]; simp [List.getD, hi]
theorem _root_.Go.Proofs.YtlhmpcmlpfffoaaDoor.Sl.drop {w : World} {b off len cap : Nat} {xs : List Int} (h : Sl w (.slice (some ⟨b, off, Option.none⟩) len cap) xs) (n : Nat) (hn : n ≤ len) : Sl w (.slice (some ⟨b, off + n, Option.none⟩) (len - n) (cap - n)) (xs.drop n) := by
  obtain ⟨a', cap', e, h1, h2, h3, h4⟩ := h
  cases e
  have hl : (xs.drop n).length = xs.length - n := List.length_drop ..
  refine ⟨_, cap - n, by rw [hl], by rw [hl]; omega, by omega, fun e => (by cases e), ?_⟩
  rw [hl]
  rcases h4 with h | ⟨hp, b', off', e, hlc, hm, hc, hz⟩
  · exact .inl (by omega)
  · cases e
    rcases Nat.eq_zero_or_pos (xs.length - n) with h0 | h0
    · exact .inl h0
    · refine .inr ⟨h0, b, off + n, rfl, by omega, by omega, fun i hi => ?_, bytes_drop xs n hz⟩
      rw [show off + n + i = off + (n + i) by omega, hc (n + i) (by omega)]
      simp [List.getD, List.getElem?_drop]

theorem size5 : (Tryd.prog.info? 5).map (·.size) = some 1 := by kernel_rfl

/-- copy into a hasher's bytes. -/
theorem wpList_copy_hs {w : World} {ops : Array Oper} {rest : List Oper} {o : Oper} {a : Act} {Q : Exit → Act → World → Prop} (hgd : o.guard = none) (d s : Operand)
    (ho : o.op = .call { callee := .builtin .copy, args := #[d, s], argTypes := #[22, 22] }) (G i dCap : Nat) (hi : i ≤ 64) (hd : a.eval d = .slice (some ⟨G, 8 + i, none⟩) (64 - i) dCap)
    (src : Value) (Z : List Int) (hs : a.eval s = src) (hsl : Sl w src Z) (S : List Nat) (R : List Int) (n : Nat) (hh : Hs w G S R n)
    (h : ∀ w', Hs w' G S (over R i (Z.take (64 - i))) n → But G w w' → wpList Tryd.prog ops Q rest (a.put o.dst (goInt ((min Z.length (64 - i) : Nat) : Int))) w') : wpList Tryd.prog ops Q (o :: rest) a w := by
  obtain ⟨ad, cap, rfl, h1, h2, h3, h4⟩ := hsl
  by_cases h0 : min Z.length (64 - i) = 0
  · refine wpList_copy_nothing hgd d s 22 22 ho 5 Tryd.underlying22 size5 _ ad (64 - i) dCap Z.length cap hd hs h0 ?_
    have e : Z.take (64 - i) = [] := List.eq_nil_of_length_eq_zero (by rw [List.length_take, Nat.min_comm]; exact h0)
    have := h w (by rw [e]; exact hh) (But.refl _ _)
    rw [h0] at this
    exact this
  · rcases h4 with h4 | ⟨hp, b, off, rfl, hlc, hm, hc, hz⟩
    · omega
    · have hlen : ((Z.take (64 - i)).map (Value.int .u8)).length = min Z.length (64 - i) := by rw [List.length_map, List.length_take, Nat.min_comm]
      have hrun := run_copy_cells (P := Tryd.prog) w 22 22 o.type 5 G (8 + i) (64 - i) dCap ⟨b, off, none⟩ Z.length cap ((Z.take (64 - i)).map (Value.int .u8)) Tryd.underlying22 size5 hlen
        (fun j v hv => by
          have hj := (List.getElem?_eq_some_iff.1 hv).1
          rw [hlen] at hj
          rw [Addr.add_lit, hc j (by omega)]
          rw [List.getElem?_map, List.getElem?_take, if_pos (by omega), List.getElem?_eq_getElem (show j < Z.length by omega)] at hv
          simp only [Option.map_some, Option.some.injEq] at hv
          rw [← hv]
          simp [List.getD, List.getElem?_eq_getElem (show j < Z.length by omega)])
        (fun j hj => by
          rw [hlen] at hj
          have := hh.rest (i + j) (by omega)
          rw [show 8 + i + j = 8 + (i + j) by omega, this]; rfl)
        (fun j _ => hh.frozen _)
        (fun v hv => ints_one _ v hv)
      rw [hlen] at hrun
      have hF := h _ (Hs.setBytes (Z.take (64 - i)) i w R hh (by rw [List.length_take]; omega)) (But.cells G _ _ w)
      clear h hlen h0
      generalize (Z.take (64 - i)).map (Value.int .u8) = C at *
      generalize min Z.length (64 - i) = k at *
      refine wpList_plain hgd fun K hK => ?_
      unfold Oper.wp
      simp [execOp, ho, resolve, invoke, builtin, hd, hs, hrun, Result.andThen]
      exact hK _ _ hF

/-- A hasher that has been written l. -/
def HsOf (w : World) (g : Nat) (l : List Int) : Prop := ∃ R, Hs w g (Pl.words (Pl.absorb l)) R l.length ∧ Pl.Byt R ∧ ∀ i, i < l.length % 64 → R.getD i 0 = l.getD (64 * (l.length / 64) + i) 0
theorem HsOf.kept {w w' : World} {g : Nat} {l : List Int} (h : HsOf w g l) (hb : Below w.heap.size w w') : HsOf w' g l := by
  obtain ⟨R, h1, h2⟩ := h
  exact ⟨R, h1.kept hb, h2⟩
theorem HsOf.but {w w' : World} {f g : Nat} {l : List Int} (h : HsOf w g l) (hb : But f w w') (hn : g ≠ f) : HsOf w' g l := by
  obtain ⟨R, h1, h2⟩ := h
  exact ⟨R, h1.but hb hn, h2⟩
theorem HsOf.lt {w : World} {g : Nat} {l : List Int} (h : HsOf w g l) : g < w.heap.size := by
  obtain ⟨R, h1, h2⟩ := h
  exact h1.lt
theorem byt_over {R zs : List Int} {i : Nat} (hR : Pl.Byt R) (hz : Pl.Byt zs) (hl : i + zs.length ≤ R.length) : Pl.Byt (over R i zs) := by
  intro k
  rw [over_get _ _ _ _ hl]
  split
  · exact hz _
  · exact hR _
theorem eq_of_getD (A B : List Int) (hl : A.length = B.length) (h : ∀ i, i < A.length → A.getD i 0 = B.getD i 0) : A = B := by
  apply List.ext_getElem hl
  intro i h1 h2
  have := h i h1
  simpa [List.getD, List.getElem?_eq_getElem h1, List.getElem?_eq_getElem h2] using this
theorem getD_append_left (l m : List Int) (i : Nat) (h : i < l.length) : (l ++ m).getD i 0 = l.getD i 0 := by simp [List.getD, List.getElem?_append_left h]
theorem getD_append_right (l m : List Int) (i : Nat) (h : l.length ≤ i) : (l ++ m).getD i 0 = m.getD (i - l.length) 0 := by simp [List.getD, List.getElem?_append_right h]
theorem getD_take (l : List Int) (n i : Nat) (h : i < n) : (l.take n).getD i 0 = l.getD i 0 := by simp [List.getD, h]
theorem getD_drop (l : List Int) (n i : Nat) : (l.drop n).getD i 0 = l.getD (n + i) 0 := by simp [List.getD, List.getElem?_drop]

/-- The bytes held and what fills them up are the next block. -/
theorem block_full {l xs R : List Int} (hR : R.length = 64) (ht : ∀ i, i < l.length % 64 → R.getD i 0 = l.getD (64 * (l.length / 64) + i) 0) (hm : 64 - l.length % 64 ≤ xs.length) :
    over R (l.length % 64) (xs.take (64 - l.length % 64)) = ((l ++ xs).drop (64 * (l.length / 64))).take 64 := by
  have h64 : l.length % 64 < 64 := Nat.mod_lt _ (by omega)
  have hl : (xs.take (64 - l.length % 64)).length = 64 - l.length % 64 := by rw [List.length_take]; omega
  have hL : 64 * (l.length / 64) + l.length % 64 = l.length := Nat.div_add_mod ..
  apply eq_of_getD
  · rw [over_len, hR, List.length_take, List.length_drop, List.length_append]; omega
  · intro i hi
    rw [over_len, hR] at hi
    rw [over_get _ _ _ _ (by rw [hl, hR]; omega), hl, getD_take _ _ _ hi, getD_drop]
    split
    · rw [getD_take _ _ _ (by omega), getD_append_right _ _ _ (by omega)]
      congr 1
      omega
    · rw [ht i (by omega), getD_append_left _ _ _ (by omega)]
/-- Less than what fills the bytes up. -/
theorem held_more {l xs R : List Int} (hR : R.length = 64) (ht : ∀ i, i < l.length % 64 → R.getD i 0 = l.getD (64 * (l.length / 64) + i) 0) (hm : l.length % 64 + xs.length < 64) (i : Nat) (hi : i < (l ++ xs).length % 64) :
    (over R (l.length % 64) (xs.take (64 - l.length % 64))).getD i 0 = (l ++ xs).getD (64 * ((l ++ xs).length / 64) + i) 0 := by
  have hL : 64 * (l.length / 64) + l.length % 64 = l.length := Nat.div_add_mod ..
  rw [List.length_append] at hi ⊢
  have e1 : (l.length + xs.length) / 64 = l.length / 64 := by omega
  have e2 : (l.length + xs.length) % 64 = l.length % 64 + xs.length := by omega
  rw [e2] at hi
  rw [e1, List.take_of_length_le (by omega), over_get _ _ _ _ (by rw [hR]; omega)]
  split
  · rw [getD_append_right _ _ _ (by omega)]
    congr 1
    omega
  · rw [ht i (by omega), getD_append_left _ _ _ (by omega)]
theorem absorb_held {l xs : List Int} (hm : l.length % 64 + xs.length < 64) : Pl.absorb (l ++ xs) = Pl.absorb l := by
  have hL : 64 * (l.length / 64) + l.length % 64 = l.length := Nat.div_add_mod ..
  rw [Pl.absorb_eq, Pl.absorb_eq, List.length_append, show (l.length + xs.length) / 64 = l.length / 64 by omega]
  exact Pl.upto_append l xs _ (by omega)
theorem sl_rest {w : World} {G : Nat} {S : List Nat} {R : List Int} {n : Nat} (h : Hs w G S R n) (hb : Pl.Byt R) : Sl w (.slice (some ⟨G, 8, none⟩) 64 64) R :=
  ⟨some ⟨G, 8, none⟩, 64, by rw [h.2.2], by rw [h.2.2]; omega, by unfold maxLen; omega, (fun e => by cases e), .inr ⟨by rw [h.2.2]; omega, G, 8, rfl, by rw [h.2.2]; omega, by unfold maxLen; omega, fun i hi => h.rest i (by rw [h.2.2] at hi; exact hi), hb⟩⟩
end Go.Proofs.YtlhmpcmlpfffoaaDoor.Sh
