/-
  A slice of bytes in a row of the call's own, from some place of the row on: cut ahead, appended to; a window beside it.
-/
import Derived.Test.YtdaogagliglokaaWinQ
import Derived.ArgAppend
namespace Go.Proofs.Ytdaogagliglokaa
open Go.RowKit

/-- v has the bytes H, in the row at block r. -/
def Ofs (w : World) (r : Nat) (v : Value) (H : List Int) : Prop :=
  ∃ (off cap : Nat) (cur : Array Value), v = .slice (some ⟨r, off, none⟩) H.length cap ∧ w.heap[r]? = some (.cells cur 5 (0, 0)) ∧ H.length ≤ cap ∧ cap ≤ maxLen ∧ off + cap ≤ cur.size ∧
    (∀ i, i < H.length → cur[off + i]? = some (.int .u8 (H.getD i 0))) ∧ (∀ i, 0 ≤ H.getD i 0 ∧ H.getD i 0 < 256)

theorem Ofs.lt {w : World} {r : Nat} {v : Value} {H : List Int} (h : Ofs w r v H) : r < w.heap.size := by
  obtain ⟨_, _, _, _, hh, _⟩ := h
  exact (Array.getElem?_eq_some_iff.1 hh).1
theorem Ofs.same {w w' : World} {r : Nat} {v : Value} {H : List Int} (h : Ofs w r v H) (e : w'.heap[r]? = w.heap[r]?) : Ofs w' r v H := by
  obtain ⟨off, cap, cur, h1, h2, h3⟩ := h
  exact ⟨off, cap, cur, h1, e.trans h2, h3⟩
theorem Ofs.kept {w w' : World} {r : Nat} {v : Value} {H : List Int} (h : Ofs w r v H) (hb : Below w.heap.size w w') : Ofs w' r v H := h.same (hb.block r h.lt)
theorem Ofs.sl {w : World} {r : Nat} {v : Value} {H : List Int} (h : Ofs w r v H) : Sl w v H := by
  obtain ⟨off, cap, cur, rfl, h2, h3, h4, h5, h6, h7⟩ := h
  refine ⟨_, cap, rfl, h3, h4, (fun e => by cases e), ?_⟩
  rcases Nat.eq_zero_or_pos H.length with h0 | h0
  · exact .inl h0
  · exact .inr ⟨h0, r, off, rfl, h3, h4, fun i hi => by rw [cell_of_row _ _ _ _ _ _ h2]; exact h6 i hi, h7⟩
theorem Ofs.tag {w : World} {r : Nat} {v : Value} {H : List Int} (h : Ofs w r v H) : ∃ cur, w.heap[r]? = some (.cells cur 5 (0, 0)) := by
  obtain ⟨_, _, cur, _, hh, _⟩ := h
  exact ⟨cur, hh⟩

theorem ofs_own {w : World} {base n : Nat} {v : Value} {H : List Int} (h : w.ownsRow base 5 1 v n (H.map (Value.int .u8))) (hn : v ≠ .slice none 0 0) (hb : ∀ i, 0 ≤ H.getD i 0 ∧ H.getD i 0 < 256) : ∃ r, Ofs w r v H ∧ base ≤ r ∧ v.ownBlock = some r := by
  obtain ⟨h1, h2⟩ := h
  have hl : H.length = n := by simpa using h1
  subst hl
  rcases h2 with ⟨e, _⟩ | ⟨g, cap, cur, rfl, hg, hh, hc, hm, hs, ht⟩
  · exact absurd e hn
  · refine ⟨g, ⟨0, cap, cur, rfl, hh, hc, hm, by omega, fun i hi => ?_, hb⟩, hg, rfl⟩
    have := congrArg (fun l => l[i]?) ht
    simp only [Nat.mul_one, List.getElem?_take, if_pos hi, List.getElem?_map, List.getElem?_eq_getElem hi, Option.map_some] at this
    simpa [List.getD, List.getElem?_eq_getElem hi] using this

/-- The slice without its first byte, as Go cuts it. -/
theorem Ofs.cut {w : World} {r : Nat} {v : Value} {c : Int} {t : List Int} (h : Ofs w r v (c :: t)) :
    ∃ off cap, v = .slice (some ⟨r, off, none⟩) (t.length + 1) cap ∧ t.length + 1 ≤ cap ∧ cap ≤ maxLen ∧ w.cell? ⟨r, off, none⟩ = some (.int .u8 c) ∧
      ((cap = 1 ∧ Ofs w r (.slice (some ⟨r, off, none⟩) 0 0) t) ∨ (¬ cap = 1 ∧ Ofs w r (.slice (some ⟨r, off + 1, none⟩) t.length (cap - 1)) t)) := by
  obtain ⟨off, cap, cur, rfl, h2, h3, h4, h5, h6, h7⟩ := h
  have hc0 : w.cell? ⟨r, off, none⟩ = some (.int .u8 c) := by
    rw [cell_of_row _ _ _ _ _ _ h2]
    simpa using h6 0 (by simp)
  have h7' : ∀ i, 0 ≤ t.getD i 0 ∧ t.getD i 0 < 256 := fun i => by simpa using h7 (i + 1)
  simp only [List.length_cons] at h3
  refine ⟨off, cap, rfl, h3, h4, hc0, ?_⟩
  by_cases e : cap = 1
  · have ht : t = [] := List.length_eq_zero_iff.1 (by omega)
    subst ht
    exact .inl ⟨e, off, 0, cur, rfl, h2, Nat.le_refl _, by simp [maxLen], by omega, fun i hi => by simp at hi, h7'⟩
  · refine .inr ⟨e, off + 1, cap - 1, cur, rfl, h2, by omega, by omega, by omega, fun i hi => ?_, h7'⟩
    have := h6 (i + 1) (by simp; omega)
    rw [show off + 1 + i = off + (i + 1) by omega, this]
    simp

theorem Win.same {w w' : World} {base g : Nat} {hv : Value} {zs : List Int} (h : Win w base g hv zs) (e : w'.heap[g]? = w.heap[g]?) (e2 : ∀ k, hv.ownBlock = some k → w'.heap[k]? = w.heap[k]?) : Win w' base g hv zs := by
  obtain ⟨hs, gone, ⟨h1, h2, h3, h5, h6, hh⟩, h4⟩ := h
  refine ⟨hs, gone, ⟨h1, h2, h3, h5, ?_, e.trans hh⟩, h4⟩
  obtain ⟨k1, k2⟩ := h6
  rcases k2 with k2 | ⟨k, cap, cur, rfl, kg, kh, kr⟩
  · exact ⟨k1, .inl k2⟩
  · exact ⟨k1, .inr ⟨k, cap, cur, rfl, kg, (e2 k rfl).trans kh, kr⟩⟩
theorem Win.tag {w : World} {base g : Nat} {hv : Value} {zs : List Int} (h : Win w base g hv zs) : ∃ cur, w.heap[g]? = some (.cells cur 57 (0, 0)) := by
  obtain ⟨hs, gone, ⟨_, _, _, _, _, hh⟩, _⟩ := h
  exact ⟨_, hh⟩
theorem Win.own_lt {w : World} {base g : Nat} {hv : Value} {zs : List Int} (h : Win w base g hv zs) : ∀ k, hv.ownBlock = some k → k < w.heap.size := by
  obtain ⟨hs, gone, ⟨_, _, _, _, h6, _⟩, _⟩ := h
  intro k hk
  obtain ⟨cur, hc⟩ := own_tag h6 hk
  exact (Array.getElem?_eq_some_iff.1 hc).1
theorem win_ofs {w : World} {base g r : Nat} {hv v : Value} {zs H : List Int} (h : Win w base g hv zs) (k : Ofs w r v H) : r ≠ g := by
  rintro rfl
  obtain ⟨_, h1⟩ := h.tag
  obtain ⟨_, h2⟩ := k.tag
  rw [h1] at h2
  cases h2
/-- A window beside a row that has grown. -/
theorem Win.grown {w w' : World} {base g r : Nat} {hv : Value} {zs : List Int} (h : Win w base g hv zs) (hg : w.grownBy w' (some r)) (h1 : r ≠ g) (h2 : hv.ownBlock ≠ some r) : Win w' base g hv zs :=
  h.same (hg.block g h.lt (fun e => h1 (Option.some.inj e).symm)) (fun k hk => hg.block k (h.own_lt k hk) (fun e => h2 (hk.trans e)))
/-- A row beside a window that has changed. -/
theorem Ofs.fr {w w' : World} {base g r : Nat} {hv v : Value} {zs H : List Int} (k : Ofs w r v H) (h : Win w base g hv zs) (f : Fr g hv.ownBlock w w') (h2 : hv.ownBlock ≠ some r) : Ofs w' r v H :=
  k.same (f.block r k.lt (win_ofs h k) (fun e => h2 e.symm))

theorem setCells_one (w : World) (b o : Nat) (v : Value) : w.setCells b o [v] = w.setCell ⟨b, o, none⟩ v := rfl

/-- 'append(has, c)'. -/
theorem wpList_append_ofs {w : World} {ops : Array Oper} {rest : List Oper} {o : Oper} {a : Act} {Q : Exit → Act → World → Prop} (hgd : o.guard = none) (s x : Operand)
    (ho : o.op = .call { callee := .builtin .append, args := #[s, x], argTypes := #[22, 22] })
    (r : Nat) (v : Value) (H : List Int) (hs : a.eval s = v) (ofs : Ofs w r v H) (src : Value) (c : Int) (hx : a.eval x = src) (hsl : Sl w src [c]) (hbig : H.length ≤ 1000000)
    (h : ∀ v' w' r', Ofs w' r' v' (H ++ [c]) → w.grownBy w' (some r) → (r' = r ∨ w.heap.size ≤ r') → wpList Try.prog ops Q rest (a.put o.dst v') w') : wpList Try.prog ops Q (o :: rest) a w := by
  obtain ⟨i0, hi, hz0, hz1, hz2⟩ := info_parts info5'
  have hcb := hsl.bytes
  obtain ⟨ad, cap0, rfl, k1, k2, k3, k4⟩ := hsl
  obtain ⟨off, cap, cur, rfl, h2, h3, h4, h5, h6, h7⟩ := ofs
  have hbb := bytes_app h7 hcb
  cases ad with
  | none => have := k3 rfl; simp at k1; omega
  | some ad =>
    refine wpList_append_arg w hgd s x 22 ho 5 i0 (.int .u8 0) 1 1 Try.underlying22 hi hz0 hz1 hz2 rfl (by decide) r off H.length cap (H.map (Value.int .u8)) hs (by simp)
      (fun j u hj => ?_) ad 1 cap0 ([c].map (Value.int .u8)) hx rfl (news_row k4) (ints_one [c]) (fun hr j hj => ?_) (by unfold maxLen; omega) (by omega) (fun hr => ?_) (fun _ v' w' own hg => ?_)
    · rw [List.getElem?_map] at hj
      by_cases hlt : j < H.length
      · rw [List.getElem?_eq_getElem hlt] at hj
        simp only [Option.map_some, Option.some.injEq] at hj
        rw [cell_of_row _ _ _ _ _ _ h2, h6 j hlt, ← hj]
        simp [List.getD, List.getElem?_eq_getElem hlt]
      · rw [List.getElem?_eq_none (by omega)] at hj
        cases hj
    · have hj0 : j = 0 := by simpa using hj
      subst hj0
      refine ⟨?_, frozen_of_row _ _ _ _ _ h2⟩
      rw [cell_of_row _ _ _ _ _ _ h2, Array.getElem?_eq_getElem (by omega)]
      rfl
    · rw [Nat.mul_one, show ([c].map (Value.int .u8)) = [Value.int .u8 c] from rfl, setCells_one]
      refine h _ _ r ⟨off, cap, _, by simp, heap_setCell_same _ _ _ _ _ _ h2, by simpa using hr, h4, by simpa using h5, fun i hi => ?_, hbb⟩ ⟨rfl, rfl, rfl, by simp [World.setCell], fun k _ hk => heap_setCell_other _ _ _ _ (fun e => hk (by rw [e]))⟩ (.inl rfl)
      rw [Array.getElem?_setIfInBounds]
      by_cases e : i = H.length
      · subst e
        rw [if_pos rfl, if_pos (by omega)]
        simp
      · have hlt : i < H.length := by simp at hi; omega
        rw [if_neg (by omega), h6 i hlt]
        simp [List.getD, List.getElem?_append_left hlt]
    · have hl : H.length + 1 = (H ++ [c]).length := by simp
      rw [← List.map_append] at own
      have hne : v' ≠ .slice none 0 0 := by
        rintro rfl
        rcases own.2 with ⟨_, e⟩ | ⟨_, _, _, e, _⟩
        · omega
        · cases e
      obtain ⟨r', o1, o2, _⟩ := ofs_own own hne hbb
      exact h v' w' r' o1 ⟨hg.os, hg.tape, hg.output, hg.size, fun k hk _ => hg.block k hk (fun e => by cases e)⟩ (.inr o2)
end Go.Proofs.Ytdaogagliglokaa
