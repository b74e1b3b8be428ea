/-
  What Children answers.
  What the document's Children answers.
-/
import Derived.Test.YtajcabfeabbknaaGreatDoorCe
import Derived.Test.YtajcabfeabbknaaGreatDoorCp
import Derived.Test.YtajcabfeabbknaaGreatDoorRl
namespace Go.Proofs.YtajcabfeabbknaaGreatDoor
open Go.RowKit

theorem infoT9 : (Tryz.prog.info? 9).map (fun i => (i.zero, i.size, i.bytes)) = some (some (.string ByteArray.empty), 1, 16) := by kernel_rfl
/-- Texts in a row of the call's own. -/
def OS (w : World) (B : Nat) (v : Value) (xs : List ByteArray) : Prop := w.ownsRow B 9 1 v xs.length (xs.map Value.string)
theorem OS.nil (w : World) (B : Nat) : OS w B (.slice none 0 0) [] := ⟨rfl, .inl ⟨rfl, rfl⟩⟩
theorem OS.ss {w : World} {B : Nat} {v : Value} {xs : List ByteArray} (h : OS w B v xs) : SS w v xs := by
  have h' := h
  rcases h.2 with ⟨rfl, h2⟩ | ⟨g, cap, cur, rfl, hg, hh, hl, r⟩
  · obtain rfl : xs = [] := List.length_eq_zero_iff.1 h2
    exact SS.nil w
  · refine ⟨_, cap, rfl, hl, .inr ⟨g, 0, rfl, fun i x hx => ?_⟩⟩
    have := h'.cells (g := g) rfl i (.string x) (by rw [List.getElem?_map, hx]; rfl)
    rwa [Addr.add_lit] at this
theorem chi_next (l : List En) (q : List UInt8) (j : Nat) (h : j < l.length) : chi (l.take (j + 1)) q = if par (atE l j).k = q then chi (l.take j) q ++ [(atE l j).p] else chi (l.take j) q := by
  unfold chi
  rw [List.take_add_one, List.getElem?_eq_getElem h, List.filter_append, List.map_append, atE_eq l j h]
  by_cases hb : par (l[j]).k = q
  · rw [if_pos hb]; simp [hb]
  · rw [if_neg hb]; simp [hb]
theorem chi_len (l : List En) (q : List UInt8) (j : Nat) : (chi (l.take j) q).length ≤ l.length := by
  unfold chi
  rw [List.length_map]
  have h1 := List.length_filter_le (fun y : En => decide (par y.k = q)) (l.take j)
  rw [List.length_take] at h1
  omega

end Go.Proofs.YtajcabfeabbknaaGreatDoor
namespace Go.Proofs.YtajcabfeabbknaaGreatDoor
open Go.RowKit

set_option maxHeartbeats 2000000 in
theorem rchildren_any (v : Value) (l : List En) (q : ByteArray) (w : World) (h : ES w v l) (hl : Lt l) :
    Calls Tryz.prog 72 #[v, .string q] w fun e w' => ∃ v', e = .returned v' ∧ SS w' v' (chi l (dl q)) ∧ Below w.heap.size w w' := by
  obtain ⟨i9, hi, hz0, hz1, hz2⟩ := info_parts infoT9
  obtain ⟨a, c, rfl, h2, h3, h4⟩ := h.shape
  have HS : Hid (ES w (.slice a l.length c) l) := h
  have HL : Hid (Lt l) := hl
  have hn := hl.1
  have HC9 : Hid (∀ j, (chi (l.take j) (dl q)).length ≤ 100) := fun j => Nat.le_trans (chi_len l (dl q) j) hl.1
  have HNX : Hid (∀ j, j < l.length → chi (l.take (j + 1)) (dl q) = if par (atE l j).k = dl q then chi (l.take j) (dl q) ++ [(atE l j).p] else chi (l.take j) (dl q)) := fun j hj => chi_next l (dl q) j hj
  have CPa : Hid (∀ j W, Calls Tryz.prog 62 #[.string (atE l j).p] W fun e w' => e = .returned (.string (mk (par (atE l j).k))) ∧ w' = W) := fun j W => rparent_any (atE l j).p W (by have := (hl.at j).1; omega)
  obtain ⟨n, hn'⟩ : ∃ n, n = l.length := ⟨_, rfl⟩
  have HN : Hid (n = l.length) := hn'
  rw [← hn'] at HS HNX h2 hn ⊢
  clear h hl h3 h4 hn'
  go_enter Tryz.func72, Tryz.ntmps72
  go_wp2_with fail
  go_loopw [5, 6] (fun s q1 wr => ∃ j : Nat, j ≤ n ∧ q1 = .int .i64 j ∧ OS wr w.heap.size s (chi (l.take j) (dl q)) ∧ Below w.heap.size w wr) (fun _ q1 _ => n - (intOf q1).toNat)
  case atStart => exact ⟨0, by omega, rfl, OS.nil _ _, Below.refl _ _⟩
  case round =>
    obtain ⟨j, hj, rfl, os, bel⟩ := hrel
    have HB : Hid (Below w.heap.size w wr) := bel
    have HO : Hid (OS wr w.heap.size u5 (chi (l.take j) (dl q))) := os
    obtain ⟨va, vc, rfl⟩ := own_shape os
    obtain ⟨nv, hnv⟩ : ∃ nv, nv = (chi (l.take j) (dl q)).length := ⟨_, rfl⟩
    have HJ : Hid (nv = (chi (l.take j) (dl q)).length) := hnv
    have hj9 : nv ≤ 100 := by rw [hnv]; exact HC9.out j
    rw [← hnv] at HO ⊢
    clear bel os hnv
    by_cases hlt : j < n
    · have lt2 : (j : Int) < (n : Int) := by omega
      obtain ⟨b, off, ua, un, uc, rfl, c1, c2, c3, hun, hsl⟩ := (HS.out.kept HB.out).at j (by rw [← HN.out]; exact hlt)
      have q1 : IntKind.i64.wrap ((j : Int) + 1) = ((j + 1 : Nat) : Int) := by simp [IntKind.wrap, IntKind.bits, IntKind.signed]; omega
      have HT : Hid (chi (l.take (j + 1)) (dl q) = if par (atE l j).k = dl q then chi (l.take j) (dl q) ++ [(atE l j).p] else chi (l.take j) (dl q)) := HNX.out j hlt
      have O2 : Hid (wr.ownsRow w.heap.size 9 1 (.slice va nv vc) (chi (l.take j) (dl q)).length ((chi (l.take j) (dl q)).map Value.string)) := HO.out
      have cp : Hid (∀ W, Calls Tryz.prog 62 #[.string (atE l j).p] W fun e w' => e = .returned (.string (mk (par (atE l j).k))) ∧ w' = W) := CPa.out j
      have tq := tl_beq (mk (par (atE l j).k)) q
      have HTQ : Hid (decide (mk (par (atE l j).k) = q) = decide (par (atE l j).k = dl q)) := by
        unfold Hid
        by_cases h : par (atE l j).k = dl q
        · rw [decide_eq_true h, h, mk_dl]; simp
        · rw [decide_eq_false h]
          refine decide_eq_false fun e => h ?_
          rw [← e, dl_mk]
      rw [HTQ.out] at tq
      clear hun hsl HO HTQ
      generalize atE l j = x at *
      generalize chi (l.take j) (dl q) = L at *
      generalize mk (par x.k) = pp at *
      rw [← HJ.out] at O2
      by_cases hin : par x.k = dl q
      · have HT2 : Hid (chi (l.take (j + 1)) (dl q) = L ++ [x.p]) := by unfold Hid; rw [HT.out, if_pos hin]
        rw [decide_eq_true hin] at tq
        clear HT hin
        obtain ⟨W4, hW4⟩ : ∃ W4, W4 = wr.alloc (.cells #[.string x.p] 9) := ⟨_, rfl⟩
        have n4 : Below wr.heap.size wr W4 := by rw [hW4]; exact (Below.refl _ _).alloc (Nat.le_refl _) _
        have B4 : Hid (Below w.heap.size w W4) := HB.out.trans (n4.mono HB.out.size)
        have O4 : Hid (W4.ownsRow w.heap.size 9 1 (.slice va nv vc) nv (L.map Value.string)) := own_below O2.out n4
        have NW : Hid (∀ (i : Nat) u, [Value.string x.p][i]? = some u → W4.cell? ((⟨wr.heap.size, 0, none⟩ : Addr).add i) = some u) := fun i u hu => by
          rw [hW4, Addr.add_lit, Nat.zero_add, cell_of_row _ _ _ _ _ _ (heap_alloc_new _ _)]
          simpa using hu
        have N1 : Hid (∀ u ∈ [Value.string x.p], u.oneCell' = true) := fun u hu => by
          simp only [List.mem_singleton] at hu
          rw [hu]; rfl
        subst hW4
        clear n4
        go_wp2_with (first | (go_at_call 62; refine (cp.out _).mono ?_; rintro e wq ⟨rfl, hq⟩; replace hq := hq.symm; subst hq) | (at_builtin; refine wpList_append_own_wide _ rfl _ _ 99 rfl w.heap.size 9 i9 (.string ByteArray.empty) 1 16 Tryz.underlying99 hi hz0 hz1 hz2 rfl (by decide) _ nv (L.map Value.string) rfl O4.out ⟨wr.heap.size, 0, none⟩ 1 1 [.string x.p] rfl rfl NW.out N1.out (by unfold maxLen; omega) (by omega) B4.out.size (Hid.out ?_)))
        unfold Hid
        intro v5 w5 o5 g5 _
        have O5 : Hid (OS w5 w.heap.size v5 (chi (l.take (j + 1)) (dl q))) := by
          unfold Hid OS
          rw [HT2.out, List.length_append, List.map_append, ← HJ.out]
          exact o5
        have B5 : Hid (Below w.heap.size w w5) := B4.out.grown g5 B4.out.size (own_base O4.out)
        clear o5 g5 O4 NW N1
        go_wp2
        go_roundw
        case rel => exact ⟨j + 1, by omega, by go_num, O5.out, B5.out⟩
        case measure => simp [intOf]; omega
      · have HT2 : Hid (chi (l.take (j + 1)) (dl q) = L) := by unfold Hid; rw [HT.out, if_neg hin]
        rw [decide_eq_false hin] at tq
        clear HT hin
        have O3 : Hid (OS wr w.heap.size (.slice va nv vc) (chi (l.take (j + 1)) (dl q))) := by
          unfold Hid OS
          rw [HT2.out, ← HJ.out]
          exact O2.out
        go_wp2_with (go_at_call 62; refine (cp.out _).mono ?_; rintro e wq ⟨rfl, hq⟩; replace hq := hq.symm; subst hq)
        go_roundw
        case rel => exact ⟨j + 1, by omega, by go_num, O3.out, HB.out⟩
        case measure => simp [intOf]; omega
    · obtain rfl : j = n := by omega
      have HR : Hid (SS wr (.slice va nv vc) (chi l (dl q))) := by
        have h1 := HO.out.ss
        have h2 : l.take j = l := by rw [HN.out, List.take_length]
        rw [h2] at h1
        exact h1
      go_wp2
      go_ret
      exact ⟨_, rfl, HR.out, HB.out⟩
end Go.Proofs.YtajcabfeabbknaaGreatDoor
