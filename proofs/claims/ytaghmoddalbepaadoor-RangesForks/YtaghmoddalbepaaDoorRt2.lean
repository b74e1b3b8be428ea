/-
  The document's Trim.
-/
import Derived.Test.YtaghmoddalbepaaDoorRc
namespace Go.Proofs.YtaghmoddalbepaaDoor
open Go.RowKit Go.Shelf
set_option maxRecDepth 100000

theorem ssp_none (w : World) (a : Addr) (c : Nat) (hc : c ≤ maxLen) : SSp w (.slice (some a) 0 c) [] := ⟨some a, c, rfl, Nat.zero_le _, hc, (fun e => by cases e), CL.nil 2, .inl rfl⟩
theorem ssp_cut {w : World} {b off n c k : Nat} {l : List Sp} (h : SSp w (.slice (some ⟨b, off, none⟩) n c) l) (hk : k ≤ l.length) : SSp w (.slice (some ⟨b, off + k * 2, none⟩) (n - k) (c - k)) (l.drop k) := by
  obtain ⟨a', c', h1, h2, h3, h4, h5, h6⟩ := h
  cases h1
  have hl : (l.map spc).length = l.length := List.length_map ..
  have hd : (l.drop k).map spc = (l.map spc).drop k := List.map_drop ..
  have hdl : ((l.map spc).drop k).length = l.length - k := by rw [List.length_drop, hl]
  unfold SSp
  rw [hd]
  refine ⟨_, c - k, by rw [hdl, hl], by rw [hdl]; omega, by omega, (fun e => by cases e), by rw [← hd]; exact spc_cl _, ?_⟩
  rcases h6 with h6 | ⟨b2, off2, e, h7⟩
  · exact .inl (by rw [h6]; simp)
  · cases e
    refine .inr ⟨b, _, rfl, fun i hi => ?_⟩
    rw [hdl] at hi
    have := h7 (k + i) (by rw [hl]; omega)
    rw [show off + k * 2 + i * 2 = off + (k + i) * 2 by omega]
    have e : atC ((l.map spc).drop k) i = atC (l.map spc) (k + i) := by simp [atC, List.getD, List.getElem?_drop]
    rw [e]
    exact this
theorem two_new (w : World) (o1 : Obj) (o2 : Obj) : ((w.alloc o1).alloc o2).heap[w.heap.size + 1]? = some o2 := by
  have := heap_alloc_new (w.alloc o1) o2
  rwa [show (w.alloc o1).heap.size = w.heap.size + 1 by simp] at this
theorem infoR : (Tryd.prog.info? 30).map (·.size) = some 1 := by kernel_rfl
set_option maxHeartbeats 1000000 in
theorem rtrim_any (w : World) (u : Value) (l : List Sp) (m : Int) (hu : SSp w u l) (hl : l.length ≤ 1000) (hm : m ≤ 9223372036854775807) :
    Calls Tryd.prog 27 #[.agg #[u], .int .i64 m] w fun e w' => ∃ u', e = .returned (.agg #[u']) ∧ SSp w' u' (trP l m) ∧ rowB u' = rowB u ∧ Below w.heap.size w w' := by
  have hs := hu
  obtain ⟨a, c, rfl, hlc, hcm, h4⟩ := hu.shape
  have hk : trN l m ≤ l.length := by unfold trN; omega
  have eN : max 0 ((l.length : Int) - max 0 m) = (trN l m : Nat) := by unfold trN; omega
  have HB : Hid (∀ o1 o2, Below w.heap.size w ((w.alloc o1).alloc o2)) := fun o1 o2 => (al_below w o1).alloc (al_below w o1).size o2
  have e2 : (trN l m : Int) ≤ (l.length : Int) := by omega
  have e3 : (l.length : Int) ≤ (c : Int) := by omega
  have hmx : c ≤ 9223372036854775807 := by unfold maxLen at hcm; omega
  have x2 : IntKind.i64.wrap ((l.length : Int) - max 0 m) = (l.length : Int) - max 0 m := by rw [IntKind.wrap_i64]; omega
  have x3 : -9223372036854775808 ≤ (l.length : Int) - max 0 m := by omega
  cases a with
  | none =>
    obtain rfl := h4 rfl
    obtain rfl : l = [] := List.length_eq_zero_iff.1 (by omega)
    have hz : trN [] m = 0 := by unfold trN; simp; omega
    have hp : trP [] m = [] := by unfold trP; simp
    rw [hp]
    rw [hz] at eN
    have HN : Hid (∀ W : World, SSp W (.slice none 0 0) []) := SSp.nil
    have HH : Hid (((w.alloc (.cells #[.slice none 0 0] 30)).alloc (.cells #[.slice none 0 0] 30)).heap[w.heap.size + 1]? = some (.cells #[.slice none 0 0] 30 (0, 0))) := two_new _ _ _
    clear hs hu h4 hk e2
    simp only [List.length_nil, Int.natCast_zero] at *
    go_enter Tryd.func27, Tryd.ntmps27
    go_wp2
    exact bodyPost_ret (v := .agg #[.slice none 0 0]) (results_cell_row rfl _ _ (w.heap.size + 1) 30 #[.slice none 0 0] (0, 0) _ rfl HH.out Tryd.underlying30 rfl infoR) rfl ⟨_, rfl, HN.out _, rfl, HB.out _ _⟩
  | some x =>
    by_cases hck : c = trN l m
    · have hp : trP l m = [] := by unfold trP; exact List.drop_of_length_le (by omega)
      have hlk : l.length = c := by omega
      rw [hp]
      have HN : Hid (∀ W : World, SSp W (.slice (some x) 0 0) []) := fun W => ssp_none W x 0 (Nat.zero_le _)
      have HH : Hid (((w.alloc (.cells #[.slice (some x) l.length c] 30)).alloc (.cells #[.slice (some x) 0 0] 30)).heap[w.heap.size + 1]? = some (.cells #[.slice (some x) 0 0] 30 (0, 0))) := two_new _ _ _
      rw [← hck] at eN e2
      rw [hlk] at HH eN x2 x3 ⊢
      clear hs hu h4 hk e2 hck hp hlk e3 hlc hl
      go_enter Tryd.func27, Tryd.ntmps27
      go_wp2
      exact bodyPost_ret (v := .agg #[.slice (some x) 0 0]) (results_cell_row rfl _ _ (w.heap.size + 1) 30 #[.slice (some x) 0 0] (0, 0) _ rfl HH.out Tryd.underlying30 rfl infoR) rfl ⟨_, rfl, HN.out _, rfl, HB.out _ _⟩
    · obtain ⟨xb, xo, xt⟩ := x
      have HS : Hid (∀ W : World, Below w.heap.size w W → SSp W (.slice (some ((⟨xb, xo, xt⟩ : Addr).add (trN l m * 2))) (l.length - trN l m) (c - trN l m)) (trP l m)) := fun W hb => by
        by_cases h0 : l = []
        · subst h0
          have hp : trP [] m = [] := by unfold trP; simp
          rw [hp, List.length_nil, Nat.zero_sub]
          exact ssp_none W _ _ (by omega)
        · obtain ⟨b, off, e, _⟩ := hs.at 0 (List.length_pos_iff.2 h0)
          simp only [Option.some.injEq, Addr.mk.injEq] at e
          obtain ⟨rfl, rfl, rfl⟩ := e
          rw [Addr.add_lit]
          exact ssp_cut (hs.kept hb) hk
      clear hs hu h4
      generalize trP l m = l' at *
      generalize trN l m = k9 at *
      generalize l.length = n9 at *
      have HH : Hid (((w.alloc (.cells #[.slice (some ⟨xb, xo, xt⟩) n9 c] 30)).alloc (.cells #[(.slice (some ((⟨xb, xo, xt⟩ : Addr).add (k9 * 2))) (n9 - k9) (c - k9))] 30)).heap[w.heap.size + 1]? = some (.cells #[(.slice (some ((⟨xb, xo, xt⟩ : Addr).add (k9 * 2))) (n9 - k9) (c - k9))] 30 (0, 0))) := two_new _ _ _
      have HT : Hid (k9 ≤ n9) := hk
      have HRB : Hid (rowB (.slice (some ((⟨xb, xo, xt⟩ : Addr).add (k9 * 2))) (n9 - k9) (c - k9)) = rowB (.slice (some ⟨xb, xo, xt⟩) n9 c)) := by unfold Hid; cases xt <;> simp only [rowB] <;> unfold Addr.add <;> (try split) <;> rfl
      clear hk hlc
      go_enter Tryd.func27, Tryd.ntmps27
      go_wp2
      exact bodyPost_ret (v := .agg #[(.slice (some ((⟨xb, xo, xt⟩ : Addr).add (k9 * 2))) (n9 - k9) (c - k9))]) (results_cell_row rfl _ _ (w.heap.size + 1) 30 #[(.slice (some ((⟨xb, xo, xt⟩ : Addr).add (k9 * 2))) (n9 - k9) (c - k9))] (0, 0) _ rfl HH.out Tryd.underlying30 rfl infoR) rfl ⟨_, rfl, HS.out _ (HB.out _ _), HRB.out, HB.out _ _⟩
end Go.Proofs.YtaghmoddalbepaaDoor
