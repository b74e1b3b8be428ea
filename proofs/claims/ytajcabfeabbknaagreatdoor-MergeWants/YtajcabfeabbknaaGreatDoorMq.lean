/-
  What lay answers: a list with more entries laid in, each in its place.
  What lay answers, walked.
-/
import Derived.Test.YtajcabfeabbknaaGreatDoorMn
import Derived.Test.YtajcabfeabbknaaGreatDoorMy
namespace Go.Proofs.YtajcabfeabbknaaGreatDoor
open Go.RowKit

theorem flat_take (l : List En) (U : Nat → Value) (i : Nat) (h : i ≤ l.length) : (flat l U).take (i * 3) = flat (l.take i) U := by
  apply List.ext_getElem?
  intro j
  rw [List.getElem?_take, flat_get, flat_get, List.length_take]
  by_cases hj : j < i * 3
  · rw [if_pos hj, if_pos (by omega), if_pos (by omega)]
    unfold cellE
    rw [atE_take l i (j / 3) (by omega)]
  · rw [if_neg hj, if_neg (by omega)]
theorem flat_drop (l : List En) (U : Nat → Value) (i : Nat) : (flat l U).drop (i * 3) = flat (l.drop i) (fun j => U (i + j)) := by
  apply List.ext_getElem?
  intro j
  rw [List.getElem?_drop, flat_get, flat_get, List.length_drop]
  have e1 : (i * 3 + j) / 3 = i + j / 3 := by omega
  have e2 : (i * 3 + j) % 3 = j % 3 := by omega
  by_cases hj : j < (l.length - i) * 3
  · rw [if_pos hj, if_pos (by omega)]
    unfold cellE
    rw [e1, e2, atE_drop]
  · rw [if_neg hj, if_neg (by omega)]
theorem flat_ins (l : List En) (U : Nat → Value) (i : Nat) (x : En) (u : Value) (h : i ≤ l.length) :
    (flat l U).take (i * 3) ++ [Value.string x.p, .bool x.d, u] ++ (flat l U).drop (i * 3) = flat (l.take i ++ [x] ++ l.drop i) (behU (i + 1) (behU i U (fun _ => u)) (fun j => U (i + j))) := by
  have hl : (l.take i).length = i := by rw [List.length_take]; omega
  rw [flat_take l U i h, flat_drop, flat_one, flat_app, flat_app, hl]
  congr 2
  rw [List.length_append, hl]
  rfl
theorem atE_set (l : List En) (p : Nat) (x : En) (h : p < l.length) (k : Nat) : atE (l.set p x) k = if k = p then x else atE l k := by
  simp only [atE, List.getD, List.getElem?_set]
  by_cases hk : k = p
  · subst hk; simp [h]
  · rw [if_neg hk, if_neg (fun e => hk e.symm)]
theorem flat_set (l : List En) (U : Nat → Value) (p : Nat) (x : En) (u : Value) (h : p < l.length) :
    (((flat l U).set (p * 3) (.string x.p)).set (p * 3 + 1) (.bool x.d)).set (p * 3 + 2) u = flat (l.set p x) (fun i => if i = p then u else U i) := by
  apply List.ext_getElem?
  intro j
  rw [flat_get, List.length_set]
  by_cases hj : j < l.length * 3
  · rw [if_pos hj]
    simp only [List.getElem?_set, List.length_set, flat_len, flat_get, if_pos hj]
    have hm := Nat.mod_lt j (show 0 < 3 by omega)
    unfold cellE
    rw [atE_set l p x h]
    by_cases hd : j / 3 = p
    · rw [if_pos hd]
      rcases (show j % 3 = 0 ∨ j % 3 = 1 ∨ j % 3 = 2 by omega) with e | e | e
      · rw [if_neg (by omega), if_neg (by omega), if_pos (by omega), if_pos (by omega), if_pos e]
      · rw [if_neg (by omega), if_pos (by omega), if_pos (by omega), if_neg (by omega), if_pos e]
      · rw [if_pos (by omega), if_pos (by omega), if_neg (by omega), if_neg (by omega)]
        show some u = some (if j / 3 = p then u else U (j / 3))
        rw [if_pos hd]
    · rw [if_neg (by omega), if_neg (by omega), if_neg (by omega), if_neg hd]
      show _ = some (if j % 3 = 0 then Value.string (atE l (j / 3)).p else if j % 3 = 1 then Value.bool (atE l (j / 3)).d else if j / 3 = p then u else U (j / 3))
      rw [if_neg hd]
  · rw [if_neg hj]
    refine List.getElem?_eq_none ?_
    rw [List.length_set, List.length_set, List.length_set, flat_len]
    omega
/-- Entries whose cells lie in a world, their bytes in an elder one. -/
def DS (w0 w : World) (v : Value) (M : List En) : Prop := ∃ a c, v = .slice a M.length c ∧ M.length ≤ c ∧ (M = [] ∨ ∃ (b off : Nat) (V : Nat → Value), a = some ⟨b, off, none⟩ ∧ ∀ i, i < M.length →
  w.cell? ⟨b, off + i * 3, none⟩ = some (.string (atE M i).p) ∧ w.cell? ⟨b, off + i * 3 + 1, none⟩ = some (.bool (atE M i).d) ∧ w.cell? ⟨b, off + i * 3 + 2, none⟩ = some (V i) ∧ Sl w0 (V i) (atE M i).z)
theorem DS.of_es {w : World} {v : Value} {M : List En} (h : ES w v M) : DS w w v M := by
  obtain ⟨U, a, c, h1, h2, _, _, h5⟩ := h
  refine ⟨a, c, h1, h2, ?_⟩
  rcases h5 with h5 | ⟨b, off, h6, h7⟩
  · exact .inl h5
  · exact .inr ⟨b, off, U, h6, h7⟩
theorem DS.of_se {w0 w : World} {B : Nat} {v : Value} {M : List En} (h : SE w0 w B v M) : DS w0 w v M := by
  obtain ⟨U, h1, h2⟩ := h
  rcases h1.2 with ⟨rfl, h3⟩ | ⟨g, cap, cur, rfl, hg, hh, hl, hm, r⟩
  · obtain rfl : M = [] := List.length_eq_zero_iff.1 h3
    exact ⟨none, 0, rfl, Nat.le_refl _, .inl rfl⟩
  · refine ⟨_, cap, rfl, hl, .inr ⟨g, 0, U, rfl, fun i hi => ?_⟩⟩
    have c : ∀ j, j < M.length * 3 → w.cell? ⟨g, 0 + j, none⟩ = some (cellE M U j) := fun j hj => by
      have := World.ownsRow.cells h1 (g := g) rfl j (cellE M U j) (by rw [flat_get, if_pos hj])
      rwa [Addr.add_lit] at this
    have c0 := c (i * 3) (by omega)
    have c1 := c (i * 3 + 1) (by omega)
    have c2 := c (i * 3 + 2) (by omega)
    unfold cellE at c0 c1 c2
    rw [if_pos (by omega), show i * 3 / 3 = i by omega] at c0
    rw [if_neg (by omega), if_pos (by omega), show (i * 3 + 1) / 3 = i by omega] at c1
    rw [if_neg (by omega), if_neg (by omega), show (i * 3 + 2) / 3 = i by omega] at c2
    exact ⟨c0, by rw [Nat.add_assoc]; exact c1, by rw [Nat.add_assoc]; exact c2, h2 i hi⟩
theorem DS.keep {w0 w w' : World} {v : Value} {M : List En} (h : DS w0 w v M) (hk : M ≠ [] → ∀ b, v.ownBlock = some b → w'.heap[b]? = w.heap[b]?) : DS w0 w' v M := by
  obtain ⟨a, c, rfl, h2, h3⟩ := h
  refine ⟨a, c, rfl, h2, ?_⟩
  by_cases h0 : M = []
  · exact .inl h0
  rcases h3 with h3 | ⟨b, off, V, rfl, h4⟩
  · exact .inl h3
  · have hb := hk h0 b rfl
    refine .inr ⟨b, off, V, rfl, fun i hi => ?_⟩
    obtain ⟨q0, q1, q2, q3⟩ := h4 i hi
    exact ⟨(World.cell?_of_block hb).trans q0, (World.cell?_of_block hb).trans q1, (World.cell?_of_block hb).trans q2, q3⟩
theorem ES.block {w : World} {v : Value} {M : List En} (h : ES w v M) (h0 : M ≠ []) (b : Nat) (hb : v.ownBlock = some b) : b < w.heap.size := by
  obtain ⟨U, a, c, rfl, _, _, _, h5⟩ := h
  rcases h5 with h5 | ⟨b', off, rfl, h7⟩
  · exact absurd h5 h0
  · cases hb
    exact World.block_lt_of_cell? _ _ (h7 0 (List.length_pos_iff.2 h0)).1
theorem DS.at {w0 w : World} {a : Option Addr} {n c : Nat} {M : List En} (h : DS w0 w (.slice a n c) M) (i : Nat) (hi : i < M.length) : ∃ b off ua un uc, a = some ⟨b, off, none⟩ ∧ M.length ≤ c ∧
    w.cell? ⟨b, off + i * 3, none⟩ = some (.string (atE M i).p) ∧ w.cell? ⟨b, off + i * 3 + 1, none⟩ = some (.bool (atE M i).d) ∧ w.cell? ⟨b, off + i * 3 + 2, none⟩ = some (.slice ua un uc) ∧ Sl w0 (.slice ua un uc) (atE M i).z := by
  obtain ⟨a', c', e', h2, h3⟩ := h
  cases e'
  rcases h3 with rfl | ⟨b, off, V, rfl, h4⟩
  · simp at hi
  · obtain ⟨q0, q1, q2, q3⟩ := h4 i hi
    obtain ⟨ua, uc, e, r⟩ := q3
    rw [e] at q2
    exact ⟨b, off, ua, _, uc, rfl, h2, q0, q1, q2, ⟨ua, uc, rfl, r⟩⟩
/-- An entry for another one, in a row of the call's own. -/
theorem SE.set {w0 w : World} {B g n c : Nat} {L : List En} (h : SE w0 w B (.slice (some ⟨g, 0, none⟩) n c) L) (p : Nat) (x : En) (u : Value) (hp : p < L.length) (hu : Sl w0 u x.z) :
    SE w0 (((w.setCell ⟨g, p * 3, none⟩ (.string x.p)).setCell ⟨g, p * 3 + 1, none⟩ (.bool x.d)).setCell ⟨g, p * 3 + 2, none⟩ u) B (.slice (some ⟨g, 0, none⟩) n c) (L.set p x) := by
  obtain ⟨U, h1, h2⟩ := h
  have hn : n = L.length := by
    obtain ⟨a, c', e⟩ := own_shape h1
    cases e; rfl
  subst hn
  refine ⟨fun i => if i = p then u else U i, ?_, fun i hi => ?_⟩
  · unfold RE at h1 ⊢
    rw [List.length_set, ← flat_set L U p x u hp]
    exact (World.ownsRow.stored (World.ownsRow.stored (World.ownsRow.stored h1 (p * 3) _).1 (p * 3 + 1) _).1 (p * 3 + 2) _).1
  · rw [List.length_set] at hi
    rw [atE_set L p x hp]
    by_cases e : i = p
    · simp only [if_pos e]; exact hu
    · simp only [if_neg e]; exact h2 i hi
/-- An entry between others, in a row of the call's own. -/
theorem insert_any (w0 : World) (v : Value) (L : List En) (i h : Nat) (x : En) (u : Value) (w : World) (hs : SE w0 w w0.heap.size v L) (hB : Below w0.heap.size w0 w) (hi : i ≤ L.length) (hn : L.length ≤ 1000) (hu : Sl w0 u x.z)
    (hh : w.heap[h]? = some (.cells #[.string x.p, .bool x.d, u] 46 (0, 0))) (hne : v.ownBlock ≠ some h) :
    Calls Tryz.prog 54 #[v, .int .i64 i, .slice (some ⟨h, 0, none⟩) 1 1] w fun e w' => ∃ v', e = .returned v' ∧ SE w0 w' w0.heap.size v' (L.take i ++ x :: L.drop i) ∧ w.grownBy w' v.ownBlock ∧ (v'.ownBlock = v.ownBlock ∨ v'.ownBlock = some w.heap.size) := by
  obtain ⟨U, h1, h2⟩ := hs
  refine (insert_own w0.heap.size v L.length i h (flat L U) x.p x.d u w h1 hi hn hB.size ?_ (sl_one hu) hh hne).mono ?_
  · intro y hy
    obtain ⟨j, hj⟩ := List.getElem?_of_mem hy
    rw [flat_get] at hj
    split at hj
    · rename_i hj2
      cases hj
      unfold cellE
      split
      · rfl
      split
      · rfl
      exact sl_one (h2 _ (by omega))
    · cases hj
  · rintro e w' ⟨v', rfl, k1, k2, k3⟩
    refine ⟨v', rfl, ⟨behU (i + 1) (behU i U (fun _ => u)) (fun j => U (i + j)), ?_, fun k hk => ?_⟩, k2, k3⟩
    · unfold RE
      rw [flat_ins L U i x u hi] at k1
      have e1 : L.take i ++ x :: L.drop i = L.take i ++ [x] ++ L.drop i := by simp
      have e2 : (L.take i ++ [x] ++ L.drop i).length = L.length + 1 := by
        rw [List.length_append, List.length_append, List.length_take, List.length_drop]; simp; omega
      rw [e1, e2]
      exact k1
    · have hl : (L.take i).length = i := by rw [List.length_take]; omega
      have e1 : L.take i ++ x :: L.drop i = L.take i ++ [x] ++ L.drop i := by simp
      rw [e1] at hk ⊢
      rw [List.length_append, List.length_append, hl, List.length_singleton, List.length_drop] at hk
      unfold behU
      by_cases c1 : k < i + 1
      · rw [if_pos c1, atE_left _ _ k (by rw [List.length_append, hl, List.length_singleton]; exact c1)]
        by_cases c2 : k < i
        · rw [if_pos c2, atE_left _ _ k (by omega), atE_take L i k c2]
          exact h2 k (by omega)
        · rw [if_neg c2]
          obtain rfl : k = i := by omega
          have e := atE_right (L.take k) [x] 0
          rw [hl, Nat.add_zero] at e
          rw [e]
          exact hu
      · rw [if_neg c1]
        have e := atE_right (L.take i ++ [x]) (L.drop i) (k - (i + 1))
        rw [List.length_append, hl, List.length_singleton, show i + 1 + (k - (i + 1)) = k by omega] at e
        rw [e, atE_drop]
        exact h2 _ (by omega)
end Go.Proofs.YtajcabfeabbknaaGreatDoor
namespace Go.Proofs.YtajcabfeabbknaaGreatDoor
open Go.RowKit

theorem fold_next (M L : List En) (j : Nat) (h : j < M.length) : (M.take (j + 1)).foldl ins L = ins ((M.take j).foldl ins L) (atE M j) := by
  rw [take_at M j h, List.foldl_append]
  rfl
theorem len_ins (l : List En) (x : En) : (ins l x).length ≤ l.length + 1 := by
  unfold ins
  rw [List.length_append, List.length_cons]
  have h : ∀ m : List En, (m.filter (fun y => les y.k x.k)).length + (m.filter (fun y => les x.k y.k)).length ≤ m.length := by
    intro m
    induction m with
    | nil => simp
    | cons y m ih =>
      rw [List.filter_cons, List.filter_cons]
      cases h1 : les y.k x.k with
      | true => rw [les_asy h1]; simp; omega
      | false => cases h2 : les x.k y.k <;> simp <;> omega
  have := h l
  omega
theorem len_fold : ∀ (M L : List En), (M.foldl ins L).length ≤ L.length + M.length
  | [], L => by simp
  | x :: M, L => by
    rw [List.foldl_cons, List.length_cons]
    have h1 := len_fold M (ins L x)
    have h2 := len_ins L x
    omega
theorem mem_fold' : ∀ (M L : List En) (y : En), y ∈ M.foldl ins L → y ∈ M ∨ y ∈ L
  | [], L, y, h => .inr h
  | x :: M, L, y, h => by
    rcases mem_fold' M (ins L x) y h with h | h
    · exact .inl (List.mem_cons_of_mem _ h)
    · rcases (mem_ins L x y).1 h with rfl | ⟨h, _⟩
      · exact .inl List.mem_cons_self
      · exact .inr h
theorem lw_fold {M L : List En} (j : Nat) (h1 : Lw L) (h2 : Lw M) (h3 : L.length + M.length ≤ 1000) : Lw ((M.take j).foldl ins L) := by
  refine ⟨?_, fun x hx => ?_⟩
  · have := len_fold (M.take j) L
    rw [List.length_take] at this
    omega
  · rcases mem_fold' _ _ _ hx with h | h
    · exact h2.2 x (List.mem_of_mem_take h)
    · exact h1.2 x h
theorem own_lt {w0 w : World} {B : Nat} {v : Value} {L : List En} (h : SE w0 w B v L) : ∀ y, v.ownBlock = some y → y < w.heap.size := fun y hy => by
  obtain ⟨U, h1, _⟩ := h
  exact (World.ownsRow.lt h1 y hy).2
theorem SE.base {w0 w : World} {B : Nat} {v : Value} {L : List En} (h : SE w0 w B v L) : ∀ y, v.ownBlock = some y → B ≤ y := fun y hy => by
  obtain ⟨U, h1, _⟩ := h
  exact own_base h1 y hy
theorem SE.row {w0 w : World} {B : Nat} {a : Option Addr} {n c : Nat} {L : List En} (h : SE w0 w B (.slice a n c) L) (p : Nat) (hp : p < L.length) : ∃ g y0 y1 y2, a = some ⟨g, 0, none⟩ ∧ L.length ≤ c ∧ w.cell? ⟨g, p * 3, none⟩ = some y0 ∧ w.cell? ⟨g, p * 3 + 1, none⟩ = some y1 ∧ w.cell? ⟨g, p * 3 + 2, none⟩ = some y2 ∧
    w.frozen? ⟨g, p * 3, none⟩ = false ∧ w.frozen? ⟨g, p * 3 + 1, none⟩ = false ∧ w.frozen? ⟨g, p * 3 + 2, none⟩ = false := by
  obtain ⟨U, h1, h2⟩ := h
  rcases h1.2 with ⟨_, h3⟩ | ⟨g, cap, cur, e, hg, hh, hl, hm, hs, r⟩
  · omega
  · cases e
    have c0 : ∀ j, j < L.length * 3 → ∃ y, w.cell? ⟨g, j, none⟩ = some y := fun j hj => by
      refine ⟨cur[j]'(by rw [hs]; omega), ?_⟩
      simp [World.cell?, hh]
    have f0 : ∀ j, w.frozen? ⟨g, j, none⟩ = false := fun j => by simp [World.frozen?, hh]
    obtain ⟨y0, e0⟩ := c0 (p * 3) (by omega)
    obtain ⟨y1, e1⟩ := c0 (p * 3 + 1) (by omega)
    obtain ⟨y2, e2⟩ := c0 (p * 3 + 2) (by omega)
    exact ⟨g, y0, y1, y2, rfl, hl, e0, e1, e2, f0 _, f0 _, f0 _⟩
set_option maxHeartbeats 4000000 in
theorem lay_any (w0 : World) (v vm : Value) (L M : List En) (w : World) (h : SE w0 w w0.heap.size v L) (hB : Below w0.heap.size w0 w) (hd : DS w0 w vm M) (hap : M ≠ [] → ∀ b, vm.ownBlock = some b → v.ownBlock ≠ some b ∧ b < w.heap.size) (hs : Srt L) (hlL : Lw L) (hlM : Lw M) (h1k : L.length + M.length ≤ 1000) (hm : Mx w0) :
    Calls Tryz.prog 21 #[v, vm] w fun e w' => ∃ v', e = .returned v' ∧ SE w0 w' w0.heap.size v' (M.foldl ins L) ∧ Below w0.heap.size w0 w' := by
  obtain ⟨va, vc, rfl⟩ := h.shape
  have h0 := hd
  obtain ⟨ma, mc, rfl, _, _⟩ := h0
  have HS : Hid (SE w0 w w0.heap.size (.slice va L.length vc) L) := h
  have HB : Hid (Below w0.heap.size w0 w) := hB
  have HD : Hid (DS w0 w (.slice ma M.length mc) M) := hd
  have HA : Hid (M ≠ [] → ∀ b, (Value.slice ma M.length mc).ownBlock = some b → (Value.slice va L.length vc).ownBlock ≠ some b ∧ b < w.heap.size) := hap
  have HF : Hid (∀ j, Srt ((M.take j).foldl ins L)) := fun j => fold_srt _ hs
  have HW : Hid (∀ j, Lw ((M.take j).foldl ins L)) := fun j => lw_fold j hlL hlM h1k
  have HLM : Hid (Lw M) := hlM
  have HM : Hid (Mx w0) := hm
  have hmn := hlM.1
  have HZ : Hid ((M.take M.length).foldl ins L = M.foldl ins L) := by unfold Hid; rw [List.take_length]
  obtain ⟨Z, hZ⟩ : ∃ Z, Z = M.foldl ins L := ⟨_, rfl⟩
  rw [← hZ] at HZ ⊢
  obtain ⟨n, hn⟩ : ∃ n, n = M.length := ⟨_, rfl⟩
  have HN : Hid (n = M.length) := hn
  rw [← hn] at HD HA HZ hmn ⊢
  generalize L.length = nl at *
  clear h hB hd hap hs hlL hlM h1k hm hZ hn
  go_enter Tryz.func21, Tryz.ntmps21
  go_wp2
  go_loopw [0, 11] (fun s q wr => ∃ j : Nat, j ≤ n ∧ q = .int .i64 j ∧ SE w0 wr w0.heap.size s ((M.take j).foldl ins L) ∧ Below w0.heap.size w0 wr ∧ DS w0 wr (.slice ma n mc) M ∧ (M ≠ [] → ∀ b, (Value.slice ma n mc).ownBlock = some b → s.ownBlock ≠ some b ∧ b < wr.heap.size)) (fun _ q _ => n - (intOf q).toNat)
  case atStart => exact ⟨0, by omega, rfl, HS.out, HB.out, HD.out, HA.out⟩
  case round =>
    obtain ⟨j, hj, rfl, se, bel, ds, ap⟩ := hrel
    clear HS HB HD HA
    have HB : Hid (Below w0.heap.size w0 wr) := bel
    have HO : Hid (SE w0 wr w0.heap.size u0 ((M.take j).foldl ins L)) := se
    have HD : Hid (DS w0 wr (.slice ma n mc) M) := ds
    have HA : Hid (M ≠ [] → ∀ b, (Value.slice ma n mc).ownBlock = some b → u0.ownBlock ≠ some b ∧ b < wr.heap.size) := ap
    clear se bel ds ap
    by_cases hlt : j < n
    · have lt2 : (j : Int) < (n : Int) := by omega
      obtain ⟨b, off, ua, un, uc, rfl, hc, c1, c2, c3, sx⟩ := HD.out.at j (by rw [← HN.out]; exact hlt)
      have hc2 : n ≤ mc := by rw [HN.out]; exact hc
      obtain ⟨va', vc', rfl⟩ := HO.out.shape
      have q1 : IntKind.i64.wrap ((j : Int) + 1) = ((j + 1 : Nat) : Int) := by simp [IntKind.wrap, IntKind.bits, IntKind.signed]; omega
      have SX : Hid (Sl w0 (.slice ua un uc) (atE M j).z) := sx
      have HX : Hid ((atE M j).p.size ≤ 1000) := HLM.out.at j
      have HT : Hid ((M.take (j + 1)).foldl ins L = ins ((M.take j).foldl ins L) (atE M j)) := fold_next M L j (by rw [← HN.out]; exact hlt)
      have HI : Hid (ins ((M.take j).foldl ins L) (atE M j) = if there ((M.take j).foldl ins L) (dl (atE M j).p) then ((M.take j).foldl ins L).set (pos ((M.take j).foldl ins L) (dl (atE M j).p)) (atE M j) else ((M.take j).foldl ins L).take (pos ((M.take j).foldl ins L) (dl (atE M j).p)) ++ atE M j :: ((M.take j).foldl ins L).drop (pos ((M.take j).foldl ins L) (dl (atE M j).p))) := ins_pos (HF.out j)
      have HPL : Hid (pos ((M.take j).foldl ins L) (dl (atE M j).p) ≤ ((M.take j).foldl ins L).length) := (pos_spec (HF.out j) _).1
      have HTL : Hid (there ((M.take j).foldl ins L) (dl (atE M j).p) = true → pos ((M.take j).foldl ins L) (dl (atE M j).p) < ((M.take j).foldl ins L).length) := fun e => by
        unfold there at e
        rw [Bool.and_eq_true, decide_eq_true_eq] at e
        exact e.1
      have HLR : Hid (((M.take j).foldl ins L).length ≤ 1000) := (HW.out j).1
      obtain ⟨W1, hW1⟩ : ∃ W1, W1 = wr.alloc (.cells #[.string (atE M j).p, .bool (atE M j).d, .slice ua un uc] 46) := ⟨_, rfl⟩
      have b1 : Below wr.heap.size wr W1 := by rw [hW1]; exact (Below.refl _ _).alloc (Nat.le_refl _) _
      have K1 : W1.heap[wr.heap.size]? = some (.cells #[.string (atE M j).p, .bool (atE M j).d, .slice ua un uc] 46 (0, 0)) := by rw [hW1]; exact heap_alloc_new _ _
      have HK : Hid (∀ W, Below W1.heap.size W1 W → W.heap[wr.heap.size]? = some (.cells #[.string (atE M j).p, .bool (atE M j).d, .slice ua un uc] 46 (0, 0))) := fun W hb => (hb.block _ (lt_of_block K1)).trans K1
      have B1 : Hid (Below w0.heap.size w0 W1) := HB.out.trans (b1.mono HB.out.size)
      have O1 : Hid (SE w0 W1 w0.heap.size (.slice va' ((M.take j).foldl ins L).length vc') ((M.take j).foldl ins L)) := HO.out.below b1
      have BW : Hid (Below wr.heap.size wr W1) := b1
      have CS := search_any _ ((M.take j).foldl ins L) (atE M j).p W1 (O1.out.es B1.out) (HW.out j) (HF.out j) (HM.out.kept B1.out) (HX.out)
      have hjl : ((M.take j).foldl ins L).length ≤ vc' := by
        obtain ⟨a', c', e, h'⟩ := HO.out.shape4
        cases e; exact h'
      clear sx b1 K1 hc
      generalize atE M j = x at *
      generalize there ((M.take j).foldl ins L) (dl x.p) = tr at *
      generalize pos ((M.take j).foldl ins L) (dl x.p) = ps at *
      generalize (M.take j).foldl ins L = R at *
      obtain ⟨nr, hnr⟩ : ∃ nr, nr = R.length := ⟨_, rfl⟩
      have HNR : Hid (nr = R.length) := hnr
      rw [← hnr] at HO O1 CS HLR HPL HTL HA hjl ⊢
      clear hnr
      go_wp2_with fail
      rw [← hW1]
      clear hW1
      refine CS.mono ?_
      rintro e w2 ⟨rfl, b2⟩
      have B2 : Hid (Below w0.heap.size w0 w2) := B1.out.trans (b2.mono B1.out.size)
      have D2 : Hid (Below W1.heap.size W1 w2) := b2
      have O2 : Hid (SE w0 w2 w0.heap.size (.slice va' nr vc') R) := O1.out.below b2
      have BR : Hid (Below wr.heap.size wr w2) := BW.out.trans (b2.mono BW.out.size)
      clear CS b2 O1
      obtain ⟨p0, p1, p2, f0, f1, f2⟩ := trio (HK.out w2 D2.out)
      have DS2 : Hid (DS w0 w2 (.slice (some ⟨b, off, none⟩) n mc) M) := HD.out.keep fun h0 y hy => BR.out.block y (HA.out h0 y hy).2
      have A2 : Hid (M ≠ [] → ∀ y, (Value.slice (some ⟨b, off, none⟩) n mc).ownBlock = some y → (Value.slice va' nr vc').ownBlock ≠ some y ∧ y < w2.heap.size) := fun h0 y hy => ⟨(HA.out h0 y hy).1, Nat.lt_of_lt_of_le (HA.out h0 y hy).2 BR.out.size⟩
      cases tr with
      | true =>
        have hps : ps < nr := HTL.out rfl
        obtain ⟨g, y0, y1, y2, rfl, _, r0, r1, r2, z0, z1, z2⟩ := O2.out.row ps (by rw [← HNR.out]; exact hps)
        have lt3 : (ps : Int) < (nr : Int) := by omega
        have HT2 : Hid ((M.take (j + 1)).foldl ins L = R.set ps x) := by unfold Hid; rw [HT.out, HI.out]; rfl
        have S3 : Hid (SE w0 (((w2.setCell ⟨g, ps * 3, none⟩ (.string x.p)).setCell ⟨g, ps * 3 + 1, none⟩ (.bool x.d)).setCell ⟨g, ps * 3 + 2, none⟩ (.slice ua un uc)) w0.heap.size (.slice (some ⟨g, 0, none⟩) nr vc') ((M.take (j + 1)).foldl ins L)) := by
          unfold Hid; rw [HT2.out]; exact O2.out.set ps x _ (by rw [← HNR.out]; exact hps) SX.out
        have hg : w0.heap.size ≤ g := O2.out.base g rfl
        have B3 : Hid (Below w0.heap.size w0 (((w2.setCell ⟨g, ps * 3, none⟩ (.string x.p)).setCell ⟨g, ps * 3 + 1, none⟩ (.bool x.d)).setCell ⟨g, ps * 3 + 2, none⟩ (.slice ua un uc))) := ((B2.out.setCell hg _).setCell hg _).setCell hg _
        have D3 : Hid (DS w0 (((w2.setCell ⟨g, ps * 3, none⟩ (.string x.p)).setCell ⟨g, ps * 3 + 1, none⟩ (.bool x.d)).setCell ⟨g, ps * 3 + 2, none⟩ (.slice ua un uc)) (.slice (some ⟨b, off, none⟩) n mc) M) := DS2.out.keep fun h0 y hy => by
          have hne : y ≠ g := fun e => (A2.out h0 y hy).1 (by rw [e]; rfl)
          rw [Below.heap_setCell _ _ _ _ hne, Below.heap_setCell _ _ _ _ hne, Below.heap_setCell _ _ _ _ hne]
        have A3 : Hid (M ≠ [] → ∀ y, (Value.slice (some ⟨b, off, none⟩) n mc).ownBlock = some y → (Value.slice (some ⟨g, 0, none⟩) nr vc').ownBlock ≠ some y ∧ y < (((w2.setCell ⟨g, ps * 3, none⟩ (.string x.p)).setCell ⟨g, ps * 3 + 1, none⟩ (.bool x.d)).setCell ⟨g, ps * 3 + 2, none⟩ (.slice ua un uc)).heap.size) := fun h0 y hy => ⟨(A2.out h0 y hy).1, by
          have := (A2.out h0 y hy).2
          simpa [World.setCell] using this⟩
        clear HT HI hg c1 c2 c3 HTL HPL O2 DS2 A2 B2
        go_wp2
        go_roundw
        case rel => exact ⟨j + 1, by omega, by go_num, S3.out, B3.out, D3.out, A3.out⟩
        case measure => simp [intOf]; omega
      | false =>
        have HT2 : Hid ((M.take (j + 1)).foldl ins L = R.take ps ++ x :: R.drop ps) := by unfold Hid; rw [HT.out, HI.out]; rfl
        obtain ⟨W3, hW3⟩ : ∃ W3, W3 = w2.alloc (.cells #[.string x.p, .bool x.d, .slice ua un uc] 46) := ⟨_, rfl⟩
        have b3 : Below w2.heap.size w2 W3 := by rw [hW3]; exact (Below.refl _ _).alloc (Nat.le_refl _) _
        have K3 : W3.heap[w2.heap.size]? = some (.cells #[.string x.p, .bool x.d, .slice ua un uc] 46 (0, 0)) := by rw [hW3]; exact heap_alloc_new _ _
        have B3 : Hid (Below w0.heap.size w0 W3) := B2.out.trans (b3.mono B2.out.size)
        have CI := insert_any w0 (.slice va' nr vc') R ps w2.heap.size x (.slice ua un uc) W3 (O2.out.below b3) B3.out (by rw [← HNR.out]; exact HPL.out) (by rw [← HNR.out]; exact HLR.out) SX.out K3 (fun e => by
          have := own_lt O2.out _ e
          omega)
        have S2 : Hid (w2.heap.size ≤ W3.heap.size) := b3.size
        have E3 : Hid (∀ y, y < w2.heap.size → W3.heap[y]? = w2.heap[y]?) := fun y hy => b3.block y hy
        clear HT HI c1 c2 c3 HTL K3 b3
        go_wp2_with fail
        rw [← hW3]
        clear hW3
        refine CI.mono ?_
        rintro e w4 ⟨v4, rfl, s4, g4, k4⟩
        have S4 : Hid (SE w0 w4 w0.heap.size v4 ((M.take (j + 1)).foldl ins L)) := by unfold Hid; rw [HT2.out]; exact s4
        have B4 : Hid (Below w0.heap.size w0 w4) := B3.out.grown g4 B3.out.size (fun k hk => O2.out.base k hk)
        have D4 : Hid (DS w0 w4 (.slice (some ⟨b, off, none⟩) n mc) M) := DS2.out.keep fun h0 y hy => by
          obtain ⟨a1, a2⟩ := A2.out h0 y hy
          rw [g4.block y (Nat.lt_of_lt_of_le a2 S2.out) (fun e => a1 e.symm)]
          exact E3.out y a2
        have A4 : Hid (M ≠ [] → ∀ y, (Value.slice (some ⟨b, off, none⟩) n mc).ownBlock = some y → v4.ownBlock ≠ some y ∧ y < w4.heap.size) := fun h0 y hy => by
          obtain ⟨a1, a2⟩ := A2.out h0 y hy
          have a3 := S2.out
          have a4 := g4.size
          refine ⟨fun e => ?_, by omega⟩
          rcases k4 with k4 | k4
          · rw [k4] at e; exact a1 e
          · rw [k4] at e
            have : W3.heap.size = y := Option.some.inj e
            omega
        clear CI s4 g4 k4 O2 DS2 A2 B2 p0 p1 p2 f0 f1 f2
        obtain ⟨va4, vc4, rfl⟩ := S4.out.shape
        go_wp2
        go_roundw
        case rel => exact ⟨j + 1, by omega, by go_num, S4.out, B4.out, D4.out, A4.out⟩
        case measure => simp [intOf]; omega
    · obtain rfl : j = n := by omega
      have HR : Hid (SE w0 wr w0.heap.size u0 Z) := by
        have h1 := HO.out
        rw [HZ.out] at h1
        exact h1
      obtain ⟨va', vc', rfl⟩ := HO.out.shape
      go_wp2
      go_ret
      exact ⟨_, rfl, HR.out, HB.out⟩
end Go.Proofs.YtajcabfeabbknaaGreatDoor
