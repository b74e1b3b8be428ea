/-
  What order and slices.BinarySearchFunc answer: where an entry of a path stands in a list in order, or would.
-/
import Derived.Test.YtajcabfeabbknaaGreatDoorMw
namespace Go.Proofs.YtajcabfeabbknaaGreatDoor
open Go.RowKit

/-- How many, and how long, a longer list is taken to be. -/
def Lw (l : List En) : Prop := l.length ≤ 1000 ∧ ∀ x ∈ l, x.p.size ≤ 1000
theorem Lw.at {l : List En} (h : Lw l) (i : Nat) : (atE l i).p.size ≤ 1000 := by
  by_cases hi : i < l.length
  · exact h.2 _ (atE_mem l i hi)
  · have e : atE l i = e0 := by simp [atE, List.getD, List.getElem?_eq_none (show l.length ≤ i by omega)]
    rw [e]
    decide
/-- How a path stands to another one. -/
def ordI (a b : List UInt8) : Int := if les a b = true then -1 else if les b a = true then 1 else 0
theorem ordI_lt (a b : List UInt8) : ordI a b < 0 ↔ les a b = true := by
  unfold ordI
  by_cases h : les a b = true
  · rw [if_pos h]; simp [h]
  · rw [if_neg h]
    split <;> simp [h]
theorem ordI_eq (a b : List UInt8) : ordI a b = 0 ↔ a = b := by
  unfold ordI
  by_cases h : les a b = true
  · rw [if_pos h]
    exact ⟨(fun e => by cases e), fun e => absurd e (les_ne h)⟩
  · rw [if_neg h]
    by_cases h2 : les b a = true
    · rw [if_pos h2]
      exact ⟨(fun e => by cases e), fun e => absurd e.symm (les_ne h2)⟩
    · rw [if_neg h2]
      refine ⟨fun _ => ?_, fun _ => rfl⟩
      by_cases e : a = b
      · exact e
      · rcases les_tot e with e' | e'
        · exact absurd e' h
        · exact absurd e' h2
set_option maxHeartbeats 1000000 in
theorem order_any (u : Value) (x : En) (q : ByteArray) (w : World) (hu : EV w u x) (hm : Mx w) (hp : x.p.size ≤ 1000) (hq : q.size ≤ 1000) :
    Calls Tryz.prog 53 #[u, .string q] w fun e w' => e = .returned (.int .i64 (ordI (dl x.p) (dl q))) ∧ Below w.heap.size w w' := by
  obtain ⟨xa, xn, xc, rfl, _⟩ := hu
  obtain ⟨W1, hW1⟩ : ∃ W1, W1 = w.alloc (.cells #[.string x.p, .bool x.d, .slice xa xn xc] 46) := ⟨_, rfl⟩
  have b1 : Below w.heap.size w W1 := by rw [hW1]; exact (Below.refl _ _).alloc (Nat.le_refl _) _
  have K1 : W1.heap[w.heap.size]? = some (.cells #[.string x.p, .bool x.d, .slice xa xn xc] 46 (0, 0)) := by rw [hW1]; exact heap_alloc_new _ _
  have HK : Hid (∀ W, Below W1.heap.size W1 W → W.heap[w.heap.size]? = some (.cells #[.string x.p, .bool x.d, .slice xa xn xc] 46 (0, 0))) := fun W hb => (hb.block _ (lt_of_block K1)).trans K1
  have B1 : Hid (Below w.heap.size w W1) := b1
  have C1 := less_any x.p q W1 (hm.kept b1) (by omega) (by omega)
  have C2 : Hid (∀ W, Below w.heap.size w W → Calls Tryz.prog 75 #[.string q, .string x.p] W fun e w' => e = .returned (.bool (les (dl q) (dl x.p))) ∧ Below W.heap.size W w') := fun W hb => less_any q x.p W (hm.kept hb) (by omega) (by omega)
  have HR : Hid (ordI (dl x.p) (dl q) = if les (dl x.p) (dl q) = true then -1 else if les (dl q) (dl x.p) = true then 1 else 0) := rfl
  generalize ordI (dl x.p) (dl q) = r at *
  generalize les (dl x.p) (dl q) = r1 at *
  generalize les (dl q) (dl x.p) = r2 at *
  generalize x.p = xp at *
  generalize x.d = xd at *
  clear hm hp hq b1 K1
  go_enter Tryz.func53, Tryz.ntmps53
  go_wp2_with fail
  rw [← hW1]
  clear hW1
  refine C1.mono ?_
  rintro e w2 ⟨rfl, b2⟩
  have B2 : Hid (Below w.heap.size w w2) := B1.out.trans (b2.mono B1.out.size)
  obtain ⟨p0, p1, p2, f0, f1, f2⟩ := trio (HK.out w2 b2)
  clear C1 b2 HK
  cases r1 with
  | true =>
    have HR2 : Hid (r = -1) := HR.out
    clear HR
    go_wp2
    go_ret
    exact ⟨by rw [HR2.out]; rfl, B2.out⟩
  | false =>
    have HR2 : Hid (r = if r2 = true then 1 else 0) := HR.out
    clear HR
    have C3 := C2.out w2 B2.out
    clear C2
    go_wp2_with fail
    refine C3.mono ?_
    rintro e w3 ⟨rfl, b3⟩
    have B3 : Hid (Below w.heap.size w w3) := B2.out.trans (b3.mono B2.out.size)
    clear C3 b3
    cases r2 with
    | true =>
      have HR3 : Hid (r = 1) := HR2.out
      clear HR2
      go_wp2
      go_ret
      exact ⟨by rw [HR3.out]; rfl, B3.out⟩
    | false =>
      have HR3 : Hid (r = 0) := HR2.out
      clear HR2
      go_wp2
      go_ret
      exact ⟨by rw [HR3.out]; rfl, B3.out⟩

/-- Where an entry of a path stands, or would. -/
def pos (l : List En) (q : List UInt8) : Nat := (l.filter fun y => les y.k q).length
def there (l : List En) (q : List UInt8) : Bool := decide (pos l q < l.length) && decide ((atE l (pos l q)).k = q)
theorem pos_of {l : List En} {q : List UInt8} (i : Nat) (hi : i ≤ l.length) (h1 : ∀ k, k < i → les (atE l k).k q = true) (h2 : ∀ k, i ≤ k → k < l.length → les (atE l k).k q = false) : pos l q = i := by
  unfold pos
  have e : l.filter (fun y => les y.k q) = l.take i := by
    conv => lhs; rw [← List.take_append_drop i l, List.filter_append]
    have a : (l.take i).filter (fun y => les y.k q) = l.take i := List.filter_eq_self.2 fun y hy => by
      obtain ⟨k, hk, rfl⟩ := List.getElem_of_mem hy
      rw [List.length_take] at hk
      have := h1 k (by omega)
      rw [List.getElem_take]
      rwa [atE_eq l k (by omega)] at this
    have b : (l.drop i).filter (fun y => les y.k q) = [] := List.filter_eq_nil_iff.2 fun y hy => by
      obtain ⟨k, hk, rfl⟩ := List.getElem_of_mem hy
      rw [List.length_drop] at hk
      have := h2 (i + k) (by omega) (by omega)
      rw [List.getElem_drop]
      rw [atE_eq l _ (by omega)] at this
      simp [this]
    rw [a, b, List.append_nil]
  rw [e, List.length_take]
  omega
theorem srt_mono {l : List En} (h : Srt l) {q : List UInt8} {i k : Nat} (hik : i ≤ k) (hk : k < l.length) (h1 : les (atE l k).k q = true) : les (atE l i).k q = true := by
  rcases Nat.lt_or_ge i k with hlt | hge
  · have h2 := List.pairwise_iff_getElem.1 h i k (by omega) hk hlt
    rw [← atE_eq l i (by omega), ← atE_eq l k hk] at h2
    exact les_tra _ _ _ h2 h1
  · rw [show i = k by omega]; exact h1
theorem pos_spec {l : List En} (h : Srt l) (q : List UInt8) : pos l q ≤ l.length ∧ (∀ k, k < pos l q → les (atE l k).k q = true) ∧ ∀ k, pos l q ≤ k → k < l.length → les (atE l k).k q = false := by
  obtain ⟨a, b, c⟩ := findIdx_spec l (fun y => !les y.k q)
  have h1 : ∀ k, k < l.findIdx (fun y => !les y.k q) → les (atE l k).k q = true := fun k hk => by simpa using b k hk
  have h2 : ∀ k, l.findIdx (fun y => !les y.k q) ≤ k → k < l.length → les (atE l k).k q = false := fun k hk hkl => by
    have h3 := c (by omega)
    cases hb : les (atE l k).k q with
    | false => rfl
    | true => rw [srt_mono h hk hkl hb] at h3; cases h3
  rw [pos_of _ a h1 h2]
  exact ⟨a, h1, h2⟩
/-- How an entry is laid in its place: for what stands there, or between. -/
theorem ins_pos {l : List En} {x : En} (h : Srt l) : ins l x = if there l x.k then l.set (pos l x.k) x else l.take (pos l x.k) ++ x :: l.drop (pos l x.k) := by
  obtain ⟨a, b, c⟩ := pos_spec h x.k
  have hA : ∀ y ∈ l.take (pos l x.k), les y.k x.k = true := fun y hy => by
    obtain ⟨i, hi, rfl⟩ := List.getElem_of_mem hy
    rw [List.length_take] at hi
    have := b i (by omega)
    rw [List.getElem_take]
    rwa [atE_eq l i (by omega)] at this
  have lt : ∀ j k, j < k → k < l.length → les (atE l j).k (atE l k).k = true := fun j k h4 h5 => by
    rw [atE_eq l j (by omega), atE_eq l k h5]
    exact List.pairwise_iff_getElem.1 h j k (by omega) h5 h4
  cases ht : there l x.k with
  | true =>
    unfold there at ht
    rw [Bool.and_eq_true, decide_eq_true_eq, decide_eq_true_eq] at ht
    obtain ⟨h1, h2⟩ := ht
    have hB : ∀ y ∈ l.drop (pos l x.k + 1), les x.k y.k = true := fun y hy => by
      obtain ⟨i, hi, rfl⟩ := List.getElem_of_mem hy
      rw [List.length_drop] at hi
      have := lt (pos l x.k) (pos l x.k + 1 + i) (by omega) (by omega)
      rw [List.getElem_drop]
      rwa [h2, atE_eq l _ (by omega)] at this
    have := ins_cut (l.take (pos l x.k)) [atE l (pos l x.k)] (l.drop (pos l x.k + 1)) x hA (fun y hy => by rw [List.mem_singleton] at hy; rw [hy]; exact h2) hB
    rw [atE_eq l _ h1, List.append_assoc, List.singleton_append, ← List.drop_eq_getElem_cons h1, List.take_append_drop] at this
    rw [this, if_pos rfl, List.set_eq_take_append_cons_drop, if_pos h1]
  | false =>
    have hB : ∀ y ∈ l.drop (pos l x.k), les x.k y.k = true := fun y hy => by
      obtain ⟨i, hi, rfl⟩ := List.getElem_of_mem hy
      rw [List.length_drop] at hi
      rw [List.getElem_drop]
      have h1 : pos l x.k < l.length := by omega
      have h3 : les x.k (atE l (pos l x.k)).k = true := by
        have h4 := c _ (Nat.le_refl _) h1
        have h5 : (atE l (pos l x.k)).k ≠ x.k := fun e => by
          unfold there at ht
          rw [decide_eq_true h1, decide_eq_true e] at ht
          cases ht
        rcases les_tot h5 with h6 | h6
        · rw [h4] at h6; cases h6
        · exact h6
      rcases Nat.eq_zero_or_pos i with rfl | h0
      · rwa [atE_eq l _ (by omega)] at h3
      · have h6 := lt (pos l x.k) (pos l x.k + i) (by omega) (by omega)
        have := les_tra _ _ _ h3 h6
        rwa [atE_eq l _ (by omega)] at this
    have := ins_cut (l.take (pos l x.k)) [] (l.drop (pos l x.k)) x hA (fun y hy => by cases hy) hB
    rw [List.append_nil, List.take_append_drop] at this
    rw [this, if_neg (by simp)]
set_option maxHeartbeats 2000000 in
theorem search_any (v : Value) (l : List En) (q : ByteArray) (w : World) (h : ES w v l) (hl : Lw l) (hs : Srt l) (hm : Mx w) (hq : q.size ≤ 1000) :
    Calls Tryz.prog 52 #[v, .string q, .func (.func 53) #[] #[]] w fun e w' => e = .returned (.tuple #[.int .i64 (pos l (dl q)), .bool (there l (dl q))]) ∧ Below w.heap.size w w' := by
  obtain ⟨a, c, rfl, g2, _, _⟩ := h.shape
  have HS : Hid (ES w (.slice a l.length c) l) := h
  have HL : Hid (Lw l) := hl
  have HF : Hid (∀ (W : World) (u : Value) (x : En), Below w.heap.size w W → EV W u x → x.p.size ≤ 1000 → Calls Tryz.prog 53 #[u, .string q] W fun e w' => e = .returned (.int .i64 (ordI x.k (dl q))) ∧ Below W.heap.size W w') := fun W u x hb hu hp => order_any u x q W hu (hm.kept hb) hp hq
  have hn := hl.1
  have HP : Hid (∀ i, i ≤ l.length → (∀ k, k < i → les (atE l k).k (dl q) = true) → (∀ k, i ≤ k → k < l.length → les (atE l k).k (dl q) = false) → pos l (dl q) = i) := fun i => pos_of i
  have HM : Hid (∀ i k, i ≤ k → k < l.length → les (atE l k).k (dl q) = true → les (atE l i).k (dl q) = true) := fun i k a b => srt_mono hs a b
  have HT : Hid (there l (dl q) = (decide (pos l (dl q) < l.length) && decide ((atE l (pos l (dl q))).k = dl q))) := rfl
  obtain ⟨n, hn'⟩ : ∃ n, n = l.length := ⟨_, rfl⟩
  have HN : Hid (n = l.length) := hn'
  rw [← hn'] at HS HP HM HT g2 hn ⊢
  clear h hl hs hm hq hn'
  generalize there l (dl q) = tr at *
  generalize pos l (dl q) = ps at *
  generalize dl q = Q at *
  go_enter Tryz.func52, Tryz.ntmps52
  go_wp2
  go_loopw [9, 10] (fun p r wr => ∃ i j : Nat, i ≤ j ∧ j ≤ n ∧ p = .int .i64 i ∧ r = .int .i64 j ∧ (∀ k, k < i → les (atE l k).k Q = true) ∧ (∀ k, j ≤ k → k < n → les (atE l k).k Q = false) ∧ Below w.heap.size w wr) (fun p r _ => (intOf r - intOf p).toNat)
  case atStart => exact ⟨0, n, by omega, by omega, rfl, rfl, fun k hk => by omega, fun k hk hk2 => by omega, Below.refl _ _⟩
  case round =>
    obtain ⟨i, j, hij, hj, rfl, rfl, lo, hi, bel⟩ := hrel
    have HB : Hid (Below w.heap.size w wr) := bel
    have LO : Hid (∀ k, k < i → les (atE l k).k Q = true) := lo
    have HI : Hid (∀ k, j ≤ k → k < n → les (atE l k).k Q = false) := hi
    clear bel lo hi
    by_cases hlt : i < j
    · have lt2 : (i : Int) < (j : Int) := by omega
      obtain ⟨b, off, ua, un, uc, rfl, c1, c2, c3, hun, s1⟩ := (HS.out.kept HB.out).at ((i + j) / 2) (by rw [← HN.out]; omega)
      have CS := HF.out wr (.agg #[.string (atE l ((i + j) / 2)).p, .bool (atE l ((i + j) / 2)).d, .slice ua un uc]) (atE l ((i + j) / 2)) HB.out ⟨ua, un, uc, rfl, s1⟩ (HL.out.at _)
      have OL : Hid (ordI (atE l ((i + j) / 2)).k Q < 0 ↔ les (atE l ((i + j) / 2)).k Q = true) := ordI_lt _ _
      have LO2 : Hid (les (atE l ((i + j) / 2)).k Q = true → ∀ k, k < (i + j) / 2 + 1 → les (atE l k).k Q = true) := fun e k hk => HM.out k ((i + j) / 2) (by omega) (by omega) e
      have HI2 : Hid (les (atE l ((i + j) / 2)).k Q = false → ∀ k, (i + j) / 2 ≤ k → k < n → les (atE l k).k Q = false) := fun e k hk hkn => by
        cases hb : les (atE l k).k Q with
        | false => rfl
        | true => rw [HM.out ((i + j) / 2) k hk hkn hb] at e; cases e
      clear s1 hun
      generalize ordI (atE l ((i + j) / 2)).k Q = od at *
      generalize les (atE l ((i + j) / 2)).k Q = lb at *
      generalize atE l ((i + j) / 2) = x at *
      by_cases hod : od < 0
      · have LO3 : Hid (∀ k, k < (i + j) / 2 + 1 → les (atE l k).k Q = true) := LO2.out (OL.out.1 hod)
        clear LO2 HI2 OL
        go_wp2_with fail
        refine CS.mono ?_
        rintro e w2 ⟨rfl, b2⟩
        have B2 : Hid (Below w.heap.size w w2) := HB.out.trans (b2.mono HB.out.size)
        clear CS b2 c1 c2 c3
        go_wp2
        go_roundw
        case rel => exact ⟨(i + j) / 2 + 1, j, by omega, hj, by rw [show ((i : Int) + (j : Int)) / 2 + 1 = (((i + j) / 2 + 1 : Nat) : Int) by omega], rfl, LO3.out, HI.out, B2.out⟩
        case measure => simp [intOf]; omega
      · have HI3 : Hid (∀ k, (i + j) / 2 ≤ k → k < n → les (atE l k).k Q = false) := HI2.out (by
          have := OL.out
          cases lb with
          | false => rfl
          | true => exact absurd (this.2 rfl) hod)
        clear LO2 HI2 OL
        go_wp2_with fail
        refine CS.mono ?_
        rintro e w2 ⟨rfl, b2⟩
        have B2 : Hid (Below w.heap.size w w2) := HB.out.trans (b2.mono HB.out.size)
        clear CS b2 c1 c2 c3
        go_wp2
        go_roundw
        case rel => exact ⟨i, (i + j) / 2, by omega, by omega, rfl, by rw [show ((i : Int) + (j : Int)) / 2 = (((i + j) / 2 : Nat) : Int) by omega], LO.out, HI3.out, B2.out⟩
        case measure => simp [intOf]; omega
    · obtain rfl : j = i := by omega
      have hps : ps = j := HP.out j hj LO.out HI.out
      subst hps
      clear HP HM LO HI
      by_cases hn2 : ps < n
      · obtain ⟨b, off, ua, un, uc, rfl, c1, c2, c3, hun, s1⟩ := (HS.out.kept HB.out).at ps (by rw [← HN.out]; omega)
        have CS := HF.out wr (.agg #[.string (atE l ps).p, .bool (atE l ps).d, .slice ua un uc]) (atE l ps) HB.out ⟨ua, un, uc, rfl, s1⟩ (HL.out.at _)
        have HT2 : Hid (tr = decide (ordI (atE l ps).k Q = 0)) := by
          unfold Hid
          rw [HT.out, decide_eq_true hn2, Bool.true_and]
          exact decide_eq_decide.2 (ordI_eq _ _).symm
        have lt3 : (ps : Int) < (n : Int) := by omega
        clear s1 hun HT
        generalize ordI (atE l ps).k Q = od at *
        generalize atE l ps = x at *
        go_wp2_with fail
        refine CS.mono ?_
        rintro e w2 ⟨rfl, b2⟩
        have B2 : Hid (Below w.heap.size w w2) := HB.out.trans (b2.mono HB.out.size)
        clear CS b2 c1 c2 c3
        by_cases h0 : od = 0
        · subst h0
          have HT3 : Hid (tr = true) := HT2.out
          clear HT2
          go_wp2
          refine bodyPost_ret (v := .tuple #[.int .i64 ps, .bool true]) ?h1 rfl ?_
          case h1 => simp [results, Tryz.results52, go_sem, *]
          exact ⟨by rw [HT3.out], B2.out⟩
        · have HT3 : Hid (tr = false) := by unfold Hid; rw [HT2.out, decide_eq_false h0]
          have t0 : (od == 0) = false := by simp [h0]
          clear HT2
          go_wp2
          refine bodyPost_ret (v := .tuple #[.int .i64 ps, .bool false]) ?h2 rfl ?_
          case h2 => simp [results, Tryz.results52, go_sem, *]
          exact ⟨by rw [HT3.out], B2.out⟩
      · have HT3 : Hid (tr = false) := by unfold Hid; rw [HT.out, decide_eq_false hn2]; rfl
        clear HT
        go_wp2
        refine bodyPost_ret (v := .tuple #[.int .i64 ps, .bool false]) ?h3 rfl ?_
        case h3 => simp [results, Tryz.results52, go_sem, *]
        exact ⟨by rw [HT3.out], HB.out⟩
end Go.Proofs.YtajcabfeabbknaaGreatDoor
