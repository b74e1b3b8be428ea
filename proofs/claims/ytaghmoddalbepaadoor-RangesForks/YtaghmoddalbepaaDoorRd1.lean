/-
  The document's Remove.
-/
import Derived.Test.YtaghmoddalbepaaDoorRt2
namespace Go.Proofs.YtaghmoddalbepaaDoor
open Go.RowKit Go.Shelf
set_option maxRecDepth 100000

/-- A span laid behind a row of the call's own. -/
theorem wpList_append_sp {w : World} {ops : Array Oper} {rest : List Oper} {o : Oper} {a : Act} {Q : Exit → Act → World → Prop} (hgd : o.guard = none) (s x : Operand)
    (ho : o.op = .call { callee := .builtin .append, args := #[s, x], argTypes := #[28, 28] }) (B : Nat) (v : Value) (l : List Sp) (hs : a.eval s = v) (hown : RSp w B v l) (g : Nat) (y : Sp) (hx : a.eval x = .slice (some ⟨g, 0, none⟩) 1 1) (hc : w.rangeAt g 0 (spc y)) (hbig : l.length ≤ 100000) (hbase : B ≤ w.heap.size)
    (h : ∀ v' w', RSp w' B v' (l ++ [y]) → w.grownBy w' v.ownBlock → wpList Tryd.prog ops Q rest (a.put o.dst v') w') : wpList Tryd.prog ops Q (o :: rest) a w := by
  refine wpList_append_it hgd s x 28 58 2 16 (.agg #[.int .i64 0, .int .i64 0]) ho Tryd.underlying28 infoN rfl (by decide) (by decide) B v (l.map spc) hs hown g (spc y) 1 rfl (by simp [spc, Value.oneCell']) hx hc (by rw [List.length_map]; exact hbig) hbase ?_
  intro v' w' r gr
  refine h v' w' ?_ gr
  unfold RSp
  rw [List.map_append]
  exact r
theorem sp_new (w : World) (x : Sp) : (w.alloc (.cells #[.int .i64 x.1, .int .i64 x.2] 58)).rangeAt w.heap.size 0 (spc x) := blk_range (cs := spc x) (heap_alloc_new _ _)
/-- A variable of the call's own stays where an elder row grows. -/
theorem grown_loc {wr W W' : World} {B k : Nat} {v : Value} {l : List Sp} {o : Obj} (hr : RSp wr B v l) (g : W.grownBy W' v.ownBlock) (hk : W.heap[k]? = some o) (hge : wr.heap.size ≤ k) : W'.heap[k]? = some o :=
  (g.block k (blk_lt hk) (fun e => by have := own_lt hr k e.symm; omega)).trans hk
theorem loc_cells {W : World} {k : Nat} {a b : Value} (h : W.heap[k]? = some (.cells #[a, b] 58 (0, 0))) : W.cell? ⟨k, 0, none⟩ = some a ∧ W.cell? ⟨k, 1, none⟩ = some b := by simp [World.cell?, h]
theorem take_snoc {l : List Sp} {j : Nat} (h : j < l.length) : l.take (j + 1) = l.take j ++ [atS l j] := by rw [atS_eq l j h, List.take_succ_eq_append_getElem h]
theorem rRem_app (l m : List Sp) (f t : Int) : rRem (l ++ m) f t = rRem l f t ++ rRem m f t := by unfold rRem; rw [List.map_append, List.flatten_append]
theorem rp_len (f t : Int) (x : Sp) : (rp f t x).length ≤ 2 := by unfold rp; rw [List.length_append]; split <;> split <;> simp
theorem rRem_len (l : List Sp) (f t : Int) : (rRem l f t).length ≤ 2 * l.length := by
  induction l with
  | nil => simp [rRem]
  | cons x l ih =>
    have := rp_len f t x
    rw [show x :: l = [x] ++ l from rfl, rRem_app, List.length_append, List.length_append]
    have e : rRem [x] f t = rp f t x := by simp [rRem]
    rw [e, List.length_singleton]
    omega
set_option maxHeartbeats 1000000 in
theorem rrem_no (w : World) (u : Value) (l : List Sp) (f t : Int) (hu : SSp w u l) (hm : may f t = false) :
    Calls Tryd.prog 26 #[.agg #[u], .int .i64 f, .int .i64 t] w fun e w' => e = .returned (.agg #[u]) ∧ Below w.heap.size w w' := by
  obtain ⟨a, c, rfl, -, -, -⟩ := hu.shape
  have cm := fun W => rmay_any f t W
  simp only [hm] at cm
  have HB : Hid (∀ o1 o2, Below w.heap.size w ((w.alloc o1).alloc o2)) := fun o1 o2 => (al_below w o1).alloc (al_below w o1).size o2
  have HH : Hid (((w.alloc (.cells #[.slice a l.length c] 30)).alloc (.cells #[.slice a l.length c] 30)).heap[w.heap.size + 1]? = some (.cells #[.slice a l.length c] 30 (0, 0))) := two_new _ _ _
  clear hu hm
  generalize l.length = n at *
  go_enter Tryd.func26, Tryd.ntmps26
  go_wp2_with fail
  refine (cm _).mono ?_
  rintro e w1 ⟨rfl, rfl⟩
  clear cm
  go_wp2
  exact bodyPost_ret (v := .agg #[.slice a n c]) (results_cell_row rfl _ _ (w.heap.size + 1) 30 #[.slice a n c] (0, 0) _ rfl HH.out Tryd.underlying30 rfl infoR) rfl ⟨rfl, HB.out _ _⟩
set_option maxHeartbeats 4000000 in
theorem rrem_yes (w : World) (u : Value) (l : List Sp) (f t : Int) (hu : SSp w u l) (hl : l.length ≤ 1000) (hok : ∀ x ∈ l, Okk x) (hm : may f t = true) :
    Calls Tryd.prog 26 #[.agg #[u], .int .i64 f, .int .i64 t] w fun e w' => ∃ u', e = .returned (.agg #[u']) ∧ RSp w' w.heap.size u' (rRem l f t) ∧ Below w.heap.size w w' := by
  have o := (may_iff f t).1 hm
  unfold Okk at o
  simp only at o
  obtain ⟨o1, o2, o3⟩ := o
  obtain ⟨a, c, rfl, -, -, -⟩ := hu.shape
  have cm := fun W => rmay_any f t W
  simp only [hm] at cm
  obtain ⟨W0, hW0⟩ : ∃ W0, W0 = (w.alloc (.cells #[.slice a l.length c] 30)).alloc (.cells #[.slice none 0 0] 30) := ⟨_, rfl⟩
  have b0 : Below w.heap.size w W0 := by rw [hW0]; exact (al_below w _).alloc (al_below w _).size _
  have s0 : W0.heap.size = w.heap.size + 2 := by rw [hW0]; simp
  have g0 : W0.heap[w.heap.size]? = some (.cells #[.slice a l.length c] 30 (0, 0)) := by rw [hW0]; exact blk_kept (heap_alloc_new w _) (al_below _ _) (by simp)
  have g1 : W0.heap[w.heap.size + 1]? = some (.cells #[.slice none 0 0] 30 (0, 0)) := by rw [hW0]; exact two_new _ _ _
  have HC0 : Hid (∀ W, Below W0.heap.size W0 W → W.cell? ⟨w.heap.size, 0, none⟩ = some (.slice a l.length c)) := fun W hb => by have := blk_kept g0 hb (blk_lt g0); simp [World.cell?, this]
  have HAT : Hid (∀ j, j < l.length → ∀ W, Below W0.heap.size W0 W → ∃ b off, a = some ⟨b, off, none⟩ ∧ W.cell? ⟨b, off + j * 2, none⟩ = some (.int .i64 (atS l j).1) ∧ W.cell? ⟨b, off + j * 2 + 1, none⟩ = some (.int .i64 (atS l j).2)) := fun j hj W hb => by
    obtain ⟨b, off, e, q⟩ := (hu.kept (b0.trans (hb.mono b0.size))).at j hj
    exact ⟨b, off, e, (spC q).1, (spC q).2⟩
  have HST : Hid (∀ j, j < l.length → rRem (l.take (j + 1)) f t = rRem (l.take j) f t ++ rp f t (atS l j) ∧ Okk (atS l j) ∧ (rRem (l.take j) f t).length ≤ 2000) := fun j hj => ⟨by
    rw [take_snoc hj, rRem_app]
    congr 1
    simp [rRem], hok _ (atS_mem l j hj), by
    have := rRem_len (l.take j) f t
    rw [List.length_take] at this
    omega⟩
  have HFN : Hid (rRem (l.take l.length) f t = rRem l f t) := by unfold Hid; rw [List.take_length]
  have HZ : Hid (rRem (l.take 0) f t = []) := by unfold Hid; rfl
  have HEND : Hid (∀ W v m, Below W0.heap.size W0 W → RSp W W0.heap.size v m → W.cell? ⟨w.heap.size + 1, 0, none⟩ = some (.slice none 0 0) ∧ W.frozen? ⟨w.heap.size + 1, 0, none⟩ = false ∧ (W.setCell ⟨w.heap.size + 1, 0, none⟩ v).heap[w.heap.size + 1]? = some (.cells #[v] 30 (0, 0)) ∧ RSp (W.setCell ⟨w.heap.size + 1, 0, none⟩ v) w.heap.size v m ∧ Below w.heap.size w (W.setCell ⟨w.heap.size + 1, 0, none⟩ v)) := fun W v m hb hr => by
    have g := blk_kept g1 hb (blk_lt g1)
    refine ⟨by simp [World.cell?, g], by simp [World.frozen?, g], set_one g, ?_, ?_⟩
    · refine (hr.keep (fun k cs hk hh => ?_)).mono (by omega)
      rw [Below.heap_setCell _ _ _ _ (fun e => by have e' : k = w.heap.size + 1 := e; have := own_ge hr k hk; omega)]
      exact hh
    · exact (b0.trans (hb.mono b0.size)).setCell (by show w.heap.size ≤ w.heap.size + 1; omega) _
  have HB0 : Hid (Below w.heap.size w W0) := b0
  have hw0 := hW0.symm
  clear hu hok b0 g0 g1 hW0 s0 hm
  generalize hF : (fun j => rRem (l.take j) f t) = F at *
  have HF : Hid (∀ j, rRem (l.take j) f t = F j) := fun j => by rw [← hF]
  clear hF
  simp only [HF.out] at HST HFN HZ
  generalize rRem l f t = C at *
  obtain ⟨n, hn⟩ : ∃ n, n = l.length := ⟨_, rfl⟩
  rw [← hn] at HC0 HAT HST HFN hw0 hl ⊢
  clear hn HF
  go_enter Tryd.func26, Tryd.ntmps26
  go_wp2_with fail
  refine (cm _).mono ?_
  rintro e w1 ⟨rfl, e1⟩
  rw [e1]
  clear cm hw0 e1 w1
  go_wp2
  go_loopw [7, 8] (fun u v wr => ∃ j : Nat, j ≤ n ∧ v = .int .i64 j ∧ RSp wr W0.heap.size u (F j) ∧ Below W0.heap.size W0 wr) (fun _ v _ => n - (intOf v).toNat)
  case atStart => exact ⟨0, by omega, rfl, by rw [HZ.out]; exact RSp.nil _ _, Below.refl _ _⟩
  case round =>
    obtain ⟨j, hj, rfl, hrs, bel⟩ := hrel
    have HB : Hid (Below W0.heap.size W0 wr) := bel
    obtain ⟨va, vc, rfl, -, -, -⟩ := hrs.is.shape
    have HR : Hid (RSp wr W0.heap.size (.slice va (F j).length vc) (F j)) := hrs
    have c0 := HC0.out wr bel
    clear bel hrs
    by_cases hjn : j < n
    · have lt2 : (j : Int) < (n : Int) := by omega
      obtain ⟨b, off, rfl, k1, k2⟩ := HAT.out j hjn wr HB.out
      obtain ⟨s1, s2, s3⟩ := HST.out j hjn
      have HS1 : Hid (F (j + 1) = F j ++ rp f t (atS l j)) := s1
      have HLN : Hid ((F j).length ≤ 2000) := s3
      unfold Okk at s2
      clear s1 s3
      generalize atS l j = x at *
      obtain ⟨m, hm⟩ : ∃ m, m = F j := ⟨_, rfl⟩
      rw [← hm] at HR HLN HS1 ⊢
      have HM : Hid (m = F j) := hm
      clear hm
      generalize hz : m.length = z at *
      have HLZ : Hid (m.length = z) := hz
      clear hz
      by_cases hlo : x.1 < f
      · by_cases hhi : t < x.2
        · have d1 : decide (x.1 < f) = true := by simpa using hlo
          have d2 : decide (t < x.2) = true := by simpa using hhi
          have HN : Hid (F (j + 1) = ((m ++ [(x.1, min x.2 (f - 1))]) ++ [(max x.1 (t + 1), x.2)])) := by unfold Hid; rw [HS1.out]; unfold rp; rw [if_pos hlo, if_pos hhi]; simp
          clear HS1
          have b1 : Below wr.heap.size wr (wr.alloc (.cells #[.int .i64 x.1, .int .i64 x.2] 58)) := al_below _ _
          have l1 : (wr.alloc (.cells #[.int .i64 x.1, .int .i64 x.2] 58)).heap[wr.heap.size]? = some (.cells #[.int .i64 x.1, .int .i64 x.2] 58 (0, 0)) := heap_alloc_new _ _
          have BB1 : Hid (Below W0.heap.size W0 (wr.alloc (.cells #[.int .i64 x.1, .int .i64 x.2] 58))) := HB.out.trans (b1.mono HB.out.size)
          have HL1 : Hid ((wr.alloc (.cells #[.int .i64 x.1, .int .i64 x.2] 58)).heap[wr.heap.size]? = some (.cells #[.int .i64 x.1, .int .i64 x.2] 58 (0, 0))) := l1
          have HR1 : Hid (RSp (wr.alloc (.cells #[.int .i64 x.1, .int .i64 x.2] 58)) W0.heap.size (.slice va z vc) m) := HR.out.below b1
          clear b1 l1
          have HA3 : Hid (RSp ((wr.alloc (.cells #[.int .i64 x.1, .int .i64 x.2] 58)).alloc (.cells #[.int .i64 x.1, .int .i64 (min x.2 (f - 1))] 58)) W0.heap.size (.slice va z vc) m) := (HR1.out).below (al_below _ _)
          have HK3 : Hid (((wr.alloc (.cells #[.int .i64 x.1, .int .i64 x.2] 58)).alloc (.cells #[.int .i64 x.1, .int .i64 (min x.2 (f - 1))] 58)).rangeAt (wr.heap.size + 1) 0 (spc (x.1, (min x.2 (f - 1))))) := by unfold Hid; rw [show wr.heap.size + 1 = (wr.alloc (.cells #[.int .i64 x.1, .int .i64 x.2] 58)).heap.size by simp]; exact sp_new _ (x.1, min x.2 (f - 1))
          have HZ3 : Hid (W0.heap.size ≤ ((wr.alloc (.cells #[.int .i64 x.1, .int .i64 x.2] 58)).alloc (.cells #[.int .i64 x.1, .int .i64 (min x.2 (f - 1))] 58)).heap.size) := Nat.le_trans (BB1.out).size (al_below _ _).size
          go_wp2_with (at_builtin; refine wpList_append_sp rfl _ _ rfl W0.heap.size _ (m) rfl HA3.out (wr.heap.size + 1) (x.1, (min x.2 (f - 1))) rfl HK3.out (by have := HLN.out; rw [HLZ.out]; omega) HZ3.out (Hid.out ?_))
          unfold Hid
          intro v3 w3 r3 g3
          have B3 : Hid (Below W0.heap.size W0 w3) := below_grw (BB1.out.alloc BB1.out.size _) (Nat.le_refl _) g3 (fun k hk => own_ge HA3.out k hk)
          have l3 := grown_loc HR.out g3 (blk_kept HL1.out (al_below _ _) (blk_lt HL1.out)) (Nat.le_refl _)
          have R3 : Hid (RSp w3 W0.heap.size v3 (m ++ [(x.1, min x.2 (f - 1))])) := r3
          obtain ⟨va3, vc3, rfl, -, -, -⟩ := r3.is.shape
          have ⟨k5, k6⟩ := loc_cells l3
          have HLN3 : Hid ((m ++ [(x.1, min x.2 (f - 1))]).length ≤ 2001) := by unfold Hid; rw [List.length_append, List.length_singleton, HLZ.out]; have := HLN.out; omega
          clear g3 r3 l3 HA3 HK3 HZ3
          generalize hm3 : m ++ [(x.1, min x.2 (f - 1))] = m3 at *
          clear hm3
          generalize hz3 : m3.length = z3 at *
          have HLZ3 : Hid (m3.length = z3) := hz3
          clear hz3
          have HA4 : Hid (RSp (w3.alloc (.cells #[.int .i64 (max x.1 (t + 1)), .int .i64 x.2] 58)) W0.heap.size (.slice va3 z3 vc3) m3) := (R3.out).below (al_below _ _)
          have HK4 : Hid ((w3.alloc (.cells #[.int .i64 (max x.1 (t + 1)), .int .i64 x.2] 58)).rangeAt (w3.heap.size) 0 (spc ((max x.1 (t + 1)), x.2))) := sp_new _ (max x.1 (t + 1), x.2)
          have HZ4 : Hid (W0.heap.size ≤ (w3.alloc (.cells #[.int .i64 (max x.1 (t + 1)), .int .i64 x.2] 58)).heap.size) := Nat.le_trans (B3.out).size (al_below _ _).size
          go_wp2_with (at_builtin; refine wpList_append_sp rfl _ _ rfl W0.heap.size _ (m3) rfl HA4.out (w3.heap.size) ((max x.1 (t + 1)), x.2) rfl HK4.out (by have := HLN3.out; rw [HLZ3.out]; omega) HZ4.out (Hid.out ?_))
          unfold Hid
          intro v4 w4 r4 g4
          have B4 : Hid (Below W0.heap.size W0 w4) := below_grw ((B3.out).alloc (B3.out).size _) (Nat.le_refl _) g4 (fun k hk => own_ge HA4.out k hk)
          have R4 : Hid (RSp w4 W0.heap.size v4 (m3 ++ [(max x.1 (t + 1), x.2)])) := r4
          obtain ⟨va4, vc4, rfl, -, -, -⟩ := r4.is.shape
          clear g4 r4 HA4 HK4 HZ4
          generalize hm4 : m3 ++ [(max x.1 (t + 1), x.2)] = m4 at *
          clear hm4
          generalize m4.length = z4 at *
          go_wp2
          go_roundw
          case rel => exact ⟨j + 1, by omega, by go_num, by rw [HN.out]; exact R4.out, B4.out⟩
          case measure => simp [intOf]; omega
        · have d1 : decide (x.1 < f) = true := by simpa using hlo
          have d2 : decide (t < x.2) = false := by simpa using hhi
          have HN : Hid (F (j + 1) = (m ++ [(x.1, min x.2 (f - 1))])) := by unfold Hid; rw [HS1.out]; unfold rp; rw [if_pos hlo, if_neg hhi]; simp
          clear HS1
          have b1 : Below wr.heap.size wr (wr.alloc (.cells #[.int .i64 x.1, .int .i64 x.2] 58)) := al_below _ _
          have l1 : (wr.alloc (.cells #[.int .i64 x.1, .int .i64 x.2] 58)).heap[wr.heap.size]? = some (.cells #[.int .i64 x.1, .int .i64 x.2] 58 (0, 0)) := heap_alloc_new _ _
          have BB1 : Hid (Below W0.heap.size W0 (wr.alloc (.cells #[.int .i64 x.1, .int .i64 x.2] 58))) := HB.out.trans (b1.mono HB.out.size)
          have HL1 : Hid ((wr.alloc (.cells #[.int .i64 x.1, .int .i64 x.2] 58)).heap[wr.heap.size]? = some (.cells #[.int .i64 x.1, .int .i64 x.2] 58 (0, 0))) := l1
          have HR1 : Hid (RSp (wr.alloc (.cells #[.int .i64 x.1, .int .i64 x.2] 58)) W0.heap.size (.slice va z vc) m) := HR.out.below b1
          clear b1 l1
          have HA3 : Hid (RSp ((wr.alloc (.cells #[.int .i64 x.1, .int .i64 x.2] 58)).alloc (.cells #[.int .i64 x.1, .int .i64 (min x.2 (f - 1))] 58)) W0.heap.size (.slice va z vc) m) := (HR1.out).below (al_below _ _)
          have HK3 : Hid (((wr.alloc (.cells #[.int .i64 x.1, .int .i64 x.2] 58)).alloc (.cells #[.int .i64 x.1, .int .i64 (min x.2 (f - 1))] 58)).rangeAt (wr.heap.size + 1) 0 (spc (x.1, (min x.2 (f - 1))))) := by unfold Hid; rw [show wr.heap.size + 1 = (wr.alloc (.cells #[.int .i64 x.1, .int .i64 x.2] 58)).heap.size by simp]; exact sp_new _ (x.1, min x.2 (f - 1))
          have HZ3 : Hid (W0.heap.size ≤ ((wr.alloc (.cells #[.int .i64 x.1, .int .i64 x.2] 58)).alloc (.cells #[.int .i64 x.1, .int .i64 (min x.2 (f - 1))] 58)).heap.size) := Nat.le_trans (BB1.out).size (al_below _ _).size
          go_wp2_with (at_builtin; refine wpList_append_sp rfl _ _ rfl W0.heap.size _ (m) rfl HA3.out (wr.heap.size + 1) (x.1, (min x.2 (f - 1))) rfl HK3.out (by have := HLN.out; rw [HLZ.out]; omega) HZ3.out (Hid.out ?_))
          unfold Hid
          intro v3 w3 r3 g3
          have B3 : Hid (Below W0.heap.size W0 w3) := below_grw (BB1.out.alloc BB1.out.size _) (Nat.le_refl _) g3 (fun k hk => own_ge HA3.out k hk)
          have l3 := grown_loc HR.out g3 (blk_kept HL1.out (al_below _ _) (blk_lt HL1.out)) (Nat.le_refl _)
          have R3 : Hid (RSp w3 W0.heap.size v3 (m ++ [(x.1, min x.2 (f - 1))])) := r3
          obtain ⟨va3, vc3, rfl, -, -, -⟩ := r3.is.shape
          have ⟨k5, k6⟩ := loc_cells l3
          have HLN3 : Hid ((m ++ [(x.1, min x.2 (f - 1))]).length ≤ 2001) := by unfold Hid; rw [List.length_append, List.length_singleton, HLZ.out]; have := HLN.out; omega
          clear g3 r3 l3 HA3 HK3 HZ3
          generalize hm3 : m ++ [(x.1, min x.2 (f - 1))] = m3 at *
          clear hm3
          generalize hz3 : m3.length = z3 at *
          have HLZ3 : Hid (m3.length = z3) := hz3
          clear hz3
          go_wp2
          go_roundw
          case rel => exact ⟨j + 1, by omega, by go_num, by rw [HN.out]; exact R3.out, B3.out⟩
          case measure => simp [intOf]; omega
      · by_cases hhi : t < x.2
        · have d1 : decide (x.1 < f) = false := by simpa using hlo
          have d2 : decide (t < x.2) = true := by simpa using hhi
          have HN : Hid (F (j + 1) = (m ++ [(max x.1 (t + 1), x.2)])) := by unfold Hid; rw [HS1.out]; unfold rp; rw [if_neg hlo, if_pos hhi]; simp
          clear HS1
          have b1 : Below wr.heap.size wr (wr.alloc (.cells #[.int .i64 x.1, .int .i64 x.2] 58)) := al_below _ _
          have l1 : (wr.alloc (.cells #[.int .i64 x.1, .int .i64 x.2] 58)).heap[wr.heap.size]? = some (.cells #[.int .i64 x.1, .int .i64 x.2] 58 (0, 0)) := heap_alloc_new _ _
          have BB1 : Hid (Below W0.heap.size W0 (wr.alloc (.cells #[.int .i64 x.1, .int .i64 x.2] 58))) := HB.out.trans (b1.mono HB.out.size)
          have HL1 : Hid ((wr.alloc (.cells #[.int .i64 x.1, .int .i64 x.2] 58)).heap[wr.heap.size]? = some (.cells #[.int .i64 x.1, .int .i64 x.2] 58 (0, 0))) := l1
          have HR1 : Hid (RSp (wr.alloc (.cells #[.int .i64 x.1, .int .i64 x.2] 58)) W0.heap.size (.slice va z vc) m) := HR.out.below b1
          clear b1 l1
          have HA4 : Hid (RSp ((wr.alloc (.cells #[.int .i64 x.1, .int .i64 x.2] 58)).alloc (.cells #[.int .i64 (max x.1 (t + 1)), .int .i64 x.2] 58)) W0.heap.size (.slice va z vc) m) := (HR1.out).below (al_below _ _)
          have HK4 : Hid (((wr.alloc (.cells #[.int .i64 x.1, .int .i64 x.2] 58)).alloc (.cells #[.int .i64 (max x.1 (t + 1)), .int .i64 x.2] 58)).rangeAt (wr.heap.size + 1) 0 (spc ((max x.1 (t + 1)), x.2))) := by unfold Hid; rw [show wr.heap.size + 1 = (wr.alloc (.cells #[.int .i64 x.1, .int .i64 x.2] 58)).heap.size by simp]; exact sp_new _ (max x.1 (t + 1), x.2)
          have HZ4 : Hid (W0.heap.size ≤ ((wr.alloc (.cells #[.int .i64 x.1, .int .i64 x.2] 58)).alloc (.cells #[.int .i64 (max x.1 (t + 1)), .int .i64 x.2] 58)).heap.size) := Nat.le_trans (BB1.out).size (al_below _ _).size
          go_wp2_with (at_builtin; refine wpList_append_sp rfl _ _ rfl W0.heap.size _ (m) rfl HA4.out (wr.heap.size + 1) ((max x.1 (t + 1)), x.2) rfl HK4.out (by have := HLN.out; rw [HLZ.out]; omega) HZ4.out (Hid.out ?_))
          unfold Hid
          intro v4 w4 r4 g4
          have B4 : Hid (Below W0.heap.size W0 w4) := below_grw ((BB1.out).alloc (BB1.out).size _) (Nat.le_refl _) g4 (fun k hk => own_ge HA4.out k hk)
          have R4 : Hid (RSp w4 W0.heap.size v4 (m ++ [(max x.1 (t + 1), x.2)])) := r4
          obtain ⟨va4, vc4, rfl, -, -, -⟩ := r4.is.shape
          clear g4 r4 HA4 HK4 HZ4
          generalize hm4 : m ++ [(max x.1 (t + 1), x.2)] = m4 at *
          clear hm4
          generalize m4.length = z4 at *
          go_wp2
          go_roundw
          case rel => exact ⟨j + 1, by omega, by go_num, by rw [HN.out]; exact R4.out, B4.out⟩
          case measure => simp [intOf]; omega
        · have d1 : decide (x.1 < f) = false := by simpa using hlo
          have d2 : decide (t < x.2) = false := by simpa using hhi
          have HN : Hid (F (j + 1) = m) := by unfold Hid; rw [HS1.out]; unfold rp; rw [if_neg hlo, if_neg hhi]; simp
          clear HS1
          have b1 : Below wr.heap.size wr (wr.alloc (.cells #[.int .i64 x.1, .int .i64 x.2] 58)) := al_below _ _
          have l1 : (wr.alloc (.cells #[.int .i64 x.1, .int .i64 x.2] 58)).heap[wr.heap.size]? = some (.cells #[.int .i64 x.1, .int .i64 x.2] 58 (0, 0)) := heap_alloc_new _ _
          have BB1 : Hid (Below W0.heap.size W0 (wr.alloc (.cells #[.int .i64 x.1, .int .i64 x.2] 58))) := HB.out.trans (b1.mono HB.out.size)
          have HL1 : Hid ((wr.alloc (.cells #[.int .i64 x.1, .int .i64 x.2] 58)).heap[wr.heap.size]? = some (.cells #[.int .i64 x.1, .int .i64 x.2] 58 (0, 0))) := l1
          have HR1 : Hid (RSp (wr.alloc (.cells #[.int .i64 x.1, .int .i64 x.2] 58)) W0.heap.size (.slice va z vc) m) := HR.out.below b1
          clear b1 l1
          go_wp2
          go_roundw
          case rel => exact ⟨j + 1, by omega, by go_num, by rw [HN.out]; exact HR1.out, BB1.out⟩
          case measure => simp [intOf]; omega
    · obtain rfl : j = n := by omega
      have lt2 : ¬ (j : Int) < (j : Int) := by omega
      have HR2 : Hid (RSp wr W0.heap.size (.slice va (F j).length vc) C) := by unfold Hid; rw [← HFN.out]; exact HR.out
      obtain ⟨e1, e2, e3, e4, e5⟩ := HEND.out wr _ _ HB.out HR2.out
      have HE3 : Hid _ := e3
      have HE4 : Hid _ := e4
      have HE5 : Hid _ := e5
      clear e3 e4 e5 HEND HR2 HR HFN
      generalize (F j).length = z at *
      go_wp2
      exact bodyPost_ret (v := .agg #[.slice va z vc]) (results_cell_row rfl _ _ (w.heap.size + 1) 30 #[.slice va z vc] (0, 0) _ rfl HE3.out Tryd.underlying30 rfl infoR) rfl ⟨_, rfl, HE4.out, HE5.out⟩
end Go.Proofs.YtaghmoddalbepaaDoor
