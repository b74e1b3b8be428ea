/-
  What the document's Want answers.
-/
import Derived.Test.YtajcabfeabbknaaGreatDoorRz
namespace Go.Proofs.YtajcabfeabbknaaGreatDoor
open Go.RowKit
set_option maxRecDepth 100000

theorem rfold_sml : ∀ (xs : List En) (l : List En), (xs.foldl rlad l).length ≤ l.length + xs.length ∧ ∀ y ∈ xs.foldl rlad l, y ∈ xs ∨ y ∈ l
  | [], l => ⟨Nat.le_refl _, fun _ h => .inr h⟩
  | x :: xs, l => by
    rw [List.foldl_cons]
    obtain ⟨h1, h2⟩ := rfold_sml xs (rlad l x)
    have h3 := rlad_len l x
    refine ⟨by rw [List.length_cons]; omega, fun y hy => ?_⟩
    rcases h2 y hy with h | h
    · exact .inl (List.mem_cons_of_mem _ h)
    · rcases rlad_mem h with rfl | h
      · exact .inl List.mem_cons_self
      · exact .inr h
def wa1 (s d : List En) (P : Pol) (j : Nat) : List En := ((d.take j).filter (rsty s P.del)).foldl rlad []
def wa2 (s d : List En) (P : Pol) (j : Nat) : List En := (((d.take j).filter (rkp s d P)).map rcpy).foldl rlad (wa1 s d P d.length)
def wa3 (s d : List En) (P : Pol) (j : Nat) : List En := (s.take j).foldl rlad (wa2 s d P d.length)
theorem wa3_all (s d : List En) (P : Pol) : wa3 s d P s.length = rwnt s d P := by
  unfold wa3 wa2 wa1 rwnt
  rw [List.take_of_length_le (Nat.le_refl _), List.take_of_length_le (Nat.le_refl _)]
theorem wa1_next (s d : List En) (P : Pol) (j : Nat) (h : j < d.length) : wa1 s d P (j + 1) = if rsty s P.del (atE d j) then rlad (wa1 s d P j) (atE d j) else wa1 s d P j := by
  unfold wa1
  rw [take_next d j h, List.filter_append, List.foldl_append]
  generalize atE d j = y
  rw [List.filter_cons]
  cases rsty s P.del y <;> simp
theorem wa2_next (s d : List En) (P : Pol) (j : Nat) (h : j < d.length) : wa2 s d P (j + 1) = if rkp s d P (atE d j) then rlad (wa2 s d P j) (rcpy (atE d j)) else wa2 s d P j := by
  unfold wa2
  rw [take_next d j h, List.filter_append, List.map_append, List.foldl_append]
  generalize atE d j = y
  rw [List.filter_cons]
  cases rkp s d P y <;> simp
theorem wa3_next (s d : List En) (P : Pol) (j : Nat) (h : j < s.length) : wa3 s d P (j + 1) = rlad (wa3 s d P j) (atE s j) := by
  unfold wa3
  rw [take_next s j h, List.foldl_append]
  rfl
theorem wa1_sml {s d : List En} {P : Pol} (hd : Lt d) (j : Nat) : (wa1 s d P j).length ≤ 100 ∧ ∀ y ∈ wa1 s d P j, y.p.size ≤ 1000 := by
  obtain ⟨h1, h2⟩ := rfold_sml ((d.take j).filter (rsty s P.del)) []
  have h3 := List.length_filter_le (rsty s P.del) (d.take j)
  have h4 := List.length_take_le' j d
  have h5 := hd.1
  refine ⟨by unfold wa1; rw [List.length_nil] at h1; omega, fun y hy => ?_⟩
  rcases h2 y hy with h | h
  · exact (hd.2 y (List.mem_of_mem_take (List.mem_filter.1 h).1)).1
  · cases h
theorem wa2_sml {s d : List En} {P : Pol} (hd : Lt d) (j : Nat) : (wa2 s d P j).length ≤ 200 ∧ ∀ y ∈ wa2 s d P j, y.p.size ≤ 1000 := by
  obtain ⟨h1, h2⟩ := rfold_sml (((d.take j).filter (rkp s d P)).map rcpy) (wa1 s d P d.length)
  obtain ⟨h6, h7⟩ := wa1_sml (s := s) (P := P) hd d.length
  have h3 := List.length_filter_le (rkp s d P) (d.take j)
  have h4 := List.length_take_le' j d
  have h5 := hd.1
  refine ⟨by unfold wa2; rw [List.length_map] at h1; omega, fun y hy => ?_⟩
  rcases h2 y hy with h | h
  · obtain ⟨z, -, rfl⟩ := List.mem_map.1 h
    show (mk (kep z.k)).size ≤ 1000
    have := kep_small z.k
    rw [mk_size]
    omega
  · exact h7 y h
theorem wa3_sml {s d : List En} {P : Pol} (hs : Lt s) (hd : Lt d) (j : Nat) : (wa3 s d P j).length ≤ 300 ∧ ∀ y ∈ wa3 s d P j, y.p.size ≤ 1000 := by
  obtain ⟨h1, h2⟩ := rfold_sml (s.take j) (wa2 s d P d.length)
  obtain ⟨h6, h7⟩ := wa2_sml (s := s) (P := P) hd d.length
  have h4 := List.length_take_le' j s
  have h5 := hs.1
  refine ⟨by unfold wa3; omega, fun y hy => ?_⟩
  rcases h2 y hy with h | h
  · exact (hs.2 y (List.mem_of_mem_take h)).1
  · exact h7 y h
set_option maxHeartbeats 8000000 in
theorem rwant_any (vs vd : Value) (s d : List En) (P : Pol) (w : World) (hs : ES w vs s) (hls : Lt s) (hd : ES w vd d) (hld : Lt d) :
    Calls Tryz.prog 8 #[vs, vd, .agg #[.bool P.del, .bool P.bak]] w fun e w' => ∃ v', e = .returned (.tuple #[v', .int .i64 (want s d P).2]) ∧ ES w' v' (want s d P).1 ∧ Below w.heap.size w w' := by
  obtain ⟨W1, hW1⟩ : ∃ W1, W1 = w.alloc (.cells #[.bool P.del, .bool P.bak] 24) := ⟨_, rfl⟩
  have b1 : Below w.heap.size w W1 := by rw [hW1]; exact (Below.refl _ _).alloc (Nat.le_refl _) _
  have k1 : W1.cell? ⟨w.heap.size, 0, none⟩ = some (.bool P.del) ∧ W1.cell? ⟨w.heap.size, 1, none⟩ = some (.bool P.bak) := by
    rw [hW1, World.cell?_alloc_at _ _ _ _ rfl, World.cell?_alloc_at _ _ _ _ rfl]; exact ⟨rfl, rfl⟩
  have HK : Hid (∀ W, Below W1.heap.size W1 W → W.cell? ⟨w.heap.size, 0, none⟩ = some (.bool P.del) ∧ W.cell? ⟨w.heap.size, 1, none⟩ = some (.bool P.bak)) := fun W hb =>
    ⟨(hb.cell (World.block_lt_of_cell? _ _ k1.1)).trans k1.1, (hb.cell (World.block_lt_of_cell? _ _ k1.2)).trans k1.2⟩
  have B1 : Hid (Below w.heap.size w W1) := b1
  have C1 := rcheckT_any vs s W1 (hs.kept b1) hls
  have HC2 : Hid (∀ W, Below w.heap.size w W → Calls Tryz.prog 26 #[vd] W fun e w' => e = .returned (.int .i64 (ckT d)) ∧ Below W.heap.size W w') := fun W hb => rcheckT_any vd d W (hd.kept hb) hld
  have HST : Hid (∀ j W u, Below w.heap.size w W → EV W u (atE d j) → Calls Tryz.prog 27 #[vs, u, .agg #[.bool P.del, .bool P.bak]] W fun e w' => e = .returned (.bool (rsty s P.del (atE d j))) ∧ Below W.heap.size W w') := fun j W u hb hu => rstays_any vs u s _ P W (hs.kept hb) hls hu (hld.at j).1
  have HKP : Hid (∀ j W u, Below w.heap.size w W → EV W u (atE d j) → Calls Tryz.prog 29 #[vs, vd, u, .agg #[.bool P.del, .bool P.bak]] W fun e w' => e = .returned (.bool (rkp s d P (atE d j))) ∧ Below W.heap.size W w') := fun j W u hb hu => rkeeps_any vs vd u s d _ P W (hs.kept hb) hls (hd.kept hb) hld hu (hld.at j).1
  have HKE : Hid (∀ j W, Calls Tryz.prog 30 #[.string (atE d j).p] W fun e w' => e = .returned (.string (mk (kep (atE d j).k))) ∧ Below W.heap.size W w') := fun j W => rkept_any _ W (by have := (hld.at j).1; omega)
  have HL1 : Hid (∀ j W v u, EV W u (atE d j) → ES W v (wa1 s d P j) → Calls Tryz.prog 28 #[v, u] W fun e w' => ∃ v', e = .returned v' ∧ ES w' v' (rlad (wa1 s d P j) (atE d j)) ∧ Below W.heap.size W w') := fun j W v u hu hv => by
    obtain ⟨h1, h2⟩ := wa1_sml (s := s) (P := P) hld j
    exact rlaid_any v u _ _ W hv ⟨by omega, h2⟩ (by omega) hu (hld.at j).1
  have HL2 : Hid (∀ j W v u, EV W u (rcpy (atE d j)) → ES W v (wa2 s d P j) → Calls Tryz.prog 28 #[v, u] W fun e w' => ∃ v', e = .returned v' ∧ ES w' v' (rlad (wa2 s d P j) (rcpy (atE d j))) ∧ Below W.heap.size W w') := fun j W v u hu hv => by
    obtain ⟨h1, h2⟩ := wa2_sml (s := s) (P := P) hld j
    exact rlaid_any v u _ _ W hv ⟨by omega, h2⟩ (by omega) hu (by show (mk (kep (atE d j).k)).size ≤ 1000; have := kep_small (atE d j).k; rw [mk_size]; omega)
  have HL3 : Hid (∀ j W v u, EV W u (atE s j) → ES W v (wa3 s d P j) → Calls Tryz.prog 28 #[v, u] W fun e w' => ∃ v', e = .returned v' ∧ ES w' v' (rlad (wa3 s d P j) (atE s j)) ∧ Below W.heap.size W w') := fun j W v u hu hv => by
    obtain ⟨h1, h2⟩ := wa3_sml (P := P) hls hld j
    exact rlaid_any v u _ _ W hv ⟨by omega, h2⟩ (by omega) hu (hls.at j).1
  have N1 : Hid (∀ j, j < d.length → wa1 s d P (j + 1) = if rsty s P.del (atE d j) then rlad (wa1 s d P j) (atE d j) else wa1 s d P j) := wa1_next s d P
  have N2 : Hid (∀ j, j < d.length → wa2 s d P (j + 1) = if rkp s d P (atE d j) then rlad (wa2 s d P j) (rcpy (atE d j)) else wa2 s d P j) := wa2_next s d P
  have N3 : Hid (∀ j, j < s.length → wa3 s d P (j + 1) = rlad (wa3 s d P j) (atE s j)) := wa3_next s d P
  have Z1 : Hid (wa1 s d P 0 = []) := by unfold Hid wa1; simp
  have Z2 : Hid (wa2 s d P 0 = wa1 s d P d.length) := by unfold Hid wa2; simp
  have Z3 : Hid (wa3 s d P 0 = wa2 s d P d.length) := by unfold Hid wa3; simp
  have HR : Hid (want s d P = if ckT s ≠ 0 then ([], ckT s) else if ckT d ≠ 0 then ([], ckT d) else if 64 < (wa3 s d P s.length).length then ([], 10) else (wa3 s d P s.length, 0)) := by
    unfold Hid want
    by_cases h1 : ckT s = 0
    · by_cases h2 : ckT d = 0
      · rw [wa3_all, rwnt_eq (tree_wf h1) (tree_wf h2)]
      · rw [if_neg (by simp [h1]), if_pos h2, if_neg (by simp [h1]), if_pos h2]
    · rw [if_pos h1, if_pos h1]
  have HD : Hid (∀ W, Below w.heap.size w W → ES W vd d) := fun W hb => hd.kept hb
  have HSS : Hid (∀ W, Below w.heap.size w W → ES W vs s) := fun W hb => hs.kept hb
  obtain ⟨a, c, rfl, _, _, _⟩ := hs.shape
  obtain ⟨a2, c2, rfl, _, _, _⟩ := hd.shape
  have hn := hls.1
  have hn2 := hld.1
  obtain ⟨n, hn'⟩ : ∃ n, n = s.length := ⟨_, rfl⟩
  obtain ⟨n2, hn2'⟩ : ∃ n, n = d.length := ⟨_, rfl⟩
  have HN : Hid (n = s.length) := hn'
  have HN2 : Hid (n2 = d.length) := hn2'
  rw [← hn'] at HSS HST HKP HR N3 hn C1 ⊢
  rw [← hn2'] at HD HKP HC2 N1 N2 Z2 Z3 hn2 ⊢
  generalize want s d P = R at *
  generalize ckT s = ks at *
  generalize ckT d = kd at *
  clear hs hls hd hld b1 k1 hn' hn2'
  go_enter Tryz.func8, Tryz.ntmps8
  go_wp2_with fail
  rw [← hW1]
  clear hW1
  refine C1.mono ?_
  rintro e w2 ⟨rfl, b2⟩
  have B2 : Hid (Below w.heap.size w w2) := B1.out.trans (b2.mono B1.out.size)
  have D2 : Hid (Below W1.heap.size W1 w2) := b2
  clear C1 b2
  by_cases h1 : ks = 0
  case neg =>
    have HR2 : Hid (R = ([], ks)) := by unfold Hid; rw [HR.out, if_pos h1]
    have t0 : (ks != 0) = true := by simp [h1]
    have t1 : (ks == 0) = false := by simp [h1]
    clear HR
    go_wp2
    go_ret2
    exact ⟨_, by rw [HR2.out]; rfl, by rw [HR2.out]; exact ES.nil _, B2.out⟩
  subst h1
  have C2 := HC2.out w2 B2.out
  clear HC2
  go_wp2_with fail
  refine C2.mono ?_
  rintro e w3 ⟨rfl, b3⟩
  have B3 : Hid (Below w.heap.size w w3) := B2.out.trans (b3.mono B2.out.size)
  have D3 : Hid (Below W1.heap.size W1 w3) := D2.out.trans (b3.mono D2.out.size)
  clear C2 b3 B2 D2
  by_cases h2 : kd = 0
  case neg =>
    have HR2 : Hid (R = ([], kd)) := by unfold Hid; rw [HR.out, if_neg (by simp), if_pos h2]
    have t0 : (kd != 0) = true := by simp [h2]
    clear HR
    go_wp2
    go_ret2
    exact ⟨_, by rw [HR2.out]; rfl, by rw [HR2.out]; exact ES.nil _, B3.out⟩
  subst h2
  have HR2 : Hid (R = if 64 < (wa3 s d P n).length then ([], 10) else (wa3 s d P n, 0)) := by unfold Hid; rw [HR.out, if_neg (by simp), if_neg (by simp)]
  have HKW : Hid (∀ W, Below w3.heap.size w3 W → W.cell? ⟨w.heap.size, 0, none⟩ = some (.bool P.del) ∧ W.cell? ⟨w.heap.size, 1, none⟩ = some (.bool P.bak)) := fun W hb => HK.out W (D3.out.trans (hb.mono D3.out.size))
  have HBW : Hid (∀ W, Below w3.heap.size w3 W → Below w.heap.size w W) := fun W hb => B3.out.trans (hb.mono B3.out.size)
  clear HR HK D3 B3 B1
  generalize hpd : P.del = pd at *
  generalize hpb : P.bak = pb at *
  clear hpd hpb
  go_wp2_with fail
  go_loopw [9, 10] (fun o i wr => ∃ j : Nat, j ≤ n2 ∧ i = .int .i64 j ∧ ES wr o (wa1 s d P j) ∧ Below w3.heap.size w3 wr) (fun _ i _ => n2 - (intOf i).toNat)
  case atStart => exact ⟨0, by omega, rfl, by rw [Z1.out]; exact ES.nil _, Below.refl _ _⟩
  case round =>
    obtain ⟨j, hj, rfl, es, bel⟩ := hrel
    have HB : Hid (Below w3.heap.size w3 wr) := bel
    have HO : Hid (ES wr u9 (wa1 s d P j)) := es
    obtain ⟨oa, oc, rfl, -⟩ := es.shape
    obtain ⟨nv, hnv⟩ : ∃ nv, nv = (wa1 s d P j).length := ⟨_, rfl⟩
    rw [← hnv] at HO ⊢
    clear bel es hnv
    by_cases hlt : j < n2
    · have lt2 : (j : Int) < (n2 : Int) := by omega
      have g0 : (0 : Int) ≤ (j : Int) := by omega
      obtain ⟨b, off, za, zn, zc, rfl, c1, c2, c3, hun, hsl⟩ := (HD.out wr (HBW.out wr HB.out)).at j (by rw [← HN2.out]; exact hlt)
      have q1 : IntKind.i64.wrap ((j : Int) + 1) = ((j + 1 : Nat) : Int) := by simp [IntKind.wrap, IntKind.bits, IntKind.signed]; omega
      have NX : Hid (wa1 s d P (j + 1) = if rsty s pd (atE d j) then rlad (wa1 s d P j) (atE d j) else wa1 s d P j) := N1.out j hlt
      have EW : Hid (∀ W, Below wr.heap.size wr W → EV W (.agg #[.string (atE d j).p, .bool (atE d j).d, .slice za zn zc]) (atE d j)) := fun W hb => ⟨za, zn, zc, rfl, hsl.kept hb⟩
      obtain ⟨l0, l1⟩ := HKW.out wr HB.out
      have HQ : Hid (∀ W, Below wr.heap.size wr W → (W.cell? ⟨b, off + j * 3, none⟩ = some (.string (atE d j).p) ∧ W.cell? ⟨b, off + j * 3 + 1, none⟩ = some (.bool (atE d j).d) ∧ W.cell? ⟨b, off + j * 3 + 2, none⟩ = some (.slice za zn zc)) ∧ W.cell? ⟨w.heap.size, 0, none⟩ = some (.bool pd) ∧ W.cell? ⟨w.heap.size, 1, none⟩ = some (.bool pb)) := fun W hb => ⟨⟨(hb.cell (World.block_lt_of_cell? _ _ c1)).trans c1, (hb.cell (World.block_lt_of_cell? _ _ c2)).trans c2, (hb.cell (World.block_lt_of_cell? _ _ c3)).trans c3⟩, (hb.cell (World.block_lt_of_cell? _ _ l0)).trans l0, (hb.cell (World.block_lt_of_cell? _ _ l1)).trans l1⟩
      have rd : Below wr.heap.size wr wr.drew := (Below.refl _ _).drew
      have cs := HST.out j wr.drew _ (HBW.out _ (HB.out.trans (rd.mono HB.out.size))) (EW.out _ rd)
      have cl : Hid (∀ W v, Below wr.heap.size wr W → ES W v (wa1 s d P j) → Calls Tryz.prog 28 #[v, .agg #[.string (atE d j).p, .bool (atE d j).d, .slice za zn zc]] W fun e w' => ∃ v', e = .returned v' ∧ ES w' v' (rlad (wa1 s d P j) (atE d j)) ∧ Below W.heap.size W w') := fun W v hb hv => HL1.out j W v _ (EW.out W hb) hv
      clear hun hsl rd EW
      generalize rsty s pd (atE d j) = sb at *
      generalize rlad (wa1 s d P j) (atE d j) = L2 at *
      generalize wa1 s d P j = L at *
      generalize (atE d j).p = xp at *
      generalize (atE d j).d = xd at *
      go_wp2_with fail
      go_region_held3 (fun W => (W.cell? ⟨b, off + j * 3, none⟩ = some (.string xp) ∧ W.cell? ⟨b, off + j * 3 + 1, none⟩ = some (.bool xd) ∧ W.cell? ⟨b, off + j * 3 + 2, none⟩ = some (.slice za zn zc)) ∧ W.cell? ⟨w.heap.size, 0, none⟩ = some (.bool pd) ∧ W.cell? ⟨w.heap.size, 1, none⟩ = some (.bool pb)) (first | exact HQ.out _ (Below.refl _ _) | exact HQ.out _ (Below.refl _ _).drew | exact HQ.out _ d5) (first
        | (go_at_call 27; refine cs.mono ?_; rintro e w5 ⟨rfl, b5⟩; have d5 : Below wr.heap.size wr w5 := (Below.refl wr.heap.size wr).drew.trans b5))
      have D5 : Hid (Below wr.heap.size wr w5) := d5
      have B5 : Hid (Below w3.heap.size w3 w5) := HB.out.trans (d5.mono HB.out.size)
      have E5 : Hid (ES w5 (.slice oa nv oc) L) := HO.out.kept d5
      clear b5 d5 cs c1 c2 c3 l0 l1 HO HB
      cases sb with
      | false =>
        have NX2 : Hid (wa1 s d P (j + 1) = L) := NX.out
        clear NX cl HQ
        go_wp2
        go_roundw
        case rel => exact ⟨j + 1, by omega, by go_num, by rw [NX2.out]; exact E5.out, B5.out⟩
        case measure => simp [intOf]; omega
      | true =>
        have NX2 : Hid (wa1 s d P (j + 1) = L2) := NX.out
        obtain ⟨⟨c1, c2, c3⟩, -, -⟩ := HQ.out w5 D5.out
        have cl5 := cl.out w5 _ D5.out E5.out
        clear NX cl HQ
        go_wp2_with fail
        refine cl5.mono ?_
        rintro e w6 ⟨v6, rfl, e6, b6⟩
        have B6 : Hid (Below w3.heap.size w3 w6) := B5.out.trans (b6.mono B5.out.size)
        have E6 : Hid (ES w6 v6 L2) := e6
        obtain ⟨oa6, oc6, rfl, -⟩ := e6.shape
        clear e6 b6 cl5 c1 c2 c3
        generalize L2.length = nv6 at *
        go_wp2
        go_roundw
        case rel => exact ⟨j + 1, by omega, by go_num, by rw [NX2.out]; exact E6.out, B6.out⟩
        case measure => simp [intOf]; omega
    · obtain rfl : j = n2 := by omega
      have HO2 : Hid (ES wr (.slice oa nv oc) (wa2 s d P 0)) := by unfold Hid; rw [Z2.out]; exact HO.out
      clear HO N1 Z1 Z2 HL1 HST
      have HB0 : Hid (Below w3.heap.size w3 wr) := HB.out
      clear HB
      generalize wr = w4 at *
      go_wp2_with fail
      go_loopw [9, 11] (fun o i wr => ∃ k : Nat, k ≤ j ∧ i = .int .i64 k ∧ ES wr o (wa2 s d P k) ∧ Below w3.heap.size w3 wr) (fun _ i _ => j - (intOf i).toNat)
      case atStart => exact ⟨0, by omega, rfl, HO2.out, HB0.out⟩
      case round =>
        obtain ⟨k, hk, rfl, es, bel⟩ := hrel
        have HB : Hid (Below w3.heap.size w3 wr) := bel
        have HO : Hid (ES wr u9 (wa2 s d P k)) := es
        obtain ⟨oa2, oc2, rfl, -⟩ := es.shape
        obtain ⟨nv2, hnv2⟩ : ∃ nv2, nv2 = (wa2 s d P k).length := ⟨_, rfl⟩
        rw [← hnv2] at HO ⊢
        clear bel es hnv2 HO2 HB0
        by_cases hlt : k < j
        · have lt2 : (k : Int) < (j : Int) := by omega
          have g0 : (0 : Int) ≤ (k : Int) := by omega
          obtain ⟨b, off, za, zn, zc, rfl, c1, c2, c3, hun, hsl⟩ := (HD.out wr (HBW.out wr HB.out)).at k (by rw [← HN2.out]; exact hlt)
          have q1 : IntKind.i64.wrap ((k : Int) + 1) = ((k + 1 : Nat) : Int) := by simp [IntKind.wrap, IntKind.bits, IntKind.signed]; omega
          have NX : Hid (wa2 s d P (k + 1) = if rkp s d P (atE d k) then rlad (wa2 s d P k) (rcpy (atE d k)) else wa2 s d P k) := N2.out k hlt
          have EW : Hid (∀ W, Below wr.heap.size wr W → EV W (.agg #[.string (atE d k).p, .bool (atE d k).d, .slice za zn zc]) (atE d k)) := fun W hb => ⟨za, zn, zc, rfl, hsl.kept hb⟩
          have EC : Hid (∀ W, Below wr.heap.size wr W → EV W (.agg #[.string (mk (kep (atE d k).k)), .bool false, .slice za zn zc]) (rcpy (atE d k))) := fun W hb => ⟨za, zn, zc, rfl, hsl.kept hb⟩
          obtain ⟨l0, l1⟩ := HKW.out wr HB.out
          have HQ : Hid (∀ W, Below wr.heap.size wr W → (W.cell? ⟨b, off + k * 3, none⟩ = some (.string (atE d k).p) ∧ W.cell? ⟨b, off + k * 3 + 1, none⟩ = some (.bool (atE d k).d) ∧ W.cell? ⟨b, off + k * 3 + 2, none⟩ = some (.slice za zn zc)) ∧ W.cell? ⟨w.heap.size, 0, none⟩ = some (.bool pd) ∧ W.cell? ⟨w.heap.size, 1, none⟩ = some (.bool pb)) := fun W hb => ⟨⟨(hb.cell (World.block_lt_of_cell? _ _ c1)).trans c1, (hb.cell (World.block_lt_of_cell? _ _ c2)).trans c2, (hb.cell (World.block_lt_of_cell? _ _ c3)).trans c3⟩, (hb.cell (World.block_lt_of_cell? _ _ l0)).trans l0, (hb.cell (World.block_lt_of_cell? _ _ l1)).trans l1⟩
          have rd : Below wr.heap.size wr wr.drew := (Below.refl _ _).drew
          have cs := HKP.out k wr.drew _ (HBW.out _ (HB.out.trans (rd.mono HB.out.size))) (EW.out _ rd)
          have ck : Hid (∀ W, Calls Tryz.prog 30 #[.string (atE d k).p] W fun e w' => e = .returned (.string (mk (kep (atE d k).k))) ∧ Below W.heap.size W w') := HKE.out k
          have cl : Hid (∀ W v, Below wr.heap.size wr W → ES W v (wa2 s d P k) → Calls Tryz.prog 28 #[v, .agg #[.string (mk (kep (atE d k).k)), .bool false, .slice za zn zc]] W fun e w' => ∃ v', e = .returned v' ∧ ES w' v' (rlad (wa2 s d P k) (rcpy (atE d k))) ∧ Below W.heap.size W w') := fun W v hb hv => HL2.out k W v _ (EC.out W hb) hv
          clear hun hsl rd EW EC
          generalize rkp s d P (atE d k) = sb at *
          generalize rlad (wa2 s d P k) (rcpy (atE d k)) = L2 at *
          generalize wa2 s d P k = L at *
          generalize mk (kep (atE d k).k) = kq at *
          generalize (atE d k).p = xp at *
          generalize (atE d k).d = xd at *
          go_wp2_with fail
          go_region_held3 (fun W => (W.cell? ⟨b, off + k * 3, none⟩ = some (.string xp) ∧ W.cell? ⟨b, off + k * 3 + 1, none⟩ = some (.bool xd) ∧ W.cell? ⟨b, off + k * 3 + 2, none⟩ = some (.slice za zn zc)) ∧ W.cell? ⟨w.heap.size, 0, none⟩ = some (.bool pd) ∧ W.cell? ⟨w.heap.size, 1, none⟩ = some (.bool pb)) (first | exact HQ.out _ (Below.refl _ _) | exact HQ.out _ (Below.refl _ _).drew | exact HQ.out _ d5) (first
            | (go_at_call 29; refine cs.mono ?_; rintro e w5 ⟨rfl, b5⟩; have d5 : Below wr.heap.size wr w5 := (Below.refl wr.heap.size wr).drew.trans b5))
          have D5 : Hid (Below wr.heap.size wr w5) := d5
          have B5 : Hid (Below w3.heap.size w3 w5) := HB.out.trans (d5.mono HB.out.size)
          have E5 : Hid (ES w5 (.slice oa2 nv2 oc2) L) := HO.out.kept d5
          clear b5 d5 cs c1 c2 c3 l0 l1 HO HB
          cases sb with
          | false =>
            have NX2 : Hid (wa2 s d P (k + 1) = L) := NX.out
            clear NX cl HQ ck
            go_wp2
            go_roundw
            case rel => exact ⟨k + 1, by omega, by go_num, by rw [NX2.out]; exact E5.out, B5.out⟩
            case measure => simp [intOf]; omega
          | true =>
            have NX2 : Hid (wa2 s d P (k + 1) = L2) := NX.out
            have HQ5 : Hid (∀ W, Below w5.heap.size w5 W → W.cell? ⟨b, off + k * 3, none⟩ = some (.string xp) ∧ W.cell? ⟨b, off + k * 3 + 2, none⟩ = some (.slice za zn zc)) := fun W hb => by
              obtain ⟨⟨x1, x2, x3⟩, -, -⟩ := HQ.out W (D5.out.trans (hb.mono D5.out.size))
              exact ⟨x1, x3⟩
            have ck5 := ck.out w5.drew
            have cl5 : Hid (∀ W, Below w5.heap.size w5 W → Calls Tryz.prog 28 #[.slice oa2 nv2 oc2, .agg #[.string kq, .bool false, .slice za zn zc]] W fun e w' => ∃ v', e = .returned v' ∧ ES w' v' L2 ∧ Below W.heap.size W w') := fun W hb => cl.out W _ (D5.out.trans (hb.mono D5.out.size)) (E5.out.kept hb)
            clear NX cl HQ ck
            go_wp2_with fail
            go_region_held3 (fun W => W.cell? ⟨b, off + k * 3, none⟩ = some (.string xp) ∧ W.cell? ⟨b, off + k * 3 + 2, none⟩ = some (.slice za zn zc)) (first | exact HQ5.out _ (Below.refl _ _) | exact HQ5.out _ (Below.refl _ _).drew | exact HQ5.out _ d7 | exact HQ5.out _ d6) (first
              | (go_at_call 30; refine ck5.mono ?_; rintro e w6 ⟨rfl, b6⟩; have d6 : Below w5.heap.size w5 w6 := (Below.refl w5.heap.size w5).drew.trans b6)
              | (go_at_call 28; refine (cl5.out _ d6).mono ?_; rintro e w7 ⟨v7, rfl, e7, b7⟩; have d7 : Below w5.heap.size w5 w7 := d6.trans (b7.mono d6.size)))
            have B7 : Hid (Below w3.heap.size w3 w7) := B5.out.trans (d7.mono B5.out.size)
            have E7 : Hid (ES w7 v7 L2) := e7
            obtain ⟨oa6, oc6, rfl, -⟩ := e7.shape
            clear e7 b6 b7 d6 d7 cl5 ck5 HQ5
            generalize L2.length = nv6 at *
            go_wp2
            go_roundw
            case rel => exact ⟨k + 1, by omega, by go_num, by rw [NX2.out]; exact E7.out, B7.out⟩
            case measure => simp [intOf]; omega
        · obtain rfl : k = j := by omega
          have HO3 : Hid (ES wr (.slice oa2 nv2 oc2) (wa3 s d P 0)) := by unfold Hid; rw [Z3.out]; exact HO.out
          clear HO N2 Z3 HL2 HKP HKE HKW HD HN2
          have HB0 : Hid (Below w3.heap.size w3 wr) := HB.out
          clear HB
          generalize wr = w4' at *
          go_wp2_with fail
          go_loopw [9, 12] (fun o i wr => ∃ t : Nat, t ≤ n ∧ i = .int .i64 t ∧ ES wr o (wa3 s d P t) ∧ Below w3.heap.size w3 wr) (fun _ i _ => n - (intOf i).toNat)
          case atStart => exact ⟨0, by omega, rfl, HO3.out, HB0.out⟩
          case round =>
            obtain ⟨t, ht, rfl, es, bel⟩ := hrel
            have HB : Hid (Below w3.heap.size w3 wr) := bel
            have HO : Hid (ES wr u9 (wa3 s d P t)) := es
            obtain ⟨oa3, oc3, rfl, -⟩ := es.shape
            obtain ⟨nv3, hnv3⟩ : ∃ nv3, nv3 = (wa3 s d P t).length := ⟨_, rfl⟩
            have HN3 : Hid (nv3 = (wa3 s d P t).length) := hnv3
            rw [← hnv3] at HO ⊢
            clear bel es hnv3 HO3 HB0
            by_cases hlt : t < n
            · have lt2 : (t : Int) < (n : Int) := by omega
              have g0 : (0 : Int) ≤ (t : Int) := by omega
              obtain ⟨b, off, za, zn, zc, rfl, c1, c2, c3, hun, hsl⟩ := (HSS.out wr (HBW.out wr HB.out)).at t (by rw [← HN.out]; exact hlt)
              have q1 : IntKind.i64.wrap ((t : Int) + 1) = ((t + 1 : Nat) : Int) := by simp [IntKind.wrap, IntKind.bits, IntKind.signed]; omega
              have NX2 : Hid (wa3 s d P (t + 1) = rlad (wa3 s d P t) (atE s t)) := N3.out t hlt
              have cl5 := HL3.out t wr _ (.agg #[.string (atE s t).p, .bool (atE s t).d, .slice za zn zc]) ⟨za, zn, zc, rfl, hsl⟩ HO.out
              clear hun hsl HO HN3
              generalize rlad (wa3 s d P t) (atE s t) = L2 at *
              generalize (atE s t).p = xp at *
              generalize (atE s t).d = xd at *
              go_wp2_with fail
              refine cl5.mono ?_
              rintro e w6 ⟨v6, rfl, e6, b6⟩
              have B6 : Hid (Below w3.heap.size w3 w6) := HB.out.trans (b6.mono HB.out.size)
              have E6 : Hid (ES w6 v6 L2) := e6
              obtain ⟨oa6, oc6, rfl, -⟩ := e6.shape
              clear e6 b6 cl5 c1 c2 c3
              generalize L2.length = nv6 at *
              go_wp2
              go_roundw
              case rel => exact ⟨t + 1, by omega, by go_num, by rw [NX2.out]; exact E6.out, B6.out⟩
              case measure => simp [intOf]; omega
            · obtain rfl : t = n := by omega
              have B7 : Hid (Below w.heap.size w wr) := HBW.out wr HB.out
              have HR3 : Hid (R = if 64 < nv3 then ([], 10) else (wa3 s d P t, 0)) := by unfold Hid; rw [HR2.out, HN3.out]
              clear HR2 HN3
              by_cases hb : 64 < nv3
              · have tb : (64 : Int) < (nv3 : Int) := by omega
                have HR4 : Hid (R = ([], 10)) := by unfold Hid; rw [HR3.out, if_pos hb]
                clear HR3
                go_wp2
                go_ret2
                exact ⟨_, by rw [HR4.out]; rfl, by rw [HR4.out]; exact ES.nil _, B7.out⟩
              · have tb : ¬ (64 : Int) < (nv3 : Int) := by omega
                have HR4 : Hid (R = (wa3 s d P t, 0)) := by unfold Hid; rw [HR3.out, if_neg hb]
                clear HR3
                go_wp2
                go_ret2
                exact ⟨_, by rw [HR4.out]; rfl, by rw [HR4.out]; exact HO.out, B7.out⟩
end Go.Proofs.YtajcabfeabbknaaGreatDoor
