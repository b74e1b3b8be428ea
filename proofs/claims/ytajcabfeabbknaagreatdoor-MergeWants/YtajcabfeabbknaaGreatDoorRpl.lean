/-
  What the document's Plan answers.
-/
import Derived.Test.YtajcabfeabbknaaGreatDoorRrs
import Derived.Test.YtajcabfeabbknaaGreatDoorOrd
namespace Go.Proofs.YtajcabfeabbknaaGreatDoor
open Go.RowKit Go.Deep
set_option maxRecDepth 100000

/-- The steps that a list gives, in its order. -/
def pl1 (f : En → Bool) (κ : Int) (t : En → List UInt8) (l : List En) (o : List St) (j : Nat) : List St := o ++ ((l.take j).filter f).map (ste κ t)
/-- The steps that a list gives, from its end. -/
def pl2 (f : En → Bool) (κ : Int) (t : En → List UInt8) (l : List En) (o : List St) (j : Nat) : List St := o ++ (((l.drop j).filter f).map (ste κ t)).reverse
theorem pl1_next (f : En → Bool) (κ : Int) (t : En → List UInt8) (l : List En) (o : List St) (j : Nat) (h : j < l.length) : pl1 f κ t l o (j + 1) = if f (atE l j) then pl1 f κ t l o j ++ [ste κ t (atE l j)] else pl1 f κ t l o j := by
  unfold pl1
  rw [take_next l j h, List.filter_append, List.map_append]
  generalize atE l j = y
  rw [List.filter_cons]
  cases f y <;> simp
theorem pl2_next (f : En → Bool) (κ : Int) (t : En → List UInt8) (l : List En) (o : List St) (j : Nat) (h : j < l.length) : pl2 f κ t l o j = if f (atE l j) then pl2 f κ t l o (j + 1) ++ [ste κ t (atE l j)] else pl2 f κ t l o (j + 1) := by
  have e : l.drop j = atE l j :: l.drop (j + 1) := by
    rw [List.drop_eq_getElem_cons h]
    congr 1
    unfold atE
    simp [List.getD, h]
  unfold pl2
  rw [e]
  generalize atE l j = y
  rw [List.filter_cons]
  cases f y <;> simp
theorem pl1_len (f : En → Bool) (κ : Int) (t : En → List UInt8) (l : List En) (o : List St) (j : Nat) : (pl1 f κ t l o j).length ≤ o.length + l.length := by
  unfold pl1
  rw [List.length_append, List.length_map]
  have h3 := List.length_filter_le f (l.take j)
  have h4 := List.length_take_le' j l
  omega
theorem pl2_len (f : En → Bool) (κ : Int) (t : En → List UInt8) (l : List En) (o : List St) (j : Nat) : (pl2 f κ t l o j).length ≤ o.length + l.length := by
  unfold pl2
  rw [List.length_append, List.length_reverse, List.length_map]
  have h3 := List.length_filter_le f (l.drop j)
  have h4 : (l.drop j).length ≤ l.length := by rw [List.length_drop]; omega
  omega
def rp1 (s d : List En) (P : Pol) : Nat → List St := pl1 (g1 s d P) 0 rke d []
def rp2 (s d W : List En) (P : Pol) : Nat → List St := pl2 (f2 W) 1 no d (rp1 s d P d.length)
def rp3 (s d W : List En) (P : Pol) : Nat → List St := pl1 (f3 d) 2 no W (rp2 s d W P 0)
def rp4 (s d W : List En) (P : Pol) : Nat → List St := pl1 (g4 d) 3 no s (rp3 s d W P W.length)
theorem rp4_all {s d : List En} {P : Pol} (W : List En) (hs : Wf s) (hd : Wf d) : rp4 s d W P s.length = pln s d W P := by
  have e1 : d.filter (g1 s d P) = d.filter (f1 s d P) := List.filter_congr fun x hx => (g1_eq hs hd hx).1
  have e2 : (d.filter (f1 s d P)).map (ste 0 rke) = (d.filter (f1 s d P)).map (ste 0 (kpt s d P)) := List.map_congr_left fun x hx => by
    obtain ⟨h1, h2⟩ := List.mem_filter.1 hx
    unfold ste
    rw [(g1_eq hs hd h1).2 h2]
  have e4 : s.filter (g4 d) = s.filter (f4 d) := List.filter_congr fun x _ => g4_eq d x
  unfold rp4 rp3 rp2 rp1 pl1 pl2 pln
  simp only [List.take_length, List.drop_zero, List.nil_append]
  rw [e1, e2, e4]
set_option maxHeartbeats 16000000 in
theorem rplan_any (vs vd : Value) (s d : List En) (P : Pol) (w : World) (hs : ES w vs s) (hls : Lt s) (hd : ES w vd d) (hld : Lt d) :
    Calls Tryz.prog 10 #[vs, vd, .agg #[.bool P.del, .bool P.bak]] w fun e w' => ∃ v', e = .returned (.tuple #[v', .int .i64 (plan s d P).2]) ∧ RS w' w.heap.size v' (plan s d P).1 ∧ Below w.heap.size w w' := by
  obtain ⟨W1, hW1⟩ : ∃ W1, W1 = w.alloc (.cells #[.bool P.del, .bool P.bak] 24) := ⟨_, rfl⟩
  have b1 : Below w.heap.size w W1 := by rw [hW1]; exact (Below.refl _ _).alloc (Nat.le_refl _) _
  have k1 : W1.cell? ⟨w.heap.size, 0, none⟩ = some (.bool P.del) ∧ W1.cell? ⟨w.heap.size, 1, none⟩ = some (.bool P.bak) := by
    rw [hW1, World.cell?_alloc_at _ _ _ _ rfl, World.cell?_alloc_at _ _ _ _ rfl]; exact ⟨rfl, rfl⟩
  have HK : Hid (∀ W, Below W1.heap.size W1 W → W.cell? ⟨w.heap.size, 0, none⟩ = some (.bool P.del) ∧ W.cell? ⟨w.heap.size, 1, none⟩ = some (.bool P.bak)) := fun W hb =>
    ⟨(hb.cell (World.block_lt_of_cell? _ _ k1.1)).trans k1.1, (hb.cell (World.block_lt_of_cell? _ _ k1.2)).trans k1.2⟩
  have B1 : Hid (Below w.heap.size w W1) := b1
  have C1 := rwant_any vs vd s d P W1 (hs.kept b1) hls (hd.kept b1) hld
  have HGD : Hid (∀ W (q : ByteArray), Below w.heap.size w W → Calls Tryz.prog 41 #[vd, .string q] W fun e w' => ∃ u, e = .returned (.tuple #[u, .bool (gotB d (dl q))]) ∧ EV w' u (got d (dl q)) ∧ Below W.heap.size W w') := fun W q hb => rget_any vd d q W (hd.kept hb) hld
  have HKP : Hid (∀ j W u, Below w.heap.size w W → EV W u (atE d j) → Calls Tryz.prog 29 #[vs, vd, u, .agg #[.bool P.del, .bool P.bak]] W fun e w' => e = .returned (.bool (rkp s d P (atE d j))) ∧ Below W.heap.size W w') := fun j W u hb hu => rkeeps_any vs vd u s d _ P W (hs.kept hb) hls (hd.kept hb) hld hu (hld.at j).1
  have HKE : Hid (∀ j W, Calls Tryz.prog 30 #[.string (atE d j).p] W fun e w' => e = .returned (.string (mk (kep (atE d j).k))) ∧ Below W.heap.size W w') := fun j W => rkept_any _ W (by have := (hld.at j).1; omega)
  have HLW0 : Hid ((want s d P).2 = 0 → Lt (want s d P).1 ∧ Wf s ∧ Wf d) := fun e => by
    unfold want at e ⊢
    split at e
    · rename_i h1; exact absurd e h1
    rename_i h1
    split at e
    · rename_i h2; exact absurd e h2
    rename_i h2
    split at e
    · cases e
    rename_i h3
    rw [if_neg h1, if_neg h2, if_neg h3]
    exact ⟨wnt_lt hls hld (by omega), tree_wf (Decidable.not_not.1 h1), tree_wf (Decidable.not_not.1 h2)⟩
  have HR : Hid (plan s d P = if (want s d P).2 ≠ 0 then ([], (want s d P).2) else (pln s d (want s d P).1 P, 0)) := rfl
  have HD : Hid (∀ W, Below w.heap.size w W → ES W vd d) := fun W hb => hd.kept hb
  have HSS : Hid (∀ W, Below w.heap.size w W → ES W vs s) := fun W hb => hs.kept hb
  obtain ⟨a, c, rfl, _, _, _⟩ := hs.shape
  obtain ⟨a2, kd2, rfl, _, _, _⟩ := hd.shape
  have hn := hls.1
  have hn2 := hld.1
  obtain ⟨n, hn'⟩ : ∃ n, n = s.length := ⟨_, rfl⟩
  obtain ⟨n2, hn2'⟩ : ∃ n, n = d.length := ⟨_, rfl⟩
  have HN : Hid (n = s.length) := hn'
  have HN2 : Hid (n2 = d.length) := hn2'
  rw [← hn'] at HSS HKP hn C1 ⊢
  rw [← hn2'] at HD HKP HGD hn2 C1 ⊢
  generalize want s d P = R0 at *
  generalize plan s d P = R at *
  clear hs hls hd hld b1 hn' hn2'
  obtain ⟨l0, l1⟩ := k1
  rw [hW1] at l0 l1
  go_enter Tryz.func10, Tryz.ntmps10
  go_wp2_with fail
  rw [← hW1]
  clear hW1 l0 l1
  refine C1.mono ?_
  rintro e w3 ⟨vw, rfl, ew, b3⟩
  have B3 : Hid (Below w.heap.size w w3) := B1.out.trans (b3.mono B1.out.size)
  have D3 : Hid (Below W1.heap.size W1 w3) := b3
  have EW : Hid (ES w3 vw R0.1) := ew
  obtain ⟨aw, cw, rfl, -⟩ := ew.shape
  clear C1 b3 ew B1
  by_cases h0 : R0.2 = 0
  case neg =>
    have HR2 : Hid (R = ([], R0.2)) := by unfold Hid; rw [HR.out, if_pos h0]
    generalize R0.2 = rk at *
    generalize R0.1.length = rn at *
    have t0 : (rk != 0) = true := by simp [h0]
    clear HR
    go_wp2
    go_ret2
    exact ⟨_, by rw [HR2.out]; rfl, by rw [HR2.out]; exact RS.nil _ _, B3.out⟩
  have HR2 : Hid (R = (pln s d R0.1 P, 0)) := by unfold Hid; rw [HR.out, if_neg (by simp [h0])]
  obtain ⟨hlw, hws, hwd⟩ := HLW0.out h0
  have HP4 : Hid (rp4 s d R0.1 P s.length = pln s d R0.1 P) := rp4_all R0.1 hws hwd
  have HGW : Hid (∀ W (q : ByteArray), Below w3.heap.size w3 W → Calls Tryz.prog 41 #[.slice aw R0.1.length cw, .string q] W fun e w' => ∃ u, e = .returned (.tuple #[u, .bool (gotB R0.1 (dl q))]) ∧ EV w' u (got R0.1 (dl q)) ∧ Below W.heap.size W w') := fun W q hb => rget_any _ R0.1 q W (EW.out.kept hb) hlw
  have hnw := hlw.1
  clear HR HLW0 hws hwd hlw
  rw [h0]
  clear h0
  generalize R0.1 = Wt at *
  clear R0
  have L1 : Hid (∀ j, (rp1 s d P j).length ≤ 500) := fun j => by have := pl1_len (g1 s d P) 0 rke d [] j; have e := HN2.out; unfold rp1; rw [List.length_nil] at this; omega
  have L2 : Hid (∀ j, (rp2 s d Wt P j).length ≤ 600) := fun j => by have := pl2_len (f2 Wt) 1 no d (rp1 s d P d.length) j; have e := HN2.out; have l := L1.out d.length; unfold rp2; omega
  have L3 : Hid (∀ j, (rp3 s d Wt P j).length ≤ 700) := fun j => by have := pl1_len (f3 d) 2 no Wt (rp2 s d Wt P 0) j; have l := L2.out 0; unfold rp3; omega
  have L4 : Hid (∀ j, (rp4 s d Wt P j).length ≤ 800) := fun j => by have := pl1_len (g4 d) 3 no s (rp3 s d Wt P Wt.length) j; have e := HN.out; have l := L3.out Wt.length; unfold rp4; omega
  obtain ⟨nw, hnw'⟩ : ∃ n, n = Wt.length := ⟨_, rfl⟩
  have HNW : Hid (nw = Wt.length) := hnw'
  rw [← hnw'] at HGW EW hnw ⊢
  clear hnw'
  have N1 : Hid (∀ j, j < n2 → rp1 s d P (j + 1) = if g1 s d P (atE d j) then rp1 s d P j ++ [⟨0, (atE d j).p, mk (kep (atE d j).k)⟩] else rp1 s d P j) := fun j h => pl1_next _ _ _ _ _ _ (by rw [← HN2.out]; exact h)
  have N2 : Hid (∀ j, j < n2 → rp2 s d Wt P j = if f2 Wt (atE d j) then rp2 s d Wt P (j + 1) ++ [⟨1, (atE d j).p, ⟨#[]⟩⟩] else rp2 s d Wt P (j + 1)) := fun j h => pl2_next _ _ _ _ _ _ (by rw [← HN2.out]; exact h)
  have N3 : Hid (∀ j, j < nw → rp3 s d Wt P (j + 1) = if f3 d (atE Wt j) then rp3 s d Wt P j ++ [⟨2, (atE Wt j).p, ⟨#[]⟩⟩] else rp3 s d Wt P j) := fun j h => pl1_next _ _ _ _ _ _ (by rw [← HNW.out]; exact h)
  have N4 : Hid (∀ j, j < n → rp4 s d Wt P (j + 1) = if g4 d (atE s j) then rp4 s d Wt P j ++ [⟨3, (atE s j).p, ⟨#[]⟩⟩] else rp4 s d Wt P j) := fun j h => pl1_next _ _ _ _ _ _ (by rw [← HN.out]; exact h)
  have Z1 : Hid (rp1 s d P 0 = []) := by unfold Hid rp1 pl1; simp
  have Z2 : Hid (rp2 s d Wt P n2 = rp1 s d P n2) := by unfold Hid; rw [HN2.out]; unfold rp2 pl2; simp
  have Z3 : Hid (rp3 s d Wt P 0 = rp2 s d Wt P 0) := by unfold Hid rp3 pl1; simp
  have Z4 : Hid (rp4 s d Wt P 0 = rp3 s d Wt P nw) := by unfold Hid; rw [HNW.out]; unfold rp4 pl1; simp
  have HRF : Hid (R = (rp4 s d Wt P n, 0)) := by unfold Hid; rw [HR2.out, ← HP4.out, HN.out]
  clear HR2 HP4
  generalize rp1 s d P = K1 at *
  generalize rp2 s d Wt P = K2 at *
  generalize rp3 s d Wt P = K3 at *
  generalize rp4 s d Wt P = K4 at *
  have HKW : Hid (∀ W, Below w3.heap.size w3 W → W.cell? ⟨w.heap.size, 0, none⟩ = some (.bool P.del) ∧ W.cell? ⟨w.heap.size, 1, none⟩ = some (.bool P.bak)) := fun W hb => HK.out W (D3.out.trans (hb.mono D3.out.size))
  have HBW : Hid (∀ W, Below w3.heap.size w3 W → Below w.heap.size w W) := fun W hb => B3.out.trans (hb.mono B3.out.size)
  clear HK D3 B3
  go_wp2_with fail
  go_loopw [10, 11] (fun o i wr => ∃ j : Nat, j ≤ n2 ∧ i = .int .i64 j ∧ RS wr w3.heap.size o (K1 j) ∧ Below w3.heap.size w3 wr) (fun _ i _ => n2 - (intOf i).toNat)
  case atStart => exact ⟨0, by omega, rfl, by rw [Z1.out]; exact RS.nil _ _, Below.refl _ _⟩
  case round =>
    obtain ⟨j, hj, rfl, sr, bel⟩ := hrel
    have HB : Hid (Below w3.heap.size w3 wr) := bel
    have HO : Hid (RS wr w3.heap.size u10 (K1 j)) := sr
    clear sr bel
    obtain ⟨oa, oc, rfl⟩ := own_shape HO.out
    obtain ⟨nv, hnv⟩ : ∃ nv, nv = (K1 j).length := ⟨_, rfl⟩
    rw [← hnv] at HO ⊢
    clear hnv
    by_cases hlt : j < n2
    · have lt2 : (j : Int) < (n2 : Int) := by omega
      have g0 : (0 : Int) ≤ (j : Int) := by omega
      obtain ⟨b, off, za, zn, zc, rfl, c1, c2, c3, hun, hsl⟩ := (HD.out wr (HBW.out wr HB.out)).at j (by rw [← HN2.out]; exact hlt)
      have q1 : IntKind.i64.wrap ((j : Int) + 1) = ((j + 1 : Nat) : Int) := by simp [IntKind.wrap, IntKind.bits, IntKind.signed]; omega
      have NX : Hid (K1 (j + 1) = if (rkp s d P (atE d j) && !(gotB d (kep (atE d j).k) && decide ((got d (kep (atE d j).k)).z = (atE d j).z))) = true then K1 j ++ [⟨0, (atE d j).p, mk (kep (atE d j).k)⟩] else K1 j) := N1.out j hlt
      have LL : Hid ((K1 j).length ≤ 500) := L1.out j
      have SX : Hid (∀ W, Below wr.heap.size wr W → Sl W (.slice za zn zc) (atE d j).z) := fun W hb => hsl.kept hb
      have ck := HKE.out j wr
      have CGK : Hid (∀ W, Below w3.heap.size w3 W → Calls Tryz.prog 41 #[.slice (some ⟨b, off, none⟩) n2 kd2, .string (mk (kep (atE d j).k))] W fun e w' => ∃ u, e = .returned (.tuple #[u, .bool (gotB d (kep (atE d j).k))]) ∧ EV w' u (got d (kep (atE d j).k)) ∧ Below W.heap.size W w') := fun W hb => by
        have := HGD.out W (mk (kep (atE d j).k)) (HBW.out W hb)
        rwa [dl_mk] at this
      have CKP : Hid (∀ W, Below wr.heap.size wr W → Calls Tryz.prog 29 #[.slice a n c, .slice (some ⟨b, off, none⟩) n2 kd2, .agg #[.string (atE d j).p, .bool (atE d j).d, .slice za zn zc], .agg #[.bool P.del, .bool P.bak]] W fun e w' => e = .returned (.bool (rkp s d P (atE d j))) ∧ Below W.heap.size W w') := fun W hb => HKP.out j W _ (HBW.out W (HB.out.trans (hb.mono HB.out.size))) ⟨za, zn, zc, rfl, SX.out W hb⟩
      clear hun hsl
      generalize rkp s d P (atE d j) = sb at *
      generalize gotB d (kep (atE d j).k) = gb at *
      generalize got d (kep (atE d j).k) = y at *
      generalize mk (kep (atE d j).k) = kq at *
      generalize hxz : (atE d j).z = xz at *
      generalize (atE d j).p = xp at *
      generalize (atE d j).d = xd at *
      generalize K1 j = L at *
      clear hxz
      go_wp2_with fail
      refine ck.mono ?_
      rintro e w5 ⟨rfl, b5⟩
      have D5 : Hid (Below wr.heap.size wr w5) := b5
      have cg := CGK.out w5 (HB.out.trans (b5.mono HB.out.size))
      clear ck b5 CGK
      go_wp2_with fail
      refine cg.mono ?_
      rintro e w6 ⟨u6, rfl, ⟨ya, yn, yc, rfl, sy⟩, b6⟩
      obtain ⟨W7, hW7⟩ : ∃ W7, W7 = w6.alloc (.cells #[.string y.p, .bool y.d, .slice ya yn yc] 46) := ⟨_, rfl⟩
      have b7 : Below w6.heap.size w6 W7 := by rw [hW7]; exact (Below.refl _ _).alloc (Nat.le_refl _) _
      have d7 : Below wr.heap.size wr W7 := D5.out.trans ((b6.trans (b7.mono b6.size)).mono D5.out.size)
      have D7 : Hid (Below wr.heap.size wr W7) := d7
      have k7 : W7.heap[w6.heap.size]? = some (.cells #[.string y.p, .bool y.d, .slice ya yn yc] 46 (0, 0)) := by rw [hW7]; exact heap_alloc_new _ _
      obtain ⟨-, -, y2, -, -, -⟩ := trio k7
      have SY : Hid (∀ W, Below W7.heap.size W7 W → Sl W (.slice ya yn yc) y.z) := fun W hb => (sy.kept b7).kept hb
      obtain ⟨l0, l1⟩ := HKW.out wr HB.out
      have HQ : Hid (∀ W, From W7 W → W.cell? ⟨w6.heap.size, 2, none⟩ = some (.slice ya yn yc) ∧ (W.cell? ⟨b, off + j * 3, none⟩ = some (.string xp) ∧ W.cell? ⟨b, off + j * 3 + 1, none⟩ = some (.bool xd) ∧ W.cell? ⟨b, off + j * 3 + 2, none⟩ = some (.slice za zn zc)) ∧ W.cell? ⟨w.heap.size, 0, none⟩ = some (.bool P.del) ∧ W.cell? ⟨w.heap.size, 1, none⟩ = some (.bool P.bak)) := fun W hb => by
        have hb : Below W7.heap.size W7 W := hb
        have hb' := d7.trans (hb.mono d7.size)
        exact ⟨(hb.cell (World.block_lt_of_cell? _ _ y2)).trans y2, ⟨(hb'.cell (World.block_lt_of_cell? _ _ c1)).trans c1, (hb'.cell (World.block_lt_of_cell? _ _ c2)).trans c2, (hb'.cell (World.block_lt_of_cell? _ _ c3)).trans c3⟩, (hb'.cell (World.block_lt_of_cell? _ _ l0)).trans l0, (hb'.cell (World.block_lt_of_cell? _ _ l1)).trans l1⟩
      have CS : Hid (∀ W, From W7 W → Calls Tryz.prog 29 #[.slice a n c, .slice (some ⟨b, off, none⟩) n2 kd2, .agg #[.string xp, .bool xd, .slice za zn zc], .agg #[.bool P.del, .bool P.bak]] W fun e w' => e = .returned (.bool sb) ∧ Below W.heap.size W w') := fun W hb => CKP.out W (d7.trans (Below.mono hb d7.size))
      have tz := strB_beq (SY.out W7 (Below.refl _ _)).bytes (SX.out W7 d7).bytes
      have V1 : Hid (∀ W, From W7 W → _) := fun W hb => (SY.out W hb).conv
      have V2 : Hid (∀ W, From W7 W → _) := fun W hb => (SX.out W (d7.trans (Below.mono hb d7.size))).conv
      have FSB : Hid (∀ W, From W7 W → RS W w3.heap.size (.slice oa nv oc) L ∧ Below w3.heap.size w3 W) := fun W hb => ⟨HO.out.below (d7.trans (Below.mono hb d7.size)), HB.out.trans ((d7.trans (Below.mono hb d7.size)).mono HB.out.size)⟩
      clear cg b6 b7 d7 k7 sy CKP D5 SX SY c1 c2 c3 l0 l1 y2 HO HB D7
      generalize decide (y.z = xz) = t3 at *
      generalize strB y.z = ys at *
      generalize strB xz = xs at *
      go_wp2_with fail
      rw [← hW7]
      clear hW7
      cases sb with
      | false =>
        refine wp_region_held_drew (S := From W7) (by kernel_rfl) ((Below.refl _ _).drew) (fun _ => ?_)
        refine wpAnyH_on ((Below.refl _ _).drew) (fun u0 hu0 bu0 => ?_)
        replace HQ := on HQ bu0
        replace V1 := on V1 bu0
        replace V2 := on V2 bu0
        replace CS := on CS bu0
        replace FSB := on FSB bu0
        refine wpAnyH_take (i := 0) (oi := { dst := some 52, op := Op.move (Operand.tmp 0), type := 22, pos := "ref.go:131", after := #[], guard := none }) (v := ?vr0001) rfl (by kernel_rfl) (by kernel_rfl) (by kernel_rfl) (fun _ _ _ h => h) (Or.inl ⟨by rfl, ?yr0001⟩) (Below.refl _ _) ?rr0001
        case yr0001 => (intro w hSw; go_simp; try with_reducible rfl)
        try simp only [Act.put, List.setIfInBounds_toArray, List.set_cons_zero, List.set_cons_succ]
        refine wpAnyH_take (i := 1) (oi := { dst := some 53, op := Op.move (Operand.tmp 1), type := 22, pos := "ref.go:131", after := #[], guard := none }) (v := ?vr0002) rfl (by kernel_rfl) (by kernel_rfl) (by kernel_rfl) (fun _ _ _ h => h) (Or.inl ⟨by rfl, ?yr0002⟩) (Below.refl _ _) ?rr0002
        case yr0002 => (intro w hSw; go_simp; try with_reducible rfl)
        try simp only [Act.put, List.setIfInBounds_toArray, List.set_cons_zero, List.set_cons_succ]
        refine wpAnyH_take (i := 2) (oi := { dst := some 54, op := Op.move (Operand.tmp 1), type := 22, pos := "ref.go:131", after := #[], guard := none }) (v := ?vr0003) rfl (by kernel_rfl) (by kernel_rfl) (by kernel_rfl) (fun _ _ _ h => h) (Or.inl ⟨by rfl, ?yr0003⟩) (Below.refl _ _) ?rr0003
        case yr0003 => (intro w hSw; go_simp; try with_reducible rfl)
        try simp only [Act.put, List.setIfInBounds_toArray, List.set_cons_zero, List.set_cons_succ]
        refine wpAnyH_take (i := 3) (oi := { dst := some 55, op := Op.move (Operand.tmp 11), type := 3, pos := "ref.go:131", after := #[], guard := none }) (v := ?vr0004) rfl (by kernel_rfl) (by kernel_rfl) (by kernel_rfl) (fun _ _ _ h => h) (Or.inl ⟨by rfl, ?yr0004⟩) (Below.refl _ _) ?rr0004
        case yr0004 => (intro w hSw; go_simp; try with_reducible rfl)
        try simp only [Act.put, List.setIfInBounds_toArray, List.set_cons_zero, List.set_cons_succ]
        refine wpAnyH_take (i := 4) (oi := { dst := some 56, op := Op.indexAddr 22 (Operand.tmp 54) (Operand.tmp 55), type := 0, pos := "ref.go:131", after := #[{ on := 2, ground := Ground.data }, { on := 3, ground := Ground.data }], guard := none }) (v := ?vr0005) rfl (by kernel_rfl) (by kernel_rfl) (by kernel_rfl) (fun _ _ _ h => h) (Or.inl ⟨by rfl, ?yr0005⟩) (Below.refl _ _) ?rr0005
        case yr0005 => (intro w hSw; go_simp; try with_reducible rfl)
        try simp only [Act.put, List.setIfInBounds_toArray, List.set_cons_zero, List.set_cons_succ]
        refine wpAnyH_take (i := 5) (oi := { dst := some 57, op := Op.load 46 (Operand.tmp 56), type := 46, pos := "ref.go:131", after := #[{ on := 4, ground := Ground.data }], guard := none }) (v := ?vr0006) rfl (by kernel_rfl) (by kernel_rfl) (by kernel_rfl) (fun _ _ _ h => h) (Or.inl ⟨by rfl, ?yr0006⟩) (Below.refl _ _) ?rr0006
        case yr0006 => (intro w hSw; obtain ⟨i2, ⟨i3, i4, i5⟩, i0, i1⟩ := HQ.out w hSw; go_simp; try with_reducible rfl)
        try simp only [Act.put, List.setIfInBounds_toArray, List.set_cons_zero, List.set_cons_succ]
        refine wpAnyH_take (i := 6) (oi := { dst := some 58, op := Op.load 24 (Operand.tmp 5), type := 24, pos := "ref.go:131", after := #[], guard := none }) (v := ?vr0007) rfl (by kernel_rfl) (by kernel_rfl) (by kernel_rfl) (fun _ _ _ h => h) (Or.inl ⟨by rfl, ?yr0007⟩) (Below.refl _ _) ?rr0007
        case yr0007 => (intro w hSw; obtain ⟨i2, ⟨i3, i4, i5⟩, i0, i1⟩ := HQ.out w hSw; go_simp; try with_reducible rfl)
        try simp only [Act.put, List.setIfInBounds_toArray, List.set_cons_zero, List.set_cons_succ]
        refine wpAnyH_ready (rs := [7]) (by kernel_rfl) (by simp) ?_
        refine AllReadyH.cons (o := { dst := some 59, op := Op.call { callee := Callee.value (Operand.func 29), args := #[Operand.tmp 52, Operand.tmp 53, Operand.tmp 57, Operand.tmp 58], argTypes := #[22, 22, 46, 24] }, type := 4, pos := "ref.go:131", after := #[{ on := 0, ground := Ground.data }, { on := 1, ground := Ground.data }, { on := 5, ground := Ground.data }, { on := 6, ground := Ground.data }], guard := none }) rfl (fun KK hKK => ?_) ?_
        · go_simp
          refine (CS.out _ (Below.refl _ _)).mono ?_
          rintro e u8' ⟨rfl, bu8'⟩
          (try go_wp2_with fail)
          refine hKK.out _ _ (bu8') (fun _ => ?_)
          clear hKK KK
          try simp only [Act.put, List.setIfInBounds_toArray, List.set_cons_zero, List.set_cons_succ]
          refine wpAnyH_on (bu8') (fun u8 hu8 bu8 => ?_)
          replace HQ := on HQ bu8
          replace V1 := on V1 bu8
          replace V2 := on V2 bu8
          replace CS := on CS bu8
          replace FSB := on FSB bu8
          refine wpAnyH_take (i := 8) (oi := { dst := some 60, op := Op.move (Operand.tmp 59), type := 4, pos := "ref.go:131", after := #[{ on := 7, ground := Ground.data }, { on := 7, ground := Ground.chain }], guard := none }) (v := ?vr0009) rfl (by kernel_rfl) (by kernel_rfl) (by kernel_rfl) (fun _ _ _ h => h) (Or.inl ⟨by rfl, ?yr0009⟩) (Below.refl _ _) ?rr0009
          case yr0009 => (intro w hSw; go_simp; try with_reducible rfl)
          try simp only [Act.put, List.setIfInBounds_toArray, List.set_cons_zero, List.set_cons_succ]
          refine wpAnyH_take (i := 9) (oi := { dst := some 61, op := Op.move (Operand.tmp 14), type := 4, pos := "ref.go:131", after := #[{ on := 8, ground := Ground.guard }], guard := some (8, true) }) (v := undef) rfl (by kernel_rfl) (by kernel_rfl) (by kernel_rfl) (fun _ _ _ h => h) (Or.inr ⟨by rfl, rfl⟩) (Below.refl _ _) ?_
          try simp only [Act.put, List.setIfInBounds_toArray, List.set_cons_zero, List.set_cons_succ]
          refine wpAnyH_take (i := 10) (oi := { dst := some 62, op := Op.move (Operand.tmp 61), type := 4, pos := "ref.go:131", after := #[{ on := 9, ground := Ground.data }, { on := 8, ground := Ground.chain }, { on := 8, ground := Ground.guard }], guard := some (8, true) }) (v := undef) rfl (by kernel_rfl) (by kernel_rfl) (by kernel_rfl) (fun _ _ _ h => h) (Or.inr ⟨by rfl, rfl⟩) (Below.refl _ _) ?_
          try simp only [Act.put, List.setIfInBounds_toArray, List.set_cons_zero, List.set_cons_succ]
          refine wpAnyH_take (i := 11) (oi := { dst := some 63, op := Op.fieldAddr 46 (Operand.tmp 13) 2, type := 0, pos := "ref.go:131", after := #[{ on := 10, ground := Ground.guard }], guard := some (10, true) }) (v := undef) rfl (by kernel_rfl) (by kernel_rfl) (by kernel_rfl) (fun _ _ _ h => h) (Or.inr ⟨by rfl, rfl⟩) (Below.refl _ _) ?_
          try simp only [Act.put, List.setIfInBounds_toArray, List.set_cons_zero, List.set_cons_succ]
          refine wpAnyH_take (i := 12) (oi := { dst := some 64, op := Op.load 44 (Operand.tmp 63), type := 44, pos := "ref.go:131", after := #[{ on := 11, ground := Ground.data }, { on := 10, ground := Ground.guard }], guard := some (10, true) }) (v := undef) rfl (by kernel_rfl) (by kernel_rfl) (by kernel_rfl) (fun _ _ _ h => h) (Or.inr ⟨by rfl, rfl⟩) (Below.refl _ _) ?_
          try simp only [Act.put, List.setIfInBounds_toArray, List.set_cons_zero, List.set_cons_succ]
          refine wpAnyH_take (i := 13) (oi := { dst := some 65, op := Op.convert 44 9 (Operand.tmp 64), type := 9, pos := "ref.go:131", after := #[{ on := 12, ground := Ground.data }, { on := 10, ground := Ground.guard }], guard := some (10, true) }) (v := undef) rfl (by kernel_rfl) (by kernel_rfl) (by kernel_rfl) (fun _ _ _ h => h) (Or.inr ⟨by rfl, rfl⟩) (Below.refl _ _) ?_
          try simp only [Act.put, List.setIfInBounds_toArray, List.set_cons_zero, List.set_cons_succ]
          refine wpAnyH_take (i := 14) (oi := { dst := some 66, op := Op.move (Operand.tmp 1), type := 22, pos := "ref.go:131", after := #[{ on := 10, ground := Ground.guard }], guard := some (10, true) }) (v := undef) rfl (by kernel_rfl) (by kernel_rfl) (by kernel_rfl) (fun _ _ _ h => h) (Or.inr ⟨by rfl, rfl⟩) (Below.refl _ _) ?_
          try simp only [Act.put, List.setIfInBounds_toArray, List.set_cons_zero, List.set_cons_succ]
          refine wpAnyH_take (i := 15) (oi := { dst := some 67, op := Op.move (Operand.tmp 11), type := 3, pos := "ref.go:131", after := #[{ on := 10, ground := Ground.guard }], guard := some (10, true) }) (v := undef) rfl (by kernel_rfl) (by kernel_rfl) (by kernel_rfl) (fun _ _ _ h => h) (Or.inr ⟨by rfl, rfl⟩) (Below.refl _ _) ?_
          try simp only [Act.put, List.setIfInBounds_toArray, List.set_cons_zero, List.set_cons_succ]
          refine wpAnyH_take (i := 16) (oi := { dst := some 68, op := Op.indexAddr 22 (Operand.tmp 66) (Operand.tmp 67), type := 0, pos := "ref.go:131", after := #[{ on := 14, ground := Ground.data }, { on := 15, ground := Ground.data }, { on := 10, ground := Ground.guard }], guard := some (10, true) }) (v := undef) rfl (by kernel_rfl) (by kernel_rfl) (by kernel_rfl) (fun _ _ _ h => h) (Or.inr ⟨by rfl, rfl⟩) (Below.refl _ _) ?_
          try simp only [Act.put, List.setIfInBounds_toArray, List.set_cons_zero, List.set_cons_succ]
          refine wpAnyH_take (i := 17) (oi := { dst := some 69, op := Op.fieldAddr 46 (Operand.tmp 68) 2, type := 0, pos := "ref.go:131", after := #[{ on := 16, ground := Ground.data }, { on := 10, ground := Ground.guard }], guard := some (10, true) }) (v := undef) rfl (by kernel_rfl) (by kernel_rfl) (by kernel_rfl) (fun _ _ _ h => h) (Or.inr ⟨by rfl, rfl⟩) (Below.refl _ _) ?_
          try simp only [Act.put, List.setIfInBounds_toArray, List.set_cons_zero, List.set_cons_succ]
          refine wpAnyH_take (i := 18) (oi := { dst := some 70, op := Op.load 44 (Operand.tmp 69), type := 44, pos := "ref.go:131", after := #[{ on := 17, ground := Ground.data }, { on := 10, ground := Ground.guard }], guard := some (10, true) }) (v := undef) rfl (by kernel_rfl) (by kernel_rfl) (by kernel_rfl) (fun _ _ _ h => h) (Or.inr ⟨by rfl, rfl⟩) (Below.refl _ _) ?_
          try simp only [Act.put, List.setIfInBounds_toArray, List.set_cons_zero, List.set_cons_succ]
          refine wpAnyH_take (i := 19) (oi := { dst := some 71, op := Op.convert 44 9 (Operand.tmp 70), type := 9, pos := "ref.go:131", after := #[{ on := 18, ground := Ground.data }, { on := 10, ground := Ground.guard }], guard := some (10, true) }) (v := undef) rfl (by kernel_rfl) (by kernel_rfl) (by kernel_rfl) (fun _ _ _ h => h) (Or.inr ⟨by rfl, rfl⟩) (Below.refl _ _) ?_
          try simp only [Act.put, List.setIfInBounds_toArray, List.set_cons_zero, List.set_cons_succ]
          refine wpAnyH_take (i := 20) (oi := { dst := some 72, op := Op.binOp BinOp.eql 9 (Operand.tmp 65) (Operand.tmp 71) 9, type := 4, pos := "ref.go:131", after := #[{ on := 13, ground := Ground.data }, { on := 19, ground := Ground.data }, { on := 10, ground := Ground.guard }], guard := some (10, true) }) (v := undef) rfl (by kernel_rfl) (by kernel_rfl) (by kernel_rfl) (fun _ _ _ h => h) (Or.inr ⟨by rfl, rfl⟩) (Below.refl _ _) ?_
          try simp only [Act.put, List.setIfInBounds_toArray, List.set_cons_zero, List.set_cons_succ]
          refine wpAnyH_take (i := 21) (oi := { dst := some 73, op := Op.pick (Operand.tmp 62) (Operand.tmp 72) (Operand.const (Value.bool false)), type := 4, pos := "ref.go:131", after := #[{ on := 10, ground := Ground.data }, { on := 20, ground := Ground.data }, { on := 8, ground := Ground.guard }], guard := some (8, true) }) (v := undef) rfl (by kernel_rfl) (by kernel_rfl) (by kernel_rfl) (fun _ _ _ h => h) (Or.inr ⟨by rfl, rfl⟩) (Below.refl _ _) ?_
          try simp only [Act.put, List.setIfInBounds_toArray, List.set_cons_zero, List.set_cons_succ]
          refine wpAnyH_take (i := 22) (oi := { dst := some 74, op := Op.unOp UnOp.not 4 (Operand.tmp 73), type := 4, pos := "ref.go:131", after := #[{ on := 21, ground := Ground.data }, { on := 8, ground := Ground.guard }], guard := some (8, true) }) (v := undef) rfl (by kernel_rfl) (by kernel_rfl) (by kernel_rfl) (fun _ _ _ h => h) (Or.inr ⟨by rfl, rfl⟩) (Below.refl _ _) ?_
          try simp only [Act.put, List.setIfInBounds_toArray, List.set_cons_zero, List.set_cons_succ]
          refine wpAnyH_take (i := 23) (oi := { dst := some 75, op := Op.pick (Operand.tmp 60) (Operand.tmp 74) (Operand.const (Value.bool false)), type := 4, pos := "ref.go:131", after := #[{ on := 8, ground := Ground.data }, { on := 22, ground := Ground.data }], guard := none }) (v := ?vr00024) rfl (by kernel_rfl) (by kernel_rfl) (by kernel_rfl) (fun _ _ _ h => h) (Or.inl ⟨by rfl, ?yr00024⟩) (Below.refl _ _) ?rr00024
          case yr00024 => (intro w hSw; go_simp; try with_reducible rfl)
          try simp only [Act.put, List.setIfInBounds_toArray, List.set_cons_zero, List.set_cons_succ]
          refine wpAnyH_done (by kernel_rfl) ?_ _
          obtain ⟨s9, b9⟩ := FSB.out _ (Below.refl _ _)
          have S9 : Hid (RS u8 w3.heap.size (.slice oa nv oc) L) := s9
          have B9 : Hid (Below w3.heap.size w3 u8) := b9
          obtain ⟨-, ⟨c1, c2, c3⟩, -, -⟩ := HQ.out _ (Below.refl _ _)
          clear s9 b9 CS V1 V2 tz HQ FSB
          have NX2 : Hid (K1 (j + 1) = L) := NX.out
          clear NX
          go_wp2
          go_roundw
          case rel => exact ⟨j + 1, by omega, by go_num, by rw [NX2.out]; exact S9.out, B9.out⟩
          case measure => simp [intOf] <;> omega
        exact AllReadyH.nil
      | true =>
      cases gb with
      | false =>
        refine wp_region_held_drew (S := From W7) (by kernel_rfl) ((Below.refl _ _).drew) (fun _ => ?_)
        refine wpAnyH_on ((Below.refl _ _).drew) (fun u0 hu0 bu0 => ?_)
        replace HQ := on HQ bu0
        replace V1 := on V1 bu0
        replace V2 := on V2 bu0
        replace CS := on CS bu0
        replace FSB := on FSB bu0
        refine wpAnyH_take (i := 0) (oi := { dst := some 52, op := Op.move (Operand.tmp 0), type := 22, pos := "ref.go:131", after := #[], guard := none }) (v := ?vr1001) rfl (by kernel_rfl) (by kernel_rfl) (by kernel_rfl) (fun _ _ _ h => h) (Or.inl ⟨by rfl, ?yr1001⟩) (Below.refl _ _) ?rr1001
        case yr1001 => (intro w hSw; go_simp; try with_reducible rfl)
        try simp only [Act.put, List.setIfInBounds_toArray, List.set_cons_zero, List.set_cons_succ]
        refine wpAnyH_take (i := 1) (oi := { dst := some 53, op := Op.move (Operand.tmp 1), type := 22, pos := "ref.go:131", after := #[], guard := none }) (v := ?vr1002) rfl (by kernel_rfl) (by kernel_rfl) (by kernel_rfl) (fun _ _ _ h => h) (Or.inl ⟨by rfl, ?yr1002⟩) (Below.refl _ _) ?rr1002
        case yr1002 => (intro w hSw; go_simp; try with_reducible rfl)
        try simp only [Act.put, List.setIfInBounds_toArray, List.set_cons_zero, List.set_cons_succ]
        refine wpAnyH_take (i := 2) (oi := { dst := some 54, op := Op.move (Operand.tmp 1), type := 22, pos := "ref.go:131", after := #[], guard := none }) (v := ?vr1003) rfl (by kernel_rfl) (by kernel_rfl) (by kernel_rfl) (fun _ _ _ h => h) (Or.inl ⟨by rfl, ?yr1003⟩) (Below.refl _ _) ?rr1003
        case yr1003 => (intro w hSw; go_simp; try with_reducible rfl)
        try simp only [Act.put, List.setIfInBounds_toArray, List.set_cons_zero, List.set_cons_succ]
        refine wpAnyH_take (i := 3) (oi := { dst := some 55, op := Op.move (Operand.tmp 11), type := 3, pos := "ref.go:131", after := #[], guard := none }) (v := ?vr1004) rfl (by kernel_rfl) (by kernel_rfl) (by kernel_rfl) (fun _ _ _ h => h) (Or.inl ⟨by rfl, ?yr1004⟩) (Below.refl _ _) ?rr1004
        case yr1004 => (intro w hSw; go_simp; try with_reducible rfl)
        try simp only [Act.put, List.setIfInBounds_toArray, List.set_cons_zero, List.set_cons_succ]
        refine wpAnyH_take (i := 4) (oi := { dst := some 56, op := Op.indexAddr 22 (Operand.tmp 54) (Operand.tmp 55), type := 0, pos := "ref.go:131", after := #[{ on := 2, ground := Ground.data }, { on := 3, ground := Ground.data }], guard := none }) (v := ?vr1005) rfl (by kernel_rfl) (by kernel_rfl) (by kernel_rfl) (fun _ _ _ h => h) (Or.inl ⟨by rfl, ?yr1005⟩) (Below.refl _ _) ?rr1005
        case yr1005 => (intro w hSw; go_simp; try with_reducible rfl)
        try simp only [Act.put, List.setIfInBounds_toArray, List.set_cons_zero, List.set_cons_succ]
        refine wpAnyH_take (i := 5) (oi := { dst := some 57, op := Op.load 46 (Operand.tmp 56), type := 46, pos := "ref.go:131", after := #[{ on := 4, ground := Ground.data }], guard := none }) (v := ?vr1006) rfl (by kernel_rfl) (by kernel_rfl) (by kernel_rfl) (fun _ _ _ h => h) (Or.inl ⟨by rfl, ?yr1006⟩) (Below.refl _ _) ?rr1006
        case yr1006 => (intro w hSw; obtain ⟨i2, ⟨i3, i4, i5⟩, i0, i1⟩ := HQ.out w hSw; go_simp; try with_reducible rfl)
        try simp only [Act.put, List.setIfInBounds_toArray, List.set_cons_zero, List.set_cons_succ]
        refine wpAnyH_take (i := 6) (oi := { dst := some 58, op := Op.load 24 (Operand.tmp 5), type := 24, pos := "ref.go:131", after := #[], guard := none }) (v := ?vr1007) rfl (by kernel_rfl) (by kernel_rfl) (by kernel_rfl) (fun _ _ _ h => h) (Or.inl ⟨by rfl, ?yr1007⟩) (Below.refl _ _) ?rr1007
        case yr1007 => (intro w hSw; obtain ⟨i2, ⟨i3, i4, i5⟩, i0, i1⟩ := HQ.out w hSw; go_simp; try with_reducible rfl)
        try simp only [Act.put, List.setIfInBounds_toArray, List.set_cons_zero, List.set_cons_succ]
        refine wpAnyH_ready (rs := [7]) (by kernel_rfl) (by simp) ?_
        refine AllReadyH.cons (o := { dst := some 59, op := Op.call { callee := Callee.value (Operand.func 29), args := #[Operand.tmp 52, Operand.tmp 53, Operand.tmp 57, Operand.tmp 58], argTypes := #[22, 22, 46, 24] }, type := 4, pos := "ref.go:131", after := #[{ on := 0, ground := Ground.data }, { on := 1, ground := Ground.data }, { on := 5, ground := Ground.data }, { on := 6, ground := Ground.data }], guard := none }) rfl (fun KK hKK => ?_) ?_
        · go_simp
          refine (CS.out _ (Below.refl _ _)).mono ?_
          rintro e u8' ⟨rfl, bu8'⟩
          (try go_wp2_with fail)
          refine hKK.out _ _ (bu8') (fun _ => ?_)
          clear hKK KK
          try simp only [Act.put, List.setIfInBounds_toArray, List.set_cons_zero, List.set_cons_succ]
          refine wpAnyH_on (bu8') (fun u8 hu8 bu8 => ?_)
          replace HQ := on HQ bu8
          replace V1 := on V1 bu8
          replace V2 := on V2 bu8
          replace CS := on CS bu8
          replace FSB := on FSB bu8
          refine wpAnyH_take (i := 8) (oi := { dst := some 60, op := Op.move (Operand.tmp 59), type := 4, pos := "ref.go:131", after := #[{ on := 7, ground := Ground.data }, { on := 7, ground := Ground.chain }], guard := none }) (v := ?vr1009) rfl (by kernel_rfl) (by kernel_rfl) (by kernel_rfl) (fun _ _ _ h => h) (Or.inl ⟨by rfl, ?yr1009⟩) (Below.refl _ _) ?rr1009
          case yr1009 => (intro w hSw; go_simp; try with_reducible rfl)
          try simp only [Act.put, List.setIfInBounds_toArray, List.set_cons_zero, List.set_cons_succ]
          refine wpAnyH_take (i := 9) (oi := { dst := some 61, op := Op.move (Operand.tmp 14), type := 4, pos := "ref.go:131", after := #[{ on := 8, ground := Ground.guard }], guard := some (8, true) }) (v := ?vr10010) rfl (by kernel_rfl) (by kernel_rfl) (by kernel_rfl) (fun _ _ _ h => h) (Or.inl ⟨by rfl, ?yr10010⟩) (Below.refl _ _) ?rr10010
          case yr10010 => (intro w hSw; go_simp; try with_reducible rfl)
          try simp only [Act.put, List.setIfInBounds_toArray, List.set_cons_zero, List.set_cons_succ]
          refine wpAnyH_take (i := 10) (oi := { dst := some 62, op := Op.move (Operand.tmp 61), type := 4, pos := "ref.go:131", after := #[{ on := 9, ground := Ground.data }, { on := 8, ground := Ground.chain }, { on := 8, ground := Ground.guard }], guard := some (8, true) }) (v := ?vr10011) rfl (by kernel_rfl) (by kernel_rfl) (by kernel_rfl) (fun _ _ _ h => h) (Or.inl ⟨by rfl, ?yr10011⟩) (Below.refl _ _) ?rr10011
          case yr10011 => (intro w hSw; go_simp; try with_reducible rfl)
          try simp only [Act.put, List.setIfInBounds_toArray, List.set_cons_zero, List.set_cons_succ]
          refine wpAnyH_take (i := 11) (oi := { dst := some 63, op := Op.fieldAddr 46 (Operand.tmp 13) 2, type := 0, pos := "ref.go:131", after := #[{ on := 10, ground := Ground.guard }], guard := some (10, true) }) (v := undef) rfl (by kernel_rfl) (by kernel_rfl) (by kernel_rfl) (fun _ _ _ h => h) (Or.inr ⟨by rfl, rfl⟩) (Below.refl _ _) ?_
          try simp only [Act.put, List.setIfInBounds_toArray, List.set_cons_zero, List.set_cons_succ]
          refine wpAnyH_take (i := 12) (oi := { dst := some 64, op := Op.load 44 (Operand.tmp 63), type := 44, pos := "ref.go:131", after := #[{ on := 11, ground := Ground.data }, { on := 10, ground := Ground.guard }], guard := some (10, true) }) (v := undef) rfl (by kernel_rfl) (by kernel_rfl) (by kernel_rfl) (fun _ _ _ h => h) (Or.inr ⟨by rfl, rfl⟩) (Below.refl _ _) ?_
          try simp only [Act.put, List.setIfInBounds_toArray, List.set_cons_zero, List.set_cons_succ]
          refine wpAnyH_take (i := 13) (oi := { dst := some 65, op := Op.convert 44 9 (Operand.tmp 64), type := 9, pos := "ref.go:131", after := #[{ on := 12, ground := Ground.data }, { on := 10, ground := Ground.guard }], guard := some (10, true) }) (v := undef) rfl (by kernel_rfl) (by kernel_rfl) (by kernel_rfl) (fun _ _ _ h => h) (Or.inr ⟨by rfl, rfl⟩) (Below.refl _ _) ?_
          try simp only [Act.put, List.setIfInBounds_toArray, List.set_cons_zero, List.set_cons_succ]
          refine wpAnyH_take (i := 14) (oi := { dst := some 66, op := Op.move (Operand.tmp 1), type := 22, pos := "ref.go:131", after := #[{ on := 10, ground := Ground.guard }], guard := some (10, true) }) (v := undef) rfl (by kernel_rfl) (by kernel_rfl) (by kernel_rfl) (fun _ _ _ h => h) (Or.inr ⟨by rfl, rfl⟩) (Below.refl _ _) ?_
          try simp only [Act.put, List.setIfInBounds_toArray, List.set_cons_zero, List.set_cons_succ]
          refine wpAnyH_take (i := 15) (oi := { dst := some 67, op := Op.move (Operand.tmp 11), type := 3, pos := "ref.go:131", after := #[{ on := 10, ground := Ground.guard }], guard := some (10, true) }) (v := undef) rfl (by kernel_rfl) (by kernel_rfl) (by kernel_rfl) (fun _ _ _ h => h) (Or.inr ⟨by rfl, rfl⟩) (Below.refl _ _) ?_
          try simp only [Act.put, List.setIfInBounds_toArray, List.set_cons_zero, List.set_cons_succ]
          refine wpAnyH_take (i := 16) (oi := { dst := some 68, op := Op.indexAddr 22 (Operand.tmp 66) (Operand.tmp 67), type := 0, pos := "ref.go:131", after := #[{ on := 14, ground := Ground.data }, { on := 15, ground := Ground.data }, { on := 10, ground := Ground.guard }], guard := some (10, true) }) (v := undef) rfl (by kernel_rfl) (by kernel_rfl) (by kernel_rfl) (fun _ _ _ h => h) (Or.inr ⟨by rfl, rfl⟩) (Below.refl _ _) ?_
          try simp only [Act.put, List.setIfInBounds_toArray, List.set_cons_zero, List.set_cons_succ]
          refine wpAnyH_take (i := 17) (oi := { dst := some 69, op := Op.fieldAddr 46 (Operand.tmp 68) 2, type := 0, pos := "ref.go:131", after := #[{ on := 16, ground := Ground.data }, { on := 10, ground := Ground.guard }], guard := some (10, true) }) (v := undef) rfl (by kernel_rfl) (by kernel_rfl) (by kernel_rfl) (fun _ _ _ h => h) (Or.inr ⟨by rfl, rfl⟩) (Below.refl _ _) ?_
          try simp only [Act.put, List.setIfInBounds_toArray, List.set_cons_zero, List.set_cons_succ]
          refine wpAnyH_take (i := 18) (oi := { dst := some 70, op := Op.load 44 (Operand.tmp 69), type := 44, pos := "ref.go:131", after := #[{ on := 17, ground := Ground.data }, { on := 10, ground := Ground.guard }], guard := some (10, true) }) (v := undef) rfl (by kernel_rfl) (by kernel_rfl) (by kernel_rfl) (fun _ _ _ h => h) (Or.inr ⟨by rfl, rfl⟩) (Below.refl _ _) ?_
          try simp only [Act.put, List.setIfInBounds_toArray, List.set_cons_zero, List.set_cons_succ]
          refine wpAnyH_take (i := 19) (oi := { dst := some 71, op := Op.convert 44 9 (Operand.tmp 70), type := 9, pos := "ref.go:131", after := #[{ on := 18, ground := Ground.data }, { on := 10, ground := Ground.guard }], guard := some (10, true) }) (v := undef) rfl (by kernel_rfl) (by kernel_rfl) (by kernel_rfl) (fun _ _ _ h => h) (Or.inr ⟨by rfl, rfl⟩) (Below.refl _ _) ?_
          try simp only [Act.put, List.setIfInBounds_toArray, List.set_cons_zero, List.set_cons_succ]
          refine wpAnyH_take (i := 20) (oi := { dst := some 72, op := Op.binOp BinOp.eql 9 (Operand.tmp 65) (Operand.tmp 71) 9, type := 4, pos := "ref.go:131", after := #[{ on := 13, ground := Ground.data }, { on := 19, ground := Ground.data }, { on := 10, ground := Ground.guard }], guard := some (10, true) }) (v := undef) rfl (by kernel_rfl) (by kernel_rfl) (by kernel_rfl) (fun _ _ _ h => h) (Or.inr ⟨by rfl, rfl⟩) (Below.refl _ _) ?_
          try simp only [Act.put, List.setIfInBounds_toArray, List.set_cons_zero, List.set_cons_succ]
          refine wpAnyH_take (i := 21) (oi := { dst := some 73, op := Op.pick (Operand.tmp 62) (Operand.tmp 72) (Operand.const (Value.bool false)), type := 4, pos := "ref.go:131", after := #[{ on := 10, ground := Ground.data }, { on := 20, ground := Ground.data }, { on := 8, ground := Ground.guard }], guard := some (8, true) }) (v := ?vr10022) rfl (by kernel_rfl) (by kernel_rfl) (by kernel_rfl) (fun _ _ _ h => h) (Or.inl ⟨by rfl, ?yr10022⟩) (Below.refl _ _) ?rr10022
          case yr10022 => (intro w hSw; go_simp; try with_reducible rfl)
          try simp only [Act.put, List.setIfInBounds_toArray, List.set_cons_zero, List.set_cons_succ]
          refine wpAnyH_take (i := 22) (oi := { dst := some 74, op := Op.unOp UnOp.not 4 (Operand.tmp 73), type := 4, pos := "ref.go:131", after := #[{ on := 21, ground := Ground.data }, { on := 8, ground := Ground.guard }], guard := some (8, true) }) (v := ?vr10023) rfl (by kernel_rfl) (by kernel_rfl) (by kernel_rfl) (fun _ _ _ h => h) (Or.inl ⟨by rfl, ?yr10023⟩) (Below.refl _ _) ?rr10023
          case yr10023 => (intro w hSw; go_simp; try with_reducible rfl)
          try simp only [Act.put, List.setIfInBounds_toArray, List.set_cons_zero, List.set_cons_succ]
          refine wpAnyH_take (i := 23) (oi := { dst := some 75, op := Op.pick (Operand.tmp 60) (Operand.tmp 74) (Operand.const (Value.bool false)), type := 4, pos := "ref.go:131", after := #[{ on := 8, ground := Ground.data }, { on := 22, ground := Ground.data }], guard := none }) (v := ?vr10024) rfl (by kernel_rfl) (by kernel_rfl) (by kernel_rfl) (fun _ _ _ h => h) (Or.inl ⟨by rfl, ?yr10024⟩) (Below.refl _ _) ?rr10024
          case yr10024 => (intro w hSw; go_simp; try with_reducible rfl)
          try simp only [Act.put, List.setIfInBounds_toArray, List.set_cons_zero, List.set_cons_succ]
          refine wpAnyH_done (by kernel_rfl) ?_ _
          obtain ⟨s9, b9⟩ := FSB.out _ (Below.refl _ _)
          have S9 : Hid (RS u8 w3.heap.size (.slice oa nv oc) L) := s9
          have B9 : Hid (Below w3.heap.size w3 u8) := b9
          obtain ⟨-, ⟨c1, c2, c3⟩, -, -⟩ := HQ.out _ (Below.refl _ _)
          clear s9 b9 CS V1 V2 tz HQ FSB
          have NX2 : Hid (K1 (j + 1) = L ++ [⟨0, xp, kq⟩]) := NX.out
          clear NX
          go_wp2_with (at_builtin; refine wpList_append_rs rfl _ _ rfl _ L rfl S9.out ⟨0, xp, kq⟩ rfl (by have := LL.out; omega) B9.out (Hid.out ?_))
          unfold Hid
          intro v10 w10 s10 b10
          have SY : Hid (RS w10 w3.heap.size v10 (K1 (j + 1))) := by unfold Hid; rw [NX2.out]; exact s10
          have BY : Hid (Below w3.heap.size w3 w10) := b10
          clear s10 b10
          go_wp2
          go_roundw
          case rel => exact ⟨j + 1, by omega, by go_num, SY.out, BY.out⟩
          case measure => simp [intOf] <;> omega
        exact AllReadyH.nil
      | true =>
      cases t3 with
      | true =>
        refine wp_region_held_drew (S := From W7) (by kernel_rfl) ((Below.refl _ _).drew) (fun _ => ?_)
        refine wpAnyH_on ((Below.refl _ _).drew) (fun u0 hu0 bu0 => ?_)
        replace HQ := on HQ bu0
        replace V1 := on V1 bu0
        replace V2 := on V2 bu0
        replace CS := on CS bu0
        replace FSB := on FSB bu0
        refine wpAnyH_take (i := 0) (oi := { dst := some 52, op := Op.move (Operand.tmp 0), type := 22, pos := "ref.go:131", after := #[], guard := none }) (v := ?vr1111) rfl (by kernel_rfl) (by kernel_rfl) (by kernel_rfl) (fun _ _ _ h => h) (Or.inl ⟨by rfl, ?yr1111⟩) (Below.refl _ _) ?rr1111
        case yr1111 => (intro w hSw; go_simp; try with_reducible rfl)
        try simp only [Act.put, List.setIfInBounds_toArray, List.set_cons_zero, List.set_cons_succ]
        refine wpAnyH_take (i := 1) (oi := { dst := some 53, op := Op.move (Operand.tmp 1), type := 22, pos := "ref.go:131", after := #[], guard := none }) (v := ?vr1112) rfl (by kernel_rfl) (by kernel_rfl) (by kernel_rfl) (fun _ _ _ h => h) (Or.inl ⟨by rfl, ?yr1112⟩) (Below.refl _ _) ?rr1112
        case yr1112 => (intro w hSw; go_simp; try with_reducible rfl)
        try simp only [Act.put, List.setIfInBounds_toArray, List.set_cons_zero, List.set_cons_succ]
        refine wpAnyH_take (i := 2) (oi := { dst := some 54, op := Op.move (Operand.tmp 1), type := 22, pos := "ref.go:131", after := #[], guard := none }) (v := ?vr1113) rfl (by kernel_rfl) (by kernel_rfl) (by kernel_rfl) (fun _ _ _ h => h) (Or.inl ⟨by rfl, ?yr1113⟩) (Below.refl _ _) ?rr1113
        case yr1113 => (intro w hSw; go_simp; try with_reducible rfl)
        try simp only [Act.put, List.setIfInBounds_toArray, List.set_cons_zero, List.set_cons_succ]
        refine wpAnyH_take (i := 3) (oi := { dst := some 55, op := Op.move (Operand.tmp 11), type := 3, pos := "ref.go:131", after := #[], guard := none }) (v := ?vr1114) rfl (by kernel_rfl) (by kernel_rfl) (by kernel_rfl) (fun _ _ _ h => h) (Or.inl ⟨by rfl, ?yr1114⟩) (Below.refl _ _) ?rr1114
        case yr1114 => (intro w hSw; go_simp; try with_reducible rfl)
        try simp only [Act.put, List.setIfInBounds_toArray, List.set_cons_zero, List.set_cons_succ]
        refine wpAnyH_take (i := 4) (oi := { dst := some 56, op := Op.indexAddr 22 (Operand.tmp 54) (Operand.tmp 55), type := 0, pos := "ref.go:131", after := #[{ on := 2, ground := Ground.data }, { on := 3, ground := Ground.data }], guard := none }) (v := ?vr1115) rfl (by kernel_rfl) (by kernel_rfl) (by kernel_rfl) (fun _ _ _ h => h) (Or.inl ⟨by rfl, ?yr1115⟩) (Below.refl _ _) ?rr1115
        case yr1115 => (intro w hSw; go_simp; try with_reducible rfl)
        try simp only [Act.put, List.setIfInBounds_toArray, List.set_cons_zero, List.set_cons_succ]
        refine wpAnyH_take (i := 5) (oi := { dst := some 57, op := Op.load 46 (Operand.tmp 56), type := 46, pos := "ref.go:131", after := #[{ on := 4, ground := Ground.data }], guard := none }) (v := ?vr1116) rfl (by kernel_rfl) (by kernel_rfl) (by kernel_rfl) (fun _ _ _ h => h) (Or.inl ⟨by rfl, ?yr1116⟩) (Below.refl _ _) ?rr1116
        case yr1116 => (intro w hSw; obtain ⟨i2, ⟨i3, i4, i5⟩, i0, i1⟩ := HQ.out w hSw; go_simp; try with_reducible rfl)
        try simp only [Act.put, List.setIfInBounds_toArray, List.set_cons_zero, List.set_cons_succ]
        refine wpAnyH_take (i := 6) (oi := { dst := some 58, op := Op.load 24 (Operand.tmp 5), type := 24, pos := "ref.go:131", after := #[], guard := none }) (v := ?vr1117) rfl (by kernel_rfl) (by kernel_rfl) (by kernel_rfl) (fun _ _ _ h => h) (Or.inl ⟨by rfl, ?yr1117⟩) (Below.refl _ _) ?rr1117
        case yr1117 => (intro w hSw; obtain ⟨i2, ⟨i3, i4, i5⟩, i0, i1⟩ := HQ.out w hSw; go_simp; try with_reducible rfl)
        try simp only [Act.put, List.setIfInBounds_toArray, List.set_cons_zero, List.set_cons_succ]
        refine wpAnyH_ready (rs := [7]) (by kernel_rfl) (by simp) ?_
        refine AllReadyH.cons (o := { dst := some 59, op := Op.call { callee := Callee.value (Operand.func 29), args := #[Operand.tmp 52, Operand.tmp 53, Operand.tmp 57, Operand.tmp 58], argTypes := #[22, 22, 46, 24] }, type := 4, pos := "ref.go:131", after := #[{ on := 0, ground := Ground.data }, { on := 1, ground := Ground.data }, { on := 5, ground := Ground.data }, { on := 6, ground := Ground.data }], guard := none }) rfl (fun KK hKK => ?_) ?_
        · go_simp
          refine (CS.out _ (Below.refl _ _)).mono ?_
          rintro e u8' ⟨rfl, bu8'⟩
          (try go_wp2_with fail)
          refine hKK.out _ _ (bu8') (fun _ => ?_)
          clear hKK KK
          try simp only [Act.put, List.setIfInBounds_toArray, List.set_cons_zero, List.set_cons_succ]
          refine wpAnyH_on (bu8') (fun u8 hu8 bu8 => ?_)
          replace HQ := on HQ bu8
          replace V1 := on V1 bu8
          replace V2 := on V2 bu8
          replace CS := on CS bu8
          replace FSB := on FSB bu8
          refine wpAnyH_take (i := 8) (oi := { dst := some 60, op := Op.move (Operand.tmp 59), type := 4, pos := "ref.go:131", after := #[{ on := 7, ground := Ground.data }, { on := 7, ground := Ground.chain }], guard := none }) (v := ?vr1119) rfl (by kernel_rfl) (by kernel_rfl) (by kernel_rfl) (fun _ _ _ h => h) (Or.inl ⟨by rfl, ?yr1119⟩) (Below.refl _ _) ?rr1119
          case yr1119 => (intro w hSw; go_simp; try with_reducible rfl)
          try simp only [Act.put, List.setIfInBounds_toArray, List.set_cons_zero, List.set_cons_succ]
          refine wpAnyH_take (i := 9) (oi := { dst := some 61, op := Op.move (Operand.tmp 14), type := 4, pos := "ref.go:131", after := #[{ on := 8, ground := Ground.guard }], guard := some (8, true) }) (v := ?vr11110) rfl (by kernel_rfl) (by kernel_rfl) (by kernel_rfl) (fun _ _ _ h => h) (Or.inl ⟨by rfl, ?yr11110⟩) (Below.refl _ _) ?rr11110
          case yr11110 => (intro w hSw; go_simp; try with_reducible rfl)
          try simp only [Act.put, List.setIfInBounds_toArray, List.set_cons_zero, List.set_cons_succ]
          refine wpAnyH_take (i := 10) (oi := { dst := some 62, op := Op.move (Operand.tmp 61), type := 4, pos := "ref.go:131", after := #[{ on := 9, ground := Ground.data }, { on := 8, ground := Ground.chain }, { on := 8, ground := Ground.guard }], guard := some (8, true) }) (v := ?vr11111) rfl (by kernel_rfl) (by kernel_rfl) (by kernel_rfl) (fun _ _ _ h => h) (Or.inl ⟨by rfl, ?yr11111⟩) (Below.refl _ _) ?rr11111
          case yr11111 => (intro w hSw; go_simp; try with_reducible rfl)
          try simp only [Act.put, List.setIfInBounds_toArray, List.set_cons_zero, List.set_cons_succ]
          refine wpAnyH_take (i := 11) (oi := { dst := some 63, op := Op.fieldAddr 46 (Operand.tmp 13) 2, type := 0, pos := "ref.go:131", after := #[{ on := 10, ground := Ground.guard }], guard := some (10, true) }) (v := ?vr11112) rfl (by kernel_rfl) (by kernel_rfl) (by kernel_rfl) (fun _ _ _ h => h) (Or.inl ⟨by rfl, ?yr11112⟩) (Below.refl _ _) ?rr11112
          case yr11112 => (intro w hSw; go_simp; try with_reducible rfl)
          try simp only [Act.put, List.setIfInBounds_toArray, List.set_cons_zero, List.set_cons_succ]
          refine wpAnyH_take (i := 12) (oi := { dst := some 64, op := Op.load 44 (Operand.tmp 63), type := 44, pos := "ref.go:131", after := #[{ on := 11, ground := Ground.data }, { on := 10, ground := Ground.guard }], guard := some (10, true) }) (v := ?vr11113) rfl (by kernel_rfl) (by kernel_rfl) (by kernel_rfl) (fun _ _ _ h => h) (Or.inl ⟨by rfl, ?yr11113⟩) (Below.refl _ _) ?rr11113
          case yr11113 => (intro w hSw; obtain ⟨i2, ⟨i3, i4, i5⟩, i0, i1⟩ := HQ.out w hSw; go_simp; try with_reducible rfl)
          try simp only [Act.put, List.setIfInBounds_toArray, List.set_cons_zero, List.set_cons_succ]
          refine wpAnyH_take (i := 13) (oi := { dst := some 65, op := Op.convert 44 9 (Operand.tmp 64), type := 9, pos := "ref.go:131", after := #[{ on := 12, ground := Ground.data }, { on := 10, ground := Ground.guard }], guard := some (10, true) }) (v := ?vr11114) rfl (by kernel_rfl) (by kernel_rfl) (by kernel_rfl) (fun _ _ _ h => h) (Or.inl ⟨by rfl, ?yr11114⟩) (Below.refl _ _) ?rr11114
          case yr11114 => (intro w hSw; have v := V1.out w hSw; go_simp; try with_reducible rfl)
          try simp only [Act.put, List.setIfInBounds_toArray, List.set_cons_zero, List.set_cons_succ]
          refine wpAnyH_take (i := 14) (oi := { dst := some 66, op := Op.move (Operand.tmp 1), type := 22, pos := "ref.go:131", after := #[{ on := 10, ground := Ground.guard }], guard := some (10, true) }) (v := ?vr11115) rfl (by kernel_rfl) (by kernel_rfl) (by kernel_rfl) (fun _ _ _ h => h) (Or.inl ⟨by rfl, ?yr11115⟩) (Below.refl _ _) ?rr11115
          case yr11115 => (intro w hSw; go_simp; try with_reducible rfl)
          try simp only [Act.put, List.setIfInBounds_toArray, List.set_cons_zero, List.set_cons_succ]
          refine wpAnyH_take (i := 15) (oi := { dst := some 67, op := Op.move (Operand.tmp 11), type := 3, pos := "ref.go:131", after := #[{ on := 10, ground := Ground.guard }], guard := some (10, true) }) (v := ?vr11116) rfl (by kernel_rfl) (by kernel_rfl) (by kernel_rfl) (fun _ _ _ h => h) (Or.inl ⟨by rfl, ?yr11116⟩) (Below.refl _ _) ?rr11116
          case yr11116 => (intro w hSw; go_simp; try with_reducible rfl)
          try simp only [Act.put, List.setIfInBounds_toArray, List.set_cons_zero, List.set_cons_succ]
          refine wpAnyH_take (i := 16) (oi := { dst := some 68, op := Op.indexAddr 22 (Operand.tmp 66) (Operand.tmp 67), type := 0, pos := "ref.go:131", after := #[{ on := 14, ground := Ground.data }, { on := 15, ground := Ground.data }, { on := 10, ground := Ground.guard }], guard := some (10, true) }) (v := ?vr11117) rfl (by kernel_rfl) (by kernel_rfl) (by kernel_rfl) (fun _ _ _ h => h) (Or.inl ⟨by rfl, ?yr11117⟩) (Below.refl _ _) ?rr11117
          case yr11117 => (intro w hSw; go_simp; try with_reducible rfl)
          try simp only [Act.put, List.setIfInBounds_toArray, List.set_cons_zero, List.set_cons_succ]
          refine wpAnyH_take (i := 17) (oi := { dst := some 69, op := Op.fieldAddr 46 (Operand.tmp 68) 2, type := 0, pos := "ref.go:131", after := #[{ on := 16, ground := Ground.data }, { on := 10, ground := Ground.guard }], guard := some (10, true) }) (v := ?vr11118) rfl (by kernel_rfl) (by kernel_rfl) (by kernel_rfl) (fun _ _ _ h => h) (Or.inl ⟨by rfl, ?yr11118⟩) (Below.refl _ _) ?rr11118
          case yr11118 => (intro w hSw; go_simp; try with_reducible rfl)
          try simp only [Act.put, List.setIfInBounds_toArray, List.set_cons_zero, List.set_cons_succ]
          refine wpAnyH_take (i := 18) (oi := { dst := some 70, op := Op.load 44 (Operand.tmp 69), type := 44, pos := "ref.go:131", after := #[{ on := 17, ground := Ground.data }, { on := 10, ground := Ground.guard }], guard := some (10, true) }) (v := ?vr11119) rfl (by kernel_rfl) (by kernel_rfl) (by kernel_rfl) (fun _ _ _ h => h) (Or.inl ⟨by rfl, ?yr11119⟩) (Below.refl _ _) ?rr11119
          case yr11119 => (intro w hSw; obtain ⟨i2, ⟨i3, i4, i5⟩, i0, i1⟩ := HQ.out w hSw; go_simp; try with_reducible rfl)
          try simp only [Act.put, List.setIfInBounds_toArray, List.set_cons_zero, List.set_cons_succ]
          refine wpAnyH_take (i := 19) (oi := { dst := some 71, op := Op.convert 44 9 (Operand.tmp 70), type := 9, pos := "ref.go:131", after := #[{ on := 18, ground := Ground.data }, { on := 10, ground := Ground.guard }], guard := some (10, true) }) (v := ?vr11120) rfl (by kernel_rfl) (by kernel_rfl) (by kernel_rfl) (fun _ _ _ h => h) (Or.inl ⟨by rfl, ?yr11120⟩) (Below.refl _ _) ?rr11120
          case yr11120 => (intro w hSw; have v := V2.out w hSw; go_simp; try with_reducible rfl)
          try simp only [Act.put, List.setIfInBounds_toArray, List.set_cons_zero, List.set_cons_succ]
          refine wpAnyH_take (i := 20) (oi := { dst := some 72, op := Op.binOp BinOp.eql 9 (Operand.tmp 65) (Operand.tmp 71) 9, type := 4, pos := "ref.go:131", after := #[{ on := 13, ground := Ground.data }, { on := 19, ground := Ground.data }, { on := 10, ground := Ground.guard }], guard := some (10, true) }) (v := ?vr11121) rfl (by kernel_rfl) (by kernel_rfl) (by kernel_rfl) (fun _ _ _ h => h) (Or.inl ⟨by rfl, ?yr11121⟩) (Below.refl _ _) ?rr11121
          case yr11121 => (intro w hSw; have v := tz; go_simp; try with_reducible rfl)
          try simp only [Act.put, List.setIfInBounds_toArray, List.set_cons_zero, List.set_cons_succ]
          refine wpAnyH_take (i := 21) (oi := { dst := some 73, op := Op.pick (Operand.tmp 62) (Operand.tmp 72) (Operand.const (Value.bool false)), type := 4, pos := "ref.go:131", after := #[{ on := 10, ground := Ground.data }, { on := 20, ground := Ground.data }, { on := 8, ground := Ground.guard }], guard := some (8, true) }) (v := ?vr11122) rfl (by kernel_rfl) (by kernel_rfl) (by kernel_rfl) (fun _ _ _ h => h) (Or.inl ⟨by rfl, ?yr11122⟩) (Below.refl _ _) ?rr11122
          case yr11122 => (intro w hSw; go_simp; try with_reducible rfl)
          try simp only [Act.put, List.setIfInBounds_toArray, List.set_cons_zero, List.set_cons_succ]
          refine wpAnyH_take (i := 22) (oi := { dst := some 74, op := Op.unOp UnOp.not 4 (Operand.tmp 73), type := 4, pos := "ref.go:131", after := #[{ on := 21, ground := Ground.data }, { on := 8, ground := Ground.guard }], guard := some (8, true) }) (v := ?vr11123) rfl (by kernel_rfl) (by kernel_rfl) (by kernel_rfl) (fun _ _ _ h => h) (Or.inl ⟨by rfl, ?yr11123⟩) (Below.refl _ _) ?rr11123
          case yr11123 => (intro w hSw; go_simp; try with_reducible rfl)
          try simp only [Act.put, List.setIfInBounds_toArray, List.set_cons_zero, List.set_cons_succ]
          refine wpAnyH_take (i := 23) (oi := { dst := some 75, op := Op.pick (Operand.tmp 60) (Operand.tmp 74) (Operand.const (Value.bool false)), type := 4, pos := "ref.go:131", after := #[{ on := 8, ground := Ground.data }, { on := 22, ground := Ground.data }], guard := none }) (v := ?vr11124) rfl (by kernel_rfl) (by kernel_rfl) (by kernel_rfl) (fun _ _ _ h => h) (Or.inl ⟨by rfl, ?yr11124⟩) (Below.refl _ _) ?rr11124
          case yr11124 => (intro w hSw; go_simp; try with_reducible rfl)
          try simp only [Act.put, List.setIfInBounds_toArray, List.set_cons_zero, List.set_cons_succ]
          refine wpAnyH_done (by kernel_rfl) ?_ _
          obtain ⟨s9, b9⟩ := FSB.out _ (Below.refl _ _)
          have S9 : Hid (RS u8 w3.heap.size (.slice oa nv oc) L) := s9
          have B9 : Hid (Below w3.heap.size w3 u8) := b9
          obtain ⟨-, ⟨c1, c2, c3⟩, -, -⟩ := HQ.out _ (Below.refl _ _)
          clear s9 b9 CS V1 V2 tz HQ FSB
          have NX2 : Hid (K1 (j + 1) = L) := NX.out
          clear NX
          go_wp2
          go_roundw
          case rel => exact ⟨j + 1, by omega, by go_num, by rw [NX2.out]; exact S9.out, B9.out⟩
          case measure => simp [intOf] <;> omega
        exact AllReadyH.nil
      | false =>
        refine wp_region_held_drew (S := From W7) (by kernel_rfl) ((Below.refl _ _).drew) (fun _ => ?_)
        refine wpAnyH_on ((Below.refl _ _).drew) (fun u0 hu0 bu0 => ?_)
        replace HQ := on HQ bu0
        replace V1 := on V1 bu0
        replace V2 := on V2 bu0
        replace CS := on CS bu0
        replace FSB := on FSB bu0
        refine wpAnyH_take (i := 0) (oi := { dst := some 52, op := Op.move (Operand.tmp 0), type := 22, pos := "ref.go:131", after := #[], guard := none }) (v := ?vr1101) rfl (by kernel_rfl) (by kernel_rfl) (by kernel_rfl) (fun _ _ _ h => h) (Or.inl ⟨by rfl, ?yr1101⟩) (Below.refl _ _) ?rr1101
        case yr1101 => (intro w hSw; go_simp; try with_reducible rfl)
        try simp only [Act.put, List.setIfInBounds_toArray, List.set_cons_zero, List.set_cons_succ]
        refine wpAnyH_take (i := 1) (oi := { dst := some 53, op := Op.move (Operand.tmp 1), type := 22, pos := "ref.go:131", after := #[], guard := none }) (v := ?vr1102) rfl (by kernel_rfl) (by kernel_rfl) (by kernel_rfl) (fun _ _ _ h => h) (Or.inl ⟨by rfl, ?yr1102⟩) (Below.refl _ _) ?rr1102
        case yr1102 => (intro w hSw; go_simp; try with_reducible rfl)
        try simp only [Act.put, List.setIfInBounds_toArray, List.set_cons_zero, List.set_cons_succ]
        refine wpAnyH_take (i := 2) (oi := { dst := some 54, op := Op.move (Operand.tmp 1), type := 22, pos := "ref.go:131", after := #[], guard := none }) (v := ?vr1103) rfl (by kernel_rfl) (by kernel_rfl) (by kernel_rfl) (fun _ _ _ h => h) (Or.inl ⟨by rfl, ?yr1103⟩) (Below.refl _ _) ?rr1103
        case yr1103 => (intro w hSw; go_simp; try with_reducible rfl)
        try simp only [Act.put, List.setIfInBounds_toArray, List.set_cons_zero, List.set_cons_succ]
        refine wpAnyH_take (i := 3) (oi := { dst := some 55, op := Op.move (Operand.tmp 11), type := 3, pos := "ref.go:131", after := #[], guard := none }) (v := ?vr1104) rfl (by kernel_rfl) (by kernel_rfl) (by kernel_rfl) (fun _ _ _ h => h) (Or.inl ⟨by rfl, ?yr1104⟩) (Below.refl _ _) ?rr1104
        case yr1104 => (intro w hSw; go_simp; try with_reducible rfl)
        try simp only [Act.put, List.setIfInBounds_toArray, List.set_cons_zero, List.set_cons_succ]
        refine wpAnyH_take (i := 4) (oi := { dst := some 56, op := Op.indexAddr 22 (Operand.tmp 54) (Operand.tmp 55), type := 0, pos := "ref.go:131", after := #[{ on := 2, ground := Ground.data }, { on := 3, ground := Ground.data }], guard := none }) (v := ?vr1105) rfl (by kernel_rfl) (by kernel_rfl) (by kernel_rfl) (fun _ _ _ h => h) (Or.inl ⟨by rfl, ?yr1105⟩) (Below.refl _ _) ?rr1105
        case yr1105 => (intro w hSw; go_simp; try with_reducible rfl)
        try simp only [Act.put, List.setIfInBounds_toArray, List.set_cons_zero, List.set_cons_succ]
        refine wpAnyH_take (i := 5) (oi := { dst := some 57, op := Op.load 46 (Operand.tmp 56), type := 46, pos := "ref.go:131", after := #[{ on := 4, ground := Ground.data }], guard := none }) (v := ?vr1106) rfl (by kernel_rfl) (by kernel_rfl) (by kernel_rfl) (fun _ _ _ h => h) (Or.inl ⟨by rfl, ?yr1106⟩) (Below.refl _ _) ?rr1106
        case yr1106 => (intro w hSw; obtain ⟨i2, ⟨i3, i4, i5⟩, i0, i1⟩ := HQ.out w hSw; go_simp; try with_reducible rfl)
        try simp only [Act.put, List.setIfInBounds_toArray, List.set_cons_zero, List.set_cons_succ]
        refine wpAnyH_take (i := 6) (oi := { dst := some 58, op := Op.load 24 (Operand.tmp 5), type := 24, pos := "ref.go:131", after := #[], guard := none }) (v := ?vr1107) rfl (by kernel_rfl) (by kernel_rfl) (by kernel_rfl) (fun _ _ _ h => h) (Or.inl ⟨by rfl, ?yr1107⟩) (Below.refl _ _) ?rr1107
        case yr1107 => (intro w hSw; obtain ⟨i2, ⟨i3, i4, i5⟩, i0, i1⟩ := HQ.out w hSw; go_simp; try with_reducible rfl)
        try simp only [Act.put, List.setIfInBounds_toArray, List.set_cons_zero, List.set_cons_succ]
        refine wpAnyH_ready (rs := [7]) (by kernel_rfl) (by simp) ?_
        refine AllReadyH.cons (o := { dst := some 59, op := Op.call { callee := Callee.value (Operand.func 29), args := #[Operand.tmp 52, Operand.tmp 53, Operand.tmp 57, Operand.tmp 58], argTypes := #[22, 22, 46, 24] }, type := 4, pos := "ref.go:131", after := #[{ on := 0, ground := Ground.data }, { on := 1, ground := Ground.data }, { on := 5, ground := Ground.data }, { on := 6, ground := Ground.data }], guard := none }) rfl (fun KK hKK => ?_) ?_
        · go_simp
          refine (CS.out _ (Below.refl _ _)).mono ?_
          rintro e u8' ⟨rfl, bu8'⟩
          (try go_wp2_with fail)
          refine hKK.out _ _ (bu8') (fun _ => ?_)
          clear hKK KK
          try simp only [Act.put, List.setIfInBounds_toArray, List.set_cons_zero, List.set_cons_succ]
          refine wpAnyH_on (bu8') (fun u8 hu8 bu8 => ?_)
          replace HQ := on HQ bu8
          replace V1 := on V1 bu8
          replace V2 := on V2 bu8
          replace CS := on CS bu8
          replace FSB := on FSB bu8
          refine wpAnyH_take (i := 8) (oi := { dst := some 60, op := Op.move (Operand.tmp 59), type := 4, pos := "ref.go:131", after := #[{ on := 7, ground := Ground.data }, { on := 7, ground := Ground.chain }], guard := none }) (v := ?vr1109) rfl (by kernel_rfl) (by kernel_rfl) (by kernel_rfl) (fun _ _ _ h => h) (Or.inl ⟨by rfl, ?yr1109⟩) (Below.refl _ _) ?rr1109
          case yr1109 => (intro w hSw; go_simp; try with_reducible rfl)
          try simp only [Act.put, List.setIfInBounds_toArray, List.set_cons_zero, List.set_cons_succ]
          refine wpAnyH_take (i := 9) (oi := { dst := some 61, op := Op.move (Operand.tmp 14), type := 4, pos := "ref.go:131", after := #[{ on := 8, ground := Ground.guard }], guard := some (8, true) }) (v := ?vr11010) rfl (by kernel_rfl) (by kernel_rfl) (by kernel_rfl) (fun _ _ _ h => h) (Or.inl ⟨by rfl, ?yr11010⟩) (Below.refl _ _) ?rr11010
          case yr11010 => (intro w hSw; go_simp; try with_reducible rfl)
          try simp only [Act.put, List.setIfInBounds_toArray, List.set_cons_zero, List.set_cons_succ]
          refine wpAnyH_take (i := 10) (oi := { dst := some 62, op := Op.move (Operand.tmp 61), type := 4, pos := "ref.go:131", after := #[{ on := 9, ground := Ground.data }, { on := 8, ground := Ground.chain }, { on := 8, ground := Ground.guard }], guard := some (8, true) }) (v := ?vr11011) rfl (by kernel_rfl) (by kernel_rfl) (by kernel_rfl) (fun _ _ _ h => h) (Or.inl ⟨by rfl, ?yr11011⟩) (Below.refl _ _) ?rr11011
          case yr11011 => (intro w hSw; go_simp; try with_reducible rfl)
          try simp only [Act.put, List.setIfInBounds_toArray, List.set_cons_zero, List.set_cons_succ]
          refine wpAnyH_take (i := 11) (oi := { dst := some 63, op := Op.fieldAddr 46 (Operand.tmp 13) 2, type := 0, pos := "ref.go:131", after := #[{ on := 10, ground := Ground.guard }], guard := some (10, true) }) (v := ?vr11012) rfl (by kernel_rfl) (by kernel_rfl) (by kernel_rfl) (fun _ _ _ h => h) (Or.inl ⟨by rfl, ?yr11012⟩) (Below.refl _ _) ?rr11012
          case yr11012 => (intro w hSw; go_simp; try with_reducible rfl)
          try simp only [Act.put, List.setIfInBounds_toArray, List.set_cons_zero, List.set_cons_succ]
          refine wpAnyH_take (i := 12) (oi := { dst := some 64, op := Op.load 44 (Operand.tmp 63), type := 44, pos := "ref.go:131", after := #[{ on := 11, ground := Ground.data }, { on := 10, ground := Ground.guard }], guard := some (10, true) }) (v := ?vr11013) rfl (by kernel_rfl) (by kernel_rfl) (by kernel_rfl) (fun _ _ _ h => h) (Or.inl ⟨by rfl, ?yr11013⟩) (Below.refl _ _) ?rr11013
          case yr11013 => (intro w hSw; obtain ⟨i2, ⟨i3, i4, i5⟩, i0, i1⟩ := HQ.out w hSw; go_simp; try with_reducible rfl)
          try simp only [Act.put, List.setIfInBounds_toArray, List.set_cons_zero, List.set_cons_succ]
          refine wpAnyH_take (i := 13) (oi := { dst := some 65, op := Op.convert 44 9 (Operand.tmp 64), type := 9, pos := "ref.go:131", after := #[{ on := 12, ground := Ground.data }, { on := 10, ground := Ground.guard }], guard := some (10, true) }) (v := ?vr11014) rfl (by kernel_rfl) (by kernel_rfl) (by kernel_rfl) (fun _ _ _ h => h) (Or.inl ⟨by rfl, ?yr11014⟩) (Below.refl _ _) ?rr11014
          case yr11014 => (intro w hSw; have v := V1.out w hSw; go_simp; try with_reducible rfl)
          try simp only [Act.put, List.setIfInBounds_toArray, List.set_cons_zero, List.set_cons_succ]
          refine wpAnyH_take (i := 14) (oi := { dst := some 66, op := Op.move (Operand.tmp 1), type := 22, pos := "ref.go:131", after := #[{ on := 10, ground := Ground.guard }], guard := some (10, true) }) (v := ?vr11015) rfl (by kernel_rfl) (by kernel_rfl) (by kernel_rfl) (fun _ _ _ h => h) (Or.inl ⟨by rfl, ?yr11015⟩) (Below.refl _ _) ?rr11015
          case yr11015 => (intro w hSw; go_simp; try with_reducible rfl)
          try simp only [Act.put, List.setIfInBounds_toArray, List.set_cons_zero, List.set_cons_succ]
          refine wpAnyH_take (i := 15) (oi := { dst := some 67, op := Op.move (Operand.tmp 11), type := 3, pos := "ref.go:131", after := #[{ on := 10, ground := Ground.guard }], guard := some (10, true) }) (v := ?vr11016) rfl (by kernel_rfl) (by kernel_rfl) (by kernel_rfl) (fun _ _ _ h => h) (Or.inl ⟨by rfl, ?yr11016⟩) (Below.refl _ _) ?rr11016
          case yr11016 => (intro w hSw; go_simp; try with_reducible rfl)
          try simp only [Act.put, List.setIfInBounds_toArray, List.set_cons_zero, List.set_cons_succ]
          refine wpAnyH_take (i := 16) (oi := { dst := some 68, op := Op.indexAddr 22 (Operand.tmp 66) (Operand.tmp 67), type := 0, pos := "ref.go:131", after := #[{ on := 14, ground := Ground.data }, { on := 15, ground := Ground.data }, { on := 10, ground := Ground.guard }], guard := some (10, true) }) (v := ?vr11017) rfl (by kernel_rfl) (by kernel_rfl) (by kernel_rfl) (fun _ _ _ h => h) (Or.inl ⟨by rfl, ?yr11017⟩) (Below.refl _ _) ?rr11017
          case yr11017 => (intro w hSw; go_simp; try with_reducible rfl)
          try simp only [Act.put, List.setIfInBounds_toArray, List.set_cons_zero, List.set_cons_succ]
          refine wpAnyH_take (i := 17) (oi := { dst := some 69, op := Op.fieldAddr 46 (Operand.tmp 68) 2, type := 0, pos := "ref.go:131", after := #[{ on := 16, ground := Ground.data }, { on := 10, ground := Ground.guard }], guard := some (10, true) }) (v := ?vr11018) rfl (by kernel_rfl) (by kernel_rfl) (by kernel_rfl) (fun _ _ _ h => h) (Or.inl ⟨by rfl, ?yr11018⟩) (Below.refl _ _) ?rr11018
          case yr11018 => (intro w hSw; go_simp; try with_reducible rfl)
          try simp only [Act.put, List.setIfInBounds_toArray, List.set_cons_zero, List.set_cons_succ]
          refine wpAnyH_take (i := 18) (oi := { dst := some 70, op := Op.load 44 (Operand.tmp 69), type := 44, pos := "ref.go:131", after := #[{ on := 17, ground := Ground.data }, { on := 10, ground := Ground.guard }], guard := some (10, true) }) (v := ?vr11019) rfl (by kernel_rfl) (by kernel_rfl) (by kernel_rfl) (fun _ _ _ h => h) (Or.inl ⟨by rfl, ?yr11019⟩) (Below.refl _ _) ?rr11019
          case yr11019 => (intro w hSw; obtain ⟨i2, ⟨i3, i4, i5⟩, i0, i1⟩ := HQ.out w hSw; go_simp; try with_reducible rfl)
          try simp only [Act.put, List.setIfInBounds_toArray, List.set_cons_zero, List.set_cons_succ]
          refine wpAnyH_take (i := 19) (oi := { dst := some 71, op := Op.convert 44 9 (Operand.tmp 70), type := 9, pos := "ref.go:131", after := #[{ on := 18, ground := Ground.data }, { on := 10, ground := Ground.guard }], guard := some (10, true) }) (v := ?vr11020) rfl (by kernel_rfl) (by kernel_rfl) (by kernel_rfl) (fun _ _ _ h => h) (Or.inl ⟨by rfl, ?yr11020⟩) (Below.refl _ _) ?rr11020
          case yr11020 => (intro w hSw; have v := V2.out w hSw; go_simp; try with_reducible rfl)
          try simp only [Act.put, List.setIfInBounds_toArray, List.set_cons_zero, List.set_cons_succ]
          refine wpAnyH_take (i := 20) (oi := { dst := some 72, op := Op.binOp BinOp.eql 9 (Operand.tmp 65) (Operand.tmp 71) 9, type := 4, pos := "ref.go:131", after := #[{ on := 13, ground := Ground.data }, { on := 19, ground := Ground.data }, { on := 10, ground := Ground.guard }], guard := some (10, true) }) (v := ?vr11021) rfl (by kernel_rfl) (by kernel_rfl) (by kernel_rfl) (fun _ _ _ h => h) (Or.inl ⟨by rfl, ?yr11021⟩) (Below.refl _ _) ?rr11021
          case yr11021 => (intro w hSw; have v := tz; go_simp; try with_reducible rfl)
          try simp only [Act.put, List.setIfInBounds_toArray, List.set_cons_zero, List.set_cons_succ]
          refine wpAnyH_take (i := 21) (oi := { dst := some 73, op := Op.pick (Operand.tmp 62) (Operand.tmp 72) (Operand.const (Value.bool false)), type := 4, pos := "ref.go:131", after := #[{ on := 10, ground := Ground.data }, { on := 20, ground := Ground.data }, { on := 8, ground := Ground.guard }], guard := some (8, true) }) (v := ?vr11022) rfl (by kernel_rfl) (by kernel_rfl) (by kernel_rfl) (fun _ _ _ h => h) (Or.inl ⟨by rfl, ?yr11022⟩) (Below.refl _ _) ?rr11022
          case yr11022 => (intro w hSw; go_simp; try with_reducible rfl)
          try simp only [Act.put, List.setIfInBounds_toArray, List.set_cons_zero, List.set_cons_succ]
          refine wpAnyH_take (i := 22) (oi := { dst := some 74, op := Op.unOp UnOp.not 4 (Operand.tmp 73), type := 4, pos := "ref.go:131", after := #[{ on := 21, ground := Ground.data }, { on := 8, ground := Ground.guard }], guard := some (8, true) }) (v := ?vr11023) rfl (by kernel_rfl) (by kernel_rfl) (by kernel_rfl) (fun _ _ _ h => h) (Or.inl ⟨by rfl, ?yr11023⟩) (Below.refl _ _) ?rr11023
          case yr11023 => (intro w hSw; go_simp; try with_reducible rfl)
          try simp only [Act.put, List.setIfInBounds_toArray, List.set_cons_zero, List.set_cons_succ]
          refine wpAnyH_take (i := 23) (oi := { dst := some 75, op := Op.pick (Operand.tmp 60) (Operand.tmp 74) (Operand.const (Value.bool false)), type := 4, pos := "ref.go:131", after := #[{ on := 8, ground := Ground.data }, { on := 22, ground := Ground.data }], guard := none }) (v := ?vr11024) rfl (by kernel_rfl) (by kernel_rfl) (by kernel_rfl) (fun _ _ _ h => h) (Or.inl ⟨by rfl, ?yr11024⟩) (Below.refl _ _) ?rr11024
          case yr11024 => (intro w hSw; go_simp; try with_reducible rfl)
          try simp only [Act.put, List.setIfInBounds_toArray, List.set_cons_zero, List.set_cons_succ]
          refine wpAnyH_done (by kernel_rfl) ?_ _
          obtain ⟨s9, b9⟩ := FSB.out _ (Below.refl _ _)
          have S9 : Hid (RS u8 w3.heap.size (.slice oa nv oc) L) := s9
          have B9 : Hid (Below w3.heap.size w3 u8) := b9
          obtain ⟨-, ⟨c1, c2, c3⟩, -, -⟩ := HQ.out _ (Below.refl _ _)
          clear s9 b9 CS V1 V2 tz HQ FSB
          have NX2 : Hid (K1 (j + 1) = L ++ [⟨0, xp, kq⟩]) := NX.out
          clear NX
          go_wp2_with (at_builtin; refine wpList_append_rs rfl _ _ rfl _ L rfl S9.out ⟨0, xp, kq⟩ rfl (by have := LL.out; omega) B9.out (Hid.out ?_))
          unfold Hid
          intro v10 w10 s10 b10
          have SY : Hid (RS w10 w3.heap.size v10 (K1 (j + 1))) := by unfold Hid; rw [NX2.out]; exact s10
          have BY : Hid (Below w3.heap.size w3 w10) := b10
          clear s10 b10
          go_wp2
          go_roundw
          case rel => exact ⟨j + 1, by omega, by go_num, SY.out, BY.out⟩
          case measure => simp [intOf] <;> omega
        exact AllReadyH.nil
    · obtain rfl : j = n2 := by omega
      have HO2 : Hid (RS wr w3.heap.size (.slice oa nv oc) (K2 j)) := by unfold Hid; rw [Z2.out]; exact HO.out
      have HB0 : Hid (Below w3.heap.size w3 wr) := HB.out
      clear HO HB N1 Z1 Z2 L1 HKP HKE HKW
      generalize wr = w4 at *
      have qn : IntKind.i64.wrap ((j : Int) - 1) = (j : Int) - 1 := by simp [IntKind.wrap, IntKind.bits, IntKind.signed]; omega
      go_wp2_with fail
      go_loopw [10, 15] (fun o i wr => ∃ k : Nat, k ≤ j ∧ i = .int .i64 ((k : Int) - 1) ∧ RS wr w3.heap.size o (K2 k) ∧ Below w3.heap.size w3 wr) (fun _ i _ => (intOf i + 1).toNat)
      case atStart => exact ⟨j, Nat.le_refl _, rfl, HO2.out, HB0.out⟩
      case round =>
        obtain ⟨k, hjk, rfl, sr, bel⟩ := hrel
        have HB : Hid (Below w3.heap.size w3 wr) := bel
        have HO : Hid (RS wr w3.heap.size u10 (K2 k)) := sr
        clear sr bel HB0 HO2
        obtain ⟨oa, oc, rfl⟩ := own_shape HO.out
        obtain ⟨nv, hnv⟩ : ∃ nv, nv = (K2 k).length := ⟨_, rfl⟩
        rw [← hnv] at HO ⊢
        clear hnv
        by_cases hlt : 0 < k
        · obtain ⟨m, rfl⟩ : ∃ m, k = m + 1 := ⟨k - 1, by omega⟩
          rw [show (((m + 1 : Nat) : Int) - 1) = (m : Int) by omega]
          have hm : m < j := by omega
          have lt2 : (m : Int) < (j : Int) := by omega
          have g0 : (0 : Int) ≤ (m : Int) := by omega
          obtain ⟨b, off, za, zn, zc, rfl, c1, c2, c3, hun, hsl⟩ := (HD.out wr (HBW.out wr HB.out)).at m (by rw [← HN2.out]; exact hm)
          have q1 : IntKind.i64.wrap ((m : Int) - 1) = (m : Int) - 1 := by simp [IntKind.wrap, IntKind.bits, IntKind.signed]; omega
          have NX : Hid (K2 m = if (!(gotB Wt (atE d m).k && decide ((got Wt (atE d m).k).d = (atE d m).d))) = true then K2 (m + 1) ++ [⟨1, (atE d m).p, ⟨#[]⟩⟩] else K2 (m + 1)) := N2.out m hm
          have LL : Hid ((K2 (m + 1)).length ≤ 600) := L2.out (m + 1)
          have SX : Hid (∀ W, Below wr.heap.size wr W → Sl W (.slice za zn zc) (atE d m).z) := fun W hb => hsl.kept hb
          have HC : Hid (∀ W, Below wr.heap.size wr W → W.cell? ⟨b, off + m * 3, none⟩ = some (.string (atE d m).p) ∧ W.cell? ⟨b, off + m * 3 + 1, none⟩ = some (.bool (atE d m).d) ∧ W.cell? ⟨b, off + m * 3 + 2, none⟩ = some (.slice za zn zc)) := fun W hb => ⟨(hb.cell (World.block_lt_of_cell? _ _ c1)).trans c1, (hb.cell (World.block_lt_of_cell? _ _ c2)).trans c2, (hb.cell (World.block_lt_of_cell? _ _ c3)).trans c3⟩
          clear hun hsl
          have cg : Calls Tryz.prog 41 #[.slice aw nw cw, .string (atE d m).p] wr fun e w' => ∃ u, e = .returned (.tuple #[u, .bool (gotB Wt (atE d m).k)]) ∧ EV w' u (got Wt (atE d m).k) ∧ Below wr.heap.size wr w' := HGW.out wr (atE d m).p HB.out
          generalize gotB Wt (atE d m).k = gb at *
          generalize got Wt (atE d m).k = y at *
          generalize (atE d m).z = xz at *
          generalize (atE d m).p = xp at *
          generalize (atE d m).d = xd at *
          generalize K2 (m + 1) = L at *
          clear SX
          go_wp2_with fail
          refine cg.mono ?_
          rintro e w5 ⟨u5, rfl, ⟨ya, yn, yc, rfl, sy⟩, b5⟩
          obtain ⟨W7, hW7⟩ : ∃ W7, W7 = w5.alloc (.cells #[.string y.p, .bool y.d, .slice ya yn yc] 46) := ⟨_, rfl⟩
          have b7 : Below w5.heap.size w5 W7 := by rw [hW7]; exact (Below.refl _ _).alloc (Nat.le_refl _) _
          have d7 : Below wr.heap.size wr W7 := b5.trans (b7.mono b5.size)
          have k7 : W7.heap[w5.heap.size]? = some (.cells #[.string y.p, .bool y.d, .slice ya yn yc] 46 (0, 0)) := by rw [hW7]; exact heap_alloc_new _ _
          obtain ⟨y0, y1, y2, -, -, -⟩ := trio k7
          have S7 : Hid (RS W7 w3.heap.size (.slice oa nv oc) L) := HO.out.below d7
          have B7 : Hid (Below w3.heap.size w3 W7) := HB.out.trans (d7.mono HB.out.size)
          clear c1 c2 c3
          obtain ⟨c1, c2, c3⟩ := HC.out W7 d7
          clear cg b5 b7 d7 k7 sy HC HO HB
          generalize y.p = yp at *
          generalize y.d = yd at *
          go_wp2_with fail
          rw [← hW7]
          clear hW7
          cases gb with
          | false =>
            go_quiet (fail)
            have bq : Below W7.heap.size W7 (W7.drewN nq) := ⟨rfl, rfl, rfl, Nat.le_refl _, fun _ _ => rfl⟩
            have S9 : Hid (RS (W7.drewN nq) w3.heap.size (.slice oa nv oc) L) := S7.out.below bq
            have B9 : Hid (Below w3.heap.size w3 (W7.drewN nq)) := B7.out.trans (bq.mono B7.out.size)
            have k9 : (W7.drewN nq).cell? ⟨b, off + m * 3, none⟩ = some (.string xp) := c1
            generalize W7.drewN nq = w9 at *
            clear bq S7 B7 c1 c2 c3 y0 y1 y2
            have NX2 : Hid (K2 m = L ++ [⟨1, xp, ⟨#[]⟩⟩]) := NX.out
            clear NX
            go_wp2_with (at_builtin; refine wpList_append_rs rfl _ _ rfl _ L rfl S9.out ⟨1, xp, ⟨#[]⟩⟩ rfl (by have := LL.out; omega) B9.out (Hid.out ?_))
            unfold Hid
            intro v10 w10 s10 b10
            have SY : Hid (RS w10 w3.heap.size v10 (K2 m)) := by unfold Hid; rw [NX2.out]; exact s10
            have BY : Hid (Below w3.heap.size w3 w10) := b10
            clear s10 b10
            go_wp2
            go_roundw
            case rel => exact ⟨m, by omega, by go_num, SY.out, BY.out⟩
            case measure => simp [intOf] <;> omega
          | true =>
          cases yd with
          | true =>
            cases xd with
            | true =>
              go_quiet (fail)
              have bq : Below W7.heap.size W7 (W7.drewN nq) := ⟨rfl, rfl, rfl, Nat.le_refl _, fun _ _ => rfl⟩
              have S9 : Hid (RS (W7.drewN nq) w3.heap.size (.slice oa nv oc) L) := S7.out.below bq
              have B9 : Hid (Below w3.heap.size w3 (W7.drewN nq)) := B7.out.trans (bq.mono B7.out.size)
              have k9 : (W7.drewN nq).cell? ⟨b, off + m * 3, none⟩ = some (.string xp) := c1
              generalize W7.drewN nq = w9 at *
              clear bq S7 B7 c1 c2 c3 y0 y1 y2
              have NX2 : Hid (K2 m = L) := NX.out
              clear NX
              go_wp2
              go_roundw
              case rel => exact ⟨m, by omega, by go_num, by rw [NX2.out]; exact S9.out, B9.out⟩
              case measure => simp [intOf] <;> omega
            | false =>
              go_quiet (fail)
              have bq : Below W7.heap.size W7 (W7.drewN nq) := ⟨rfl, rfl, rfl, Nat.le_refl _, fun _ _ => rfl⟩
              have S9 : Hid (RS (W7.drewN nq) w3.heap.size (.slice oa nv oc) L) := S7.out.below bq
              have B9 : Hid (Below w3.heap.size w3 (W7.drewN nq)) := B7.out.trans (bq.mono B7.out.size)
              have k9 : (W7.drewN nq).cell? ⟨b, off + m * 3, none⟩ = some (.string xp) := c1
              generalize W7.drewN nq = w9 at *
              clear bq S7 B7 c1 c2 c3 y0 y1 y2
              have NX2 : Hid (K2 m = L ++ [⟨1, xp, ⟨#[]⟩⟩]) := NX.out
              clear NX
              go_wp2_with (at_builtin; refine wpList_append_rs rfl _ _ rfl _ L rfl S9.out ⟨1, xp, ⟨#[]⟩⟩ rfl (by have := LL.out; omega) B9.out (Hid.out ?_))
              unfold Hid
              intro v10 w10 s10 b10
              have SY : Hid (RS w10 w3.heap.size v10 (K2 m)) := by unfold Hid; rw [NX2.out]; exact s10
              have BY : Hid (Below w3.heap.size w3 w10) := b10
              clear s10 b10
              go_wp2
              go_roundw
              case rel => exact ⟨m, by omega, by go_num, SY.out, BY.out⟩
              case measure => simp [intOf] <;> omega
          | false =>
            cases xd with
            | true =>
              go_quiet (fail)
              have bq : Below W7.heap.size W7 (W7.drewN nq) := ⟨rfl, rfl, rfl, Nat.le_refl _, fun _ _ => rfl⟩
              have S9 : Hid (RS (W7.drewN nq) w3.heap.size (.slice oa nv oc) L) := S7.out.below bq
              have B9 : Hid (Below w3.heap.size w3 (W7.drewN nq)) := B7.out.trans (bq.mono B7.out.size)
              have k9 : (W7.drewN nq).cell? ⟨b, off + m * 3, none⟩ = some (.string xp) := c1
              generalize W7.drewN nq = w9 at *
              clear bq S7 B7 c1 c2 c3 y0 y1 y2
              have NX2 : Hid (K2 m = L ++ [⟨1, xp, ⟨#[]⟩⟩]) := NX.out
              clear NX
              go_wp2_with (at_builtin; refine wpList_append_rs rfl _ _ rfl _ L rfl S9.out ⟨1, xp, ⟨#[]⟩⟩ rfl (by have := LL.out; omega) B9.out (Hid.out ?_))
              unfold Hid
              intro v10 w10 s10 b10
              have SY : Hid (RS w10 w3.heap.size v10 (K2 m)) := by unfold Hid; rw [NX2.out]; exact s10
              have BY : Hid (Below w3.heap.size w3 w10) := b10
              clear s10 b10
              go_wp2
              go_roundw
              case rel => exact ⟨m, by omega, by go_num, SY.out, BY.out⟩
              case measure => simp [intOf] <;> omega
            | false =>
              go_quiet (fail)
              have bq : Below W7.heap.size W7 (W7.drewN nq) := ⟨rfl, rfl, rfl, Nat.le_refl _, fun _ _ => rfl⟩
              have S9 : Hid (RS (W7.drewN nq) w3.heap.size (.slice oa nv oc) L) := S7.out.below bq
              have B9 : Hid (Below w3.heap.size w3 (W7.drewN nq)) := B7.out.trans (bq.mono B7.out.size)
              have k9 : (W7.drewN nq).cell? ⟨b, off + m * 3, none⟩ = some (.string xp) := c1
              generalize W7.drewN nq = w9 at *
              clear bq S7 B7 c1 c2 c3 y0 y1 y2
              have NX2 : Hid (K2 m = L) := NX.out
              clear NX
              go_wp2
              go_roundw
              case rel => exact ⟨m, by omega, by go_num, by rw [NX2.out]; exact S9.out, B9.out⟩
              case measure => simp [intOf] <;> omega
        · obtain rfl : k = 0 := by omega
          rw [show (((0 : Nat) : Int) - 1) = (-1 : Int) from rfl]
          have HO3 : Hid (RS wr w3.heap.size (.slice oa nv oc) (K3 0)) := by unfold Hid; rw [Z3.out]; exact HO.out
          have HB0 : Hid (Below w3.heap.size w3 wr) := HB.out
          clear HO HB N2 Z3 L2 HGW qn
          rename Hid (RS wr w3.heap.size (.slice oa nv oc) (K3 0)) => HO2
          generalize wr = w4' at *
          go_wp2_with fail
          go_loopw [10, 18] (fun o i wr => ∃ t : Nat, t ≤ nw ∧ i = .int .i64 t ∧ RS wr w3.heap.size o (K3 t) ∧ Below w3.heap.size w3 wr) (fun _ i _ => nw - (intOf i).toNat)
          case atStart => exact ⟨0, by omega, rfl, HO2.out, HB0.out⟩
          case round =>
            obtain ⟨t, hjt, rfl, sr, bel⟩ := hrel
            have HB : Hid (Below w3.heap.size w3 wr) := bel
            have HO : Hid (RS wr w3.heap.size u10 (K3 t)) := sr
            clear sr bel HB0 HO2
            obtain ⟨oa, oc, rfl⟩ := own_shape HO.out
            obtain ⟨nv, hnv⟩ : ∃ nv, nv = (K3 t).length := ⟨_, rfl⟩
            rw [← hnv] at HO ⊢
            clear hnv
            by_cases hlt : t < nw
            · have lt2 : (t : Int) < (nw : Int) := by omega
              have g0 : (0 : Int) ≤ (t : Int) := by omega
              obtain ⟨b, off, za, zn, zc, rfl, c1, c2, c3, hun, hsl⟩ := (EW.out.kept HB.out).at t (by rw [← HNW.out]; exact hlt)
              have q1 : IntKind.i64.wrap ((t : Int) + 1) = ((t + 1 : Nat) : Int) := by simp [IntKind.wrap, IntKind.bits, IntKind.signed]; omega
              have NX : Hid (K3 (t + 1) = if ((atE Wt t).d && !(gotB d (atE Wt t).k && decide ((got d (atE Wt t).k).d = (atE Wt t).d))) = true then K3 t ++ [⟨2, (atE Wt t).p, ⟨#[]⟩⟩] else K3 t) := N3.out t hlt
              have LL : Hid ((K3 t).length ≤ 700) := L3.out t
              have SX : Hid (∀ W, Below wr.heap.size wr W → Sl W (.slice za zn zc) (atE Wt t).z) := fun W hb => hsl.kept hb
              have HC : Hid (∀ W, Below wr.heap.size wr W → W.cell? ⟨b, off + t * 3, none⟩ = some (.string (atE Wt t).p) ∧ W.cell? ⟨b, off + t * 3 + 1, none⟩ = some (.bool (atE Wt t).d) ∧ W.cell? ⟨b, off + t * 3 + 2, none⟩ = some (.slice za zn zc)) := fun W hb => ⟨(hb.cell (World.block_lt_of_cell? _ _ c1)).trans c1, (hb.cell (World.block_lt_of_cell? _ _ c2)).trans c2, (hb.cell (World.block_lt_of_cell? _ _ c3)).trans c3⟩
              clear hun hsl
              have cg : Calls Tryz.prog 41 #[.slice a2 j kd2, .string (atE Wt t).p] wr fun e w' => ∃ u, e = .returned (.tuple #[u, .bool (gotB d (atE Wt t).k)]) ∧ EV w' u (got d (atE Wt t).k) ∧ Below wr.heap.size wr w' := HGD.out wr (atE Wt t).p (HBW.out wr HB.out)
              generalize gotB d (atE Wt t).k = gb at *
              generalize got d (atE Wt t).k = y at *
              generalize hxz : (atE Wt t).z = xz at *
              generalize (atE Wt t).p = xp at *
              generalize (atE Wt t).d = xd at *
              generalize K3 t = L at *
              clear hxz
              go_wp2_with fail
              refine cg.mono ?_
              rintro e w5 ⟨u5, rfl, ⟨ya, yn, yc, rfl, sy⟩, b5⟩
              obtain ⟨W7, hW7⟩ : ∃ W7, W7 = w5.alloc (.cells #[.string y.p, .bool y.d, .slice ya yn yc] 46) := ⟨_, rfl⟩
              have b7 : Below w5.heap.size w5 W7 := by rw [hW7]; exact (Below.refl _ _).alloc (Nat.le_refl _) _
              have d7 : Below wr.heap.size wr W7 := b5.trans (b7.mono b5.size)
              have k7 : W7.heap[w5.heap.size]? = some (.cells #[.string y.p, .bool y.d, .slice ya yn yc] 46 (0, 0)) := by rw [hW7]; exact heap_alloc_new _ _
              obtain ⟨y0, y1, y2, -, -, -⟩ := trio k7
              have S7 : Hid (RS W7 w3.heap.size (.slice oa nv oc) L) := HO.out.below d7
              have B7 : Hid (Below w3.heap.size w3 W7) := HB.out.trans (d7.mono HB.out.size)
              clear c1 c2 c3
              obtain ⟨c1, c2, c3⟩ := HC.out W7 d7
              clear cg b5 b7 d7 k7 sy HC HO HB SX
              generalize y.p = yp at *
              generalize y.d = yd at *
              have S8 : Hid (RS (w5.alloc (.cells #[.string yp, .bool yd, .slice ya yn yc] 46)) w3.heap.size (.slice oa nv oc) L) := by rw [← hW7]; exact S7.out
              have B8 : Hid (Below w3.heap.size w3 (w5.alloc (.cells #[.string yp, .bool yd, .slice ya yn yc] 46))) := by rw [← hW7]; exact B7.out
              have h7s : (w5.alloc (.cells #[.string yp, .bool yd, .slice ya yn yc] 46)).heap.size = w5.heap.size + 1 := by simp
              rw [hW7] at c1 c2 c3 y0 y1 y2
              clear S7 B7 hW7
              cases xd with
              | false =>
                have NX2 : Hid (K3 (t + 1) = L) := NX.out
                clear NX
                go_wp2
                go_roundw
                case rel => exact ⟨t + 1, by omega, by go_num, by rw [NX2.out]; exact S8.out, B8.out⟩
                case measure => simp [intOf] <;> omega
              | true =>
              cases gb with
              | false =>
                have NX2 : Hid (K3 (t + 1) = L ++ [⟨2, xp, ⟨#[]⟩⟩]) := NX.out
                clear NX
                go_wp2_with (at_builtin; refine wpList_append_rs rfl _ _ rfl _ L rfl S8.out ⟨2, xp, ⟨#[]⟩⟩ (by rw [h7s]; rfl) (by have := LL.out; omega) B8.out (Hid.out ?_))
                unfold Hid
                intro v10 w10 s10 b10
                have SY : Hid (RS w10 w3.heap.size v10 (K3 (t + 1))) := by unfold Hid; rw [NX2.out]; exact s10
                have BY : Hid (Below w3.heap.size w3 w10) := b10
                clear s10 b10
                go_wp2
                go_roundw
                case rel => exact ⟨t + 1, by omega, by go_num, SY.out, BY.out⟩
                case measure => simp [intOf] <;> omega
              | true =>
              cases yd with
              | true =>
                have NX2 : Hid (K3 (t + 1) = L) := NX.out
                clear NX
                go_wp2
                go_roundw
                case rel => exact ⟨t + 1, by omega, by go_num, by rw [NX2.out]; exact S8.out, B8.out⟩
                case measure => simp [intOf] <;> omega
              | false =>
                have NX2 : Hid (K3 (t + 1) = L ++ [⟨2, xp, ⟨#[]⟩⟩]) := NX.out
                clear NX
                go_wp2_with (at_builtin; refine wpList_append_rs rfl _ _ rfl _ L rfl S8.out ⟨2, xp, ⟨#[]⟩⟩ (by rw [h7s]; rfl) (by have := LL.out; omega) B8.out (Hid.out ?_))
                unfold Hid
                intro v10 w10 s10 b10
                have SY : Hid (RS w10 w3.heap.size v10 (K3 (t + 1))) := by unfold Hid; rw [NX2.out]; exact s10
                have BY : Hid (Below w3.heap.size w3 w10) := b10
                clear s10 b10
                go_wp2
                go_roundw
                case rel => exact ⟨t + 1, by omega, by go_num, SY.out, BY.out⟩
                case measure => simp [intOf] <;> omega
            · obtain rfl : t = nw := by omega
              have HO3 : Hid (RS wr w3.heap.size (.slice oa nv oc) (K4 0)) := by unfold Hid; rw [Z4.out]; exact HO.out
              have HB0 : Hid (Below w3.heap.size w3 wr) := HB.out
              clear HO HB N3 Z4 L3 EW HNW
              rename Hid (RS wr w3.heap.size (.slice oa nv oc) (K4 0)) => HO2
              generalize wr = w4'' at *
              go_wp2_with fail
              go_loopw [10, 21] (fun o i wr => ∃ t' : Nat, t' ≤ n ∧ i = .int .i64 t' ∧ RS wr w3.heap.size o (K4 t') ∧ Below w3.heap.size w3 wr) (fun _ i _ => n - (intOf i).toNat)
              case atStart => exact ⟨0, by omega, rfl, HO2.out, HB0.out⟩
              case round =>
                obtain ⟨t', hjt2, rfl, sr, bel⟩ := hrel
                have HB : Hid (Below w3.heap.size w3 wr) := bel
                have HO : Hid (RS wr w3.heap.size u10 (K4 t')) := sr
                clear sr bel HB0 HO2
                obtain ⟨oa, oc, rfl⟩ := own_shape HO.out
                obtain ⟨nv, hnv⟩ : ∃ nv, nv = (K4 t').length := ⟨_, rfl⟩
                rw [← hnv] at HO ⊢
                clear hnv
                by_cases hlt : t' < n
                · have lt2 : (t' : Int) < (n : Int) := by omega
                  have g0 : (0 : Int) ≤ (t' : Int) := by omega
                  obtain ⟨b, off, za, zn, zc, rfl, c1, c2, c3, hun, hsl⟩ := (HSS.out wr (HBW.out wr HB.out)).at t' (by rw [← HN.out]; exact hlt)
                  have q1 : IntKind.i64.wrap ((t' : Int) + 1) = ((t' + 1 : Nat) : Int) := by simp [IntKind.wrap, IntKind.bits, IntKind.signed]; omega
                  have NX : Hid (K4 (t' + 1) = if (!(atE s t').d && !(gotB d (atE s t').k && !(got d (atE s t').k).d && decide ((got d (atE s t').k).z = (atE s t').z))) = true then K4 t' ++ [⟨3, (atE s t').p, ⟨#[]⟩⟩] else K4 t') := N4.out t' hlt
                  have LL : Hid ((K4 t').length ≤ 800) := L4.out t'
                  have SX : Hid (∀ W, Below wr.heap.size wr W → Sl W (.slice za zn zc) (atE s t').z) := fun W hb => hsl.kept hb
                  have HC : Hid (∀ W, Below wr.heap.size wr W → W.cell? ⟨b, off + t' * 3, none⟩ = some (.string (atE s t').p) ∧ W.cell? ⟨b, off + t' * 3 + 1, none⟩ = some (.bool (atE s t').d) ∧ W.cell? ⟨b, off + t' * 3 + 2, none⟩ = some (.slice za zn zc)) := fun W hb => ⟨(hb.cell (World.block_lt_of_cell? _ _ c1)).trans c1, (hb.cell (World.block_lt_of_cell? _ _ c2)).trans c2, (hb.cell (World.block_lt_of_cell? _ _ c3)).trans c3⟩
                  clear hun hsl
                  have cg : Calls Tryz.prog 41 #[.slice a2 j kd2, .string (atE s t').p] wr fun e w' => ∃ u, e = .returned (.tuple #[u, .bool (gotB d (atE s t').k)]) ∧ EV w' u (got d (atE s t').k) ∧ Below wr.heap.size wr w' := HGD.out wr (atE s t').p (HBW.out wr HB.out)
                  generalize gotB d (atE s t').k = gb at *
                  generalize got d (atE s t').k = y at *
                  generalize hxz : (atE s t').z = xz at *
                  generalize (atE s t').p = xp at *
                  generalize (atE s t').d = xd at *
                  generalize K4 t' = L at *
                  clear hxz
                  go_wp2_with fail
                  refine cg.mono ?_
                  rintro e w5 ⟨u5, rfl, ⟨ya, yn, yc, rfl, sy⟩, b5⟩
                  obtain ⟨W7, hW7⟩ : ∃ W7, W7 = w5.alloc (.cells #[.string y.p, .bool y.d, .slice ya yn yc] 46) := ⟨_, rfl⟩
                  have b7 : Below w5.heap.size w5 W7 := by rw [hW7]; exact (Below.refl _ _).alloc (Nat.le_refl _) _
                  have d7 : Below wr.heap.size wr W7 := b5.trans (b7.mono b5.size)
                  have k7 : W7.heap[w5.heap.size]? = some (.cells #[.string y.p, .bool y.d, .slice ya yn yc] 46 (0, 0)) := by rw [hW7]; exact heap_alloc_new _ _
                  obtain ⟨y0, y1, y2, -, -, -⟩ := trio k7
                  have S7 : Hid (RS W7 w3.heap.size (.slice oa nv oc) L) := HO.out.below d7
                  have B7 : Hid (Below w3.heap.size w3 W7) := HB.out.trans (d7.mono HB.out.size)
                  clear c1 c2 c3
                  obtain ⟨c1, c2, c3⟩ := HC.out W7 d7
                  have tz := strB_beq (sy.kept b7).bytes (SX.out W7 d7).bytes
                  have s7 := sy.kept b7
                  have V1 : Hid (∀ W, From W7 W → _) := fun W hb => (s7.kept hb).conv
                  have V2 : Hid (∀ W, From W7 W → _) := fun W hb => (SX.out W (d7.trans (Below.mono hb d7.size))).conv
                  have FSB : Hid (∀ W, From W7 W → RS W w3.heap.size (.slice oa nv oc) L ∧ Below w3.heap.size w3 W) := fun W hb => ⟨S7.out.below hb, B7.out.trans (Below.mono hb B7.out.size)⟩
                  clear cg b5 b7 d7 k7 sy s7 HC HO HB SX
                  generalize decide (y.z = xz) = t3 at *
                  generalize strB y.z = ys at *
                  generalize strB xz = xs at *
                  generalize y.p = yp at *
                  generalize y.d = yd at *
                  have HQ : Hid (∀ W, From W7 W → (W.cell? ⟨b, off + t' * 3, none⟩ = some (.string xp) ∧ W.cell? ⟨b, off + t' * 3 + 1, none⟩ = some (.bool xd) ∧ W.cell? ⟨b, off + t' * 3 + 2, none⟩ = some (.slice za zn zc)) ∧ W.cell? ⟨w5.heap.size, 1, none⟩ = some (.bool yd) ∧ W.cell? ⟨w5.heap.size, 2, none⟩ = some (.slice ya yn yc)) := fun W hb => by
                    have hb : Below W7.heap.size W7 W := hb
                    exact ⟨⟨(hb.cell (World.block_lt_of_cell? _ _ c1)).trans c1, (hb.cell (World.block_lt_of_cell? _ _ c2)).trans c2, (hb.cell (World.block_lt_of_cell? _ _ c3)).trans c3⟩, (hb.cell (World.block_lt_of_cell? _ _ y1)).trans y1, (hb.cell (World.block_lt_of_cell? _ _ y2)).trans y2⟩
                  go_wp2_with fail
                  rw [← hW7]
                  clear hW7
                  cases xd with
                  | true =>
                    go_quiet (fail)
                    have bq : Below W7.heap.size W7 (W7.drewN nq) := ⟨rfl, rfl, rfl, Nat.le_refl _, fun _ _ => rfl⟩
                    have S9 : Hid (RS (W7.drewN nq) w3.heap.size (.slice oa nv oc) L) := S7.out.below bq
                    have B9 : Hid (Below w3.heap.size w3 (W7.drewN nq)) := B7.out.trans (bq.mono B7.out.size)
                    have k9 : (W7.drewN nq).cell? ⟨b, off + t' * 3, none⟩ = some (.string xp) := c1
                    generalize W7.drewN nq = w9 at *
                    clear HQ V1 V2 FSB tz bq S7 B7 c1 c2 c3 y0 y1 y2
                    have NX2 : Hid (K4 (t' + 1) = L) := NX.out
                    clear NX
                    go_wp2
                    go_roundw
                    case rel => exact ⟨t' + 1, by omega, by go_num, by rw [NX2.out]; exact S9.out, B9.out⟩
                    case measure => simp [intOf] <;> omega
                  | false =>
                  cases gb with
                  | false =>
                    go_quiet (fail)
                    have bq : Below W7.heap.size W7 (W7.drewN nq) := ⟨rfl, rfl, rfl, Nat.le_refl _, fun _ _ => rfl⟩
                    have S9 : Hid (RS (W7.drewN nq) w3.heap.size (.slice oa nv oc) L) := S7.out.below bq
                    have B9 : Hid (Below w3.heap.size w3 (W7.drewN nq)) := B7.out.trans (bq.mono B7.out.size)
                    have k9 : (W7.drewN nq).cell? ⟨b, off + t' * 3, none⟩ = some (.string xp) := c1
                    generalize W7.drewN nq = w9 at *
                    clear HQ V1 V2 FSB tz bq S7 B7 c1 c2 c3 y0 y1 y2
                    have NX2 : Hid (K4 (t' + 1) = L ++ [⟨3, xp, ⟨#[]⟩⟩]) := NX.out
                    clear NX
                    go_wp2_with (at_builtin; refine wpList_append_rs rfl _ _ rfl _ L rfl S9.out ⟨3, xp, ⟨#[]⟩⟩ rfl (by have := LL.out; omega) B9.out (Hid.out ?_))
                    unfold Hid
                    intro v10 w10 s10 b10
                    have SY : Hid (RS w10 w3.heap.size v10 (K4 (t' + 1))) := by unfold Hid; rw [NX2.out]; exact s10
                    have BY : Hid (Below w3.heap.size w3 w10) := b10
                    clear s10 b10
                    go_wp2
                    go_roundw
                    case rel => exact ⟨t' + 1, by omega, by go_num, SY.out, BY.out⟩
                    case measure => simp [intOf] <;> omega
                  | true =>
                  cases yd with
                  | true =>
                    go_quiet (fail)
                    have bq : Below W7.heap.size W7 (W7.drewN nq) := ⟨rfl, rfl, rfl, Nat.le_refl _, fun _ _ => rfl⟩
                    have S9 : Hid (RS (W7.drewN nq) w3.heap.size (.slice oa nv oc) L) := S7.out.below bq
                    have B9 : Hid (Below w3.heap.size w3 (W7.drewN nq)) := B7.out.trans (bq.mono B7.out.size)
                    have k9 : (W7.drewN nq).cell? ⟨b, off + t' * 3, none⟩ = some (.string xp) := c1
                    generalize W7.drewN nq = w9 at *
                    clear HQ V1 V2 FSB tz bq S7 B7 c1 c2 c3 y0 y1 y2
                    have NX2 : Hid (K4 (t' + 1) = L ++ [⟨3, xp, ⟨#[]⟩⟩]) := NX.out
                    clear NX
                    go_wp2_with (at_builtin; refine wpList_append_rs rfl _ _ rfl _ L rfl S9.out ⟨3, xp, ⟨#[]⟩⟩ rfl (by have := LL.out; omega) B9.out (Hid.out ?_))
                    unfold Hid
                    intro v10 w10 s10 b10
                    have SY : Hid (RS w10 w3.heap.size v10 (K4 (t' + 1))) := by unfold Hid; rw [NX2.out]; exact s10
                    have BY : Hid (Below w3.heap.size w3 w10) := b10
                    clear s10 b10
                    go_wp2
                    go_roundw
                    case rel => exact ⟨t' + 1, by omega, by go_num, SY.out, BY.out⟩
                    case measure => simp [intOf] <;> omega
                  | false =>
                  cases t3 with
                  | true =>
                    refine wp_region_held_drew (S := From W7) (by kernel_rfl) ((Below.refl _ _).drew) (fun _ => ?_)
                    refine wpAnyH_on ((Below.refl _ _).drew) (fun u0 hu0 bu0 => ?_)
                    replace HQ := on HQ bu0
                    replace V1 := on V1 bu0
                    replace V2 := on V2 bu0
                    replace FSB := on FSB bu0
                    refine wpAnyH_take (i := 0) (oi := { dst := some 178, op := Op.move (Operand.tmp 0), type := 22, pos := "ref.go:149", after := #[], guard := none }) (v := ?vq11) rfl (by kernel_rfl) (by kernel_rfl) (by kernel_rfl) (fun _ _ _ h => h) (Or.inl ⟨by rfl, ?yq11⟩) (Below.refl _ _) ?rq11
                    case yq11 => (intro w hSw; go_simp; try with_reducible rfl)
                    try simp only [Act.put, List.setIfInBounds_toArray, List.set_cons_zero, List.set_cons_succ]
                    refine wpAnyH_take (i := 1) (oi := { dst := some 179, op := Op.move (Operand.tmp 21), type := 3, pos := "ref.go:149", after := #[], guard := none }) (v := ?vq12) rfl (by kernel_rfl) (by kernel_rfl) (by kernel_rfl) (fun _ _ _ h => h) (Or.inl ⟨by rfl, ?yq12⟩) (Below.refl _ _) ?rq12
                    case yq12 => (intro w hSw; go_simp; try with_reducible rfl)
                    try simp only [Act.put, List.setIfInBounds_toArray, List.set_cons_zero, List.set_cons_succ]
                    refine wpAnyH_take (i := 2) (oi := { dst := some 180, op := Op.indexAddr 22 (Operand.tmp 178) (Operand.tmp 179), type := 0, pos := "ref.go:149", after := #[{ on := 0, ground := Ground.data }, { on := 1, ground := Ground.data }], guard := none }) (v := ?vq13) rfl (by kernel_rfl) (by kernel_rfl) (by kernel_rfl) (fun _ _ _ h => h) (Or.inl ⟨by rfl, ?yq13⟩) (Below.refl _ _) ?rq13
                    case yq13 => (intro w hSw; go_simp; try with_reducible rfl)
                    try simp only [Act.put, List.setIfInBounds_toArray, List.set_cons_zero, List.set_cons_succ]
                    refine wpAnyH_take (i := 3) (oi := { dst := some 181, op := Op.fieldAddr 46 (Operand.tmp 180) 1, type := 0, pos := "ref.go:149", after := #[{ on := 2, ground := Ground.data }], guard := none }) (v := ?vq14) rfl (by kernel_rfl) (by kernel_rfl) (by kernel_rfl) (fun _ _ _ h => h) (Or.inl ⟨by rfl, ?yq14⟩) (Below.refl _ _) ?rq14
                    case yq14 => (intro w hSw; go_simp; try with_reducible rfl)
                    try simp only [Act.put, List.setIfInBounds_toArray, List.set_cons_zero, List.set_cons_succ]
                    refine wpAnyH_take (i := 4) (oi := { dst := some 182, op := Op.load 4 (Operand.tmp 181), type := 4, pos := "ref.go:149", after := #[{ on := 3, ground := Ground.data }], guard := none }) (v := ?vq15) rfl (by kernel_rfl) (by kernel_rfl) (by kernel_rfl) (fun _ _ _ h => h) (Or.inl ⟨by rfl, ?yq15⟩) (Below.refl _ _) ?rq15
                    case yq15 => (intro w hSw; obtain ⟨⟨i3, i4, i5⟩, i0, i1⟩ := HQ.out w hSw; go_simp; try with_reducible rfl)
                    try simp only [Act.put, List.setIfInBounds_toArray, List.set_cons_zero, List.set_cons_succ]
                    refine wpAnyH_take (i := 5) (oi := { dst := some 183, op := Op.unOp UnOp.not 4 (Operand.tmp 182), type := 4, pos := "ref.go:149", after := #[{ on := 4, ground := Ground.data }], guard := none }) (v := ?vq16) rfl (by kernel_rfl) (by kernel_rfl) (by kernel_rfl) (fun _ _ _ h => h) (Or.inl ⟨by rfl, ?yq16⟩) (Below.refl _ _) ?rq16
                    case yq16 => (intro w hSw; go_simp; try with_reducible rfl)
                    try simp only [Act.put, List.setIfInBounds_toArray, List.set_cons_zero, List.set_cons_succ]
                    refine wpAnyH_take (i := 6) (oi := { dst := some 184, op := Op.move (Operand.tmp 183), type := 4, pos := "ref.go:149", after := #[{ on := 5, ground := Ground.data }], guard := none }) (v := ?vq17) rfl (by kernel_rfl) (by kernel_rfl) (by kernel_rfl) (fun _ _ _ h => h) (Or.inl ⟨by rfl, ?yq17⟩) (Below.refl _ _) ?rq17
                    case yq17 => (intro w hSw; go_simp; try with_reducible rfl)
                    try simp only [Act.put, List.setIfInBounds_toArray, List.set_cons_zero, List.set_cons_succ]
                    refine wpAnyH_take (i := 7) (oi := { dst := some 185, op := Op.move (Operand.tmp 23), type := 4, pos := "ref.go:149", after := #[{ on := 6, ground := Ground.guard }], guard := some (6, true) }) (v := ?vq18) rfl (by kernel_rfl) (by kernel_rfl) (by kernel_rfl) (fun _ _ _ h => h) (Or.inl ⟨by rfl, ?yq18⟩) (Below.refl _ _) ?rq18
                    case yq18 => (intro w hSw; go_simp; try with_reducible rfl)
                    try simp only [Act.put, List.setIfInBounds_toArray, List.set_cons_zero, List.set_cons_succ]
                    refine wpAnyH_take (i := 8) (oi := { dst := some 186, op := Op.move (Operand.tmp 185), type := 4, pos := "ref.go:149", after := #[{ on := 7, ground := Ground.data }, { on := 6, ground := Ground.chain }, { on := 6, ground := Ground.guard }], guard := some (6, true) }) (v := ?vq19) rfl (by kernel_rfl) (by kernel_rfl) (by kernel_rfl) (fun _ _ _ h => h) (Or.inl ⟨by rfl, ?yq19⟩) (Below.refl _ _) ?rq19
                    case yq19 => (intro w hSw; go_simp; try with_reducible rfl)
                    try simp only [Act.put, List.setIfInBounds_toArray, List.set_cons_zero, List.set_cons_succ]
                    refine wpAnyH_take (i := 9) (oi := { dst := some 187, op := Op.fieldAddr 46 (Operand.tmp 22) 1, type := 0, pos := "ref.go:149", after := #[{ on := 8, ground := Ground.guard }], guard := some (8, true) }) (v := ?vq110) rfl (by kernel_rfl) (by kernel_rfl) (by kernel_rfl) (fun _ _ _ h => h) (Or.inl ⟨by rfl, ?yq110⟩) (Below.refl _ _) ?rq110
                    case yq110 => (intro w hSw; go_simp; try with_reducible rfl)
                    try simp only [Act.put, List.setIfInBounds_toArray, List.set_cons_zero, List.set_cons_succ]
                    refine wpAnyH_take (i := 10) (oi := { dst := some 188, op := Op.load 4 (Operand.tmp 187), type := 4, pos := "ref.go:149", after := #[{ on := 9, ground := Ground.data }, { on := 8, ground := Ground.guard }], guard := some (8, true) }) (v := ?vq111) rfl (by kernel_rfl) (by kernel_rfl) (by kernel_rfl) (fun _ _ _ h => h) (Or.inl ⟨by rfl, ?yq111⟩) (Below.refl _ _) ?rq111
                    case yq111 => (intro w hSw; obtain ⟨⟨i3, i4, i5⟩, i0, i1⟩ := HQ.out w hSw; go_simp; try with_reducible rfl)
                    try simp only [Act.put, List.setIfInBounds_toArray, List.set_cons_zero, List.set_cons_succ]
                    refine wpAnyH_take (i := 11) (oi := { dst := some 189, op := Op.unOp UnOp.not 4 (Operand.tmp 188), type := 4, pos := "ref.go:149", after := #[{ on := 10, ground := Ground.data }, { on := 8, ground := Ground.guard }], guard := some (8, true) }) (v := ?vq112) rfl (by kernel_rfl) (by kernel_rfl) (by kernel_rfl) (fun _ _ _ h => h) (Or.inl ⟨by rfl, ?yq112⟩) (Below.refl _ _) ?rq112
                    case yq112 => (intro w hSw; go_simp; try with_reducible rfl)
                    try simp only [Act.put, List.setIfInBounds_toArray, List.set_cons_zero, List.set_cons_succ]
                    refine wpAnyH_take (i := 12) (oi := { dst := some 190, op := Op.pick (Operand.tmp 186) (Operand.tmp 189) (Operand.const (Value.bool false)), type := 4, pos := "ref.go:149", after := #[{ on := 8, ground := Ground.data }, { on := 11, ground := Ground.data }, { on := 6, ground := Ground.guard }], guard := some (6, true) }) (v := ?vq113) rfl (by kernel_rfl) (by kernel_rfl) (by kernel_rfl) (fun _ _ _ h => h) (Or.inl ⟨by rfl, ?yq113⟩) (Below.refl _ _) ?rq113
                    case yq113 => (intro w hSw; go_simp; try with_reducible rfl)
                    try simp only [Act.put, List.setIfInBounds_toArray, List.set_cons_zero, List.set_cons_succ]
                    refine wpAnyH_take (i := 13) (oi := { dst := some 191, op := Op.move (Operand.tmp 190), type := 4, pos := "ref.go:149", after := #[{ on := 12, ground := Ground.data }, { on := 8, ground := Ground.chain }, { on := 6, ground := Ground.guard }], guard := some (6, true) }) (v := ?vq114) rfl (by kernel_rfl) (by kernel_rfl) (by kernel_rfl) (fun _ _ _ h => h) (Or.inl ⟨by rfl, ?yq114⟩) (Below.refl _ _) ?rq114
                    case yq114 => (intro w hSw; go_simp; try with_reducible rfl)
                    try simp only [Act.put, List.setIfInBounds_toArray, List.set_cons_zero, List.set_cons_succ]
                    refine wpAnyH_take (i := 14) (oi := { dst := some 192, op := Op.fieldAddr 46 (Operand.tmp 22) 2, type := 0, pos := "ref.go:149", after := #[{ on := 13, ground := Ground.guard }], guard := some (13, true) }) (v := ?vq115) rfl (by kernel_rfl) (by kernel_rfl) (by kernel_rfl) (fun _ _ _ h => h) (Or.inl ⟨by rfl, ?yq115⟩) (Below.refl _ _) ?rq115
                    case yq115 => (intro w hSw; go_simp; try with_reducible rfl)
                    try simp only [Act.put, List.setIfInBounds_toArray, List.set_cons_zero, List.set_cons_succ]
                    refine wpAnyH_take (i := 15) (oi := { dst := some 193, op := Op.load 44 (Operand.tmp 192), type := 44, pos := "ref.go:149", after := #[{ on := 14, ground := Ground.data }, { on := 13, ground := Ground.guard }], guard := some (13, true) }) (v := ?vq116) rfl (by kernel_rfl) (by kernel_rfl) (by kernel_rfl) (fun _ _ _ h => h) (Or.inl ⟨by rfl, ?yq116⟩) (Below.refl _ _) ?rq116
                    case yq116 => (intro w hSw; obtain ⟨⟨i3, i4, i5⟩, i0, i1⟩ := HQ.out w hSw; go_simp; try with_reducible rfl)
                    try simp only [Act.put, List.setIfInBounds_toArray, List.set_cons_zero, List.set_cons_succ]
                    refine wpAnyH_take (i := 16) (oi := { dst := some 194, op := Op.convert 44 9 (Operand.tmp 193), type := 9, pos := "ref.go:149", after := #[{ on := 15, ground := Ground.data }, { on := 13, ground := Ground.guard }], guard := some (13, true) }) (v := ?vq117) rfl (by kernel_rfl) (by kernel_rfl) (by kernel_rfl) (fun _ _ _ h => h) (Or.inl ⟨by rfl, ?yq117⟩) (Below.refl _ _) ?rq117
                    case yq117 => (intro w hSw; have v := V1.out w hSw; go_simp; try with_reducible rfl)
                    try simp only [Act.put, List.setIfInBounds_toArray, List.set_cons_zero, List.set_cons_succ]
                    refine wpAnyH_take (i := 17) (oi := { dst := some 195, op := Op.move (Operand.tmp 0), type := 22, pos := "ref.go:149", after := #[{ on := 13, ground := Ground.guard }], guard := some (13, true) }) (v := ?vq118) rfl (by kernel_rfl) (by kernel_rfl) (by kernel_rfl) (fun _ _ _ h => h) (Or.inl ⟨by rfl, ?yq118⟩) (Below.refl _ _) ?rq118
                    case yq118 => (intro w hSw; go_simp; try with_reducible rfl)
                    try simp only [Act.put, List.setIfInBounds_toArray, List.set_cons_zero, List.set_cons_succ]
                    refine wpAnyH_take (i := 18) (oi := { dst := some 196, op := Op.move (Operand.tmp 21), type := 3, pos := "ref.go:149", after := #[{ on := 13, ground := Ground.guard }], guard := some (13, true) }) (v := ?vq119) rfl (by kernel_rfl) (by kernel_rfl) (by kernel_rfl) (fun _ _ _ h => h) (Or.inl ⟨by rfl, ?yq119⟩) (Below.refl _ _) ?rq119
                    case yq119 => (intro w hSw; go_simp; try with_reducible rfl)
                    try simp only [Act.put, List.setIfInBounds_toArray, List.set_cons_zero, List.set_cons_succ]
                    refine wpAnyH_take (i := 19) (oi := { dst := some 197, op := Op.indexAddr 22 (Operand.tmp 195) (Operand.tmp 196), type := 0, pos := "ref.go:149", after := #[{ on := 17, ground := Ground.data }, { on := 18, ground := Ground.data }, { on := 13, ground := Ground.guard }], guard := some (13, true) }) (v := ?vq120) rfl (by kernel_rfl) (by kernel_rfl) (by kernel_rfl) (fun _ _ _ h => h) (Or.inl ⟨by rfl, ?yq120⟩) (Below.refl _ _) ?rq120
                    case yq120 => (intro w hSw; go_simp; try with_reducible rfl)
                    try simp only [Act.put, List.setIfInBounds_toArray, List.set_cons_zero, List.set_cons_succ]
                    refine wpAnyH_take (i := 20) (oi := { dst := some 198, op := Op.fieldAddr 46 (Operand.tmp 197) 2, type := 0, pos := "ref.go:149", after := #[{ on := 19, ground := Ground.data }, { on := 13, ground := Ground.guard }], guard := some (13, true) }) (v := ?vq121) rfl (by kernel_rfl) (by kernel_rfl) (by kernel_rfl) (fun _ _ _ h => h) (Or.inl ⟨by rfl, ?yq121⟩) (Below.refl _ _) ?rq121
                    case yq121 => (intro w hSw; go_simp; try with_reducible rfl)
                    try simp only [Act.put, List.setIfInBounds_toArray, List.set_cons_zero, List.set_cons_succ]
                    refine wpAnyH_take (i := 21) (oi := { dst := some 199, op := Op.load 44 (Operand.tmp 198), type := 44, pos := "ref.go:149", after := #[{ on := 20, ground := Ground.data }, { on := 13, ground := Ground.guard }], guard := some (13, true) }) (v := ?vq122) rfl (by kernel_rfl) (by kernel_rfl) (by kernel_rfl) (fun _ _ _ h => h) (Or.inl ⟨by rfl, ?yq122⟩) (Below.refl _ _) ?rq122
                    case yq122 => (intro w hSw; obtain ⟨⟨i3, i4, i5⟩, i0, i1⟩ := HQ.out w hSw; go_simp; try with_reducible rfl)
                    try simp only [Act.put, List.setIfInBounds_toArray, List.set_cons_zero, List.set_cons_succ]
                    refine wpAnyH_take (i := 22) (oi := { dst := some 200, op := Op.convert 44 9 (Operand.tmp 199), type := 9, pos := "ref.go:149", after := #[{ on := 21, ground := Ground.data }, { on := 13, ground := Ground.guard }], guard := some (13, true) }) (v := ?vq123) rfl (by kernel_rfl) (by kernel_rfl) (by kernel_rfl) (fun _ _ _ h => h) (Or.inl ⟨by rfl, ?yq123⟩) (Below.refl _ _) ?rq123
                    case yq123 => (intro w hSw; have v := V2.out w hSw; go_simp; try with_reducible rfl)
                    try simp only [Act.put, List.setIfInBounds_toArray, List.set_cons_zero, List.set_cons_succ]
                    refine wpAnyH_take (i := 23) (oi := { dst := some 201, op := Op.binOp BinOp.eql 9 (Operand.tmp 194) (Operand.tmp 200) 9, type := 4, pos := "ref.go:149", after := #[{ on := 16, ground := Ground.data }, { on := 22, ground := Ground.data }, { on := 13, ground := Ground.guard }], guard := some (13, true) }) (v := ?vq124) rfl (by kernel_rfl) (by kernel_rfl) (by kernel_rfl) (fun _ _ _ h => h) (Or.inl ⟨by rfl, ?yq124⟩) (Below.refl _ _) ?rq124
                    case yq124 => (intro w hSw; have v := tz; go_simp; try with_reducible rfl)
                    try simp only [Act.put, List.setIfInBounds_toArray, List.set_cons_zero, List.set_cons_succ]
                    refine wpAnyH_take (i := 24) (oi := { dst := some 202, op := Op.pick (Operand.tmp 191) (Operand.tmp 201) (Operand.const (Value.bool false)), type := 4, pos := "ref.go:149", after := #[{ on := 13, ground := Ground.data }, { on := 23, ground := Ground.data }, { on := 6, ground := Ground.guard }], guard := some (6, true) }) (v := ?vq125) rfl (by kernel_rfl) (by kernel_rfl) (by kernel_rfl) (fun _ _ _ h => h) (Or.inl ⟨by rfl, ?yq125⟩) (Below.refl _ _) ?rq125
                    case yq125 => (intro w hSw; go_simp; try with_reducible rfl)
                    try simp only [Act.put, List.setIfInBounds_toArray, List.set_cons_zero, List.set_cons_succ]
                    refine wpAnyH_take (i := 25) (oi := { dst := some 203, op := Op.unOp UnOp.not 4 (Operand.tmp 202), type := 4, pos := "ref.go:149", after := #[{ on := 24, ground := Ground.data }, { on := 6, ground := Ground.guard }], guard := some (6, true) }) (v := ?vq126) rfl (by kernel_rfl) (by kernel_rfl) (by kernel_rfl) (fun _ _ _ h => h) (Or.inl ⟨by rfl, ?yq126⟩) (Below.refl _ _) ?rq126
                    case yq126 => (intro w hSw; go_simp; try with_reducible rfl)
                    try simp only [Act.put, List.setIfInBounds_toArray, List.set_cons_zero, List.set_cons_succ]
                    refine wpAnyH_take (i := 26) (oi := { dst := some 204, op := Op.pick (Operand.tmp 184) (Operand.tmp 203) (Operand.const (Value.bool false)), type := 4, pos := "ref.go:149", after := #[{ on := 6, ground := Ground.data }, { on := 25, ground := Ground.data }], guard := none }) (v := ?vq127) rfl (by kernel_rfl) (by kernel_rfl) (by kernel_rfl) (fun _ _ _ h => h) (Or.inl ⟨by rfl, ?yq127⟩) (Below.refl _ _) ?rq127
                    case yq127 => (intro w hSw; go_simp; try with_reducible rfl)
                    try simp only [Act.put, List.setIfInBounds_toArray, List.set_cons_zero, List.set_cons_succ]
                    refine wpAnyH_done (by kernel_rfl) ?_ _
                    obtain ⟨s9, b9⟩ := FSB.out _ (Below.refl _ _)
                    have S9 : Hid (RS u0 w3.heap.size (.slice oa nv oc) L) := s9
                    have B9 : Hid (Below w3.heap.size w3 u0) := b9
                    obtain ⟨⟨k9, -, -⟩, -, -⟩ := HQ.out _ (Below.refl _ _)
                    clear s9 b9 V1 V2 tz HQ FSB S7 B7 c1 c2 c3 y0 y1 y2
                    have NX2 : Hid (K4 (t' + 1) = L) := NX.out
                    clear NX
                    go_wp2
                    go_roundw
                    case rel => exact ⟨t' + 1, by omega, by go_num, by rw [NX2.out]; exact S9.out, B9.out⟩
                    case measure => simp [intOf] <;> omega
                  | false =>
                    refine wp_region_held_drew (S := From W7) (by kernel_rfl) ((Below.refl _ _).drew) (fun _ => ?_)
                    refine wpAnyH_on ((Below.refl _ _).drew) (fun u0 hu0 bu0 => ?_)
                    replace HQ := on HQ bu0
                    replace V1 := on V1 bu0
                    replace V2 := on V2 bu0
                    replace FSB := on FSB bu0
                    refine wpAnyH_take (i := 0) (oi := { dst := some 178, op := Op.move (Operand.tmp 0), type := 22, pos := "ref.go:149", after := #[], guard := none }) (v := ?vq01) rfl (by kernel_rfl) (by kernel_rfl) (by kernel_rfl) (fun _ _ _ h => h) (Or.inl ⟨by rfl, ?yq01⟩) (Below.refl _ _) ?rq01
                    case yq01 => (intro w hSw; go_simp; try with_reducible rfl)
                    try simp only [Act.put, List.setIfInBounds_toArray, List.set_cons_zero, List.set_cons_succ]
                    refine wpAnyH_take (i := 1) (oi := { dst := some 179, op := Op.move (Operand.tmp 21), type := 3, pos := "ref.go:149", after := #[], guard := none }) (v := ?vq02) rfl (by kernel_rfl) (by kernel_rfl) (by kernel_rfl) (fun _ _ _ h => h) (Or.inl ⟨by rfl, ?yq02⟩) (Below.refl _ _) ?rq02
                    case yq02 => (intro w hSw; go_simp; try with_reducible rfl)
                    try simp only [Act.put, List.setIfInBounds_toArray, List.set_cons_zero, List.set_cons_succ]
                    refine wpAnyH_take (i := 2) (oi := { dst := some 180, op := Op.indexAddr 22 (Operand.tmp 178) (Operand.tmp 179), type := 0, pos := "ref.go:149", after := #[{ on := 0, ground := Ground.data }, { on := 1, ground := Ground.data }], guard := none }) (v := ?vq03) rfl (by kernel_rfl) (by kernel_rfl) (by kernel_rfl) (fun _ _ _ h => h) (Or.inl ⟨by rfl, ?yq03⟩) (Below.refl _ _) ?rq03
                    case yq03 => (intro w hSw; go_simp; try with_reducible rfl)
                    try simp only [Act.put, List.setIfInBounds_toArray, List.set_cons_zero, List.set_cons_succ]
                    refine wpAnyH_take (i := 3) (oi := { dst := some 181, op := Op.fieldAddr 46 (Operand.tmp 180) 1, type := 0, pos := "ref.go:149", after := #[{ on := 2, ground := Ground.data }], guard := none }) (v := ?vq04) rfl (by kernel_rfl) (by kernel_rfl) (by kernel_rfl) (fun _ _ _ h => h) (Or.inl ⟨by rfl, ?yq04⟩) (Below.refl _ _) ?rq04
                    case yq04 => (intro w hSw; go_simp; try with_reducible rfl)
                    try simp only [Act.put, List.setIfInBounds_toArray, List.set_cons_zero, List.set_cons_succ]
                    refine wpAnyH_take (i := 4) (oi := { dst := some 182, op := Op.load 4 (Operand.tmp 181), type := 4, pos := "ref.go:149", after := #[{ on := 3, ground := Ground.data }], guard := none }) (v := ?vq05) rfl (by kernel_rfl) (by kernel_rfl) (by kernel_rfl) (fun _ _ _ h => h) (Or.inl ⟨by rfl, ?yq05⟩) (Below.refl _ _) ?rq05
                    case yq05 => (intro w hSw; obtain ⟨⟨i3, i4, i5⟩, i0, i1⟩ := HQ.out w hSw; go_simp; try with_reducible rfl)
                    try simp only [Act.put, List.setIfInBounds_toArray, List.set_cons_zero, List.set_cons_succ]
                    refine wpAnyH_take (i := 5) (oi := { dst := some 183, op := Op.unOp UnOp.not 4 (Operand.tmp 182), type := 4, pos := "ref.go:149", after := #[{ on := 4, ground := Ground.data }], guard := none }) (v := ?vq06) rfl (by kernel_rfl) (by kernel_rfl) (by kernel_rfl) (fun _ _ _ h => h) (Or.inl ⟨by rfl, ?yq06⟩) (Below.refl _ _) ?rq06
                    case yq06 => (intro w hSw; go_simp; try with_reducible rfl)
                    try simp only [Act.put, List.setIfInBounds_toArray, List.set_cons_zero, List.set_cons_succ]
                    refine wpAnyH_take (i := 6) (oi := { dst := some 184, op := Op.move (Operand.tmp 183), type := 4, pos := "ref.go:149", after := #[{ on := 5, ground := Ground.data }], guard := none }) (v := ?vq07) rfl (by kernel_rfl) (by kernel_rfl) (by kernel_rfl) (fun _ _ _ h => h) (Or.inl ⟨by rfl, ?yq07⟩) (Below.refl _ _) ?rq07
                    case yq07 => (intro w hSw; go_simp; try with_reducible rfl)
                    try simp only [Act.put, List.setIfInBounds_toArray, List.set_cons_zero, List.set_cons_succ]
                    refine wpAnyH_take (i := 7) (oi := { dst := some 185, op := Op.move (Operand.tmp 23), type := 4, pos := "ref.go:149", after := #[{ on := 6, ground := Ground.guard }], guard := some (6, true) }) (v := ?vq08) rfl (by kernel_rfl) (by kernel_rfl) (by kernel_rfl) (fun _ _ _ h => h) (Or.inl ⟨by rfl, ?yq08⟩) (Below.refl _ _) ?rq08
                    case yq08 => (intro w hSw; go_simp; try with_reducible rfl)
                    try simp only [Act.put, List.setIfInBounds_toArray, List.set_cons_zero, List.set_cons_succ]
                    refine wpAnyH_take (i := 8) (oi := { dst := some 186, op := Op.move (Operand.tmp 185), type := 4, pos := "ref.go:149", after := #[{ on := 7, ground := Ground.data }, { on := 6, ground := Ground.chain }, { on := 6, ground := Ground.guard }], guard := some (6, true) }) (v := ?vq09) rfl (by kernel_rfl) (by kernel_rfl) (by kernel_rfl) (fun _ _ _ h => h) (Or.inl ⟨by rfl, ?yq09⟩) (Below.refl _ _) ?rq09
                    case yq09 => (intro w hSw; go_simp; try with_reducible rfl)
                    try simp only [Act.put, List.setIfInBounds_toArray, List.set_cons_zero, List.set_cons_succ]
                    refine wpAnyH_take (i := 9) (oi := { dst := some 187, op := Op.fieldAddr 46 (Operand.tmp 22) 1, type := 0, pos := "ref.go:149", after := #[{ on := 8, ground := Ground.guard }], guard := some (8, true) }) (v := ?vq010) rfl (by kernel_rfl) (by kernel_rfl) (by kernel_rfl) (fun _ _ _ h => h) (Or.inl ⟨by rfl, ?yq010⟩) (Below.refl _ _) ?rq010
                    case yq010 => (intro w hSw; go_simp; try with_reducible rfl)
                    try simp only [Act.put, List.setIfInBounds_toArray, List.set_cons_zero, List.set_cons_succ]
                    refine wpAnyH_take (i := 10) (oi := { dst := some 188, op := Op.load 4 (Operand.tmp 187), type := 4, pos := "ref.go:149", after := #[{ on := 9, ground := Ground.data }, { on := 8, ground := Ground.guard }], guard := some (8, true) }) (v := ?vq011) rfl (by kernel_rfl) (by kernel_rfl) (by kernel_rfl) (fun _ _ _ h => h) (Or.inl ⟨by rfl, ?yq011⟩) (Below.refl _ _) ?rq011
                    case yq011 => (intro w hSw; obtain ⟨⟨i3, i4, i5⟩, i0, i1⟩ := HQ.out w hSw; go_simp; try with_reducible rfl)
                    try simp only [Act.put, List.setIfInBounds_toArray, List.set_cons_zero, List.set_cons_succ]
                    refine wpAnyH_take (i := 11) (oi := { dst := some 189, op := Op.unOp UnOp.not 4 (Operand.tmp 188), type := 4, pos := "ref.go:149", after := #[{ on := 10, ground := Ground.data }, { on := 8, ground := Ground.guard }], guard := some (8, true) }) (v := ?vq012) rfl (by kernel_rfl) (by kernel_rfl) (by kernel_rfl) (fun _ _ _ h => h) (Or.inl ⟨by rfl, ?yq012⟩) (Below.refl _ _) ?rq012
                    case yq012 => (intro w hSw; go_simp; try with_reducible rfl)
                    try simp only [Act.put, List.setIfInBounds_toArray, List.set_cons_zero, List.set_cons_succ]
                    refine wpAnyH_take (i := 12) (oi := { dst := some 190, op := Op.pick (Operand.tmp 186) (Operand.tmp 189) (Operand.const (Value.bool false)), type := 4, pos := "ref.go:149", after := #[{ on := 8, ground := Ground.data }, { on := 11, ground := Ground.data }, { on := 6, ground := Ground.guard }], guard := some (6, true) }) (v := ?vq013) rfl (by kernel_rfl) (by kernel_rfl) (by kernel_rfl) (fun _ _ _ h => h) (Or.inl ⟨by rfl, ?yq013⟩) (Below.refl _ _) ?rq013
                    case yq013 => (intro w hSw; go_simp; try with_reducible rfl)
                    try simp only [Act.put, List.setIfInBounds_toArray, List.set_cons_zero, List.set_cons_succ]
                    refine wpAnyH_take (i := 13) (oi := { dst := some 191, op := Op.move (Operand.tmp 190), type := 4, pos := "ref.go:149", after := #[{ on := 12, ground := Ground.data }, { on := 8, ground := Ground.chain }, { on := 6, ground := Ground.guard }], guard := some (6, true) }) (v := ?vq014) rfl (by kernel_rfl) (by kernel_rfl) (by kernel_rfl) (fun _ _ _ h => h) (Or.inl ⟨by rfl, ?yq014⟩) (Below.refl _ _) ?rq014
                    case yq014 => (intro w hSw; go_simp; try with_reducible rfl)
                    try simp only [Act.put, List.setIfInBounds_toArray, List.set_cons_zero, List.set_cons_succ]
                    refine wpAnyH_take (i := 14) (oi := { dst := some 192, op := Op.fieldAddr 46 (Operand.tmp 22) 2, type := 0, pos := "ref.go:149", after := #[{ on := 13, ground := Ground.guard }], guard := some (13, true) }) (v := ?vq015) rfl (by kernel_rfl) (by kernel_rfl) (by kernel_rfl) (fun _ _ _ h => h) (Or.inl ⟨by rfl, ?yq015⟩) (Below.refl _ _) ?rq015
                    case yq015 => (intro w hSw; go_simp; try with_reducible rfl)
                    try simp only [Act.put, List.setIfInBounds_toArray, List.set_cons_zero, List.set_cons_succ]
                    refine wpAnyH_take (i := 15) (oi := { dst := some 193, op := Op.load 44 (Operand.tmp 192), type := 44, pos := "ref.go:149", after := #[{ on := 14, ground := Ground.data }, { on := 13, ground := Ground.guard }], guard := some (13, true) }) (v := ?vq016) rfl (by kernel_rfl) (by kernel_rfl) (by kernel_rfl) (fun _ _ _ h => h) (Or.inl ⟨by rfl, ?yq016⟩) (Below.refl _ _) ?rq016
                    case yq016 => (intro w hSw; obtain ⟨⟨i3, i4, i5⟩, i0, i1⟩ := HQ.out w hSw; go_simp; try with_reducible rfl)
                    try simp only [Act.put, List.setIfInBounds_toArray, List.set_cons_zero, List.set_cons_succ]
                    refine wpAnyH_take (i := 16) (oi := { dst := some 194, op := Op.convert 44 9 (Operand.tmp 193), type := 9, pos := "ref.go:149", after := #[{ on := 15, ground := Ground.data }, { on := 13, ground := Ground.guard }], guard := some (13, true) }) (v := ?vq017) rfl (by kernel_rfl) (by kernel_rfl) (by kernel_rfl) (fun _ _ _ h => h) (Or.inl ⟨by rfl, ?yq017⟩) (Below.refl _ _) ?rq017
                    case yq017 => (intro w hSw; have v := V1.out w hSw; go_simp; try with_reducible rfl)
                    try simp only [Act.put, List.setIfInBounds_toArray, List.set_cons_zero, List.set_cons_succ]
                    refine wpAnyH_take (i := 17) (oi := { dst := some 195, op := Op.move (Operand.tmp 0), type := 22, pos := "ref.go:149", after := #[{ on := 13, ground := Ground.guard }], guard := some (13, true) }) (v := ?vq018) rfl (by kernel_rfl) (by kernel_rfl) (by kernel_rfl) (fun _ _ _ h => h) (Or.inl ⟨by rfl, ?yq018⟩) (Below.refl _ _) ?rq018
                    case yq018 => (intro w hSw; go_simp; try with_reducible rfl)
                    try simp only [Act.put, List.setIfInBounds_toArray, List.set_cons_zero, List.set_cons_succ]
                    refine wpAnyH_take (i := 18) (oi := { dst := some 196, op := Op.move (Operand.tmp 21), type := 3, pos := "ref.go:149", after := #[{ on := 13, ground := Ground.guard }], guard := some (13, true) }) (v := ?vq019) rfl (by kernel_rfl) (by kernel_rfl) (by kernel_rfl) (fun _ _ _ h => h) (Or.inl ⟨by rfl, ?yq019⟩) (Below.refl _ _) ?rq019
                    case yq019 => (intro w hSw; go_simp; try with_reducible rfl)
                    try simp only [Act.put, List.setIfInBounds_toArray, List.set_cons_zero, List.set_cons_succ]
                    refine wpAnyH_take (i := 19) (oi := { dst := some 197, op := Op.indexAddr 22 (Operand.tmp 195) (Operand.tmp 196), type := 0, pos := "ref.go:149", after := #[{ on := 17, ground := Ground.data }, { on := 18, ground := Ground.data }, { on := 13, ground := Ground.guard }], guard := some (13, true) }) (v := ?vq020) rfl (by kernel_rfl) (by kernel_rfl) (by kernel_rfl) (fun _ _ _ h => h) (Or.inl ⟨by rfl, ?yq020⟩) (Below.refl _ _) ?rq020
                    case yq020 => (intro w hSw; go_simp; try with_reducible rfl)
                    try simp only [Act.put, List.setIfInBounds_toArray, List.set_cons_zero, List.set_cons_succ]
                    refine wpAnyH_take (i := 20) (oi := { dst := some 198, op := Op.fieldAddr 46 (Operand.tmp 197) 2, type := 0, pos := "ref.go:149", after := #[{ on := 19, ground := Ground.data }, { on := 13, ground := Ground.guard }], guard := some (13, true) }) (v := ?vq021) rfl (by kernel_rfl) (by kernel_rfl) (by kernel_rfl) (fun _ _ _ h => h) (Or.inl ⟨by rfl, ?yq021⟩) (Below.refl _ _) ?rq021
                    case yq021 => (intro w hSw; go_simp; try with_reducible rfl)
                    try simp only [Act.put, List.setIfInBounds_toArray, List.set_cons_zero, List.set_cons_succ]
                    refine wpAnyH_take (i := 21) (oi := { dst := some 199, op := Op.load 44 (Operand.tmp 198), type := 44, pos := "ref.go:149", after := #[{ on := 20, ground := Ground.data }, { on := 13, ground := Ground.guard }], guard := some (13, true) }) (v := ?vq022) rfl (by kernel_rfl) (by kernel_rfl) (by kernel_rfl) (fun _ _ _ h => h) (Or.inl ⟨by rfl, ?yq022⟩) (Below.refl _ _) ?rq022
                    case yq022 => (intro w hSw; obtain ⟨⟨i3, i4, i5⟩, i0, i1⟩ := HQ.out w hSw; go_simp; try with_reducible rfl)
                    try simp only [Act.put, List.setIfInBounds_toArray, List.set_cons_zero, List.set_cons_succ]
                    refine wpAnyH_take (i := 22) (oi := { dst := some 200, op := Op.convert 44 9 (Operand.tmp 199), type := 9, pos := "ref.go:149", after := #[{ on := 21, ground := Ground.data }, { on := 13, ground := Ground.guard }], guard := some (13, true) }) (v := ?vq023) rfl (by kernel_rfl) (by kernel_rfl) (by kernel_rfl) (fun _ _ _ h => h) (Or.inl ⟨by rfl, ?yq023⟩) (Below.refl _ _) ?rq023
                    case yq023 => (intro w hSw; have v := V2.out w hSw; go_simp; try with_reducible rfl)
                    try simp only [Act.put, List.setIfInBounds_toArray, List.set_cons_zero, List.set_cons_succ]
                    refine wpAnyH_take (i := 23) (oi := { dst := some 201, op := Op.binOp BinOp.eql 9 (Operand.tmp 194) (Operand.tmp 200) 9, type := 4, pos := "ref.go:149", after := #[{ on := 16, ground := Ground.data }, { on := 22, ground := Ground.data }, { on := 13, ground := Ground.guard }], guard := some (13, true) }) (v := ?vq024) rfl (by kernel_rfl) (by kernel_rfl) (by kernel_rfl) (fun _ _ _ h => h) (Or.inl ⟨by rfl, ?yq024⟩) (Below.refl _ _) ?rq024
                    case yq024 => (intro w hSw; have v := tz; go_simp; try with_reducible rfl)
                    try simp only [Act.put, List.setIfInBounds_toArray, List.set_cons_zero, List.set_cons_succ]
                    refine wpAnyH_take (i := 24) (oi := { dst := some 202, op := Op.pick (Operand.tmp 191) (Operand.tmp 201) (Operand.const (Value.bool false)), type := 4, pos := "ref.go:149", after := #[{ on := 13, ground := Ground.data }, { on := 23, ground := Ground.data }, { on := 6, ground := Ground.guard }], guard := some (6, true) }) (v := ?vq025) rfl (by kernel_rfl) (by kernel_rfl) (by kernel_rfl) (fun _ _ _ h => h) (Or.inl ⟨by rfl, ?yq025⟩) (Below.refl _ _) ?rq025
                    case yq025 => (intro w hSw; go_simp; try with_reducible rfl)
                    try simp only [Act.put, List.setIfInBounds_toArray, List.set_cons_zero, List.set_cons_succ]
                    refine wpAnyH_take (i := 25) (oi := { dst := some 203, op := Op.unOp UnOp.not 4 (Operand.tmp 202), type := 4, pos := "ref.go:149", after := #[{ on := 24, ground := Ground.data }, { on := 6, ground := Ground.guard }], guard := some (6, true) }) (v := ?vq026) rfl (by kernel_rfl) (by kernel_rfl) (by kernel_rfl) (fun _ _ _ h => h) (Or.inl ⟨by rfl, ?yq026⟩) (Below.refl _ _) ?rq026
                    case yq026 => (intro w hSw; go_simp; try with_reducible rfl)
                    try simp only [Act.put, List.setIfInBounds_toArray, List.set_cons_zero, List.set_cons_succ]
                    refine wpAnyH_take (i := 26) (oi := { dst := some 204, op := Op.pick (Operand.tmp 184) (Operand.tmp 203) (Operand.const (Value.bool false)), type := 4, pos := "ref.go:149", after := #[{ on := 6, ground := Ground.data }, { on := 25, ground := Ground.data }], guard := none }) (v := ?vq027) rfl (by kernel_rfl) (by kernel_rfl) (by kernel_rfl) (fun _ _ _ h => h) (Or.inl ⟨by rfl, ?yq027⟩) (Below.refl _ _) ?rq027
                    case yq027 => (intro w hSw; go_simp; try with_reducible rfl)
                    try simp only [Act.put, List.setIfInBounds_toArray, List.set_cons_zero, List.set_cons_succ]
                    refine wpAnyH_done (by kernel_rfl) ?_ _
                    obtain ⟨s9, b9⟩ := FSB.out _ (Below.refl _ _)
                    have S9 : Hid (RS u0 w3.heap.size (.slice oa nv oc) L) := s9
                    have B9 : Hid (Below w3.heap.size w3 u0) := b9
                    obtain ⟨⟨k9, -, -⟩, -, -⟩ := HQ.out _ (Below.refl _ _)
                    clear s9 b9 V1 V2 tz HQ FSB S7 B7 c1 c2 c3 y0 y1 y2
                    have NX2 : Hid (K4 (t' + 1) = L ++ [⟨3, xp, ⟨#[]⟩⟩]) := NX.out
                    clear NX
                    go_wp2_with (at_builtin; refine wpList_append_rs rfl _ _ rfl _ L rfl S9.out ⟨3, xp, ⟨#[]⟩⟩ rfl (by have := LL.out; omega) B9.out (Hid.out ?_))
                    unfold Hid
                    intro v10 w10 s10 b10
                    have SY : Hid (RS w10 w3.heap.size v10 (K4 (t' + 1))) := by unfold Hid; rw [NX2.out]; exact s10
                    have BY : Hid (Below w3.heap.size w3 w10) := b10
                    clear s10 b10
                    go_wp2
                    go_roundw
                    case rel => exact ⟨t' + 1, by omega, by go_num, SY.out, BY.out⟩
                    case measure => simp [intOf] <;> omega
                · obtain rfl : t' = n := by omega
                  have B7 : Hid (Below w.heap.size w wr) := HBW.out wr HB.out
                  have S7 : Hid (RS wr w.heap.size (.slice oa nv oc) (K4 t')) := HO.out.mono (HBW.out w3 (Below.refl _ _)).size
                  go_wp2
                  go_ret2
                  exact ⟨_, by rw [HRF.out]; rfl, by rw [HRF.out]; exact S7.out, B7.out⟩
end Go.Proofs.YtajcabfeabbknaaGreatDoor
