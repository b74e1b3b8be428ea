/-
  What the document's laid answers.
-/
import Derived.Test.YtajcabfeabbknaaGreatDoorRx
import Derived.Test.YtajcabfeabbknaaGreatDoorWn
import Derived.Deep.RegionHeld3
namespace Go.Proofs.YtajcabfeabbknaaGreatDoor
open Go.RowKit
set_option maxRecDepth 100000

theorem rst_fold (l : List En) (x : En) : ∀ j, j ≤ l.length → rst l x j = (l.take j).foldl (ladS x) ([], false)
  | 0, _ => by simp [rst]
  | j + 1, hj => by
    rw [rst_next, rst_fold l x j (by omega), take_next l j (by omega), List.foldl_append]
    generalize (l.take j).foldl (ladS x) ([], false) = o
    obtain ⟨o1, o2⟩ := o
    simp only [List.foldl_cons, List.foldl_nil]
    unfold ladS cut1
    generalize les (atE l j).k x.k = b
    cases o2 <;> cases b <;> simp
theorem rins_lad (l : List En) (x : En) : rins l x = rlad l x := by
  unfold rins rlad
  rw [rst_fold l x l.length (Nat.le_refl _), List.take_of_length_le (Nat.le_refl _)]
theorem rlad_len (l : List En) (x : En) : (rlad l x).length ≤ l.length + 1 := by
  rw [← rins_lad]
  have := rst_len l x l.length
  unfold rins
  cases hd : (rst l x l.length).2 with
  | true =>
    rw [hd] at this
    simp at this ⊢
    omega
  | false =>
    rw [hd] at this
    simp at this ⊢
    omega
theorem rlad_mem {l : List En} {x y : En} (h : y ∈ rlad l x) : y = x ∨ y ∈ l := by
  rw [← rins_lad] at h
  unfold rins at h
  split at h
  · exact rst_mem l x _ (Nat.le_refl _) y h
  · rw [List.mem_append, List.mem_singleton] at h
    rcases h with h | rfl
    · exact rst_mem l x _ (Nat.le_refl _) y h
    · exact .inl rfl
set_option maxHeartbeats 8000000 in
theorem rlaid_any (v u : Value) (l : List En) (x : En) (w : World) (h : ES w v l) (hl : Lw l) (hn : l.length ≤ 300) (hx : EV w u x) (hs : x.p.size ≤ 1000) :
    Calls Tryz.prog 28 #[v, u] w fun e w' => ∃ v', e = .returned v' ∧ ES w' v' (rlad l x) ∧ Below w.heap.size w w' := by
  obtain ⟨a, c, rfl, g2, _, _⟩ := h.shape
  obtain ⟨ua, un, uc, rfl, sl⟩ := hx
  have HS : Hid (ES w (.slice a l.length c) l) := h
  obtain ⟨W3, hW3⟩ : ∃ W1, W1 = w.alloc (.cells #[.string x.p, .bool x.d, .slice ua un uc] 46) := ⟨_, rfl⟩
  have b1 : Below w.heap.size w W3 := by rw [hW3]; exact (Below.refl _ _).alloc (Nat.le_refl _) _
  have B3 : Hid (Below w.heap.size w W3) := b1
  have K1 : Hid (W3.heap[w.heap.size]? = some (.cells #[.string x.p, .bool x.d, .slice ua un uc] 46 (0, 0))) := by unfold Hid; rw [hW3]; exact heap_alloc_new _ _
  have HXC : Hid (∀ W, Below W3.heap.size W3 W → W.cell? ⟨w.heap.size, 0, none⟩ = some (.string x.p) ∧ W.cell? ⟨w.heap.size, 1, none⟩ = some (.bool x.d) ∧ W.cell? ⟨w.heap.size, 2, none⟩ = some (.slice ua un uc)) := fun W hb => by
    obtain ⟨q0, q1, q2, -, -, -⟩ := trio ((hb.block _ (lt_of_block K1.out)).trans K1.out)
    exact ⟨q0, q1, q2⟩
  have CL : Hid (∀ j W, Calls Tryz.prog 61 #[.string (atE l j).p, .string x.p] W fun e w' => e = .returned (.bool (les (atE l j).k x.k)) ∧ Below W.heap.size W w') := fun j W => rless_any _ _ W (by have := hl.at j; omega) (by omega)
  have HEQ : Hid (∀ j, ((atE l j).p.toList == x.p.toList) = decide ((atE l j).k = x.k)) := fun j => by
    rw [tl_beq]
    exact congrFun (fp_eq x.p) (atE l j)
  have HINS : Hid (rlad l x = if (rst l x l.length).2 then (rst l x l.length).1 else (rst l x l.length).1 ++ [x]) := by unfold Hid; rw [← rins_lad]; rfl
  have HLEN : Hid (∀ j, (rst l x j).1.length ≤ j + 1) := fun j => by
    have := rst_len l x j
    omega
  have S3 : Hid (ES W3 (.slice a l.length c) l) := h.kept b1
  have X3 : Hid (Sl W3 (.slice ua un uc) x.z) := sl.kept b1
  obtain ⟨M, hM⟩ : ∃ M, M = rlad l x := ⟨_, rfl⟩
  rw [← hM] at HINS ⊢
  clear hM
  obtain ⟨n, hn'⟩ : ∃ n, n = l.length := ⟨_, rfl⟩
  have HN : Hid (n = l.length) := hn'
  rw [← hn'] at HS S3 HINS g2 hn ⊢
  generalize hxp : x.p = xp at *
  generalize hxd : x.d = xd at *
  have HXP : Hid (x.p = xp) := hxp
  have HXD : Hid (x.d = xd) := hxd
  clear h hl hn' b1 hs sl hxp hxd K1
  go_enter Tryz.func28, Tryz.ntmps28
  go_wp2_with fail
  rw [← hW3]
  clear hW3
  go_loopw [5, 6, 7] (fun s dv qv wr => ∃ j : Nat, j ≤ n ∧ qv = .int .i64 j ∧ dv = .bool (rst l x j).2 ∧ SE W3 wr W3.heap.size s (rst l x j).1 ∧ Below W3.heap.size W3 wr) (fun _ _ qv _ => n - (intOf qv).toNat)
  case atStart => exact ⟨0, by omega, rfl, rfl, SE.nil _ _ _, Below.refl _ _⟩
  case round =>
    obtain ⟨j, hj, rfl, rfl, se, bel⟩ := hrel
    have HB : Hid (Below W3.heap.size W3 wr) := bel
    have HO : Hid (SE W3 wr W3.heap.size u5 (rst l x j).1) := se
    obtain ⟨va, vc, rfl⟩ := se.shape
    obtain ⟨nv, hnv⟩ : ∃ nv, nv = (rst l x j).1.length := ⟨_, rfl⟩
    have HJ : Hid (nv = (rst l x j).1.length) := hnv
    have hj9 : nv ≤ 400 := by
      have := HLEN.out j
      omega
    rw [← hnv] at HO ⊢
    clear bel se hnv
    obtain ⟨p0, p1, p2⟩ := HXC.out wr HB.out
    by_cases hlt : j < n
    · have lt2 : (j : Int) < (n : Int) := by omega
      have g0 : (0 : Int) ≤ (j : Int) := by omega
      obtain ⟨b, off, za, zn, zc, rfl, d1, d2, d3, hun, hsl⟩ := S3.out.at j (by rw [← HN.out]; exact hlt)
      have HC : Hid (∀ W, Below W3.heap.size W3 W → W.cell? ⟨b, off + j * 3, none⟩ = some (.string (atE l j).p) ∧ W.cell? ⟨b, off + j * 3 + 1, none⟩ = some (.bool (atE l j).d) ∧ W.cell? ⟨b, off + j * 3 + 2, none⟩ = some (.slice za zn zc)) := fun W hb => ⟨(hb.cell (World.block_lt_of_cell? _ _ d1)).trans d1, (hb.cell (World.block_lt_of_cell? _ _ d2)).trans d2, (hb.cell (World.block_lt_of_cell? _ _ d3)).trans d3⟩
      have q1 : IntKind.i64.wrap ((j : Int) + 1) = ((j + 1 : Nat) : Int) := by simp [IntKind.wrap, IntKind.bits, IntKind.signed]; omega
      have tq := HEQ.out j
      have ZX : Hid (Sl W3 (.slice za zn zc) (atE l j).z) := hsl
      have NXT : Hid (rst l x (j + 1) = ((if decide ((atE l j).k = x.k) then (if cut1 l x (rst l x j).2 j then (rst l x j).1 ++ [x] else (rst l x j).1) else (if cut1 l x (rst l x j).2 j then (rst l x j).1 ++ [x] else (rst l x j).1) ++ [atE l j]), (rst l x j).2 || cut1 l x (rst l x j).2 j)) := by
        unfold Hid
        rw [rst_next]
        by_cases he : (atE l j).k = x.k
        · rw [if_neg (by simpa using he), decide_eq_true he, if_pos rfl]
        · rw [if_pos he, decide_eq_false he]
          rfl
      have HCT : Hid (cut1 l x (rst l x j).2 j = (!(rst l x j).2 && !les (atE l j).k x.k)) := rfl
      have cl : Hid (∀ W, Calls Tryz.prog 61 #[.string (atE l j).p, .string xp] W fun e w' => e = .returned (.bool (les (atE l j).k x.k)) ∧ Below W.heap.size W w') := CL.out j
      obtain ⟨c1, c2, c3⟩ := HC.out wr HB.out
      clear hun hsl d1 d2 d3
      generalize cut1 l x (rst l x j).2 j = ct at *
      generalize les (atE l j).k x.k = r2 at *
      generalize (rst l x j).2 = dn at *
      generalize (rst l x j).1 = L at *
      generalize decide ((atE l j).k = x.k) = rb at *
      generalize hy : atE l j = y at *
      clear hy
      cases dn with
      | true =>
        have hct : ct = false := HCT.out
        subst hct
        go_wp2_with fail
        go_quiet (fail)
        have bq : Below wr.heap.size wr (wr.drewN nq) := ⟨rfl, rfl, rfl, Nat.le_refl _, fun _ _ => rfl⟩
        have B5 : Hid (Below W3.heap.size W3 (wr.drewN nq)) := HB.out.trans (bq.mono HB.out.size)
        have S5 : Hid (SE W3 (wr.drewN nq) W3.heap.size (.slice va nv vc) L) := HO.out.below bq
        generalize wr.drewN nq = w5 at *
        clear bq HO HB p0 p1 p2 c1 c2 c3 HCT
        have NX : Hid (rst l x (j + 1) = ((if rb then L else L ++ [y]), true)) := NXT.out
        clear NXT
        obtain ⟨p0, p1, p2⟩ := HXC.out w5 B5.out
        obtain ⟨c1, c2, c3⟩ := HC.out w5 B5.out
        cases rb with
        | true =>
          have NX2 : Hid (rst l x (j + 1) = (L, true)) := NX.out
          clear NX
          go_wp2_with fail
          go_quiet (fail)
          have bq : Below w5.heap.size w5 (w5.drewN nq) := ⟨rfl, rfl, rfl, Nat.le_refl _, fun _ _ => rfl⟩
          have BZ : Hid (Below W3.heap.size W3 (w5.drewN nq)) := B5.out.trans (bq.mono B5.out.size)
          have SZ : Hid (SE W3 (w5.drewN nq) W3.heap.size (.slice va nv vc) (rst l x (j + 1)).1) := by
            unfold Hid
            rw [NX2.out]
            exact S5.out.below bq
          clear bq S5 B5
          go_wp2
          go_roundw
          case rel => exact ⟨j + 1, by omega, by go_num, by rw [NX2.out], SZ.out, BZ.out⟩
          case measure => simp [intOf]; omega
        | false =>
          have NX2 : Hid (rst l x (j + 1) = (L ++ [y], true)) := NX.out
          clear NX
          go_wp2_with fail
          go_quiet (fail)
          have bq : Below w5.heap.size w5 (w5.drewN nq) := ⟨rfl, rfl, rfl, Nat.le_refl _, fun _ _ => rfl⟩
          have BZ : Hid (Below W3.heap.size W3 (w5.drewN nq)) := B5.out.trans (bq.mono B5.out.size)
          have SZ : Hid (SE W3 (w5.drewN nq) W3.heap.size (.slice va nv vc) (L)) := S5.out.below bq
          generalize w5.drewN nq = w7 at *
          clear bq S5 B5 p0 p1 p2 c1 c2 c3
          obtain ⟨c1, c2, c3⟩ := HC.out w7 BZ.out
          go_wp2_with (at_builtin; refine wpList_append_se rfl _ _ rfl _ (L) rfl SZ.out y _ ZX.out rfl (by rw [← HJ.out]; omega) BZ.out (Hid.out ?_))
          unfold Hid
          intro v8 w8 s8 b8
          have SY : Hid (SE W3 w8 W3.heap.size v8 (rst l x (j + 1)).1) := by unfold Hid; rw [NX2.out]; simpa using s8
          have BY : Hid (Below W3.heap.size W3 w8) := b8
          clear s8 b8 SZ BZ
          go_wp2
          go_roundw
          case rel => exact ⟨j + 1, by omega, by go_num, by rw [NX2.out], SY.out, BY.out⟩
          case measure => simp [intOf]; omega
      | false =>
        have kk : wr.cell? ⟨b, off + j * 3, none⟩ = some (.string y.p) ∧ wr.cell? ⟨w.heap.size, 0, none⟩ = some (.string xp) := ⟨c1, p0⟩
        have kd : wr.drew.cell? ⟨b, off + j * 3, none⟩ = some (.string y.p) ∧ wr.drew.cell? ⟨w.heap.size, 0, none⟩ = some (.string xp) := ⟨c1, p0⟩
        have clw := cl.out wr.drew
        generalize hyp : y.p = yp at *
        have HYP : Hid (y.p = yp) := hyp
        clear hyp
        cases r2 with
        | true =>
          have hct : ct = false := HCT.out
          subst hct
          go_wp2_with fail
          go_region_held3 (fun W => W.cell? ⟨b, off + j * 3, none⟩ = some (.string yp) ∧ W.cell? ⟨w.heap.size, 0, none⟩ = some (.string xp)) (first | exact kk | exact kd | exact k5) (first
            | (go_at_call 61; refine clw.mono ?_; rintro e w5 ⟨rfl, b5⟩; have d5 : Below wr.heap.size wr w5 := (Below.refl wr.heap.size wr).drew.trans b5; have k5 : w5.cell? ⟨b, off + j * 3, none⟩ = some (.string yp) ∧ w5.cell? ⟨w.heap.size, 0, none⟩ = some (.string xp) := ⟨(d5.cell (World.block_lt_of_cell? _ _ kk.1)).trans kk.1, (d5.cell (World.block_lt_of_cell? _ _ kk.2)).trans kk.2⟩))
          have B5 : Hid (Below W3.heap.size W3 w5) := HB.out.trans (d5.mono HB.out.size)
          have S5 : Hid (SE W3 w5 W3.heap.size (.slice va nv vc) L) := HO.out.below d5
          clear p0 p1 p2 c1 c2 c3 HCT HO HB clw b5 d5 kk kd k5
          have hyp := HYP.out
          subst hyp
          have NX : Hid (rst l x (j + 1) = ((if rb then L else L ++ [y]), false)) := NXT.out
          clear NXT
          obtain ⟨p0, p1, p2⟩ := HXC.out w5 B5.out
          obtain ⟨c1, c2, c3⟩ := HC.out w5 B5.out
          cases rb with
          | true =>
            have NX2 : Hid (rst l x (j + 1) = (L, false)) := NX.out
            clear NX
            go_wp2_with fail
            go_quiet (fail)
            have bq : Below w5.heap.size w5 (w5.drewN nq) := ⟨rfl, rfl, rfl, Nat.le_refl _, fun _ _ => rfl⟩
            have BZ : Hid (Below W3.heap.size W3 (w5.drewN nq)) := B5.out.trans (bq.mono B5.out.size)
            have SZ : Hid (SE W3 (w5.drewN nq) W3.heap.size (.slice va nv vc) (rst l x (j + 1)).1) := by
              unfold Hid
              rw [NX2.out]
              exact S5.out.below bq
            clear bq S5 B5
            go_wp2
            go_roundw
            case rel => exact ⟨j + 1, by omega, by go_num, by rw [NX2.out], SZ.out, BZ.out⟩
            case measure => simp [intOf]; omega
          | false =>
            have NX2 : Hid (rst l x (j + 1) = (L ++ [y], false)) := NX.out
            clear NX
            go_wp2_with fail
            go_quiet (fail)
            have bq : Below w5.heap.size w5 (w5.drewN nq) := ⟨rfl, rfl, rfl, Nat.le_refl _, fun _ _ => rfl⟩
            have BZ : Hid (Below W3.heap.size W3 (w5.drewN nq)) := B5.out.trans (bq.mono B5.out.size)
            have SZ : Hid (SE W3 (w5.drewN nq) W3.heap.size (.slice va nv vc) (L)) := S5.out.below bq
            generalize w5.drewN nq = w7 at *
            clear bq S5 B5 p0 p1 p2 c1 c2 c3
            obtain ⟨c1, c2, c3⟩ := HC.out w7 BZ.out
            go_wp2_with (at_builtin; refine wpList_append_se rfl _ _ rfl _ (L) rfl SZ.out y _ ZX.out rfl (by rw [← HJ.out]; omega) BZ.out (Hid.out ?_))
            unfold Hid
            intro v8 w8 s8 b8
            have SY : Hid (SE W3 w8 W3.heap.size v8 (rst l x (j + 1)).1) := by unfold Hid; rw [NX2.out]; simpa using s8
            have BY : Hid (Below W3.heap.size W3 w8) := b8
            clear s8 b8 SZ BZ
            go_wp2
            go_roundw
            case rel => exact ⟨j + 1, by omega, by go_num, by rw [NX2.out], SY.out, BY.out⟩
            case measure => simp [intOf]; omega
        | false =>
          have hct : ct = true := HCT.out
          subst hct
          go_wp2_with fail
          go_region_held3 (fun W => W.cell? ⟨b, off + j * 3, none⟩ = some (.string yp) ∧ W.cell? ⟨w.heap.size, 0, none⟩ = some (.string xp)) (first | exact kk | exact kd | exact k5) (first
            | (go_at_call 61; refine clw.mono ?_; rintro e w5 ⟨rfl, b5⟩; have d5 : Below wr.heap.size wr w5 := (Below.refl wr.heap.size wr).drew.trans b5; have k5 : w5.cell? ⟨b, off + j * 3, none⟩ = some (.string yp) ∧ w5.cell? ⟨w.heap.size, 0, none⟩ = some (.string xp) := ⟨(d5.cell (World.block_lt_of_cell? _ _ kk.1)).trans kk.1, (d5.cell (World.block_lt_of_cell? _ _ kk.2)).trans kk.2⟩))
          have B5 : Hid (Below W3.heap.size W3 w5) := HB.out.trans (d5.mono HB.out.size)
          have S5 : Hid (SE W3 w5 W3.heap.size (.slice va nv vc) L) := HO.out.below d5
          clear p0 p1 p2 c1 c2 c3 HCT HO HB clw b5 d5 kk kd k5
          obtain ⟨p0, p1, p2⟩ := HXC.out w5 B5.out
          have hyp := HYP.out
          subst hyp
          have exp := HXP.out
          have exd := HXD.out
          subst exp exd
          go_wp2_with (at_builtin; refine wpList_append_se rfl _ _ rfl _ L rfl S5.out x _ X3.out rfl (by rw [← HJ.out]; omega) B5.out (Hid.out ?_))
          unfold Hid
          intro v6 w6 s6 b6
          obtain ⟨va6, vc6, rfl⟩ := s6.shape
          have S6 : Hid (SE W3 w6 W3.heap.size (.slice va6 (L ++ [x]).length vc6) (L ++ [x])) := s6
          have B6 : Hid (Below W3.heap.size W3 w6) := b6
          clear s6 b6 S5 B5 p0 p1 p2
          obtain ⟨nv6, hnv6⟩ : ∃ nv6, nv6 = (L ++ [x]).length := ⟨_, rfl⟩
          have hnv7 : nv6 ≤ 401 := by
            rw [hnv6, List.length_append, ← HJ.out]
            simp
            omega
          have HJ6 : Hid (nv6 = (L ++ [x]).length) := hnv6
          rw [← hnv6] at S6 ⊢
          clear hnv6
          have NX : Hid (rst l x (j + 1) = ((if rb then L ++ [x] else L ++ [x] ++ [y]), true)) := NXT.out
          clear NXT
          obtain ⟨p0, p1, p2⟩ := HXC.out w6 B6.out
          obtain ⟨c1, c2, c3⟩ := HC.out w6 B6.out
          cases rb with
          | true =>
            have NX2 : Hid (rst l x (j + 1) = (L ++ [x], true)) := NX.out
            clear NX
            go_wp2_with fail
            go_quiet (fail)
            have bq : Below w6.heap.size w6 (w6.drewN nq) := ⟨rfl, rfl, rfl, Nat.le_refl _, fun _ _ => rfl⟩
            have BZ : Hid (Below W3.heap.size W3 (w6.drewN nq)) := B6.out.trans (bq.mono B6.out.size)
            have SZ : Hid (SE W3 (w6.drewN nq) W3.heap.size (.slice va6 nv6 vc6) (rst l x (j + 1)).1) := by
              unfold Hid
              rw [NX2.out]
              exact S6.out.below bq
            clear bq S6 B6
            go_wp2
            go_roundw
            case rel => exact ⟨j + 1, by omega, by go_num, by rw [NX2.out], SZ.out, BZ.out⟩
            case measure => simp [intOf]; omega
          | false =>
            have NX2 : Hid (rst l x (j + 1) = (L ++ [x] ++ [y], true)) := NX.out
            clear NX
            go_wp2_with fail
            go_quiet (fail)
            have bq : Below w6.heap.size w6 (w6.drewN nq) := ⟨rfl, rfl, rfl, Nat.le_refl _, fun _ _ => rfl⟩
            have BZ : Hid (Below W3.heap.size W3 (w6.drewN nq)) := B6.out.trans (bq.mono B6.out.size)
            have SZ : Hid (SE W3 (w6.drewN nq) W3.heap.size (.slice va6 nv6 vc6) (L ++ [x])) := S6.out.below bq
            generalize w6.drewN nq = w7 at *
            clear bq S6 B6 p0 p1 p2 c1 c2 c3
            obtain ⟨c1, c2, c3⟩ := HC.out w7 BZ.out
            go_wp2_with (at_builtin; refine wpList_append_se rfl _ _ rfl _ (L ++ [x]) rfl SZ.out y _ ZX.out rfl (by rw [← HJ6.out]; omega) BZ.out (Hid.out ?_))
            unfold Hid
            intro v8 w8 s8 b8
            have SY : Hid (SE W3 w8 W3.heap.size v8 (rst l x (j + 1)).1) := by unfold Hid; rw [NX2.out]; simpa using s8
            have BY : Hid (Below W3.heap.size W3 w8) := b8
            clear s8 b8 SZ BZ
            go_wp2
            go_roundw
            case rel => exact ⟨j + 1, by omega, by go_num, by rw [NX2.out], SY.out, BY.out⟩
            case measure => simp [intOf]; omega
    · obtain rfl : j = n := by omega
      have HINS2 : Hid (M = if (rst l x j).2 then (rst l x j).1 else (rst l x j).1 ++ [x]) := HINS.out
      clear HINS
      generalize (rst l x j).2 = dn at *
      generalize (rst l x j).1 = L at *
      cases dn with
      | true =>
        have EM : Hid (ES wr (.slice va nv vc) M) := by
          have h1 := HO.out.es HB.out
          unfold Hid
          rw [HINS2.out]
          exact h1
        have B7 : Hid (Below w.heap.size w wr) := B3.out.trans (HB.out.mono B3.out.size)
        clear HO HJ HINS2 p0 p1 p2
        go_wp2
        go_ret
        exact ⟨_, rfl, EM.out, B7.out⟩
      | false =>
        have HINS3 : Hid (M = L ++ [x]) := HINS2.out
        have exp := HXP.out
        have exd := HXD.out
        subst exp exd
        go_wp2_with (at_builtin; refine wpList_append_se rfl _ _ rfl _ L rfl HO.out x _ X3.out rfl (by rw [← HJ.out]; omega) HB.out (Hid.out ?_))
        unfold Hid
        intro v6 w6 s6 b6
        have e7 : ES w6 v6 M := by
          have h1 := s6.es b6
          rw [HINS3.out]
          exact h1
        have B7 : Hid (Below w.heap.size w w6) := B3.out.trans (b6.mono B3.out.size)
        have E7 : Hid (ES w6 v6 M) := e7
        obtain ⟨va6, vc6, rfl, -⟩ := e7.shape
        clear s6 b6 e7 HO HJ HINS2 HINS3 p0 p1 p2
        generalize M.length = nM at *
        go_wp2
        go_ret
        exact ⟨_, rfl, E7.out, B7.out⟩
end Go.Proofs.YtajcabfeabbknaaGreatDoor
