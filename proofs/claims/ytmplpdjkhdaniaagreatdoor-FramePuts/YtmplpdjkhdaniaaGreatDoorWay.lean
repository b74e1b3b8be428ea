/-
  What Put lays.
-/
import Derived.Sort.CutIn
import Derived.Test.YtmplpdjkhdaniaaGreatDoorWax
namespace Go.Proofs.YtmplpdjkhdaniaaGreatDoor
open Go.RowKit Go.Shelf
set_option maxRecDepth 100000

attribute [local go_sem] Oper.semAt_some
/-- No panic. -/
def noP (Q : Exit → Act → World → Prop) : Exit → Act → World → Prop
  | .panic _, _, _ => False
  | e, a, w => Q e a w
theorem noP_le {Q : Exit → Act → World → Prop} : ∀ e a w, noP Q e a w → Q e a w := fun e a w h => by
  cases e <;> first | exact h | exact h.elim
def PB' (W : World) (k N : Nat) (u0 vv : Value) (V : List Value) (ZZ : List (List Int)) : Prop := W.heap[k]? = some (.cells #[u0] 96 (0, 0)) ∧ PV W N vv V ZZ
theorem PB'.cell {W : World} {k N : Nat} {u0 vv : Value} {V : List Value} {ZZ : List (List Int)} (h : PB' W k N u0 vv V ZZ) : W.cell? ⟨k, 0, none⟩ = some u0 := by have := h.1; simp [World.cell?, this]
theorem PB'.frz {W : World} {k N : Nat} {u0 vv : Value} {V : List Value} {ZZ : List (List Int)} (h : PB' W k N u0 vv V ZZ) : W.frozen? ⟨k, 0, none⟩ = false := by have := h.1; simp [World.frozen?, this]
theorem PB'.set {W : World} {k N : Nat} {u0 vv : Value} {V : List Value} {ZZ : List (List Int)} (h : PB' W k N u0 vv V ZZ) : PB (W.setCell ⟨k, 0, none⟩ vv) k N vv V ZZ :=
  ⟨set_one h.1, h.2.keep (fun j cs t ht hh => by
    rw [Below.heap_setCell _ _ _ _ (fun e => by
      have e' : j = k := e
      have := h.1
      rw [e'] at hh
      rw [hh] at this
      cases this
      rcases ht with ht | ht <;> revert ht <;> decide)]
    exact hh)⟩
set_option maxHeartbeats 8000000 in
theorem put_yes (w : World) (a : Option Addr) (c : Nat) (l : List Sp) (hw : Fi.Wid w) (hu : SSp w (.slice a l.length c) l) (hur : ∀ k, rowB (.slice a l.length c) = some k → k < w.heap.size) (hc : Canon l) (h0 : l ≠ []) (h64 : l.length ≤ 64) :
    Calls Tryz.prog 47 #[.slice a l.length c] w fun e w' => ∃ v', e = .returned (.tuple #[v', .int .i64 0]) ∧ Ow w' w.heap.size v' (putB l) ∧ Below w.heap.size w w' := by
  have b1 : Below w.heap.size w (w.alloc (.cells #[.slice a l.length c] 23)) := al_below _ _
  have cc := check_any _ _ l (hu.kept b1) (by omega)
  have hck : chkL l = 0 := by unfold chkL; rw [if_neg (by omega), setL_canon hc, if_neg (fun e => e.elim h0 (fun e => e rfl))]
  rw [hck] at cc
  have hlp := List.length_pos_iff.2 h0
  obtain ⟨bb, off, rfl, -⟩ := hu.at 0 hlp
  obtain ⟨m, hm⟩ : ∃ m, m = l.length - 1 := ⟨_, rfl⟩
  have HM : Hid (m = l.length - 1) := hm
  have g1 : (w.alloc (.cells #[.slice (some ⟨bb, off, none⟩) l.length c] 23)).heap[w.heap.size]? = some (.cells #[.slice (some ⟨bb, off, none⟩) l.length c] 23 (0, 0)) := heap_alloc_new _ _
  have HG1 : Hid ((w.alloc (.cells #[.slice (some ⟨bb, off, none⟩) l.length c] 23)).heap[w.heap.size]? = some (.cells #[.slice (some ⟨bb, off, none⟩) l.length c] 23 (0, 0))) := g1
  have HU : Hid (SSp w (.slice (some ⟨bb, off, none⟩) l.length c) l) := hu
  have HW : Hid (Fi.Wid w) := hw
  have HC : Hid (Canon l) := hc
  have HB1 : Hid (Below w.heap.size w (w.alloc (.cells #[.slice (some ⟨bb, off, none⟩) l.length c] 23))) := b1
  have hbw : bb < w.heap.size := hur bb rfl
  have H0 : Hid (l ≠ []) := h0
  have hsz1 : (w.alloc (.cells #[.slice (some ⟨bb, off, none⟩) l.length c] 23)).heap.size = w.heap.size + 1 := by simp
  have HSZ1 : Hid ((w.alloc (.cells #[.slice (some ⟨bb, off, none⟩) l.length c] 23)).heap.size = w.heap.size + 1) := hsz1
  clear g1 hu hw hc hck h0 hur b1 hsz1
  obtain ⟨n, hn⟩ : ∃ n, n = l.length := ⟨_, rfl⟩
  have HN : Hid (n = l.length) := hn
  rw [← hn] at cc HG1 HU HB1 HSZ1 h64 hlp hm ⊢
  have hm1 : (n : Int) - 1 = (m : Int) := by omega
  have hwr : IntKind.i64.wrap ((n : Int) - 1) = (m : Int) := by rw [IntKind.wrap_i64]; omega
  have hmn : (m : Int) < (n : Int) := by omega
  clear hn hm
  obtain ⟨w1, hw1⟩ : ∃ w1, w1 = w.alloc (.cells #[.slice (some ⟨bb, off, none⟩) n c] 23) := ⟨_, rfl⟩
  rw [← hw1] at cc HG1 HB1 HSZ1
  refine (callsIn_wide (n := 9)).1 ?_
  refine callsIn_of_wp_marks Tryz.func47 rfl trivial ?_ rfl
  simp only [Tryz.ntmps47, List.size_toArray, List.length_cons, List.length_nil, Nat.reduceAdd, Nat.reduceSub, Array.replicate_succ, Array.replicate_zero, List.push_toArray, List.append_toArray, List.nil_append, List.cons_append]
  refine wpIn_mono (Q := noP (bodyPostM Fence.wide 9 Tryz.prog Tryz.f47 _)) ?_ noP_le
  refine wpIn_wide.2 ?_
  have k1 : w1.cell? ⟨w.heap.size, 0, none⟩ = some (.slice (some ⟨bb, off, none⟩) n c) := by have := HG1.out; simp [World.cell?, this]
  go_wp2_with fail
  rw [← hw1]
  clear hw1
  go_wp2_with fail
  refine cc.mono ?_
  rintro e w2 ⟨rfl, b2⟩
  have HB2 : Hid (Below w.heap.size w w2) := HB1.out.trans (b2.mono HB1.out.size)
  have HG2 : Hid (w2.heap[w.heap.size]? = some (.cells #[.slice (some ⟨bb, off, none⟩) n c] 23 (0, 0))) := blk_kept HG1.out b2 (blk_lt HG1.out)
  have k2 : w2.cell? ⟨w.heap.size, 0, none⟩ = some (.slice (some ⟨bb, off, none⟩) n c) := by have := HG2.out; simp [World.cell?, this]
  have HS2 : Hid (w.heap.size + 1 ≤ w2.heap.size) := by have := HSZ1.out; have := b2.size; unfold Hid; omega
  clear cc b2 k1 HG1 HB1 HSZ1
  obtain ⟨w3, hw3⟩ : ∃ w3, w3 = w2.alloc (.cells #[.int .i64 (m : Int)] 3) := ⟨_, rfl⟩
  have b3 : Below w2.heap.size w2 w3 := by rw [hw3]; exact al_below _ _
  have HG3 : Hid (w3.heap[w2.heap.size]? = some (.cells #[.int .i64 (m : Int)] 3 (0, 0))) := by unfold Hid; rw [hw3]; exact heap_alloc_new _ _
  have HL3 : Hid (w3.heap[w.heap.size]? = some (.cells #[.slice (some ⟨bb, off, none⟩) n c] 23 (0, 0))) := blk_kept HG2.out b3 (blk_lt HG2.out)
  have HS3 : Hid (w3.heap.size = w2.heap.size + 1) := by unfold Hid; rw [hw3]; simp
  have HB3 : Hid (Below w.heap.size w w3) := HB2.out.trans (b3.mono HB2.out.size)
  clear b3 HG2 HB2
  go_upto_region 5 with fail
  rw [← hw3]
  clear hw3 k2
  generalize hT : (atS l m).2 = T
  have HT : Hid ((atS l m).2 = T) := hT
  have FL : Hid (∀ x, From w3 x → x.cell? ⟨w.heap.size, 0, none⟩ = some (.slice (some ⟨bb, off, none⟩) n c) ∧ x.cell? ⟨w2.heap.size, 0, none⟩ = some (.int .i64 (m : Int)) ∧ x.cell? ⟨bb, off + m * 2 + 1, none⟩ = some (.int .i64 T)) := fun x hx => by
    have e1 := blk_kept HL3.out hx (blk_lt HL3.out)
    have e2 := blk_kept HG3.out hx (blk_lt HG3.out)
    obtain ⟨b', off', e, hr⟩ := (HU.out.kept (HB3.out.trans (Below.mono hx HB3.out.size))).at m (by rw [← HN.out]; omega)
    cases e
    exact ⟨by simp [World.cell?, e1], by simp [World.cell?, e2], by rw [← hT]; exact (spC hr).2⟩
  have FW : Hid (∀ x, From w3 x → Fi.Wid x) := fun x hx => (HW.out.below HB3.out HW.out.pos).below hx (Nat.lt_of_lt_of_le HW.out.pos HB3.out.size)
  have CT : Hid (∀ x, Fi.Wid x → Calls Tryz.prog 44 #[.int .i64 T] x fun r w' => ∃ v, r = .returned v ∧ Ow w' x.heap.size v (nB T) ∧ Below x.heap.size x w') := fun x hx => fnum_own T x hx
  have CM : Hid (∀ x, Fi.Wid x → Calls Tryz.prog 44 #[.int .i64 (m : Int)] x fun r w' => ∃ v, r = .returned v ∧ Ow w' x.heap.size v (nB (m : Int)) ∧ Below x.heap.size x w') := fun x hx => fnum_own (m : Int) x hx
  have HPS : Hid (prsA l [] = [nB T, nB (m : Int)]) := by
    unfold Hid prsA
    rw [← HM.out, hT]
    rfl
  clear hT HT
  generalize nB T = X1 at *
  generalize nB (m : Int) = X2 at *
  have lt5 : (m : Int) < (n : Int) := hmn
  go_cut [6] from 17 to 25 (fun s6 wx => ∃ kP vv V, s6 = .pointer (some ⟨kP, 0, none⟩) ∧ PB wx kP w3.heap.size vv V [X1, X2] ∧ w3.heap.size ≤ kP ∧ From w3 wx)
  case first =>
    refine wp_region_held_drew (S := From w3) (by kernel_rfl) (Below.drew (Below.refl _ _)) (fun _ => ?_)
    refine wpAnyH_name (fun u0 hu0 => ?_)
    have bu0 : Below w3.heap.size w3 u0 := by rw [hu0.out]; exact Below.drew (Below.refl _ _)
    refine wpAnyH_take (i := 0) (oi := { dst := some 17, op := Op.load 23 (Operand.tmp 1), type := 23, pos := "ranges.go:148", after := #[], guard := none }) (v := .slice (some ⟨bb, off, none⟩) n c) rfl (by kernel_rfl) (by kernel_rfl) (by kernel_rfl) (fun _ _ _ h => h) (Or.inl ⟨by rfl, ?yr1⟩) bu0 ?rr1
    case yr1 => (intro w hSw; obtain ⟨t0, t1, t2⟩ := FL.out w hSw; go_simp; try with_reducible rfl)
    try simp only [Act.put, List.setIfInBounds_toArray, List.set_cons_zero, List.set_cons_succ]
    refine wpAnyH_take (i := 1) (oi := { dst := some 18, op := Op.load 3 (Operand.tmp 5), type := 3, pos := "ranges.go:148", after := #[], guard := none }) (v := .int .i64 (m : Int)) rfl (by kernel_rfl) (by kernel_rfl) (by kernel_rfl) (fun _ _ _ h => h) (Or.inl ⟨by rfl, ?yr2⟩) bu0 ?rr2
    case yr2 => (intro w hSw; obtain ⟨t0, t1, t2⟩ := FL.out w hSw; go_simp; try with_reducible rfl)
    try simp only [Act.put, List.setIfInBounds_toArray, List.set_cons_zero, List.set_cons_succ]
    refine wpAnyH_take (i := 2) (oi := { dst := some 19, op := Op.indexAddr 23 (Operand.tmp 17) (Operand.tmp 18), type := 0, pos := "ranges.go:148", after := #[{ on := 0, ground := Ground.data }, { on := 1, ground := Ground.data }], guard := none }) (v := ?vr3) rfl (by kernel_rfl) (by kernel_rfl) (by kernel_rfl) (fun _ _ _ h => h) (Or.inl ⟨by rfl, ?yr3⟩) bu0 ?rr3
    case yr3 => (intro w hSw; go_simp; try with_reducible rfl)
    try simp only [Act.put, List.setIfInBounds_toArray, List.set_cons_zero, List.set_cons_succ]
    refine wpAnyH_take (i := 3) (oi := { dst := some 20, op := Op.fieldAddr 89 (Operand.tmp 19) 1, type := 0, pos := "ranges.go:148", after := #[{ on := 2, ground := Ground.data }], guard := none }) (v := ?vr4) rfl (by kernel_rfl) (by kernel_rfl) (by kernel_rfl) (fun _ _ _ h => h) (Or.inl ⟨by rfl, ?yr4⟩) bu0 ?rr4
    case yr4 => (intro w hSw; go_simp; try with_reducible rfl)
    try simp only [Act.put, List.setIfInBounds_toArray, List.set_cons_zero, List.set_cons_succ]
    refine wpAnyH_take (i := 4) (oi := { dst := some 21, op := Op.load 3 (Operand.tmp 20), type := 3, pos := "ranges.go:148", after := #[{ on := 3, ground := Ground.data }], guard := none }) (v := .int .i64 T) rfl (by kernel_rfl) (by kernel_rfl) (by kernel_rfl) (fun _ _ _ h => h) (Or.inl ⟨by rfl, ?yr5⟩) bu0 ?rr5
    case yr5 => (intro w hSw; obtain ⟨t0, t1, t2⟩ := FL.out w hSw; go_simp; try with_reducible rfl)
    try simp only [Act.put, List.setIfInBounds_toArray, List.set_cons_zero, List.set_cons_succ]
    refine wpAnyH_take (i := 6) (oi := { dst := some 23, op := Op.load 3 (Operand.tmp 5), type := 3, pos := "ranges.go:148", after := #[], guard := none }) (v := .int .i64 (m : Int)) rfl (by kernel_rfl) (by kernel_rfl) (by kernel_rfl) (fun _ _ _ h => h) (Or.inl ⟨by rfl, ?yr6⟩) bu0 ?rr6
    case yr6 => (intro w hSw; obtain ⟨t0, t1, t2⟩ := FL.out w hSw; go_simp; try with_reducible rfl)
    try simp only [Act.put, List.setIfInBounds_toArray, List.set_cons_zero, List.set_cons_succ]
    refine wpAnyH_ready (rs := [5, 9]) (by kernel_rfl) (by simp) ?_
    refine AllReadyH.cons (o := { dst := some 22, op := Op.call { callee := Callee.value (Operand.func 44), args := #[Operand.tmp 21], argTypes := #[3] }, type := 34, pos := "ranges.go:148", after := #[{ on := 4, ground := Ground.data }], guard := none }) rfl (fun KK hKK => ?_) ?_
    · have wdu7 := (FW.out _ bu0)
      go_simp
      refine (CT.out _ wdu7).mono ?_
      rintro e u7' ⟨vu7, rfl, ou7, bu7'⟩
      have ou7 := Ow.mono ou7 (Below.size bu0)
      obtain ⟨ta, tc, rfl⟩ := Ow.shape ou7
      (try go_wp2_with fail)
      refine hKK.out _ _ (bu0.trans (Below.mono (bu7') bu0.size)) (fun _ => ?_)
      clear hKK KK
      try simp only [Act.put, List.setIfInBounds_toArray, List.set_cons_zero, List.set_cons_succ]
      refine wpAnyH_name (fun u7 hu7 => ?_)
      have bu7 : Below w3.heap.size w3 u7 := by rw [hu7.out]; exact (bu0.trans (Below.mono (bu7') bu0.size))
      have qu7 : Below u0.heap.size u0 u7 := by rw [hu7.out]; exact (bu7')
      have O5 : Hid (Ow u7 w3.heap.size (.slice ta X1.length tc) X1) := by unfold Hid; rw [hu7.out]; exact ou7
      refine wpAnyH_ready (rs := [7, 9]) (by kernel_rfl) (by simp) ?_
      refine AllReadyH.cons (o := { dst := some 24, op := Op.call { callee := Callee.value (Operand.func 44), args := #[Operand.tmp 23], argTypes := #[3] }, type := 34, pos := "ranges.go:148", after := #[{ on := 6, ground := Ground.data }, { on := 5, ground := Ground.chain }], guard := none }) rfl (fun KK hKK => ?_) ?_
      · have wdu8 := (FW.out _ bu7)
        go_simp
        refine (CM.out _ wdu8).mono ?_
        rintro e u8' ⟨vu8, rfl, ou8, bu8'⟩
        have ou8 := Ow.mono ou8 (Below.size bu7)
        obtain ⟨sa, sc, rfl⟩ := Ow.shape ou8
        (try go_wp2_with fail)
        refine hKK.out _ _ (bu7.trans (Below.mono (bu8') bu7.size)) (fun _ => ?_)
        clear hKK KK
        try simp only [Act.put, List.setIfInBounds_toArray, List.set_cons_zero, List.set_cons_succ]
        refine wpAnyH_name (fun u8 hu8 => ?_)
        have bu8 : Below w3.heap.size w3 u8 := by rw [hu8.out]; exact (bu7.trans (Below.mono (bu8') bu7.size))
        have qu8 : Below u7.heap.size u7 u8 := by rw [hu8.out]; exact (bu8')
        have O7 : Hid (Ow u8 w3.heap.size (.slice sa X2.length sc) X2) := by unfold Hid; rw [hu8.out]; exact ou8
        have O57 : Hid (Ow u8 w3.heap.size (.slice ta X1.length tc) X1) := by first | exact O5.out.below qu8 | exact (O5.out.below qnope).below qu8
        refine wpAnyH_ready (rs := [8, 9]) (by kernel_rfl) (by simp) ?_
        refine AllReadyH.cons (o := { dst := some 25, op := Op.buildSlice 96 2 #[(0, Operand.tmp 22), (1, Operand.tmp 24)], type := 96, pos := "ranges.go:148", after := #[{ on := 5, ground := Ground.data }, { on := 7, ground := Ground.data }], guard := none }) rfl (fun KK hKK => ?_) ?_
        · have pu9 := PV.two (w := u8) (B := w3.heap.size) (by first | exact O57.out | exact O57.out.below qnope) (by first | exact O7.out | exact O7.out.below qnope) (Below.size bu8)
          go_simp
          refine hKK.out _ _ (bu8.trans (Below.mono (al_below _ _) bu8.size)) (fun _ => ?_)
          clear hKK KK
          try simp only [Act.put, List.setIfInBounds_toArray, List.set_cons_zero, List.set_cons_succ]
          refine wpAnyH_name (fun u9 hu9 => ?_)
          have bu9 : Below w3.heap.size w3 u9 := by rw [hu9.out]; exact (bu8.trans (Below.mono (al_below _ _) bu8.size))
          have qu9 : Below u8.heap.size u8 u9 := by rw [hu9.out]; exact (al_below _ _)
          rw [← hu9.out] at pu9
          have P8 : Hid (PV u9 w3.heap.size (.slice (some ⟨u8.heap.size, 0, none⟩) 2 2) [.slice ta X1.length tc, .slice sa X2.length sc] [X1, X2]) := pu9
          clear pu9
          refine wpAnyH_ready (rs := [9]) (by kernel_rfl) (by simp) ?_
          refine AllReadyH.cons (o := { dst := some 6, op := Op.alloc 96, type := 0, pos := "ranges.go:148", after := #[], guard := none }) rfl (fun KK hKK => ?_) ?_
          · go_simp
            refine hKK.out _ _ (bu9.trans (Below.mono (al_below _ _) bu9.size)) (fun _ => ?_)
            clear hKK KK
            try simp only [Act.put, List.setIfInBounds_toArray, List.set_cons_zero, List.set_cons_succ]
            refine wpAnyH_name (fun u10 hu10 => ?_)
            have bu10 : Below w3.heap.size w3 u10 := by rw [hu10.out]; exact (bu9.trans (Below.mono (al_below _ _) bu9.size))
            have qu10 : Below u9.heap.size u9 u10 := by rw [hu10.out]; exact (al_below _ _)
            have G9 : Hid (u10.heap[u9.heap.size]? = some (.cells #[.slice none 0 0] 96 (0, 0))) := by unfold Hid; rw [hu10.out]; exact heap_alloc_new _ _
            have S9 : Hid (w3.heap.size ≤ u9.heap.size) := Below.size bu9
            refine wpAnyH_ready (rs := [10]) (by kernel_rfl) (by simp) ?_
            refine AllReadyH.cons (o := { dst := none, op := Op.store 96 (Operand.tmp 6) (Operand.tmp 25), type := 0, pos := "ranges.go:148", after := #[{ on := 9, ground := Ground.data }, { on := 8, ground := Ground.data }, { on := 7, ground := Ground.chain }, { on := 0, ground := Ground.phase }, { on := 1, ground := Ground.phase }, { on := 2, ground := Ground.phase }, { on := 3, ground := Ground.phase }, { on := 4, ground := Ground.phase }, { on := 5, ground := Ground.phase }, { on := 6, ground := Ground.phase }, { on := 7, ground := Ground.phase }, { on := 8, ground := Ground.phase }, { on := 9, ground := Ground.phase }], guard := none }) rfl (fun KK hKK => ?_) ?_
            · have P10 : Hid (PB' u10 u9.heap.size w3.heap.size (.slice none 0 0) (.slice (some ⟨u8.heap.size, 0, none⟩) 2 2) [.slice ta X1.length tc, .slice sa X2.length sc] [X1, X2]) := ⟨by first | exact G9.out | exact blk_kept G9.out qu9 (blk_lt G9.out) | exact blk_kept (blk_kept G9.out qu8 (blk_lt G9.out)) qu9 (Nat.lt_of_lt_of_le (blk_lt G9.out) (Below.size qu8)) | exact blk_kept (blk_kept (blk_kept G9.out qu7 (blk_lt G9.out)) qu8 (Nat.lt_of_lt_of_le (blk_lt G9.out) (Below.size qu7))) qu9 (Nat.lt_of_lt_of_le (blk_lt G9.out) (Nat.le_trans (Below.size qu7) (Below.size qu8))), by first | exact P8.out | exact P8.out.below qu10⟩
              have tu11 := P10.out.set
              have ccu11 : u10.cell? ⟨u9.heap.size, 0, none⟩ = some (.slice none 0 0) := P10.out.cell
              have cfu11 : u10.frozen? ⟨u9.heap.size, 0, none⟩ = false := P10.out.frz
              go_simp
              refine hKK.out _ _ (bu10.setCell S9.out _) (fun _ => ?_)
              clear hKK KK
              try simp only [Act.put]
              refine wpAnyH_name (fun u11 hu11 => ?_)
              have bu11 : Below w3.heap.size w3 u11 := by rw [hu11.out]; exact (bu10.setCell S9.out _)
              rw [← hu11.out] at tu11
              have HPB : Hid (PB u11 u9.heap.size w3.heap.size (.slice (some ⟨u8.heap.size, 0, none⟩) 2 2) [.slice ta X1.length tc, .slice sa X2.length sc] [X1, X2]) := tu11
              refine wpAnyH_done (by kernel_rfl) ?_ _
              have HZ : Hid (From w3 u11) := bu11
              clear FL FW CT CM
              go_wp2_with fail
              go_meet
              exact ⟨_, _, _, rfl, HPB.out, S9.out, HZ.out⟩
            exact AllReadyH.nil
          exact AllReadyH.nil
        refine AllReadyH.cons (o := { dst := some 6, op := Op.alloc 96, type := 0, pos := "ranges.go:148", after := #[], guard := none }) rfl (fun KK hKK => ?_) ?_
        · go_simp
          refine hKK.out _ _ (bu8.trans (Below.mono (al_below _ _) bu8.size)) (fun _ => ?_)
          clear hKK KK
          try simp only [Act.put, List.setIfInBounds_toArray, List.set_cons_zero, List.set_cons_succ]
          refine wpAnyH_name (fun u12 hu12 => ?_)
          have bu12 : Below w3.heap.size w3 u12 := by rw [hu12.out]; exact (bu8.trans (Below.mono (al_below _ _) bu8.size))
          have qu12 : Below u8.heap.size u8 u12 := by rw [hu12.out]; exact (al_below _ _)
          have G9 : Hid (u12.heap[u8.heap.size]? = some (.cells #[.slice none 0 0] 96 (0, 0))) := by unfold Hid; rw [hu12.out]; exact heap_alloc_new _ _
          have S9 : Hid (w3.heap.size ≤ u8.heap.size) := Below.size bu8
          refine wpAnyH_ready (rs := [8]) (by kernel_rfl) (by simp) ?_
          refine AllReadyH.cons (o := { dst := some 25, op := Op.buildSlice 96 2 #[(0, Operand.tmp 22), (1, Operand.tmp 24)], type := 96, pos := "ranges.go:148", after := #[{ on := 5, ground := Ground.data }, { on := 7, ground := Ground.data }], guard := none }) rfl (fun KK hKK => ?_) ?_
          · have pu13 := PV.two (w := u12) (B := w3.heap.size) (by first | exact O57.out | exact O57.out.below qu12) (by first | exact O7.out | exact O7.out.below qu12) (Below.size bu12)
            go_simp
            refine hKK.out _ _ (bu12.trans (Below.mono (al_below _ _) bu12.size)) (fun _ => ?_)
            clear hKK KK
            try simp only [Act.put, List.setIfInBounds_toArray, List.set_cons_zero, List.set_cons_succ]
            refine wpAnyH_name (fun u13 hu13 => ?_)
            have bu13 : Below w3.heap.size w3 u13 := by rw [hu13.out]; exact (bu12.trans (Below.mono (al_below _ _) bu12.size))
            have qu13 : Below u12.heap.size u12 u13 := by rw [hu13.out]; exact (al_below _ _)
            rw [← hu13.out] at pu13
            have P8 : Hid (PV u13 w3.heap.size (.slice (some ⟨u12.heap.size, 0, none⟩) 2 2) [.slice ta X1.length tc, .slice sa X2.length sc] [X1, X2]) := pu13
            clear pu13
            refine wpAnyH_ready (rs := [10]) (by kernel_rfl) (by simp) ?_
            refine AllReadyH.cons (o := { dst := none, op := Op.store 96 (Operand.tmp 6) (Operand.tmp 25), type := 0, pos := "ranges.go:148", after := #[{ on := 9, ground := Ground.data }, { on := 8, ground := Ground.data }, { on := 7, ground := Ground.chain }, { on := 0, ground := Ground.phase }, { on := 1, ground := Ground.phase }, { on := 2, ground := Ground.phase }, { on := 3, ground := Ground.phase }, { on := 4, ground := Ground.phase }, { on := 5, ground := Ground.phase }, { on := 6, ground := Ground.phase }, { on := 7, ground := Ground.phase }, { on := 8, ground := Ground.phase }, { on := 9, ground := Ground.phase }], guard := none }) rfl (fun KK hKK => ?_) ?_
            · have P10 : Hid (PB' u13 u8.heap.size w3.heap.size (.slice none 0 0) (.slice (some ⟨u12.heap.size, 0, none⟩) 2 2) [.slice ta X1.length tc, .slice sa X2.length sc] [X1, X2]) := ⟨by first | exact G9.out | exact blk_kept G9.out qu13 (blk_lt G9.out) | exact blk_kept (blk_kept G9.out qu8 (blk_lt G9.out)) qu13 (Nat.lt_of_lt_of_le (blk_lt G9.out) (Below.size qu8)) | exact blk_kept (blk_kept (blk_kept G9.out qu7 (blk_lt G9.out)) qu8 (Nat.lt_of_lt_of_le (blk_lt G9.out) (Below.size qu7))) qu13 (Nat.lt_of_lt_of_le (blk_lt G9.out) (Nat.le_trans (Below.size qu7) (Below.size qu8))), by first | exact P8.out | exact P8.out.below qu12⟩
              have tu14 := P10.out.set
              have ccu14 : u13.cell? ⟨u8.heap.size, 0, none⟩ = some (.slice none 0 0) := P10.out.cell
              have cfu14 : u13.frozen? ⟨u8.heap.size, 0, none⟩ = false := P10.out.frz
              go_simp
              refine hKK.out _ _ (bu13.setCell S9.out _) (fun _ => ?_)
              clear hKK KK
              try simp only [Act.put]
              refine wpAnyH_name (fun u14 hu14 => ?_)
              have bu14 : Below w3.heap.size w3 u14 := by rw [hu14.out]; exact (bu13.setCell S9.out _)
              rw [← hu14.out] at tu14
              have HPB : Hid (PB u14 u8.heap.size w3.heap.size (.slice (some ⟨u12.heap.size, 0, none⟩) 2 2) [.slice ta X1.length tc, .slice sa X2.length sc] [X1, X2]) := tu14
              refine wpAnyH_done (by kernel_rfl) ?_ _
              have HZ : Hid (From w3 u14) := bu14
              clear FL FW CT CM
              go_wp2_with fail
              go_meet
              exact ⟨_, _, _, rfl, HPB.out, S9.out, HZ.out⟩
            exact AllReadyH.nil
          exact AllReadyH.nil
        exact AllReadyH.nil
      refine AllReadyH.cons (o := { dst := some 6, op := Op.alloc 96, type := 0, pos := "ranges.go:148", after := #[], guard := none }) rfl (fun KK hKK => ?_) ?_
      · go_simp
        refine hKK.out _ _ (bu7.trans (Below.mono (al_below _ _) bu7.size)) (fun _ => ?_)
        clear hKK KK
        try simp only [Act.put, List.setIfInBounds_toArray, List.set_cons_zero, List.set_cons_succ]
        refine wpAnyH_name (fun u15 hu15 => ?_)
        have bu15 : Below w3.heap.size w3 u15 := by rw [hu15.out]; exact (bu7.trans (Below.mono (al_below _ _) bu7.size))
        have qu15 : Below u7.heap.size u7 u15 := by rw [hu15.out]; exact (al_below _ _)
        have G9 : Hid (u15.heap[u7.heap.size]? = some (.cells #[.slice none 0 0] 96 (0, 0))) := by unfold Hid; rw [hu15.out]; exact heap_alloc_new _ _
        have S9 : Hid (w3.heap.size ≤ u7.heap.size) := Below.size bu7
        refine wpAnyH_ready (rs := [7]) (by kernel_rfl) (by simp) ?_
        refine AllReadyH.cons (o := { dst := some 24, op := Op.call { callee := Callee.value (Operand.func 44), args := #[Operand.tmp 23], argTypes := #[3] }, type := 34, pos := "ranges.go:148", after := #[{ on := 6, ground := Ground.data }, { on := 5, ground := Ground.chain }], guard := none }) rfl (fun KK hKK => ?_) ?_
        · have wdu16 := (FW.out _ bu15)
          go_simp
          refine (CM.out _ wdu16).mono ?_
          rintro e u16' ⟨vu16, rfl, ou16, bu16'⟩
          have ou16 := Ow.mono ou16 (Below.size bu15)
          obtain ⟨sa, sc, rfl⟩ := Ow.shape ou16
          (try go_wp2_with fail)
          refine hKK.out _ _ (bu15.trans (Below.mono (bu16') bu15.size)) (fun _ => ?_)
          clear hKK KK
          try simp only [Act.put, List.setIfInBounds_toArray, List.set_cons_zero, List.set_cons_succ]
          refine wpAnyH_name (fun u16 hu16 => ?_)
          have bu16 : Below w3.heap.size w3 u16 := by rw [hu16.out]; exact (bu15.trans (Below.mono (bu16') bu15.size))
          have qu16 : Below u15.heap.size u15 u16 := by rw [hu16.out]; exact (bu16')
          have O7 : Hid (Ow u16 w3.heap.size (.slice sa X2.length sc) X2) := by unfold Hid; rw [hu16.out]; exact ou16
          have O57 : Hid (Ow u16 w3.heap.size (.slice ta X1.length tc) X1) := by first | exact O5.out.below qu16 | exact (O5.out.below qu15).below qu16
          refine wpAnyH_ready (rs := [8]) (by kernel_rfl) (by simp) ?_
          refine AllReadyH.cons (o := { dst := some 25, op := Op.buildSlice 96 2 #[(0, Operand.tmp 22), (1, Operand.tmp 24)], type := 96, pos := "ranges.go:148", after := #[{ on := 5, ground := Ground.data }, { on := 7, ground := Ground.data }], guard := none }) rfl (fun KK hKK => ?_) ?_
          · have pu17 := PV.two (w := u16) (B := w3.heap.size) (by first | exact O57.out | exact O57.out.below qu15) (by first | exact O7.out | exact O7.out.below qu15) (Below.size bu16)
            go_simp
            refine hKK.out _ _ (bu16.trans (Below.mono (al_below _ _) bu16.size)) (fun _ => ?_)
            clear hKK KK
            try simp only [Act.put, List.setIfInBounds_toArray, List.set_cons_zero, List.set_cons_succ]
            refine wpAnyH_name (fun u17 hu17 => ?_)
            have bu17 : Below w3.heap.size w3 u17 := by rw [hu17.out]; exact (bu16.trans (Below.mono (al_below _ _) bu16.size))
            have qu17 : Below u16.heap.size u16 u17 := by rw [hu17.out]; exact (al_below _ _)
            rw [← hu17.out] at pu17
            have P8 : Hid (PV u17 w3.heap.size (.slice (some ⟨u16.heap.size, 0, none⟩) 2 2) [.slice ta X1.length tc, .slice sa X2.length sc] [X1, X2]) := pu17
            clear pu17
            refine wpAnyH_ready (rs := [10]) (by kernel_rfl) (by simp) ?_
            refine AllReadyH.cons (o := { dst := none, op := Op.store 96 (Operand.tmp 6) (Operand.tmp 25), type := 0, pos := "ranges.go:148", after := #[{ on := 9, ground := Ground.data }, { on := 8, ground := Ground.data }, { on := 7, ground := Ground.chain }, { on := 0, ground := Ground.phase }, { on := 1, ground := Ground.phase }, { on := 2, ground := Ground.phase }, { on := 3, ground := Ground.phase }, { on := 4, ground := Ground.phase }, { on := 5, ground := Ground.phase }, { on := 6, ground := Ground.phase }, { on := 7, ground := Ground.phase }, { on := 8, ground := Ground.phase }, { on := 9, ground := Ground.phase }], guard := none }) rfl (fun KK hKK => ?_) ?_
            · have P10 : Hid (PB' u17 u7.heap.size w3.heap.size (.slice none 0 0) (.slice (some ⟨u16.heap.size, 0, none⟩) 2 2) [.slice ta X1.length tc, .slice sa X2.length sc] [X1, X2]) := ⟨by first | exact G9.out | exact blk_kept G9.out qu17 (blk_lt G9.out) | exact blk_kept (blk_kept G9.out qu16 (blk_lt G9.out)) qu17 (Nat.lt_of_lt_of_le (blk_lt G9.out) (Below.size qu16)) | exact blk_kept (blk_kept (blk_kept G9.out qu7 (blk_lt G9.out)) qu16 (Nat.lt_of_lt_of_le (blk_lt G9.out) (Below.size qu7))) qu17 (Nat.lt_of_lt_of_le (blk_lt G9.out) (Nat.le_trans (Below.size qu7) (Below.size qu16))), by first | exact P8.out | exact P8.out.below qu15⟩
              have tu18 := P10.out.set
              have ccu18 : u17.cell? ⟨u7.heap.size, 0, none⟩ = some (.slice none 0 0) := P10.out.cell
              have cfu18 : u17.frozen? ⟨u7.heap.size, 0, none⟩ = false := P10.out.frz
              go_simp
              refine hKK.out _ _ (bu17.setCell S9.out _) (fun _ => ?_)
              clear hKK KK
              try simp only [Act.put]
              refine wpAnyH_name (fun u18 hu18 => ?_)
              have bu18 : Below w3.heap.size w3 u18 := by rw [hu18.out]; exact (bu17.setCell S9.out _)
              rw [← hu18.out] at tu18
              have HPB : Hid (PB u18 u7.heap.size w3.heap.size (.slice (some ⟨u16.heap.size, 0, none⟩) 2 2) [.slice ta X1.length tc, .slice sa X2.length sc] [X1, X2]) := tu18
              refine wpAnyH_done (by kernel_rfl) ?_ _
              have HZ : Hid (From w3 u18) := bu18
              clear FL FW CT CM
              go_wp2_with fail
              go_meet
              exact ⟨_, _, _, rfl, HPB.out, S9.out, HZ.out⟩
            exact AllReadyH.nil
          exact AllReadyH.nil
        exact AllReadyH.nil
      exact AllReadyH.nil
    refine AllReadyH.cons (o := { dst := some 6, op := Op.alloc 96, type := 0, pos := "ranges.go:148", after := #[], guard := none }) rfl (fun KK hKK => ?_) ?_
    · go_simp
      refine hKK.out _ _ (bu0.trans (Below.mono (al_below _ _) bu0.size)) (fun _ => ?_)
      clear hKK KK
      try simp only [Act.put, List.setIfInBounds_toArray, List.set_cons_zero, List.set_cons_succ]
      refine wpAnyH_name (fun u19 hu19 => ?_)
      have bu19 : Below w3.heap.size w3 u19 := by rw [hu19.out]; exact (bu0.trans (Below.mono (al_below _ _) bu0.size))
      have qu19 : Below u0.heap.size u0 u19 := by rw [hu19.out]; exact (al_below _ _)
      have G9 : Hid (u19.heap[u0.heap.size]? = some (.cells #[.slice none 0 0] 96 (0, 0))) := by unfold Hid; rw [hu19.out]; exact heap_alloc_new _ _
      have S9 : Hid (w3.heap.size ≤ u0.heap.size) := Below.size bu0
      refine wpAnyH_ready (rs := [5]) (by kernel_rfl) (by simp) ?_
      refine AllReadyH.cons (o := { dst := some 22, op := Op.call { callee := Callee.value (Operand.func 44), args := #[Operand.tmp 21], argTypes := #[3] }, type := 34, pos := "ranges.go:148", after := #[{ on := 4, ground := Ground.data }], guard := none }) rfl (fun KK hKK => ?_) ?_
      · have wdu20 := (FW.out _ bu19)
        go_simp
        refine (CT.out _ wdu20).mono ?_
        rintro e u20' ⟨vu20, rfl, ou20, bu20'⟩
        have ou20 := Ow.mono ou20 (Below.size bu19)
        obtain ⟨ta, tc, rfl⟩ := Ow.shape ou20
        (try go_wp2_with fail)
        refine hKK.out _ _ (bu19.trans (Below.mono (bu20') bu19.size)) (fun _ => ?_)
        clear hKK KK
        try simp only [Act.put, List.setIfInBounds_toArray, List.set_cons_zero, List.set_cons_succ]
        refine wpAnyH_name (fun u20 hu20 => ?_)
        have bu20 : Below w3.heap.size w3 u20 := by rw [hu20.out]; exact (bu19.trans (Below.mono (bu20') bu19.size))
        have qu20 : Below u19.heap.size u19 u20 := by rw [hu20.out]; exact (bu20')
        have O5 : Hid (Ow u20 w3.heap.size (.slice ta X1.length tc) X1) := by unfold Hid; rw [hu20.out]; exact ou20
        refine wpAnyH_ready (rs := [7]) (by kernel_rfl) (by simp) ?_
        refine AllReadyH.cons (o := { dst := some 24, op := Op.call { callee := Callee.value (Operand.func 44), args := #[Operand.tmp 23], argTypes := #[3] }, type := 34, pos := "ranges.go:148", after := #[{ on := 6, ground := Ground.data }, { on := 5, ground := Ground.chain }], guard := none }) rfl (fun KK hKK => ?_) ?_
        · have wdu21 := (FW.out _ bu20)
          go_simp
          refine (CM.out _ wdu21).mono ?_
          rintro e u21' ⟨vu21, rfl, ou21, bu21'⟩
          have ou21 := Ow.mono ou21 (Below.size bu20)
          obtain ⟨sa, sc, rfl⟩ := Ow.shape ou21
          (try go_wp2_with fail)
          refine hKK.out _ _ (bu20.trans (Below.mono (bu21') bu20.size)) (fun _ => ?_)
          clear hKK KK
          try simp only [Act.put, List.setIfInBounds_toArray, List.set_cons_zero, List.set_cons_succ]
          refine wpAnyH_name (fun u21 hu21 => ?_)
          have bu21 : Below w3.heap.size w3 u21 := by rw [hu21.out]; exact (bu20.trans (Below.mono (bu21') bu20.size))
          have qu21 : Below u20.heap.size u20 u21 := by rw [hu21.out]; exact (bu21')
          have O7 : Hid (Ow u21 w3.heap.size (.slice sa X2.length sc) X2) := by unfold Hid; rw [hu21.out]; exact ou21
          have O57 : Hid (Ow u21 w3.heap.size (.slice ta X1.length tc) X1) := by first | exact O5.out.below qu21 | exact (O5.out.below qu19).below qu21
          refine wpAnyH_ready (rs := [8]) (by kernel_rfl) (by simp) ?_
          refine AllReadyH.cons (o := { dst := some 25, op := Op.buildSlice 96 2 #[(0, Operand.tmp 22), (1, Operand.tmp 24)], type := 96, pos := "ranges.go:148", after := #[{ on := 5, ground := Ground.data }, { on := 7, ground := Ground.data }], guard := none }) rfl (fun KK hKK => ?_) ?_
          · have pu22 := PV.two (w := u21) (B := w3.heap.size) (by first | exact O57.out | exact O57.out.below qu19) (by first | exact O7.out | exact O7.out.below qu19) (Below.size bu21)
            go_simp
            refine hKK.out _ _ (bu21.trans (Below.mono (al_below _ _) bu21.size)) (fun _ => ?_)
            clear hKK KK
            try simp only [Act.put, List.setIfInBounds_toArray, List.set_cons_zero, List.set_cons_succ]
            refine wpAnyH_name (fun u22 hu22 => ?_)
            have bu22 : Below w3.heap.size w3 u22 := by rw [hu22.out]; exact (bu21.trans (Below.mono (al_below _ _) bu21.size))
            have qu22 : Below u21.heap.size u21 u22 := by rw [hu22.out]; exact (al_below _ _)
            rw [← hu22.out] at pu22
            have P8 : Hid (PV u22 w3.heap.size (.slice (some ⟨u21.heap.size, 0, none⟩) 2 2) [.slice ta X1.length tc, .slice sa X2.length sc] [X1, X2]) := pu22
            clear pu22
            refine wpAnyH_ready (rs := [10]) (by kernel_rfl) (by simp) ?_
            refine AllReadyH.cons (o := { dst := none, op := Op.store 96 (Operand.tmp 6) (Operand.tmp 25), type := 0, pos := "ranges.go:148", after := #[{ on := 9, ground := Ground.data }, { on := 8, ground := Ground.data }, { on := 7, ground := Ground.chain }, { on := 0, ground := Ground.phase }, { on := 1, ground := Ground.phase }, { on := 2, ground := Ground.phase }, { on := 3, ground := Ground.phase }, { on := 4, ground := Ground.phase }, { on := 5, ground := Ground.phase }, { on := 6, ground := Ground.phase }, { on := 7, ground := Ground.phase }, { on := 8, ground := Ground.phase }, { on := 9, ground := Ground.phase }], guard := none }) rfl (fun KK hKK => ?_) ?_
            · have P10 : Hid (PB' u22 u0.heap.size w3.heap.size (.slice none 0 0) (.slice (some ⟨u21.heap.size, 0, none⟩) 2 2) [.slice ta X1.length tc, .slice sa X2.length sc] [X1, X2]) := ⟨by first | exact G9.out | exact blk_kept G9.out qu22 (blk_lt G9.out) | exact blk_kept (blk_kept G9.out qu21 (blk_lt G9.out)) qu22 (Nat.lt_of_lt_of_le (blk_lt G9.out) (Below.size qu21)) | exact blk_kept (blk_kept (blk_kept G9.out qu20 (blk_lt G9.out)) qu21 (Nat.lt_of_lt_of_le (blk_lt G9.out) (Below.size qu20))) qu22 (Nat.lt_of_lt_of_le (blk_lt G9.out) (Nat.le_trans (Below.size qu20) (Below.size qu21))), by first | exact P8.out | exact P8.out.below qu19⟩
              have tu23 := P10.out.set
              have ccu23 : u22.cell? ⟨u0.heap.size, 0, none⟩ = some (.slice none 0 0) := P10.out.cell
              have cfu23 : u22.frozen? ⟨u0.heap.size, 0, none⟩ = false := P10.out.frz
              go_simp
              refine hKK.out _ _ (bu22.setCell S9.out _) (fun _ => ?_)
              clear hKK KK
              try simp only [Act.put]
              refine wpAnyH_name (fun u23 hu23 => ?_)
              have bu23 : Below w3.heap.size w3 u23 := by rw [hu23.out]; exact (bu22.setCell S9.out _)
              rw [← hu23.out] at tu23
              have HPB : Hid (PB u23 u0.heap.size w3.heap.size (.slice (some ⟨u21.heap.size, 0, none⟩) 2 2) [.slice ta X1.length tc, .slice sa X2.length sc] [X1, X2]) := tu23
              refine wpAnyH_done (by kernel_rfl) ?_ _
              have HZ : Hid (From w3 u23) := bu23
              clear FL FW CT CM
              go_wp2_with fail
              go_meet
              exact ⟨_, _, _, rfl, HPB.out, S9.out, HZ.out⟩
            exact AllReadyH.nil
          exact AllReadyH.nil
        exact AllReadyH.nil
      exact AllReadyH.nil
    exact AllReadyH.nil
  case rest =>
    obtain ⟨w5, rfl⟩ : ∃ w5, w5 = wc := ⟨_, rfl⟩
    obtain ⟨kP, vv, V, rfl, hpb, hkp, hf⟩ := hcut
    have HPB : Hid (PB w5 kP w3.heap.size vv V [X1, X2]) := hpb
    have HKP : Hid (w3.heap.size ≤ kP) := hkp
    have HFC : Hid (From w3 w5) := hf
    have HBC : Hid (Below w.heap.size w w5) := HB3.out.trans (Below.mono hf HB3.out.size)
    obtain ⟨k3, k4, -⟩ := FL.out w5 hf
    have cb := backward_any w5 (some ⟨bb, off, none⟩) n c
    clear hpb hkp hf CT CM FL
    go_wp2_with fail
    refine cb.mono ?_
    rintro e W0 ⟨rfl, hW0⟩
    have HB0 : Hid (Below w5.heap.size w5 W0) := by unfold Hid; rw [hW0]; exact al_below _ _
    have HG0 : Hid (W0.heap[w5.heap.size]? = some (.cells #[.slice (some ⟨bb, off, none⟩) n c] 23 (0, 0))) := by unfold Hid; rw [hW0]; exact heap_alloc_new _ _
    have HS0 : Hid (W0.heap.size = w5.heap.size + 1) := by unfold Hid; rw [hW0]; simp
    clear cb hW0 k3 k4
    go_wp2
    refine (wpIn_wide (n := 9)).1 ?_
    obtain ⟨i0, hi0, hz0, hzs, hzb⟩ := info_parts infoB
    have hkb : kP < w5.heap.size := blk_lt HPB.out.1
    have hnw : w3.heap.size ≤ w5.heap.size := Below.size HFC.out
    have hww : w.heap.size ≤ w3.heap.size := HB3.out.size
    have HF0 : Hid (From w3 W0) := Below.trans HFC.out (HB0.out.mono hnw)
    have hsz := HS0.out
    have hP0 := HPB.out.below HB0.out
    have hstops := back_stops W0 w5.heap.size (.slice (some ⟨bb, off, none⟩) n c) l (fun k => w3.heap.size ≤ k ∧ k ≠ w5.heap.size) 8 (by omega) HG0.out (HU.out.kept (HB3.out.trans (Below.mono HF0.out hww))) (HC.out.1) (by rw [← HN.out]; omega) (fun e => e.2 rfl) (fun k hk => by
      have e : bb = k := by simpa [rowB] using hk
      have h1 := HF0.out.size
      exact ⟨by omega, fun e' => by have := e'.1; omega⟩)
    rw [← HN.out] at hstops
    have HPS0 : Hid (prsA l ([] : List (Nat × Sp)) = [X1, X2]) := HPS.out
    clear hsz HB0 HPS
    refine wpIn_rangeFunc_ownH (F := Fence.wide) rfl (by omega) (gf := 87) (lb := #[.pointer (some ⟨w5.heap.size, 0, none⟩)]) rfl trivial (enters_of Tryz.func87 (by kernel_rfl) rfl)
      hstops (fun h h' => h.trans h') (fun W l o o' _ h hc _ => Kt.put W l o o' h hc) (Below.refl _ _) (fun _ => rfl)
      (fun pre W => (∃ vv V, PB W kP w3.heap.size vv V (prsA l (pre.map (·.1)))) ∧ From w3 W ∧ W0.heap.size ≤ W.heap.size ∧ W.heap[w5.heap.size]? = some (.cells #[.slice (some ⟨bb, off, none⟩) n c] 23 (0, 0)))
      (fun _ _ _ => False)
      (OwnFrom.and (fun pre A B row hs hg hr => by
          obtain ⟨vv, V, h1, h2⟩ := hs
          exact ⟨vv, V, own_keeps hg hr h1, h2.keep (fun k cs t _ hh => own_keeps hg hr hh)⟩) (OwnFrom.and (ownFrom_below (Nat.le_refl _) HF0.out.size) (OwnFrom.and (fun _ _ _ _ h hg _ => Nat.le_trans h hg.size) (fun _ _ _ _ h hg hr => own_keeps hg hr h))))
      (fun _ _ _ _ _ hs _ _ => hs)
      ⟨⟨vv, V, by rw [List.map_nil, HPS0.out]; exact hP0⟩, HF0.out, Nat.le_refl _, HG0.out⟩
      (fun x a' W => ∃ Bx, W.heap[Bx]? = some (.cells #[.int .i64 x.1.2.1, .int .i64 x.1.2.2] 89 (0, 0)) ∧ a' = { tmps := #[.slice (some ⟨bb, off, none⟩) n c, .pointer (some ⟨w.heap.size, 0, none⟩), .slice none 0 0, .int .i64 0, .int .i64 0, .pointer (some ⟨w2.heap.size, 0, none⟩), .pointer (some ⟨kP, 0, none⟩), .int .i64 (x.1.1 : Nat), .pointer (some ⟨Bx, 0, none⟩), .slice (some ⟨bb, off, none⟩) n c, .int .i64 0, .int .i64 0, .bool false, undef, .slice (some ⟨bb, off, none⟩) n c, .int .i64 (n : Int), .int .i64 (m : Int), u17, u18, u19, u20, u21, u22, u23, u24, u25, .slice (some ⟨bb, off, none⟩) n c, .func (.func 87) #[] #[.pointer (some ⟨w5.heap.size, 0, none⟩)], .int .i64 (x.1.1 : Nat), .agg #[.int .i64 x.1.2.1, .int .i64 x.1.2.2], undef, undef, undef, undef, undef, undef, undef, undef, undef, undef, undef, undef, undef, undef, undef, undef, undef, undef, undef, undef, undef, undef, undef, undef, undef, undef, undef, undef], defers := [] })
      (fun x a' _ X Y row hs hg hr => by
        obtain ⟨Bx, h2, h3⟩ := hs
        exact ⟨Bx, own_keeps hg hr h2, h3⟩)
      ?assign ?body ?done ?stop
    case assign =>
      rintro lp pre x W K ⟨⟨vv, V, h1⟩, h2, h3, h4⟩ hK
      gi_wp2
      exact hK _ _ ((KeepsOthers.alloc _ _).from _) (Kt.from (al_below _ _)) ⟨⟨vv, V, h1.below (al_below _ _)⟩, Below.alloc h2 (Below.size h2) _, Nat.le_trans h3 (al_below _ _).size, blk_kept h4 (al_below _ _) (blk_lt h4)⟩ ⟨W.heap.size, heap_alloc_new _ _, by rfl⟩
    case body =>
      rintro lp pre x a' W _ _ ⟨⟨vv, V, hpb⟩, hF, hS, hbx⟩ ⟨Bx, bX, rfl⟩ hlt
      have hzl := prsA_len l (pre.map (·.1))
      rw [List.length_map] at hzl
      obtain ⟨i, hi⟩ : ∃ i, i = x.1.1 := ⟨_, rfl⟩
      obtain ⟨y, hy⟩ : ∃ y, y = x.1.2 := ⟨_, rfl⟩
      have HSN : Hid (prsA l ((pre ++ [x]).map (·.1)) = (prsA l (pre.map (·.1)) ++ (if i < l.length - 1 then [nB ((atS l (i + 1)).1 - y.2 - 2)] else [])) ++ [nB (y.2 - y.1)]) := by unfold Hid; rw [hi, hy, List.map_append, List.map_singleton, prsA_snoc]; unfold prtA; rw [List.append_assoc]
      rw [← HM.out] at HSN
      have hx := x.2
      generalize prsA l (pre.map (·.1)) = ZZ at *
      have hN : w3.heap.size ≤ W.heap.size := Below.size hF
      have HW1 : Hid (∀ V, Below W.heap.size W V → Fi.Wid V) := fun V hv => FW.out V (Below.trans hF (Below.mono hv hN))
      have e1 := blk_kept HL3.out hF (blk_lt HL3.out)
      have e2 := blk_kept HG3.out hF (blk_lt HG3.out)
      have k1 : W.cell? ⟨w.heap.size, 0, none⟩ = some (.slice (some ⟨bb, off, none⟩) n c) := by simp [World.cell?, e1]
      have k2 : W.cell? ⟨w2.heap.size, 0, none⟩ = some (.int .i64 (m : Int)) := by simp [World.cell?, e2]
      have x0 : W.cell? ⟨Bx, 0, none⟩ = some (.int .i64 x.1.2.1) := by simp [World.cell?, bX]
      have x1 : W.cell? ⟨Bx, 1, none⟩ = some (.int .i64 x.1.2.2) := by simp [World.cell?, bX]
      have k3 := hpb.cell
      have hBk : Bx ≠ kP := fun e => by have := hpb.1; rw [← e, bX] at this; cases this
      have HPW : Hid (PB W kP w3.heap.size vv V ZZ) := hpb
      have HFW : Hid (From w3 W) := hF
      have HAT : Hid (∀ i, i < m → W.cell? ⟨bb, off + (i + 1) * 2, none⟩ = some (.int .i64 (atS l (i + 1)).1) ∧ Okk (atS l (i + 1))) := fun i hi => by
        have hl' : i + 1 < l.length := by have := HM.out; omega
        obtain ⟨b', off', e, hr⟩ := (HU.out.kept (HB3.out.trans (Below.mono hF hww))).at (i + 1) hl'
        cases e
        exact ⟨(spC hr).1, HC.out.1 _ (atS_mem l _ hl')⟩
      have HBX : Hid (W.heap[Bx]? = some (.cells #[.int .i64 x.1.2.1, .int .i64 x.1.2.2] 89 (0, 0))) := bX
      have HBB : Hid (W.heap[w5.heap.size]? = some (.cells #[.slice (some ⟨bb, off, none⟩) n c] 23 (0, 0))) := hbx
      have HSW : Hid (W0.heap.size ≤ W.heap.size) := hS
      have HNB : Hid (kP < w5.heap.size ∧ W0.heap.size = w5.heap.size + 1) := ⟨hkb, HS0.out⟩
      obtain ⟨va, vc, rfl⟩ := own_shape hpb.2.1
      rw [← hi, ← hy] at hx ⊢
      rw [← hy] at x0 x1 HBX
      unfold Okk at hx
      clear hi hy hpb hF hS hbx bX e1 e2
      gi_upto_if 32 with fail
      have hkp6 := HKP.out
      have h1' : 1 ≤ 9 - 1 - 1 := by omega
      have mixed : Tryz.prog.follows Departure.mixedOrders = true := by kernel_rfl
      obtain ⟨L1, hL1⟩ : ∃ L1, L1 = if i < m then [nB ((atS l (i + 1)).1 - y.2 - 2)] else [] := ⟨_, rfl⟩
      have HL1 : Hid (L1 = if i < m then [nB ((atS l (i + 1)).1 - y.2 - 2)] else []) := hL1
      rw [← hL1] at HSN
      clear hL1
      gi_cut [] from 32 (fun wz => ∃ vv' V', PB wz kP w3.heap.size vv' V' (ZZ ++ L1) ∧ Kq w3.heap.size kP W wz)
      case first =>
        by_cases him : i < m
        · obtain ⟨k4, hz⟩ := HAT.out i him
          have HE : Hid (L1 = [nB ((atS l (i + 1)).1 - y.2 - 2)]) := by unfold Hid; rw [HL1.out, if_pos him]
          clear HL1
          unfold Okk at hz
          have lt1 : decide ((i : Int) < (m : Int)) = true := by simpa using him
          have lt1' : (i : Int) < (m : Int) := by omega
          have lt2 : (i : Int) + 1 < (n : Int) := by omega
          have lt3 : 0 ≤ (i : Int) + 1 := by omega
          have iw : IntKind.i64.wrap ((i : Int) + 1) = (i : Int) + 1 := by rw [IntKind.wrap_i64]; omega
          generalize (atS l (i + 1)).1 = za at *
          have sw1 : IntKind.i64.wrap (za - y.2) = za - y.2 := by rw [IntKind.wrap_i64]; omega
          have sw2 : IntKind.i64.wrap (za - y.2 - 2) = za - y.2 - 2 := by rw [IntKind.wrap_i64]; omega
          obtain ⟨XX, hXX⟩ : ∃ XX, XX = nB (za - y.2 - 2) := ⟨_, rfl⟩
          have HCC : Hid (∀ V, Fi.Wid V → Calls Tryz.prog 44 #[.int .i64 (za - y.2 - 2)] V fun e w' => ∃ v, e = .returned v ∧ Ow w' V.heap.size v XX ∧ Below V.heap.size V w') := fun V hv => by rw [hXX]; exact fnum_own _ V hv
          have HWS : Hid (Fi.Wid W) := HW1.out _ (Below.refl _ _)
          have HNS : Hid (w3.heap.size ≤ W.heap.size) := Below.size HFW.out
          have HNP : Hid (1 < w3.heap.size) := Nat.lt_of_lt_of_le HW.out.pos hww
          have FL2 : Hid (∀ x, Kq w3.heap.size kP W x → x.cell? ⟨w.heap.size, 0, none⟩ = some (.slice (some ⟨bb, off, none⟩) n c) ∧ x.cell? ⟨bb, off + (i + 1) * 2, none⟩ = some (.int .i64 za) ∧ x.cell? ⟨Bx, 1, none⟩ = some (.int .i64 y.2)) := fun x hx => by
            have h1 := hx.low w.heap.size (blk_lt HL3.out)
            have h2 := hx.low bb (by omega)
            have h3 := hx.cel Bx _ _ _ hBk (by decide) HBX.out
            exact ⟨(World.cell?_of_block (a := ⟨w.heap.size, 0, none⟩) h1).trans k1, (World.cell?_of_block (a := ⟨bb, _, none⟩) h2).trans k4, by simp [World.cell?, h3]⟩
          rw [← hXX] at HE
          clear hXX HAT HSN hz k1 k4 k3 x0 x1
          gi_upto_region 10 with fail
          refine region_round lp _ (by rintro ⟨_, _, h⟩; exact h) (by kernel_rfl) (S := Kq w3.heap.size kP W) (by kernel_rfl) (Kq.drew _ _ _) (fun _ => ?_)
          refine wpAnyH_name (fun u0 hu0 => ?_)
          have su0 : (Kq w3.heap.size kP W) u0 := by rw [hu0.out]; exact (Kq.drew _ _ _)
          have PXu0 : PB u0 kP w3.heap.size (.slice va ZZ.length vc) V ZZ := by rw [hu0.out]; exact HPW.out
          refine wpAnyH_take (i := 1) (oi := { dst := some 34, op := Op.load 23 (Operand.tmp 1), type := 23, pos := "ranges.go:151", after := #[], guard := none }) (v := .slice (some ⟨bb, off, none⟩) n c) rfl (by kernel_rfl) (by kernel_rfl) (by kernel_rfl) (fun _ _ _ h => h) (Or.inl ⟨by rfl, ?ys1⟩) su0 ?rs1
          case ys1 => (intro w hSw; obtain ⟨t0, t1, t2⟩ := FL2.out w hSw; go_simp; try with_reducible rfl)
          try simp only [Act.put, List.setIfInBounds_toArray, List.set_cons_zero, List.set_cons_succ]
          refine wpAnyH_take (i := 2) (oi := { dst := some 35, op := Op.move (Operand.tmp 7), type := 3, pos := "ranges.go:151", after := #[], guard := none }) (v := ?vs2) rfl (by kernel_rfl) (by kernel_rfl) (by kernel_rfl) (fun _ _ _ h => h) (Or.inl ⟨by rfl, ?ys2⟩) su0 ?rs2
          case ys2 => (intro w hSw; go_simp; try with_reducible rfl)
          try simp only [Act.put, List.setIfInBounds_toArray, List.set_cons_zero, List.set_cons_succ]
          refine wpAnyH_take (i := 3) (oi := { dst := some 36, op := Op.binOp BinOp.add 3 (Operand.tmp 35) (Operand.const (Value.int IntKind.i64 1)) 3, type := 3, pos := "ranges.go:151", after := #[{ on := 2, ground := Ground.data }], guard := none }) (v := ?vs3) rfl (by kernel_rfl) (by kernel_rfl) (by kernel_rfl) (fun _ _ _ h => h) (Or.inl ⟨by rfl, ?ys3⟩) su0 ?rs3
          case ys3 => (intro w hSw; go_simp; try with_reducible rfl)
          try simp only [Act.put, List.setIfInBounds_toArray, List.set_cons_zero, List.set_cons_succ]
          refine wpAnyH_take (i := 4) (oi := { dst := some 37, op := Op.indexAddr 23 (Operand.tmp 34) (Operand.tmp 36), type := 0, pos := "ranges.go:151", after := #[{ on := 1, ground := Ground.data }, { on := 3, ground := Ground.data }], guard := none }) (v := ?vs4) rfl (by kernel_rfl) (by kernel_rfl) (by kernel_rfl) (fun _ _ _ h => h) (Or.inl ⟨by rfl, ?ys4⟩) su0 ?rs4
          case ys4 => (intro w hSw; go_simp; try with_reducible rfl)
          try simp only [Act.put, List.setIfInBounds_toArray, List.set_cons_zero, List.set_cons_succ]
          refine wpAnyH_take (i := 5) (oi := { dst := some 38, op := Op.fieldAddr 89 (Operand.tmp 37) 0, type := 0, pos := "ranges.go:151", after := #[{ on := 4, ground := Ground.data }], guard := none }) (v := ?vs5) rfl (by kernel_rfl) (by kernel_rfl) (by kernel_rfl) (fun _ _ _ h => h) (Or.inl ⟨by rfl, ?ys5⟩) su0 ?rs5
          case ys5 => (intro w hSw; go_simp; try with_reducible rfl)
          try simp only [Act.put, List.setIfInBounds_toArray, List.set_cons_zero, List.set_cons_succ]
          refine wpAnyH_take (i := 6) (oi := { dst := some 39, op := Op.load 3 (Operand.tmp 38), type := 3, pos := "ranges.go:151", after := #[{ on := 5, ground := Ground.data }], guard := none }) (v := .int .i64 za) rfl (by kernel_rfl) (by kernel_rfl) (by kernel_rfl) (fun _ _ _ h => h) (Or.inl ⟨by rfl, ?ys6⟩) su0 ?rs6
          case ys6 => (intro w hSw; obtain ⟨t0, t1, t2⟩ := FL2.out w hSw; go_simp; try with_reducible rfl)
          try simp only [Act.put, List.setIfInBounds_toArray, List.set_cons_zero, List.set_cons_succ]
          refine wpAnyH_take (i := 7) (oi := { dst := some 40, op := Op.fieldAddr 89 (Operand.tmp 8) 1, type := 0, pos := "ranges.go:151", after := #[], guard := none }) (v := ?vs7) rfl (by kernel_rfl) (by kernel_rfl) (by kernel_rfl) (fun _ _ _ h => h) (Or.inl ⟨by rfl, ?ys7⟩) su0 ?rs7
          case ys7 => (intro w hSw; go_simp; try with_reducible rfl)
          try simp only [Act.put, List.setIfInBounds_toArray, List.set_cons_zero, List.set_cons_succ]
          refine wpAnyH_take (i := 8) (oi := { dst := some 41, op := Op.load 3 (Operand.tmp 40), type := 3, pos := "ranges.go:151", after := #[{ on := 7, ground := Ground.data }], guard := none }) (v := .int .i64 y.2) rfl (by kernel_rfl) (by kernel_rfl) (by kernel_rfl) (fun _ _ _ h => h) (Or.inl ⟨by rfl, ?ys8⟩) su0 ?rs8
          case ys8 => (intro w hSw; obtain ⟨t0, t1, t2⟩ := FL2.out w hSw; go_simp; try with_reducible rfl)
          try simp only [Act.put, List.setIfInBounds_toArray, List.set_cons_zero, List.set_cons_succ]
          refine wpAnyH_take (i := 9) (oi := { dst := some 42, op := Op.binOp BinOp.sub 3 (Operand.tmp 39) (Operand.tmp 41) 3, type := 3, pos := "ranges.go:151", after := #[{ on := 6, ground := Ground.data }, { on := 8, ground := Ground.data }], guard := none }) (v := ?vs9) rfl (by kernel_rfl) (by kernel_rfl) (by kernel_rfl) (fun _ _ _ h => h) (Or.inl ⟨by rfl, ?ys9⟩) su0 ?rs9
          case ys9 => (intro w hSw; go_simp; try with_reducible rfl)
          try simp only [Act.put, List.setIfInBounds_toArray, List.set_cons_zero, List.set_cons_succ]
          refine wpAnyH_take (i := 10) (oi := { dst := some 43, op := Op.binOp BinOp.sub 3 (Operand.tmp 42) (Operand.const (Value.int IntKind.i64 2)) 3, type := 3, pos := "ranges.go:151", after := #[{ on := 9, ground := Ground.data }], guard := none }) (v := ?vs10) rfl (by kernel_rfl) (by kernel_rfl) (by kernel_rfl) (fun _ _ _ h => h) (Or.inl ⟨by rfl, ?ys10⟩) su0 ?rs10
          case ys10 => (intro w hSw; go_simp; try with_reducible rfl)
          try simp only [Act.put, List.setIfInBounds_toArray, List.set_cons_zero, List.set_cons_succ]
          refine wpAnyH_ready (rs := [0, 11]) (by kernel_rfl) (by simp) ?_
          refine AllReadyH.cons (o := { dst := some 33, op := Op.load 96 (Operand.tmp 6), type := 96, pos := "ranges.go:151", after := #[], guard := none }) rfl (fun KK hKK => ?_) ?_
          · have ccu11 := PXu0.cell
            go_simp
            refine hKK.out _ _ (su0) (fun _ => ?_)
            clear hKK KK
            try simp only [Act.put, List.setIfInBounds_toArray, List.set_cons_zero, List.set_cons_succ]
            refine wpAnyH_name (fun u11 hu11 => ?_)
            have su11 : (Kq w3.heap.size kP W) u11 := by rw [hu11.out]; exact (su0)
            have PXu11 : PB u11 kP w3.heap.size (.slice va ZZ.length vc) V ZZ := by rw [hu11.out]; exact (PXu0)
            (try have Eu11 : Hid (u11 = nope.alloc (.cells #[.slice ua XX.length uc] 34)) := by unfold Hid; rw [hu11.out]; exact Eu0.out)
            refine wpAnyH_ready (rs := [11]) (by kernel_rfl) (by simp) ?_
            refine AllReadyH.cons (o := { dst := some 44, op := Op.call { callee := Callee.value (Operand.func 44), args := #[Operand.tmp 43], argTypes := #[3] }, type := 34, pos := "ranges.go:151", after := #[{ on := 10, ground := Ground.data }], guard := none }) rfl (fun KK hKK => ?_) ?_
            · have wdu12 := wid_kq su11 HNP.out HWS.out
              go_simp
              refine (HCC.out _ wdu12).mono ?_
              rintro e u12' ⟨vu12, rfl, ou12, bu12'⟩
              obtain ⟨ua, uc, rfl⟩ := Ow.shape ou12
              (try go_wp2_with fail)
              refine hKK.out _ _ (su11.trans (Kq.of bu12' (Nat.le_trans HNS.out su11.oth.size))) (fun _ => ?_)
              clear hKK KK
              try simp only [Act.put, List.setIfInBounds_toArray, List.set_cons_zero, List.set_cons_succ]
              refine wpAnyH_name (fun u12 hu12 => ?_)
              have su12 : (Kq w3.heap.size kP W) u12 := by rw [hu12.out]; exact (su11.trans (Kq.of bu12' (Nat.le_trans HNS.out su11.oth.size)))
              have PXu12 : PB u12 kP w3.heap.size (.slice va ZZ.length vc) V ZZ := by rw [hu12.out]; exact (PXu11.below bu12')
              have OWu12 : Hid (Ow u12 w3.heap.size (.slice ua XX.length uc) XX) := by unfold Hid; rw [hu12.out]; exact Ow.mono ou12 (Nat.le_trans HNS.out su11.oth.size)
              refine wpAnyH_ready (rs := [12]) (by kernel_rfl) (by simp) ?_
              refine AllReadyH.cons (o := { dst := some 45, op := Op.buildSlice 96 1 #[(0, Operand.tmp 44)], type := 96, pos := "ranges.go:151", after := #[{ on := 11, ground := Ground.data }], guard := none }) rfl (fun KK hKK => ?_) ?_
              · go_simp
                refine hKK.out _ _ (su12.trans (Kq.of (al_below _ _) (Nat.le_trans HNS.out su12.oth.size))) (fun _ => ?_)
                clear hKK KK
                try simp only [Act.put, List.setIfInBounds_toArray, List.set_cons_zero, List.set_cons_succ]
                refine wpAnyH_name (fun u13 hu13 => ?_)
                have su13 : (Kq w3.heap.size kP W) u13 := by rw [hu13.out]; exact (su12.trans (Kq.of (al_below _ _) (Nat.le_trans HNS.out su12.oth.size)))
                have PW : Hid (PB u12 kP w3.heap.size (.slice va ZZ.length vc) V ZZ) := PXu12
                have PXu13 : PB u13 kP w3.heap.size (.slice va ZZ.length vc) V ZZ := by rw [hu13.out]; exact (PXu12.below (al_below _ _))
                have OZ : Hid (Ow u12 w3.heap.size (.slice ua XX.length uc) XX) := by first | exact OWu12.out | exact OWu12.out | (have := OWu12.out; rw [← hu12.out] at this; exact this)
                have Eu13 : Hid (u13 = u12.alloc (.cells #[.slice ua XX.length uc] 34)) := hu13
                have SW : Hid (Kq w3.heap.size kP W u12) := su12
                refine wpAnyH_ready (rs := [13]) (by kernel_rfl) (by simp) ?_
                refine AllReadyH.cons (o := { dst := some 46, op := Op.call { callee := Callee.builtin Builtin.append, args := #[Operand.tmp 33, Operand.tmp 45], argTypes := #[96, 96] }, type := 96, pos := "ranges.go:151", after := #[{ on := 0, ground := Ground.data }, { on := 12, ground := Ground.data }, { on := 11, ground := Ground.chain }], guard := none }) rfl (fun KK hKK => ?_) ?_
                · refine wp_append_own _ _ _ 96 rfl w3.heap.size 34 i0 (.slice none 0 0) 1 24 Tryz.underlying96 hi0 hz0 hzs hzb rfl (by decide) _ ZZ.length _ rfl PXu13.2.1 ⟨u12.heap.size, 0, none⟩ 1 1 [.slice ua XX.length uc] rfl rfl (by rw [Eu13.out]; exact one_cell) (by simp [Value.oneCell']) (by unfold maxLen; omega) (by omega) (Nat.le_trans HNS.out su13.oth.size) (fun v7 u14' hou14 hgu14 _ => ?_)
                  rw [Eu13.out] at hgu14
                  obtain ⟨zu14, pu14, qu14, ru14⟩ := pb_step PW.out OZ.out (Nat.le_trans HNS.out SW.out.oth.size) HKP.out hou14 hgu14
                  obtain ⟨g7, cap7, rfl⟩ := ownsRow_succ hou14
                  refine hKK.out _ _ (SW.out.trans ru14) (fun _ => ?_)
                  clear hKK KK
                  try simp only [Act.put, List.setIfInBounds_toArray, List.set_cons_zero, List.set_cons_succ]
                  refine wpAnyH_name (fun u14 hu14 => ?_)
                  have su14 : (Kq w3.heap.size kP W) u14 := by rw [hu14.out]; exact (SW.out.trans ru14)
                  rw [← hu14.out] at zu14 pu14 qu14
                  clear hou14 hgu14 ru14
                  refine wpAnyH_ready (rs := [14]) (by kernel_rfl) (by simp) ?_
                  refine AllReadyH.cons (o := { dst := none, op := Op.store 96 (Operand.tmp 6) (Operand.tmp 46), type := 0, pos := "ranges.go:151", after := #[{ on := 13, ground := Ground.data }, { on := 13, ground := Ground.chain }, { on := 0, ground := Ground.phase }, { on := 1, ground := Ground.phase }, { on := 2, ground := Ground.phase }, { on := 3, ground := Ground.phase }, { on := 4, ground := Ground.phase }, { on := 5, ground := Ground.phase }, { on := 6, ground := Ground.phase }, { on := 7, ground := Ground.phase }, { on := 8, ground := Ground.phase }, { on := 9, ground := Ground.phase }, { on := 10, ground := Ground.phase }, { on := 11, ground := Ground.phase }, { on := 12, ground := Ground.phase }, { on := 13, ground := Ground.phase }], guard := none }) rfl (fun KK hKK => ?_) ?_
                  · have cau15 := zu14.1
                    have cbu15 := zu14.2
                    go_simp
                    refine hKK.out _ _ (SW.out.trans qu14) (fun _ => ?_)
                    clear hKK KK
                    try simp only [Act.put]
                    refine wpAnyH_name (fun u15 hu15 => ?_)
                    have su15 : (Kq w3.heap.size kP W) u15 := by rw [hu15.out]; exact (SW.out.trans qu14)
                    rw [← hu15.out] at pu14
                    refine wpAnyH_done (by kernel_rfl) ?_ _
                    have P1 : Hid (PB u15 kP w3.heap.size _ _ _) := pu14
                    have P2 : Hid (Kq w3.heap.size kP W u15) := su15
                    gi_wp2
                    gi_meet
                    exact ⟨_, _, by rw [HE.out]; exact P1.out, P2.out⟩
                  exact AllReadyH.nil
                exact AllReadyH.nil
              exact AllReadyH.nil
            exact AllReadyH.nil
          refine AllReadyH.cons (o := { dst := some 44, op := Op.call { callee := Callee.value (Operand.func 44), args := #[Operand.tmp 43], argTypes := #[3] }, type := 34, pos := "ranges.go:151", after := #[{ on := 10, ground := Ground.data }], guard := none }) rfl (fun KK hKK => ?_) ?_
          · have wdu16 := wid_kq su0 HNP.out HWS.out
            go_simp
            refine (HCC.out _ wdu16).mono ?_
            rintro e u16' ⟨vu16, rfl, ou16, bu16'⟩
            obtain ⟨ua, uc, rfl⟩ := Ow.shape ou16
            (try go_wp2_with fail)
            refine hKK.out _ _ (su0.trans (Kq.of bu16' (Nat.le_trans HNS.out su0.oth.size))) (fun _ => ?_)
            clear hKK KK
            try simp only [Act.put, List.setIfInBounds_toArray, List.set_cons_zero, List.set_cons_succ]
            refine wpAnyH_name (fun u16 hu16 => ?_)
            have su16 : (Kq w3.heap.size kP W) u16 := by rw [hu16.out]; exact (su0.trans (Kq.of bu16' (Nat.le_trans HNS.out su0.oth.size)))
            have PXu16 : PB u16 kP w3.heap.size (.slice va ZZ.length vc) V ZZ := by rw [hu16.out]; exact (PXu0.below bu16')
            have OWu16 : Hid (Ow u16 w3.heap.size (.slice ua XX.length uc) XX) := by unfold Hid; rw [hu16.out]; exact Ow.mono ou16 (Nat.le_trans HNS.out su0.oth.size)
            refine wpAnyH_ready (rs := [0, 12]) (by kernel_rfl) (by simp) ?_
            refine AllReadyH.cons (o := { dst := some 33, op := Op.load 96 (Operand.tmp 6), type := 96, pos := "ranges.go:151", after := #[], guard := none }) rfl (fun KK hKK => ?_) ?_
            · have ccu17 := PXu16.cell
              go_simp
              refine hKK.out _ _ (su16) (fun _ => ?_)
              clear hKK KK
              try simp only [Act.put, List.setIfInBounds_toArray, List.set_cons_zero, List.set_cons_succ]
              refine wpAnyH_name (fun u17 hu17 => ?_)
              have su17 : (Kq w3.heap.size kP W) u17 := by rw [hu17.out]; exact (su16)
              have PXu17 : PB u17 kP w3.heap.size (.slice va ZZ.length vc) V ZZ := by rw [hu17.out]; exact (PXu16)
              (try have Eu17 : Hid (u17 = nope.alloc (.cells #[.slice ua XX.length uc] 34)) := by unfold Hid; rw [hu17.out]; exact Eu16.out)
              refine wpAnyH_ready (rs := [12]) (by kernel_rfl) (by simp) ?_
              refine AllReadyH.cons (o := { dst := some 45, op := Op.buildSlice 96 1 #[(0, Operand.tmp 44)], type := 96, pos := "ranges.go:151", after := #[{ on := 11, ground := Ground.data }], guard := none }) rfl (fun KK hKK => ?_) ?_
              · go_simp
                refine hKK.out _ _ (su17.trans (Kq.of (al_below _ _) (Nat.le_trans HNS.out su17.oth.size))) (fun _ => ?_)
                clear hKK KK
                try simp only [Act.put, List.setIfInBounds_toArray, List.set_cons_zero, List.set_cons_succ]
                refine wpAnyH_name (fun u18 hu18 => ?_)
                have su18 : (Kq w3.heap.size kP W) u18 := by rw [hu18.out]; exact (su17.trans (Kq.of (al_below _ _) (Nat.le_trans HNS.out su17.oth.size)))
                have PW : Hid (PB u17 kP w3.heap.size (.slice va ZZ.length vc) V ZZ) := PXu17
                have PXu18 : PB u18 kP w3.heap.size (.slice va ZZ.length vc) V ZZ := by rw [hu18.out]; exact (PXu17.below (al_below _ _))
                have OZ : Hid (Ow u17 w3.heap.size (.slice ua XX.length uc) XX) := by first | exact OWu17.out | exact OWu16.out | (have := OWu16.out; rw [← hu17.out] at this; exact this)
                have Eu18 : Hid (u18 = u17.alloc (.cells #[.slice ua XX.length uc] 34)) := hu18
                have SW : Hid (Kq w3.heap.size kP W u17) := su17
                refine wpAnyH_ready (rs := [13]) (by kernel_rfl) (by simp) ?_
                refine AllReadyH.cons (o := { dst := some 46, op := Op.call { callee := Callee.builtin Builtin.append, args := #[Operand.tmp 33, Operand.tmp 45], argTypes := #[96, 96] }, type := 96, pos := "ranges.go:151", after := #[{ on := 0, ground := Ground.data }, { on := 12, ground := Ground.data }, { on := 11, ground := Ground.chain }], guard := none }) rfl (fun KK hKK => ?_) ?_
                · refine wp_append_own _ _ _ 96 rfl w3.heap.size 34 i0 (.slice none 0 0) 1 24 Tryz.underlying96 hi0 hz0 hzs hzb rfl (by decide) _ ZZ.length _ rfl PXu18.2.1 ⟨u17.heap.size, 0, none⟩ 1 1 [.slice ua XX.length uc] rfl rfl (by rw [Eu18.out]; exact one_cell) (by simp [Value.oneCell']) (by unfold maxLen; omega) (by omega) (Nat.le_trans HNS.out su18.oth.size) (fun v7 u19' hou19 hgu19 _ => ?_)
                  rw [Eu18.out] at hgu19
                  obtain ⟨zu19, pu19, qu19, ru19⟩ := pb_step PW.out OZ.out (Nat.le_trans HNS.out SW.out.oth.size) HKP.out hou19 hgu19
                  obtain ⟨g7, cap7, rfl⟩ := ownsRow_succ hou19
                  refine hKK.out _ _ (SW.out.trans ru19) (fun _ => ?_)
                  clear hKK KK
                  try simp only [Act.put, List.setIfInBounds_toArray, List.set_cons_zero, List.set_cons_succ]
                  refine wpAnyH_name (fun u19 hu19 => ?_)
                  have su19 : (Kq w3.heap.size kP W) u19 := by rw [hu19.out]; exact (SW.out.trans ru19)
                  rw [← hu19.out] at zu19 pu19 qu19
                  clear hou19 hgu19 ru19
                  refine wpAnyH_ready (rs := [14]) (by kernel_rfl) (by simp) ?_
                  refine AllReadyH.cons (o := { dst := none, op := Op.store 96 (Operand.tmp 6) (Operand.tmp 46), type := 0, pos := "ranges.go:151", after := #[{ on := 13, ground := Ground.data }, { on := 13, ground := Ground.chain }, { on := 0, ground := Ground.phase }, { on := 1, ground := Ground.phase }, { on := 2, ground := Ground.phase }, { on := 3, ground := Ground.phase }, { on := 4, ground := Ground.phase }, { on := 5, ground := Ground.phase }, { on := 6, ground := Ground.phase }, { on := 7, ground := Ground.phase }, { on := 8, ground := Ground.phase }, { on := 9, ground := Ground.phase }, { on := 10, ground := Ground.phase }, { on := 11, ground := Ground.phase }, { on := 12, ground := Ground.phase }, { on := 13, ground := Ground.phase }], guard := none }) rfl (fun KK hKK => ?_) ?_
                  · have cau20 := zu19.1
                    have cbu20 := zu19.2
                    go_simp
                    refine hKK.out _ _ (SW.out.trans qu19) (fun _ => ?_)
                    clear hKK KK
                    try simp only [Act.put]
                    refine wpAnyH_name (fun u20 hu20 => ?_)
                    have su20 : (Kq w3.heap.size kP W) u20 := by rw [hu20.out]; exact (SW.out.trans qu19)
                    rw [← hu20.out] at pu19
                    refine wpAnyH_done (by kernel_rfl) ?_ _
                    have P1 : Hid (PB u20 kP w3.heap.size _ _ _) := pu19
                    have P2 : Hid (Kq w3.heap.size kP W u20) := su20
                    gi_wp2
                    gi_meet
                    exact ⟨_, _, by rw [HE.out]; exact P1.out, P2.out⟩
                  exact AllReadyH.nil
                exact AllReadyH.nil
              exact AllReadyH.nil
            refine AllReadyH.cons (o := { dst := some 45, op := Op.buildSlice 96 1 #[(0, Operand.tmp 44)], type := 96, pos := "ranges.go:151", after := #[{ on := 11, ground := Ground.data }], guard := none }) rfl (fun KK hKK => ?_) ?_
            · go_simp
              refine hKK.out _ _ (su16.trans (Kq.of (al_below _ _) (Nat.le_trans HNS.out su16.oth.size))) (fun _ => ?_)
              clear hKK KK
              try simp only [Act.put, List.setIfInBounds_toArray, List.set_cons_zero, List.set_cons_succ]
              refine wpAnyH_name (fun u21 hu21 => ?_)
              have su21 : (Kq w3.heap.size kP W) u21 := by rw [hu21.out]; exact (su16.trans (Kq.of (al_below _ _) (Nat.le_trans HNS.out su16.oth.size)))
              have PW : Hid (PB u16 kP w3.heap.size (.slice va ZZ.length vc) V ZZ) := PXu16
              have PXu21 : PB u21 kP w3.heap.size (.slice va ZZ.length vc) V ZZ := by rw [hu21.out]; exact (PXu16.below (al_below _ _))
              have OZ : Hid (Ow u16 w3.heap.size (.slice ua XX.length uc) XX) := by first | exact OWu16.out | exact OWu16.out | (have := OWu16.out; rw [← hu16.out] at this; exact this)
              have Eu21 : Hid (u21 = u16.alloc (.cells #[.slice ua XX.length uc] 34)) := hu21
              have SW : Hid (Kq w3.heap.size kP W u16) := su16
              refine wpAnyH_ready (rs := [0]) (by kernel_rfl) (by simp) ?_
              refine AllReadyH.cons (o := { dst := some 33, op := Op.load 96 (Operand.tmp 6), type := 96, pos := "ranges.go:151", after := #[], guard := none }) rfl (fun KK hKK => ?_) ?_
              · have ccu22 := PXu21.cell
                go_simp
                refine hKK.out _ _ (su21) (fun _ => ?_)
                clear hKK KK
                try simp only [Act.put, List.setIfInBounds_toArray, List.set_cons_zero, List.set_cons_succ]
                refine wpAnyH_name (fun u22 hu22 => ?_)
                have su22 : (Kq w3.heap.size kP W) u22 := by rw [hu22.out]; exact (su21)
                have PXu22 : PB u22 kP w3.heap.size (.slice va ZZ.length vc) V ZZ := by rw [hu22.out]; exact (PXu21)
                (try have Eu22 : Hid (u22 = u16.alloc (.cells #[.slice ua XX.length uc] 34)) := by unfold Hid; rw [hu22.out]; exact Eu21.out)
                refine wpAnyH_ready (rs := [13]) (by kernel_rfl) (by simp) ?_
                refine AllReadyH.cons (o := { dst := some 46, op := Op.call { callee := Callee.builtin Builtin.append, args := #[Operand.tmp 33, Operand.tmp 45], argTypes := #[96, 96] }, type := 96, pos := "ranges.go:151", after := #[{ on := 0, ground := Ground.data }, { on := 12, ground := Ground.data }, { on := 11, ground := Ground.chain }], guard := none }) rfl (fun KK hKK => ?_) ?_
                · refine wp_append_own _ _ _ 96 rfl w3.heap.size 34 i0 (.slice none 0 0) 1 24 Tryz.underlying96 hi0 hz0 hzs hzb rfl (by decide) _ ZZ.length _ rfl PXu22.2.1 ⟨u16.heap.size, 0, none⟩ 1 1 [.slice ua XX.length uc] rfl rfl (by rw [Eu22.out]; exact one_cell) (by simp [Value.oneCell']) (by unfold maxLen; omega) (by omega) (Nat.le_trans HNS.out su22.oth.size) (fun v7 u23' hou23 hgu23 _ => ?_)
                  rw [Eu22.out] at hgu23
                  obtain ⟨zu23, pu23, qu23, ru23⟩ := pb_step PW.out OZ.out (Nat.le_trans HNS.out SW.out.oth.size) HKP.out hou23 hgu23
                  obtain ⟨g7, cap7, rfl⟩ := ownsRow_succ hou23
                  refine hKK.out _ _ (SW.out.trans ru23) (fun _ => ?_)
                  clear hKK KK
                  try simp only [Act.put, List.setIfInBounds_toArray, List.set_cons_zero, List.set_cons_succ]
                  refine wpAnyH_name (fun u23 hu23 => ?_)
                  have su23 : (Kq w3.heap.size kP W) u23 := by rw [hu23.out]; exact (SW.out.trans ru23)
                  rw [← hu23.out] at zu23 pu23 qu23
                  clear hou23 hgu23 ru23
                  refine wpAnyH_ready (rs := [14]) (by kernel_rfl) (by simp) ?_
                  refine AllReadyH.cons (o := { dst := none, op := Op.store 96 (Operand.tmp 6) (Operand.tmp 46), type := 0, pos := "ranges.go:151", after := #[{ on := 13, ground := Ground.data }, { on := 13, ground := Ground.chain }, { on := 0, ground := Ground.phase }, { on := 1, ground := Ground.phase }, { on := 2, ground := Ground.phase }, { on := 3, ground := Ground.phase }, { on := 4, ground := Ground.phase }, { on := 5, ground := Ground.phase }, { on := 6, ground := Ground.phase }, { on := 7, ground := Ground.phase }, { on := 8, ground := Ground.phase }, { on := 9, ground := Ground.phase }, { on := 10, ground := Ground.phase }, { on := 11, ground := Ground.phase }, { on := 12, ground := Ground.phase }, { on := 13, ground := Ground.phase }], guard := none }) rfl (fun KK hKK => ?_) ?_
                  · have cau24 := zu23.1
                    have cbu24 := zu23.2
                    go_simp
                    refine hKK.out _ _ (SW.out.trans qu23) (fun _ => ?_)
                    clear hKK KK
                    try simp only [Act.put]
                    refine wpAnyH_name (fun u24 hu24 => ?_)
                    have su24 : (Kq w3.heap.size kP W) u24 := by rw [hu24.out]; exact (SW.out.trans qu23)
                    rw [← hu24.out] at pu23
                    refine wpAnyH_done (by kernel_rfl) ?_ _
                    have P1 : Hid (PB u24 kP w3.heap.size _ _ _) := pu23
                    have P2 : Hid (Kq w3.heap.size kP W u24) := su24
                    gi_wp2
                    gi_meet
                    exact ⟨_, _, by rw [HE.out]; exact P1.out, P2.out⟩
                  exact AllReadyH.nil
                exact AllReadyH.nil
              exact AllReadyH.nil
            exact AllReadyH.nil
          exact AllReadyH.nil
        · have HE : Hid (L1 = []) := by unfold Hid; rw [HL1.out, if_neg him]
          clear HL1
          have lt1 : decide ((i : Int) < (m : Int)) = false := by simp; omega
          have lt1' : ¬ (i : Int) < (m : Int) := by omega
          clear HAT HSN
          gi_wp2
          gi_meet
          exact ⟨_, _, by rw [HE.out, List.append_nil]; exact HPW.out, Kq.refl _ _ _⟩
      case rest =>
        obtain ⟨wz, rfl⟩ : ∃ wz, wz = wc := ⟨_, rfl⟩
        obtain ⟨vz, Vz, hpz, hkz⟩ := hcut
        have HPZ : Hid (PB wz kP w3.heap.size vz Vz (ZZ ++ L1)) := hpz
        have HKZ : Hid (Kq w3.heap.size kP W wz) := hkz
        obtain ⟨ya, yc, rfl⟩ := own_shape hpz.2.1
        have hZ2 : (ZZ ++ L1).length ≤ 131 := by
          have := HL1.out
          have : L1.length ≤ 1 := by rw [this]; split <;> simp
          rw [List.length_append]
          omega
        have HEND : Hid (∀ v V4 W4, PB W4 kP w3.heap.size v V4 ((ZZ ++ L1) ++ [nB (y.2 - y.1)]) → Kq w3.heap.size kP wz W4 → KeepsFrom W0.heap.size W W4 ∧ Kt W0.heap.size (fun k => w3.heap.size ≤ k ∧ k ≠ w5.heap.size) W W4 ∧ (∃ vv V, PB W4 kP w3.heap.size vv V (prsA l ((pre ++ [x]).map (·.1)))) ∧ From w3 W4 ∧ W0.heap.size ≤ W4.heap.size ∧ W4.heap[w5.heap.size]? = some (.cells #[.slice (some ⟨bb, off, none⟩) n c] 23 (0, 0))) := fun v V4 W4 q1 q2 => by
          have q3 := HKZ.out.trans q2
          have hne : w5.heap.size ≠ kP := by have := HNB.out.1; omega
          refine ⟨q3.oth.from _, q3.kt (b := w5.heap.size) (fun j hj hx => ?_) hne (by decide) HBB.out, ⟨v, V4, by rw [HSN.out]; exact q1⟩, q3.bel (Nat.le_refl _) HFW.out, Nat.le_trans HSW.out q3.oth.size, q3.cel _ _ _ _ hne (by decide) HBB.out⟩
          have := HNB.out.2
          rcases Nat.lt_or_ge j w3.heap.size with h' | h'
          · exact .inl h'
          · exact .inr (Classical.byContradiction fun e => hx ⟨h', e⟩)
        have HCC : Hid (∀ V, Fi.Wid V → Calls Tryz.prog 44 #[.int .i64 (y.2 - y.1)] V fun e w' => ∃ v, e = .returned v ∧ Ow w' V.heap.size v (nB (y.2 - y.1)) ∧ Below V.heap.size V w') := fun V hv => fnum_own _ V hv
        have HNP : Hid (1 < w3.heap.size) := Nat.lt_of_lt_of_le HW.out.pos hww
        have HWS : Hid (Fi.Wid wz) := wid_kq hkz HNP.out (HW1.out _ (Below.refl _ _))
        have HNS : Hid (w3.heap.size ≤ wz.heap.size) := Nat.le_trans (Below.size HFW.out) hkz.oth.size
        have FL3 : Hid (∀ x, Kq w3.heap.size kP wz x → x.cell? ⟨Bx, 1, none⟩ = some (.int .i64 y.2) ∧ x.cell? ⟨Bx, 0, none⟩ = some (.int .i64 y.1)) := fun x hx => by
          have h3 := (HKZ.out.trans hx).cel Bx _ _ _ hBk (by decide) HBX.out
          exact ⟨by simp [World.cell?, h3], by simp [World.cell?, h3]⟩
        have sw3 : IntKind.i64.wrap (y.2 - y.1) = y.2 - y.1 := by rw [IntKind.wrap_i64]; omega
        clear hpz hkz HSN HAT HL1 k1 k2 k3 x0 x1 HPW
        generalize nB (y.2 - y.1) = XX at *
        generalize ZZ ++ L1 = Z2 at *
        gi_upto_region 11 with fail
        refine region_round lp _ (by rintro ⟨_, _, h⟩; exact h) (by kernel_rfl) (S := Kq w3.heap.size kP wz) (by kernel_rfl) (Kq.drew _ _ _) (fun _ => ?_)
        refine wpAnyH_name (fun u0 hu0 => ?_)
        have su0 : (Kq w3.heap.size kP wz) u0 := by rw [hu0.out]; exact (Kq.drew _ _ _)
        have PXu0 : PB u0 kP w3.heap.size (.slice ya Z2.length yc) Vz Z2 := by rw [hu0.out]; exact HPZ.out
        refine wpAnyH_take (i := 1) (oi := { dst := some 48, op := Op.fieldAddr 89 (Operand.tmp 8) 1, type := 0, pos := "ranges.go:153", after := #[], guard := none }) (v := ?vt1) rfl (by kernel_rfl) (by kernel_rfl) (by kernel_rfl) (fun _ _ _ h => h) (Or.inl ⟨by rfl, ?yt1⟩) su0 ?rt1
        case yt1 => (intro w hSw; go_simp; try with_reducible rfl)
        try simp only [Act.put, List.setIfInBounds_toArray, List.set_cons_zero, List.set_cons_succ]
        refine wpAnyH_take (i := 2) (oi := { dst := some 49, op := Op.load 3 (Operand.tmp 48), type := 3, pos := "ranges.go:153", after := #[{ on := 1, ground := Ground.data }], guard := none }) (v := .int .i64 y.2) rfl (by kernel_rfl) (by kernel_rfl) (by kernel_rfl) (fun _ _ _ h => h) (Or.inl ⟨by rfl, ?yt2⟩) su0 ?rt2
        case yt2 => (intro w hSw; obtain ⟨t0, t1⟩ := FL3.out w hSw; go_simp; try with_reducible rfl)
        try simp only [Act.put, List.setIfInBounds_toArray, List.set_cons_zero, List.set_cons_succ]
        refine wpAnyH_take (i := 3) (oi := { dst := some 50, op := Op.fieldAddr 89 (Operand.tmp 8) 0, type := 0, pos := "ranges.go:153", after := #[], guard := none }) (v := ?vt3) rfl (by kernel_rfl) (by kernel_rfl) (by kernel_rfl) (fun _ _ _ h => h) (Or.inl ⟨by rfl, ?yt3⟩) su0 ?rt3
        case yt3 => (intro w hSw; go_simp; try with_reducible rfl)
        try simp only [Act.put, List.setIfInBounds_toArray, List.set_cons_zero, List.set_cons_succ]
        refine wpAnyH_take (i := 4) (oi := { dst := some 51, op := Op.load 3 (Operand.tmp 50), type := 3, pos := "ranges.go:153", after := #[{ on := 3, ground := Ground.data }], guard := none }) (v := .int .i64 y.1) rfl (by kernel_rfl) (by kernel_rfl) (by kernel_rfl) (fun _ _ _ h => h) (Or.inl ⟨by rfl, ?yt4⟩) su0 ?rt4
        case yt4 => (intro w hSw; obtain ⟨t0, t1⟩ := FL3.out w hSw; go_simp; try with_reducible rfl)
        try simp only [Act.put, List.setIfInBounds_toArray, List.set_cons_zero, List.set_cons_succ]
        refine wpAnyH_take (i := 5) (oi := { dst := some 52, op := Op.binOp BinOp.sub 3 (Operand.tmp 49) (Operand.tmp 51) 3, type := 3, pos := "ranges.go:153", after := #[{ on := 2, ground := Ground.data }, { on := 4, ground := Ground.data }], guard := none }) (v := ?vt5) rfl (by kernel_rfl) (by kernel_rfl) (by kernel_rfl) (fun _ _ _ h => h) (Or.inl ⟨by rfl, ?yt5⟩) su0 ?rt5
        case yt5 => (intro w hSw; go_simp; try with_reducible rfl)
        try simp only [Act.put, List.setIfInBounds_toArray, List.set_cons_zero, List.set_cons_succ]
        refine wpAnyH_ready (rs := [0, 6]) (by kernel_rfl) (by simp) ?_
        refine AllReadyH.cons (o := { dst := some 47, op := Op.load 96 (Operand.tmp 6), type := 96, pos := "ranges.go:153", after := #[], guard := none }) rfl (fun KK hKK => ?_) ?_
        · have ccu6 := PXu0.cell
          go_simp
          refine hKK.out _ _ (su0) (fun _ => ?_)
          clear hKK KK
          try simp only [Act.put, List.setIfInBounds_toArray, List.set_cons_zero, List.set_cons_succ]
          refine wpAnyH_name (fun u6 hu6 => ?_)
          have su6 : (Kq w3.heap.size kP wz) u6 := by rw [hu6.out]; exact (su0)
          have PXu6 : PB u6 kP w3.heap.size (.slice ya Z2.length yc) Vz Z2 := by rw [hu6.out]; exact (PXu0)
          (try have Eu6 : Hid (u6 = nope.alloc (.cells #[.slice ua XX.length uc] 34)) := by unfold Hid; rw [hu6.out]; exact Eu0.out)
          refine wpAnyH_ready (rs := [6]) (by kernel_rfl) (by simp) ?_
          refine AllReadyH.cons (o := { dst := some 53, op := Op.call { callee := Callee.value (Operand.func 44), args := #[Operand.tmp 52], argTypes := #[3] }, type := 34, pos := "ranges.go:153", after := #[{ on := 5, ground := Ground.data }], guard := none }) rfl (fun KK hKK => ?_) ?_
          · have wdu7 := wid_kq su6 HNP.out HWS.out
            go_simp
            refine (HCC.out _ wdu7).mono ?_
            rintro e u7' ⟨vu7, rfl, ou7, bu7'⟩
            obtain ⟨ua, uc, rfl⟩ := Ow.shape ou7
            (try go_wp2_with fail)
            refine hKK.out _ _ (su6.trans (Kq.of bu7' (Nat.le_trans HNS.out su6.oth.size))) (fun _ => ?_)
            clear hKK KK
            try simp only [Act.put, List.setIfInBounds_toArray, List.set_cons_zero, List.set_cons_succ]
            refine wpAnyH_name (fun u7 hu7 => ?_)
            have su7 : (Kq w3.heap.size kP wz) u7 := by rw [hu7.out]; exact (su6.trans (Kq.of bu7' (Nat.le_trans HNS.out su6.oth.size)))
            have PXu7 : PB u7 kP w3.heap.size (.slice ya Z2.length yc) Vz Z2 := by rw [hu7.out]; exact (PXu6.below bu7')
            have OWu7 : Hid (Ow u7 w3.heap.size (.slice ua XX.length uc) XX) := by unfold Hid; rw [hu7.out]; exact Ow.mono ou7 (Nat.le_trans HNS.out su6.oth.size)
            refine wpAnyH_ready (rs := [7]) (by kernel_rfl) (by simp) ?_
            refine AllReadyH.cons (o := { dst := some 54, op := Op.buildSlice 96 1 #[(0, Operand.tmp 53)], type := 96, pos := "ranges.go:153", after := #[{ on := 6, ground := Ground.data }], guard := none }) rfl (fun KK hKK => ?_) ?_
            · go_simp
              refine hKK.out _ _ (su7.trans (Kq.of (al_below _ _) (Nat.le_trans HNS.out su7.oth.size))) (fun _ => ?_)
              clear hKK KK
              try simp only [Act.put, List.setIfInBounds_toArray, List.set_cons_zero, List.set_cons_succ]
              refine wpAnyH_name (fun u8 hu8 => ?_)
              have su8 : (Kq w3.heap.size kP wz) u8 := by rw [hu8.out]; exact (su7.trans (Kq.of (al_below _ _) (Nat.le_trans HNS.out su7.oth.size)))
              have PW : Hid (PB u7 kP w3.heap.size (.slice ya Z2.length yc) Vz Z2) := PXu7
              have PXu8 : PB u8 kP w3.heap.size (.slice ya Z2.length yc) Vz Z2 := by rw [hu8.out]; exact (PXu7.below (al_below _ _))
              have OZ : Hid (Ow u7 w3.heap.size (.slice ua XX.length uc) XX) := by first | exact OWu7.out | exact OWu7.out | (have := OWu7.out; rw [← hu7.out] at this; exact this)
              have Eu8 : Hid (u8 = u7.alloc (.cells #[.slice ua XX.length uc] 34)) := hu8
              have SW : Hid (Kq w3.heap.size kP wz u7) := su7
              refine wpAnyH_ready (rs := [8]) (by kernel_rfl) (by simp) ?_
              refine AllReadyH.cons (o := { dst := some 55, op := Op.call { callee := Callee.builtin Builtin.append, args := #[Operand.tmp 47, Operand.tmp 54], argTypes := #[96, 96] }, type := 96, pos := "ranges.go:153", after := #[{ on := 0, ground := Ground.data }, { on := 7, ground := Ground.data }, { on := 6, ground := Ground.chain }], guard := none }) rfl (fun KK hKK => ?_) ?_
              · refine wp_append_own _ _ _ 96 rfl w3.heap.size 34 i0 (.slice none 0 0) 1 24 Tryz.underlying96 hi0 hz0 hzs hzb rfl (by decide) _ Z2.length _ rfl PXu8.2.1 ⟨u7.heap.size, 0, none⟩ 1 1 [.slice ua XX.length uc] rfl rfl (by rw [Eu8.out]; exact one_cell) (by simp [Value.oneCell']) (by unfold maxLen; omega) (by omega) (Nat.le_trans HNS.out su8.oth.size) (fun v7 u9' hou9 hgu9 _ => ?_)
                rw [Eu8.out] at hgu9
                obtain ⟨zu9, pu9, qu9, ru9⟩ := pb_step PW.out OZ.out (Nat.le_trans HNS.out SW.out.oth.size) HKP.out hou9 hgu9
                obtain ⟨g7, cap7, rfl⟩ := ownsRow_succ hou9
                refine hKK.out _ _ (SW.out.trans ru9) (fun _ => ?_)
                clear hKK KK
                try simp only [Act.put, List.setIfInBounds_toArray, List.set_cons_zero, List.set_cons_succ]
                refine wpAnyH_name (fun u9 hu9 => ?_)
                have su9 : (Kq w3.heap.size kP wz) u9 := by rw [hu9.out]; exact (SW.out.trans ru9)
                rw [← hu9.out] at zu9 pu9 qu9
                clear hou9 hgu9 ru9
                refine wpAnyH_ready (rs := [9]) (by kernel_rfl) (by simp) ?_
                refine AllReadyH.cons (o := { dst := none, op := Op.store 96 (Operand.tmp 6) (Operand.tmp 55), type := 0, pos := "ranges.go:153", after := #[{ on := 8, ground := Ground.data }, { on := 8, ground := Ground.chain }, { on := 0, ground := Ground.phase }, { on := 1, ground := Ground.phase }, { on := 2, ground := Ground.phase }, { on := 3, ground := Ground.phase }, { on := 4, ground := Ground.phase }, { on := 5, ground := Ground.phase }, { on := 6, ground := Ground.phase }, { on := 7, ground := Ground.phase }, { on := 8, ground := Ground.phase }], guard := none }) rfl (fun KK hKK => ?_) ?_
                · have cau10 := zu9.1
                  have cbu10 := zu9.2
                  go_simp
                  refine hKK.out _ _ (SW.out.trans qu9) (fun _ => ?_)
                  clear hKK KK
                  try simp only [Act.put]
                  refine wpAnyH_name (fun u10 hu10 => ?_)
                  have su10 : (Kq w3.heap.size kP wz) u10 := by rw [hu10.out]; exact (SW.out.trans qu9)
                  rw [← hu10.out] at pu9
                  refine wpAnyH_done (by kernel_rfl) ?_ _
                  have P1 : Hid (PB u10 kP w3.heap.size _ _ _) := pu9
                  have P2 : Hid (Kq w3.heap.size kP wz u10) := su10
                  gi_wp2
                  exact HEND.out _ _ _ P1.out P2.out
                exact AllReadyH.nil
              exact AllReadyH.nil
            exact AllReadyH.nil
          exact AllReadyH.nil
        refine AllReadyH.cons (o := { dst := some 53, op := Op.call { callee := Callee.value (Operand.func 44), args := #[Operand.tmp 52], argTypes := #[3] }, type := 34, pos := "ranges.go:153", after := #[{ on := 5, ground := Ground.data }], guard := none }) rfl (fun KK hKK => ?_) ?_
        · have wdu11 := wid_kq su0 HNP.out HWS.out
          go_simp
          refine (HCC.out _ wdu11).mono ?_
          rintro e u11' ⟨vu11, rfl, ou11, bu11'⟩
          obtain ⟨ua, uc, rfl⟩ := Ow.shape ou11
          (try go_wp2_with fail)
          refine hKK.out _ _ (su0.trans (Kq.of bu11' (Nat.le_trans HNS.out su0.oth.size))) (fun _ => ?_)
          clear hKK KK
          try simp only [Act.put, List.setIfInBounds_toArray, List.set_cons_zero, List.set_cons_succ]
          refine wpAnyH_name (fun u11 hu11 => ?_)
          have su11 : (Kq w3.heap.size kP wz) u11 := by rw [hu11.out]; exact (su0.trans (Kq.of bu11' (Nat.le_trans HNS.out su0.oth.size)))
          have PXu11 : PB u11 kP w3.heap.size (.slice ya Z2.length yc) Vz Z2 := by rw [hu11.out]; exact (PXu0.below bu11')
          have OWu11 : Hid (Ow u11 w3.heap.size (.slice ua XX.length uc) XX) := by unfold Hid; rw [hu11.out]; exact Ow.mono ou11 (Nat.le_trans HNS.out su0.oth.size)
          refine wpAnyH_ready (rs := [0, 7]) (by kernel_rfl) (by simp) ?_
          refine AllReadyH.cons (o := { dst := some 47, op := Op.load 96 (Operand.tmp 6), type := 96, pos := "ranges.go:153", after := #[], guard := none }) rfl (fun KK hKK => ?_) ?_
          · have ccu12 := PXu11.cell
            go_simp
            refine hKK.out _ _ (su11) (fun _ => ?_)
            clear hKK KK
            try simp only [Act.put, List.setIfInBounds_toArray, List.set_cons_zero, List.set_cons_succ]
            refine wpAnyH_name (fun u12 hu12 => ?_)
            have su12 : (Kq w3.heap.size kP wz) u12 := by rw [hu12.out]; exact (su11)
            have PXu12 : PB u12 kP w3.heap.size (.slice ya Z2.length yc) Vz Z2 := by rw [hu12.out]; exact (PXu11)
            (try have Eu12 : Hid (u12 = nope.alloc (.cells #[.slice ua XX.length uc] 34)) := by unfold Hid; rw [hu12.out]; exact Eu11.out)
            refine wpAnyH_ready (rs := [7]) (by kernel_rfl) (by simp) ?_
            refine AllReadyH.cons (o := { dst := some 54, op := Op.buildSlice 96 1 #[(0, Operand.tmp 53)], type := 96, pos := "ranges.go:153", after := #[{ on := 6, ground := Ground.data }], guard := none }) rfl (fun KK hKK => ?_) ?_
            · go_simp
              refine hKK.out _ _ (su12.trans (Kq.of (al_below _ _) (Nat.le_trans HNS.out su12.oth.size))) (fun _ => ?_)
              clear hKK KK
              try simp only [Act.put, List.setIfInBounds_toArray, List.set_cons_zero, List.set_cons_succ]
              refine wpAnyH_name (fun u13 hu13 => ?_)
              have su13 : (Kq w3.heap.size kP wz) u13 := by rw [hu13.out]; exact (su12.trans (Kq.of (al_below _ _) (Nat.le_trans HNS.out su12.oth.size)))
              have PW : Hid (PB u12 kP w3.heap.size (.slice ya Z2.length yc) Vz Z2) := PXu12
              have PXu13 : PB u13 kP w3.heap.size (.slice ya Z2.length yc) Vz Z2 := by rw [hu13.out]; exact (PXu12.below (al_below _ _))
              have OZ : Hid (Ow u12 w3.heap.size (.slice ua XX.length uc) XX) := by first | exact OWu12.out | exact OWu11.out | (have := OWu11.out; rw [← hu12.out] at this; exact this)
              have Eu13 : Hid (u13 = u12.alloc (.cells #[.slice ua XX.length uc] 34)) := hu13
              have SW : Hid (Kq w3.heap.size kP wz u12) := su12
              refine wpAnyH_ready (rs := [8]) (by kernel_rfl) (by simp) ?_
              refine AllReadyH.cons (o := { dst := some 55, op := Op.call { callee := Callee.builtin Builtin.append, args := #[Operand.tmp 47, Operand.tmp 54], argTypes := #[96, 96] }, type := 96, pos := "ranges.go:153", after := #[{ on := 0, ground := Ground.data }, { on := 7, ground := Ground.data }, { on := 6, ground := Ground.chain }], guard := none }) rfl (fun KK hKK => ?_) ?_
              · refine wp_append_own _ _ _ 96 rfl w3.heap.size 34 i0 (.slice none 0 0) 1 24 Tryz.underlying96 hi0 hz0 hzs hzb rfl (by decide) _ Z2.length _ rfl PXu13.2.1 ⟨u12.heap.size, 0, none⟩ 1 1 [.slice ua XX.length uc] rfl rfl (by rw [Eu13.out]; exact one_cell) (by simp [Value.oneCell']) (by unfold maxLen; omega) (by omega) (Nat.le_trans HNS.out su13.oth.size) (fun v7 u14' hou14 hgu14 _ => ?_)
                rw [Eu13.out] at hgu14
                obtain ⟨zu14, pu14, qu14, ru14⟩ := pb_step PW.out OZ.out (Nat.le_trans HNS.out SW.out.oth.size) HKP.out hou14 hgu14
                obtain ⟨g7, cap7, rfl⟩ := ownsRow_succ hou14
                refine hKK.out _ _ (SW.out.trans ru14) (fun _ => ?_)
                clear hKK KK
                try simp only [Act.put, List.setIfInBounds_toArray, List.set_cons_zero, List.set_cons_succ]
                refine wpAnyH_name (fun u14 hu14 => ?_)
                have su14 : (Kq w3.heap.size kP wz) u14 := by rw [hu14.out]; exact (SW.out.trans ru14)
                rw [← hu14.out] at zu14 pu14 qu14
                clear hou14 hgu14 ru14
                refine wpAnyH_ready (rs := [9]) (by kernel_rfl) (by simp) ?_
                refine AllReadyH.cons (o := { dst := none, op := Op.store 96 (Operand.tmp 6) (Operand.tmp 55), type := 0, pos := "ranges.go:153", after := #[{ on := 8, ground := Ground.data }, { on := 8, ground := Ground.chain }, { on := 0, ground := Ground.phase }, { on := 1, ground := Ground.phase }, { on := 2, ground := Ground.phase }, { on := 3, ground := Ground.phase }, { on := 4, ground := Ground.phase }, { on := 5, ground := Ground.phase }, { on := 6, ground := Ground.phase }, { on := 7, ground := Ground.phase }, { on := 8, ground := Ground.phase }], guard := none }) rfl (fun KK hKK => ?_) ?_
                · have cau15 := zu14.1
                  have cbu15 := zu14.2
                  go_simp
                  refine hKK.out _ _ (SW.out.trans qu14) (fun _ => ?_)
                  clear hKK KK
                  try simp only [Act.put]
                  refine wpAnyH_name (fun u15 hu15 => ?_)
                  have su15 : (Kq w3.heap.size kP wz) u15 := by rw [hu15.out]; exact (SW.out.trans qu14)
                  rw [← hu15.out] at pu14
                  refine wpAnyH_done (by kernel_rfl) ?_ _
                  have P1 : Hid (PB u15 kP w3.heap.size _ _ _) := pu14
                  have P2 : Hid (Kq w3.heap.size kP wz u15) := su15
                  gi_wp2
                  exact HEND.out _ _ _ P1.out P2.out
                exact AllReadyH.nil
              exact AllReadyH.nil
            exact AllReadyH.nil
          refine AllReadyH.cons (o := { dst := some 54, op := Op.buildSlice 96 1 #[(0, Operand.tmp 53)], type := 96, pos := "ranges.go:153", after := #[{ on := 6, ground := Ground.data }], guard := none }) rfl (fun KK hKK => ?_) ?_
          · go_simp
            refine hKK.out _ _ (su11.trans (Kq.of (al_below _ _) (Nat.le_trans HNS.out su11.oth.size))) (fun _ => ?_)
            clear hKK KK
            try simp only [Act.put, List.setIfInBounds_toArray, List.set_cons_zero, List.set_cons_succ]
            refine wpAnyH_name (fun u16 hu16 => ?_)
            have su16 : (Kq w3.heap.size kP wz) u16 := by rw [hu16.out]; exact (su11.trans (Kq.of (al_below _ _) (Nat.le_trans HNS.out su11.oth.size)))
            have PW : Hid (PB u11 kP w3.heap.size (.slice ya Z2.length yc) Vz Z2) := PXu11
            have PXu16 : PB u16 kP w3.heap.size (.slice ya Z2.length yc) Vz Z2 := by rw [hu16.out]; exact (PXu11.below (al_below _ _))
            have OZ : Hid (Ow u11 w3.heap.size (.slice ua XX.length uc) XX) := by first | exact OWu11.out | exact OWu11.out | (have := OWu11.out; rw [← hu11.out] at this; exact this)
            have Eu16 : Hid (u16 = u11.alloc (.cells #[.slice ua XX.length uc] 34)) := hu16
            have SW : Hid (Kq w3.heap.size kP wz u11) := su11
            refine wpAnyH_ready (rs := [0]) (by kernel_rfl) (by simp) ?_
            refine AllReadyH.cons (o := { dst := some 47, op := Op.load 96 (Operand.tmp 6), type := 96, pos := "ranges.go:153", after := #[], guard := none }) rfl (fun KK hKK => ?_) ?_
            · have ccu17 := PXu16.cell
              go_simp
              refine hKK.out _ _ (su16) (fun _ => ?_)
              clear hKK KK
              try simp only [Act.put, List.setIfInBounds_toArray, List.set_cons_zero, List.set_cons_succ]
              refine wpAnyH_name (fun u17 hu17 => ?_)
              have su17 : (Kq w3.heap.size kP wz) u17 := by rw [hu17.out]; exact (su16)
              have PXu17 : PB u17 kP w3.heap.size (.slice ya Z2.length yc) Vz Z2 := by rw [hu17.out]; exact (PXu16)
              (try have Eu17 : Hid (u17 = u11.alloc (.cells #[.slice ua XX.length uc] 34)) := by unfold Hid; rw [hu17.out]; exact Eu16.out)
              refine wpAnyH_ready (rs := [8]) (by kernel_rfl) (by simp) ?_
              refine AllReadyH.cons (o := { dst := some 55, op := Op.call { callee := Callee.builtin Builtin.append, args := #[Operand.tmp 47, Operand.tmp 54], argTypes := #[96, 96] }, type := 96, pos := "ranges.go:153", after := #[{ on := 0, ground := Ground.data }, { on := 7, ground := Ground.data }, { on := 6, ground := Ground.chain }], guard := none }) rfl (fun KK hKK => ?_) ?_
              · refine wp_append_own _ _ _ 96 rfl w3.heap.size 34 i0 (.slice none 0 0) 1 24 Tryz.underlying96 hi0 hz0 hzs hzb rfl (by decide) _ Z2.length _ rfl PXu17.2.1 ⟨u11.heap.size, 0, none⟩ 1 1 [.slice ua XX.length uc] rfl rfl (by rw [Eu17.out]; exact one_cell) (by simp [Value.oneCell']) (by unfold maxLen; omega) (by omega) (Nat.le_trans HNS.out su17.oth.size) (fun v7 u18' hou18 hgu18 _ => ?_)
                rw [Eu17.out] at hgu18
                obtain ⟨zu18, pu18, qu18, ru18⟩ := pb_step PW.out OZ.out (Nat.le_trans HNS.out SW.out.oth.size) HKP.out hou18 hgu18
                obtain ⟨g7, cap7, rfl⟩ := ownsRow_succ hou18
                refine hKK.out _ _ (SW.out.trans ru18) (fun _ => ?_)
                clear hKK KK
                try simp only [Act.put, List.setIfInBounds_toArray, List.set_cons_zero, List.set_cons_succ]
                refine wpAnyH_name (fun u18 hu18 => ?_)
                have su18 : (Kq w3.heap.size kP wz) u18 := by rw [hu18.out]; exact (SW.out.trans ru18)
                rw [← hu18.out] at zu18 pu18 qu18
                clear hou18 hgu18 ru18
                refine wpAnyH_ready (rs := [9]) (by kernel_rfl) (by simp) ?_
                refine AllReadyH.cons (o := { dst := none, op := Op.store 96 (Operand.tmp 6) (Operand.tmp 55), type := 0, pos := "ranges.go:153", after := #[{ on := 8, ground := Ground.data }, { on := 8, ground := Ground.chain }, { on := 0, ground := Ground.phase }, { on := 1, ground := Ground.phase }, { on := 2, ground := Ground.phase }, { on := 3, ground := Ground.phase }, { on := 4, ground := Ground.phase }, { on := 5, ground := Ground.phase }, { on := 6, ground := Ground.phase }, { on := 7, ground := Ground.phase }, { on := 8, ground := Ground.phase }], guard := none }) rfl (fun KK hKK => ?_) ?_
                · have cau19 := zu18.1
                  have cbu19 := zu18.2
                  go_simp
                  refine hKK.out _ _ (SW.out.trans qu18) (fun _ => ?_)
                  clear hKK KK
                  try simp only [Act.put]
                  refine wpAnyH_name (fun u19 hu19 => ?_)
                  have su19 : (Kq w3.heap.size kP wz) u19 := by rw [hu19.out]; exact (SW.out.trans qu18)
                  rw [← hu19.out] at pu18
                  refine wpAnyH_done (by kernel_rfl) ?_ _
                  have P1 : Hid (PB u19 kP w3.heap.size _ _ _) := pu18
                  have P2 : Hid (Kq w3.heap.size kP wz u19) := su19
                  gi_wp2
                  exact HEND.out _ _ _ P1.out P2.out
                exact AllReadyH.nil
              exact AllReadyH.nil
            exact AllReadyH.nil
          exact AllReadyH.nil
        exact AllReadyH.nil
    case done =>
      rintro D xs W hD hS ⟨⟨vv, V, hpb⟩, hF, hS2, hbx⟩ hK
      rw [hS, prsA_bwl] at hpb
      have hPL := prs_len l l.length
      have HPA : Hid ((prs l l.length).flatten = putB l) := prs_all H0.out
      have HPU : Hid ((putB l).length ≤ 1032) := putB_len (by rw [← HN.out]; exact h64)
      rw [← HN.out] at hPL hpb HPA
      have k3 := hpb.cell
      obtain ⟨pp, pc, rfl, hP⟩ := LP.parts (PV.lp hpb.2) (by omega)
      have cj := fjoin_any pp pc (prs l n) W hP (by rw [HPA.out]; have := HPU.out; omega)
      have HBW : Hid (Below w.heap.size w W) := HB3.out.trans (Below.mono hF hww)
      have HDK : Hid (W.heap[D]? = some (.deferred (some []))) := hK
      have HDL : Hid (w.heap.size ≤ D) := Nat.le_trans (Nat.le_trans hww HF0.out.size) hD
      rw [HPA.out] at cj
      obtain ⟨PB0, hPB0⟩ : ∃ PB0, PB0 = putB l := ⟨_, rfl⟩
      have HPBE : Hid (PB0 = putB l) := hPB0
      rw [← hPB0] at cj
      clear hPB0
      clear hpb hF hS2 hbx hK hD hP hS HPA
      generalize (prs l n).length = np at *
      gi_wp2_with fail
      go_wp2_with fail
      refine cj.mono ?_
      rintro e w9 ⟨v9, rfl, o9, b9⟩
      obtain ⟨ja, jc, rfl⟩ := Ow.shape o9
      have HO9 : Hid (Ow w9 W.heap.size (.slice ja PB0.length jc) PB0) := o9
      have HB9 : Hid (Below W.heap.size W w9) := b9
      clear cj o9 b9
      go_wp2
      have hK9 : w9.heap[D]? = some (.deferred (some [])) := blk_kept HDK.out HB9.out (blk_lt HDK.out)
      refine ⟨by simp, .inl ⟨_, _, rfl, run_takeDeferred hK9, ?_⟩⟩
      refine ⟨_, results_tmp2 rfl _ _ _, .slice ja PB0.length jc, rfl, ?_, ?_⟩
      · rw [← HPBE.out]
        refine (Ow.mono HO9.out HBW.out.size).keep (fun k cs _ hh => ?_)
        rw [World.putObj_heap_other (fun e => by rw [e] at hh; rw [hh] at hK9; cases hK9)]
        exact hh
      · exact (HBW.out.trans (HB9.out.mono HBW.out.size)).trans (belowK_b (w := w) (Nat.le_refl _) w9 D _ _ HDL.out hK9 rfl rfl)
    case stop =>
      rintro D c pre W _ _ h _
      exact h.elim
end Go.Proofs.YtmplpdjkhdaniaaGreatDoor
