/-
  What the document's Check and Apply answer.
-/
import Derived.Test.YtgnampbbkaolmaaDoorDa
import Derived.Test.YtgnampbbkaolmaaDoorOrd
namespace Go.Proofs.YtgnampbbkaolmaaDoor
open Go.RowKit
set_option maxRecDepth 100000

set_option maxHeartbeats 2000000 in
theorem rcheck_any (v : Value) (l : List Xp) (old : Int) (w : World) (h : XS w v l) (hm : l.length ≤ 1000000) (ho : old ≤ 9223372036854775807) :
    Calls Tryd.prog 29 #[v, .int .i64 old] w fun e w' => e = .returned (.int .i64 (chkX l old)) ∧ Below w.heap.size w w' := by
  obtain ⟨a, c, rfl, h2, h3, h4⟩ := h.shape
  by_cases hl : l.length ≤ 4096
  · have HS : Hid (XS w (.slice a l.length c) l) := h
    have HH : Hid (∀ j, j < l.length → mayX (atX l j) old = false → chkX l old = 4) := fun j hj => chk_hit hl j hj
    have HA : Hid ((∀ j, j < l.length → mayX (atX l j) old = true) → chkX l old = if 65536 < totX l then 5 else 0) := chk_all hl
    have HU : Hid (∀ j, j < l.length → totX (l.take (j + 1)) = totX (l.take j) + mkX (atX l j)) := totX_step l
    have HT : Hid (∀ j, totX (l.take j) ≤ totX l) := totX_take l
    have HP : Hid (∀ j, 0 ≤ totX (l.take j)) := fun j => totX_pos _
    have HE : Hid (totX (l.take l.length) = totX l) := by unfold Hid; rw [List.take_length]
    obtain ⟨n, hn⟩ : ∃ n, n = l.length := ⟨_, rfl⟩
    have HN : Hid (n = l.length) := hn
    rw [← hn] at HS HH HA HU HE h2 hl hm ⊢
    generalize chkX l old = r at *
    clear h h3 h4 hn hm
    have nl : ¬ 4096 < (n : Int) := by omega
    go_enter Tryd.func29, Tryd.ntmps29
    go_wp2
    go_loopw [5] (fun q wr => ∃ j : Nat, j ≤ n ∧ q = .int .i64 j ∧ (∀ k, k < j → mayX (atX l k) old = true) ∧ Below w.heap.size w wr) (fun q _ => n - (intOf q).toNat)
    case atStart => exact ⟨0, by omega, rfl, fun k hk => by omega, Below.refl _ _⟩
    case round =>
      obtain ⟨j, hj, rfl, ok, bel⟩ := hrel
      have HB : Hid (Below w.heap.size w wr) := bel
      have OK : Hid (∀ k, k < j → mayX (atX l k) old = true) := ok
      clear bel ok
      by_cases hlt : j < n
      · have lt2 : (j : Int) < (n : Int) := by omega
        obtain ⟨b, off, ua, un, uc, rfl, c0, c1, c2, c3, hun, _⟩ := (HS.out.kept HB.out).at j (by rw [← HN.out]; exact hlt)
        have hh := HH.out j hlt
        have HO : Hid (mayX (atX l j) old = true → ∀ k, k < j + 1 → mayX (atX l k) old = true) := fun e k hk => by
          by_cases hkj : k = j
          · rw [hkj]; exact e
          · exact OK.out k (by omega)
        generalize atX l j = x at *
        have CM := rmay_any x old ua un uc wr hun ho
        have HH1 : Hid (mayX x old = false → r = 4) := hh
        clear hun hh OK
        generalize mayX x old = m at *
        go_wp2_with fail
        refine CM.mono ?_
        rintro e w2 ⟨rfl, b2⟩
        clear CM
        have B2 : Hid (Below w.heap.size w w2) := HB.out.trans (b2.mono HB.out.size)
        clear b2
        cases m with
        | false =>
          obtain rfl := HH1.out rfl
          go_wp2
          go_ret
          exact ⟨rfl, B2.out⟩
        | true =>
          have HO1 := HO.out rfl
          clear HH1 HO
          have HO : Hid (∀ k, k < j + 1 → mayX (atX l k) old = true) := HO1
          clear HO1
          go_wp2
          go_roundw
          case rel => exact ⟨j + 1, by omega, by go_num, HO.out, B2.out⟩
          case measure => simp [intOf]; omega
      · obtain rfl : j = n := by omega
        have HA1 : Hid (r = if 65536 < totX l then 5 else 0) := HA.out OK.out
        have HMY : Hid (∀ k, k < j → mayX (atX l k) old = true) := OK.out
        clear HA OK HH
        go_wp2
        obtain ⟨wo, hwo⟩ : ∃ wo, wo = wr := ⟨_, rfl⟩
        rw [← hwo] at HB ⊢
        clear hwo
        go_loopw [6, 7] (fun s q wr => ∃ i : Nat, i ≤ j ∧ q = .int .i64 i ∧ s = .int .i64 (65536 - totX (l.take i)) ∧ totX (l.take i) ≤ 65536 ∧ Below w.heap.size w wr) (fun _ q _ => j - (intOf q).toNat)
        case atStart => exact ⟨0, by omega, rfl, rfl, by simp [totX], HB.out⟩
        case round =>
          clear HB
          obtain ⟨i, hi, rfl, rfl, hti, bel⟩ := hrel
          have HB : Hid (Below w.heap.size w wr) := bel
          clear bel
          have hp := HP.out i
          by_cases hlt : i < j
          · have lt2 : (i : Int) < (j : Int) := by omega
            have h1 := (HS.out.kept HB.out).at i (by rw [← HN.out]; exact hlt)
            have HAT : Hid (∀ W, Below w.heap.size w W → ∃ b off ua un uc, a = some ⟨b, off, none⟩ ∧ W.cell? ⟨b, off + i * 4, none⟩ = some (.bool (atX l i).c) ∧ W.cell? ⟨b, off + i * 4 + 1, none⟩ = some (.int .i64 (atX l i).a) ∧ W.cell? ⟨b, off + i * 4 + 2, none⟩ = some (.int .i64 (atX l i).n) ∧ W.cell? ⟨b, off + i * 4 + 3, none⟩ = some (.slice ua un uc) ∧ un = (atX l i).d.length ∧ Sl W (.slice ua un uc) (atX l i).d) := fun W hb => (HS.out.kept hb).at i (by rw [← HN.out]; exact hlt)
            obtain ⟨b, off, ua, un, uc, rfl, c0, c1, c2, c3, hun, _⟩ := h1
            have hu := HU.out i hlt
            have ht := HT.out (i + 1)
            have hx0 := mkX_pos (atX l i)
            have hmy := HMY.out i hlt
            generalize atX l i = x at *
            have CM : Hid (∀ W, Calls Tryd.prog 35 #[xval x ua un uc] W fun e w' => e = .returned (.int .i64 (mkX x)) ∧ Below W.heap.size W w') := fun W => rmakes_any x ua un uc W hun (fun hc => by obtain ⟨-, -, q, -⟩ := (mayX_copy hc).1 hmy; omega)
            have c := CM.out wr
            clear hun hmy
            generalize totX (l.take i) = s at *
            generalize mkX x = m at *
            go_wp2_with fail
            refine c.mono ?_
            rintro e w2 ⟨rfl, b2⟩
            clear c
            have B2 : Hid (Below w.heap.size w w2) := HB.out.trans (b2.mono HB.out.size)
            have d0 := (b2.cell (World.block_lt_of_cell? _ _ c0)).trans c0
            have d1 := (b2.cell (World.block_lt_of_cell? _ _ c1)).trans c1
            have d2 := (b2.cell (World.block_lt_of_cell? _ _ c2)).trans c2
            have d3 := (b2.cell (World.block_lt_of_cell? _ _ c3)).trans c3
            clear b2 c0 c1 c2 c3 HAT
            by_cases hlong : 65536 - s < m
            · obtain rfl : r = 5 := by have := HA1.out; rwa [if_pos (by omega)] at this
              go_wp2
              go_ret
              exact ⟨rfl, B2.out⟩
            · have c := CM.out w2
              go_wp2_with fail
              refine c.mono ?_
              rintro e w3 ⟨rfl, b3⟩
              clear c
              have B3 : Hid (Below w.heap.size w w3) := B2.out.trans (b3.mono B2.out.size)
              clear b3
              have HU2 : Hid (totX (l.take (i + 1)) = s + m) := hu
              clear hu
              go_wp2
              go_roundw
              case rel => exact ⟨i + 1, by omega, by go_num, by rw [HU2.out]; congr 1; omega, by rw [HU2.out]; omega, B3.out⟩
              case measure => simp [intOf]; omega
          · obtain rfl : i = j := by omega
            have he := HE.out
            obtain rfl : r = 0 := by have := HA1.out; rwa [if_neg (by omega)] at this
            go_wp2
            go_ret
            exact ⟨rfl, HB.out⟩
  · have HR : Hid (chkX l old = 5) := by unfold Hid chkX; rw [if_pos (by omega)]
    have hl2 : 4096 < (l.length : Int) := by omega
    clear h h3 h4 h2
    generalize l.length = n at *
    generalize chkX l old = r at *
    obtain rfl := HR.out
    go_enter Tryd.func29, Tryd.ntmps29
    go_wp2
    go_ret
    exact ⟨rfl, Below.refl _ _⟩
set_option maxHeartbeats 2000000 in
theorem rapply_any (v u : Value) (old : List Int) (l : List Xp) (w : World) (h0 : SlX w v old) (h : XS w u l) (hm : l.length ≤ 1000000) :
    Calls Tryd.prog 11 #[v, u] w fun e w' => ∃ v', e = .returned (.tuple #[v', .int .i64 (appX old l).2]) ∧ Ow w' w.heap.size v' (appX old l).1 ∧ Below w.heap.size w w' := by
  obtain ⟨a, c, rfl, h2, h3, h4⟩ := h.shape
  obtain ⟨a0, c0, rfl, g2, g3, g4, -⟩ := id h0.1
  have CK := rcheck_any (.slice a l.length c) l old.length w h hm (by unfold maxLen at g3; omega)
  have HS0 : Hid (SlX w (.slice a0 old.length c0) old) := h0
  have HS : Hid (XS w (.slice a l.length c) l) := h
  have HR : Hid (appX old l = if chkX l old.length = 0 then (makeX old l, 0) else ([], chkX l old.length)) := rfl
  have HOK : Hid (chkX l old.length = 0 → (∀ x ∈ l, mayX x old.length = true) ∧ totX l ≤ 65536) := fun e => (chkX_ok e).2
  obtain ⟨L, hn'⟩ : ∃ L, L = l.length := ⟨_, rfl⟩
  have HN : Hid (L = l.length) := hn'
  obtain ⟨L0, hn0⟩ : ∃ L0, L0 = old.length := ⟨_, rfl⟩
  have HN0 : Hid (L0 = old.length) := hn0
  rw [← hn'] at HS h2 hm CK ⊢
  rw [← hn0] at HS0 g2 CK HR HOK ⊢
  unfold maxLen at g3
  clear h h3 h4 hn' hn0 h0 g4
  generalize appX old l = R at *
  generalize chkX l (L0 : Int) = k at *
  go_enter Tryd.func11, Tryd.ntmps11
  go_wp2_with fail
  refine CK.mono ?_
  rintro e w1 ⟨rfl, b1⟩
  clear CK
  have B1 : Hid (Below w.heap.size w w1) := b1
  clear b1
  by_cases hk : k = 0
  · obtain rfl : R = (makeX old l, 0) := by have := HR.out; rwa [if_pos hk] at this
    obtain ⟨hmay, htot⟩ := HOK.out hk
    subst hk
    have HM : Hid (∀ j, j < L → mayX (atX l j) L0 = true) := fun j hj => hmay _ (atX_mem l j (by rw [← HN.out]; exact hj))
    have HT : Hid (∀ j, (makeX old (l.take j)).length ≤ 65536) := makeX_take old l (by rw [← HN0.out]; exact hmay) htot
    have HU : Hid (∀ j, j < L → makeX old (l.take (j + 1)) = makeX old (l.take j) ++ pieX old (atX l j)) := fun j hj => makeX_step old l j (by rw [← HN.out]; exact hj)
    clear HOK HR hmay htot
    go_wp2_with fail
    go_loopw [7, 8] (fun s q wr => ∃ j : Nat, j ≤ L ∧ q = .int .i64 j ∧ Ow wr w.heap.size s (makeX old (l.take j)) ∧ Below w.heap.size w wr) (fun _ q _ => L - (intOf q).toNat)
    case atStart => exact ⟨0, by omega, rfl, Ow.nil _ _, B1.out⟩
    case round =>
      clear B1
      obtain ⟨j, hj, rfl, oe, bel⟩ := hrel
      have HB : Hid (Below w.heap.size w wr) := bel
      obtain ⟨va, vc, rfl⟩ := oe.shape
      have HO : Hid (Ow wr w.heap.size (.slice va (makeX old (l.take j)).length vc) (makeX old (l.take j))) := oe
      clear bel oe
      by_cases hlt : j < L
      · have lt2 : (j : Int) < (L : Int) := by omega
        obtain ⟨b, off, ua, un, uc, rfl, k0, k1, k2, k3, hun, sd⟩ := (HS.out.kept HB.out).at j (by rw [← HN.out]; exact hlt)
        have hmj := HM.out j hlt
        have hlen := HT.out (j + 1)
        have hu := HU.out j hlt
        rw [hu, List.length_append] at hlen
        have HUJ : Hid (makeX old (l.take (j + 1)) = makeX old (l.take j) ++ pieX old (atX l j)) := hu
        clear hu
        obtain ⟨x, hxe⟩ : ∃ x, x = atX l j := ⟨_, rfl⟩
        have HXE : Hid (x = atX l j) := hxe
        rw [← hxe] at k0 k1 k2 hun sd hmj hlen HUJ
        clear hxe
        generalize makeX old (l.take j) = M at *
        have O1 : Hid (Ow wr w.heap.size (.slice va M.length vc) M) := HO.out
        have SD : Hid (Sl wr (.slice ua un uc) x.d) := sd
        have HLEN : Hid (M.length + (pieX old x).length ≤ 65536) := hlen
        obtain ⟨mn, hmn⟩ : ∃ mn, mn = M.length := ⟨_, rfl⟩
        have HML : Hid (mn = M.length) := hmn
        rw [← hmn] at O1 ⊢
        have lt3 : (0 : Int) ≤ (j : Int) := by omega
        clear HO hlen hmn
        cases hxc : x.c with
        | true =>
          obtain ⟨-, q1, q2, q3, q4⟩ := (mayX_copy hxc).1 hmj
          obtain ⟨p, hp⟩ : ∃ p : Nat, x.a = p := ⟨x.a.toNat, by omega⟩
          obtain ⟨m, hmm⟩ : ∃ m : Nat, x.n = m := ⟨x.n.toNat, by omega⟩
          rw [hp] at q1 q3 q4
          rw [hmm] at q2 q4
          have FT : Hid (∀ W, From w W → W.cell? ⟨b, off + j * 4 + 1, none⟩ = some (.int .i64 (p : Int)) ∧ W.cell? ⟨b, off + j * 4 + 2, none⟩ = some (.int .i64 (m : Int))) := fun W hb => by
            obtain ⟨b', off', ua', un', uc', e', t0, t1, t2, t3, -⟩ := (HS.out.kept hb).at j (by rw [← HN.out]; exact hlt)
            cases e'
            rw [← HXE.out] at t1 t2
            rw [hp] at t1
            rw [hmm] at t2
            exact ⟨t1, t2⟩
          obtain ⟨b0, off0, rfl, sc⟩ := sl_copy (HS0.out.kept HB.out) p m (by omega) (by omega)
          have FS : Hid (∀ W, From w W → Sl W (.slice (some ⟨b0, off0 + p, none⟩) m (c0 - p)) (cut old p m)) := fun W hb => by
            obtain ⟨b0', off0', e', sc'⟩ := sl_copy (HS0.out.kept hb) p m (by omega) (by omega)
            cases e'
            exact sc'
          have HP : Hid (pieX old x = cut old p m) := by unfold Hid pieX; rw [if_pos hxc, hp, hmm, Int.toNat_natCast, Int.toNat_natCast]
          rw [HP.out] at HUJ HLEN
          rw [hxc] at k0
          clear hmj hun sd SD HP sc hxc hp hmm k1 k2 k3
          generalize cut old p m = Z at *
          have e1 : ¬ c0 = p := by omega
          have e2 : (p : Int) + (m : Int) ≤ (c0 : Int) := by omega
          have e3 : (p : Int) ≤ (p : Int) + (m : Int) := by omega
          have e4 : ((p : Int) + (m : Int)).toNat - p = m := by omega
          have e6 : (p : Int) ≤ (c0 : Int) := by omega
          have HYW : Hid (IntKind.i64.wrap ((p : Int) + (m : Int)) = (p : Int) + (m : Int)) := by unfold Hid; rw [IntKind.wrap_i64]; omega
          go_wp2_with fail
          refine wp_region_held_drew (S := From w) (by kernel_rfl) (Below.drew (HB.out)) (fun _ => ?_)
          refine wpAnyH_name (fun u0 hu0 => ?_)
          have bu0 : Below w.heap.size w u0 := by rw [hu0.out]; exact Below.drew (HB.out)
          have O0 : Hid (Ow u0 w.heap.size (.slice va mn vc) M) := by unfold Hid; rw [hu0.out]; exact O1.out.below (Below.refl _ _).drew
          refine wpAnyH_take (i := 0) (oi := { dst := some 27, op := Op.move (Operand.tmp 7), type := 22, pos := "ref.go:64", after := #[], guard := none }) (v := ?vr1) rfl (by kernel_rfl) (by kernel_rfl) (by kernel_rfl) (fun _ _ _ h => h) (Or.inl ⟨by rfl, ?yr1⟩) bu0 ?rr1
          case yr1 => (intro w hSw; go_simp; try with_reducible rfl)
          try simp only [Act.put, List.setIfInBounds_toArray, List.set_cons_zero, List.set_cons_succ]
          refine wpAnyH_take (i := 1) (oi := { dst := some 28, op := Op.move (Operand.tmp 0), type := 22, pos := "ref.go:64", after := #[], guard := none }) (v := ?vr2) rfl (by kernel_rfl) (by kernel_rfl) (by kernel_rfl) (fun _ _ _ h => h) (Or.inl ⟨by rfl, ?yr2⟩) bu0 ?rr2
          case yr2 => (intro w hSw; go_simp; try with_reducible rfl)
          try simp only [Act.put, List.setIfInBounds_toArray, List.set_cons_zero, List.set_cons_succ]
          refine wpAnyH_take (i := 2) (oi := { dst := some 29, op := Op.move (Operand.tmp 1), type := 23, pos := "ref.go:64", after := #[], guard := none }) (v := ?vr3) rfl (by kernel_rfl) (by kernel_rfl) (by kernel_rfl) (fun _ _ _ h => h) (Or.inl ⟨by rfl, ?yr3⟩) bu0 ?rr3
          case yr3 => (intro w hSw; go_simp; try with_reducible rfl)
          try simp only [Act.put, List.setIfInBounds_toArray, List.set_cons_zero, List.set_cons_succ]
          refine wpAnyH_take (i := 3) (oi := { dst := some 30, op := Op.move (Operand.tmp 8), type := 3, pos := "ref.go:64", after := #[], guard := none }) (v := ?vr4) rfl (by kernel_rfl) (by kernel_rfl) (by kernel_rfl) (fun _ _ _ h => h) (Or.inl ⟨by rfl, ?yr4⟩) bu0 ?rr4
          case yr4 => (intro w hSw; go_simp; try with_reducible rfl)
          try simp only [Act.put, List.setIfInBounds_toArray, List.set_cons_zero, List.set_cons_succ]
          refine wpAnyH_take (i := 4) (oi := { dst := some 31, op := Op.indexAddr 23 (Operand.tmp 29) (Operand.tmp 30), type := 0, pos := "ref.go:64", after := #[{ on := 2, ground := Ground.data }, { on := 3, ground := Ground.data }], guard := none }) (v := ?vr5) rfl (by kernel_rfl) (by kernel_rfl) (by kernel_rfl) (fun _ _ _ h => h) (Or.inl ⟨by rfl, ?yr5⟩) bu0 ?rr5
          case yr5 => (intro w hSw; go_simp; try with_reducible rfl)
          try simp only [Act.put, List.setIfInBounds_toArray, List.set_cons_zero, List.set_cons_succ]
          refine wpAnyH_take (i := 5) (oi := { dst := some 32, op := Op.fieldAddr 63 (Operand.tmp 31) 1, type := 0, pos := "ref.go:64", after := #[{ on := 4, ground := Ground.data }], guard := none }) (v := ?vr6) rfl (by kernel_rfl) (by kernel_rfl) (by kernel_rfl) (fun _ _ _ h => h) (Or.inl ⟨by rfl, ?yr6⟩) bu0 ?rr6
          case yr6 => (intro w hSw; go_simp; try with_reducible rfl)
          try simp only [Act.put, List.setIfInBounds_toArray, List.set_cons_zero, List.set_cons_succ]
          refine wpAnyH_take (i := 6) (oi := { dst := some 33, op := Op.load 3 (Operand.tmp 32), type := 3, pos := "ref.go:64", after := #[{ on := 5, ground := Ground.data }], guard := none }) (v := .int .i64 (p : Int)) rfl (by kernel_rfl) (by kernel_rfl) (by kernel_rfl) (fun _ _ _ h => h) (Or.inl ⟨by rfl, ?yr7⟩) bu0 ?rr7
          case yr7 => (intro w hSw; obtain ⟨t1, t2⟩ := FT.out w hSw; go_simp; try with_reducible rfl)
          try simp only [Act.put, List.setIfInBounds_toArray, List.set_cons_zero, List.set_cons_succ]
          refine wpAnyH_take (i := 7) (oi := { dst := some 34, op := Op.move (Operand.tmp 1), type := 23, pos := "ref.go:64", after := #[], guard := none }) (v := ?vr8) rfl (by kernel_rfl) (by kernel_rfl) (by kernel_rfl) (fun _ _ _ h => h) (Or.inl ⟨by rfl, ?yr8⟩) bu0 ?rr8
          case yr8 => (intro w hSw; go_simp; try with_reducible rfl)
          try simp only [Act.put, List.setIfInBounds_toArray, List.set_cons_zero, List.set_cons_succ]
          refine wpAnyH_take (i := 8) (oi := { dst := some 35, op := Op.move (Operand.tmp 8), type := 3, pos := "ref.go:64", after := #[], guard := none }) (v := ?vr9) rfl (by kernel_rfl) (by kernel_rfl) (by kernel_rfl) (fun _ _ _ h => h) (Or.inl ⟨by rfl, ?yr9⟩) bu0 ?rr9
          case yr9 => (intro w hSw; go_simp; try with_reducible rfl)
          try simp only [Act.put, List.setIfInBounds_toArray, List.set_cons_zero, List.set_cons_succ]
          refine wpAnyH_take (i := 9) (oi := { dst := some 36, op := Op.indexAddr 23 (Operand.tmp 34) (Operand.tmp 35), type := 0, pos := "ref.go:64", after := #[{ on := 7, ground := Ground.data }, { on := 8, ground := Ground.data }], guard := none }) (v := ?vr10) rfl (by kernel_rfl) (by kernel_rfl) (by kernel_rfl) (fun _ _ _ h => h) (Or.inl ⟨by rfl, ?yr10⟩) bu0 ?rr10
          case yr10 => (intro w hSw; go_simp; try with_reducible rfl)
          try simp only [Act.put, List.setIfInBounds_toArray, List.set_cons_zero, List.set_cons_succ]
          refine wpAnyH_take (i := 10) (oi := { dst := some 37, op := Op.fieldAddr 63 (Operand.tmp 36) 1, type := 0, pos := "ref.go:64", after := #[{ on := 9, ground := Ground.data }], guard := none }) (v := ?vr11) rfl (by kernel_rfl) (by kernel_rfl) (by kernel_rfl) (fun _ _ _ h => h) (Or.inl ⟨by rfl, ?yr11⟩) bu0 ?rr11
          case yr11 => (intro w hSw; go_simp; try with_reducible rfl)
          try simp only [Act.put, List.setIfInBounds_toArray, List.set_cons_zero, List.set_cons_succ]
          refine wpAnyH_take (i := 11) (oi := { dst := some 38, op := Op.load 3 (Operand.tmp 37), type := 3, pos := "ref.go:64", after := #[{ on := 10, ground := Ground.data }], guard := none }) (v := .int .i64 (p : Int)) rfl (by kernel_rfl) (by kernel_rfl) (by kernel_rfl) (fun _ _ _ h => h) (Or.inl ⟨by rfl, ?yr12⟩) bu0 ?rr12
          case yr12 => (intro w hSw; obtain ⟨t1, t2⟩ := FT.out w hSw; go_simp; try with_reducible rfl)
          try simp only [Act.put, List.setIfInBounds_toArray, List.set_cons_zero, List.set_cons_succ]
          refine wpAnyH_take (i := 12) (oi := { dst := some 39, op := Op.move (Operand.tmp 1), type := 23, pos := "ref.go:64", after := #[], guard := none }) (v := ?vr13) rfl (by kernel_rfl) (by kernel_rfl) (by kernel_rfl) (fun _ _ _ h => h) (Or.inl ⟨by rfl, ?yr13⟩) bu0 ?rr13
          case yr13 => (intro w hSw; go_simp; try with_reducible rfl)
          try simp only [Act.put, List.setIfInBounds_toArray, List.set_cons_zero, List.set_cons_succ]
          refine wpAnyH_take (i := 13) (oi := { dst := some 40, op := Op.move (Operand.tmp 8), type := 3, pos := "ref.go:64", after := #[], guard := none }) (v := ?vr14) rfl (by kernel_rfl) (by kernel_rfl) (by kernel_rfl) (fun _ _ _ h => h) (Or.inl ⟨by rfl, ?yr14⟩) bu0 ?rr14
          case yr14 => (intro w hSw; go_simp; try with_reducible rfl)
          try simp only [Act.put, List.setIfInBounds_toArray, List.set_cons_zero, List.set_cons_succ]
          refine wpAnyH_take (i := 14) (oi := { dst := some 41, op := Op.indexAddr 23 (Operand.tmp 39) (Operand.tmp 40), type := 0, pos := "ref.go:64", after := #[{ on := 12, ground := Ground.data }, { on := 13, ground := Ground.data }], guard := none }) (v := ?vr15) rfl (by kernel_rfl) (by kernel_rfl) (by kernel_rfl) (fun _ _ _ h => h) (Or.inl ⟨by rfl, ?yr15⟩) bu0 ?rr15
          case yr15 => (intro w hSw; go_simp; try with_reducible rfl)
          try simp only [Act.put, List.setIfInBounds_toArray, List.set_cons_zero, List.set_cons_succ]
          refine wpAnyH_take (i := 15) (oi := { dst := some 42, op := Op.fieldAddr 63 (Operand.tmp 41) 2, type := 0, pos := "ref.go:64", after := #[{ on := 14, ground := Ground.data }], guard := none }) (v := ?vr16) rfl (by kernel_rfl) (by kernel_rfl) (by kernel_rfl) (fun _ _ _ h => h) (Or.inl ⟨by rfl, ?yr16⟩) bu0 ?rr16
          case yr16 => (intro w hSw; go_simp; try with_reducible rfl)
          try simp only [Act.put, List.setIfInBounds_toArray, List.set_cons_zero, List.set_cons_succ]
          refine wpAnyH_take (i := 16) (oi := { dst := some 43, op := Op.load 3 (Operand.tmp 42), type := 3, pos := "ref.go:64", after := #[{ on := 15, ground := Ground.data }], guard := none }) (v := .int .i64 (m : Int)) rfl (by kernel_rfl) (by kernel_rfl) (by kernel_rfl) (fun _ _ _ h => h) (Or.inl ⟨by rfl, ?yr17⟩) bu0 ?rr17
          case yr17 => (intro w hSw; obtain ⟨t1, t2⟩ := FT.out w hSw; go_simp; try with_reducible rfl)
          try simp only [Act.put, List.setIfInBounds_toArray, List.set_cons_zero, List.set_cons_succ]
          refine wpAnyH_take (i := 17) (oi := { dst := some 44, op := Op.binOp BinOp.add 3 (Operand.tmp 38) (Operand.tmp 43) 3, type := 3, pos := "ref.go:64", after := #[{ on := 11, ground := Ground.data }, { on := 16, ground := Ground.data }], guard := none }) (v := .int .i64 ((p : Int) + (m : Int))) rfl (by kernel_rfl) (by kernel_rfl) (by kernel_rfl) (fun _ _ _ h => h) (Or.inl ⟨by rfl, ?yr18⟩) bu0 ?rr18
          case yr18 => (intro w hSw; have t := HYW.out; go_simp; try with_reducible rfl)
          try simp only [Act.put, List.setIfInBounds_toArray, List.set_cons_zero, List.set_cons_succ]
          refine wpAnyH_take (i := 18) (oi := { dst := some 45, op := Op.slice 22 (Operand.tmp 28) (some (Operand.tmp 33)) (some (Operand.tmp 44)) none, type := 22, pos := "ref.go:64", after := #[{ on := 1, ground := Ground.data }, { on := 6, ground := Ground.data }, { on := 17, ground := Ground.data }], guard := none }) (v := .slice (some ⟨b0, off0 + p, none⟩) m (c0 - p)) rfl (by kernel_rfl) (by kernel_rfl) (by kernel_rfl) (fun _ _ _ h => h) (Or.inl ⟨by rfl, ?yr19⟩) bu0 ?rr19
          case yr19 => (intro w hSw; go_simp; try with_reducible rfl)
          try simp only [Act.put, List.setIfInBounds_toArray, List.set_cons_zero, List.set_cons_succ]
          refine wpAnyH_ready (rs := [19]) (by kernel_rfl) (by simp) ?_
          refine AllReadyH.cons (o := { dst := some 46, op := Op.call { callee := Callee.builtin Builtin.append, args := #[Operand.tmp 27, Operand.tmp 45], argTypes := #[22, 22] }, type := 22, pos := "ref.go:64", after := #[{ on := 0, ground := Ground.data }, { on := 18, ground := Ground.data }], guard := none }) rfl (fun KK hKK => ?_) ?_
          · refine wp_append_ow _ _ rfl w.heap.size _ M rfl O0.out _ Z rfl (FS.out _ bu0) (by have := HLEN.out; omega) (Below.size bu0) (fun vu20 u20' ou20 gu20 => ?_)
            refine hKK.out _ _ (Below.trans bu0 gu20) (fun _ => ?_)
            clear hKK KK
            try simp only [Act.put, List.setIfInBounds_toArray, List.set_cons_zero, List.set_cons_succ]
            refine wpAnyH_name (fun u20 hu20 => ?_)
            have bu20 : Below w.heap.size w u20 := by rw [hu20.out]; exact (Below.trans bu0 gu20)
            have O4 : Hid (Ow u20 w.heap.size vu20 (makeX old (l.take (j + 1)))) := by unfold Hid; rw [HUJ.out, hu20.out]; exact ou20
            refine wpAnyH_take (i := 20) (oi := { dst := some 7, op := Op.assign (Operand.tmp 46), type := 22, pos := "ref.go:64", after := #[{ on := 19, ground := Ground.data }, { on := 19, ground := Ground.chain }, { on := 0, ground := Ground.phase }, { on := 1, ground := Ground.phase }, { on := 2, ground := Ground.phase }, { on := 3, ground := Ground.phase }, { on := 4, ground := Ground.phase }, { on := 5, ground := Ground.phase }, { on := 6, ground := Ground.phase }, { on := 7, ground := Ground.phase }, { on := 8, ground := Ground.phase }, { on := 9, ground := Ground.phase }, { on := 10, ground := Ground.phase }, { on := 11, ground := Ground.phase }, { on := 12, ground := Ground.phase }, { on := 13, ground := Ground.phase }, { on := 14, ground := Ground.phase }, { on := 15, ground := Ground.phase }, { on := 16, ground := Ground.phase }, { on := 17, ground := Ground.phase }, { on := 18, ground := Ground.phase }, { on := 19, ground := Ground.phase }], guard := none }) (v := ?vr21) rfl (by kernel_rfl) (by kernel_rfl) (by kernel_rfl) (fun _ _ _ h => h) (Or.inl ⟨by rfl, ?yr21⟩) bu20 ?rr21
            case yr21 => (intro w hSw; go_simp; try with_reducible rfl)
            try simp only [Act.put, List.setIfInBounds_toArray, List.set_cons_zero, List.set_cons_succ]
            refine wpAnyH_done (by kernel_rfl) ?_ _
            have B4 : Hid (Below w.heap.size w u20) := bu20
            clear FT FS O0
            go_wp2
            go_roundw
            case rel => exact ⟨j + 1, by omega, by go_num, O4.out, B4.out⟩
            case measure => simp [intOf]; omega
          exact AllReadyH.nil
        | false =>
          have HP : Hid (pieX old x = x.d) := by unfold Hid pieX; rw [if_neg (by rw [hxc]; simp)]
          rw [HP.out] at HUJ HLEN
          rw [hxc] at k0
          clear hmj hun sd HP hxc
          generalize x.d = Z at *
          go_wp2_with (at_builtin; refine wpList_append_ow rfl _ _ rfl w.heap.size _ M rfl O1.out _ Z rfl SD.out (by have := HLEN.out; omega) HB.out.size (Hid.out ?_))
          unfold Hid
          intro v4 w4 r4 g4
          have B4 : Hid (Below w.heap.size w w4) := HB.out.trans g4
          have O4 : Hid (Ow w4 w.heap.size v4 (makeX old (l.take (j + 1)))) := by unfold Hid; rw [HUJ.out]; exact r4
          clear r4 g4
          go_wp2
          go_roundw
          case rel => exact ⟨j + 1, by omega, by go_num, O4.out, B4.out⟩
          case measure => simp [intOf]; omega
      · obtain rfl : j = L := by omega
        have h2 : l.take j = l := by rw [HN.out, List.take_length]
        rw [h2] at HO
        rw [h2]
        clear h2
        obtain ⟨mn, hmn⟩ : ∃ mn, mn = (makeX old l).length := ⟨_, rfl⟩
        rw [← hmn] at HO ⊢
        clear hmn
        go_wp2
        go_ret2
        exact ⟨_, rfl, HO.out, HB.out⟩
  · obtain rfl : R = ([], k) := by have := HR.out; rwa [if_neg hk] at this
    have hk2 : (k != 0) = true := by simpa using hk
    clear HR HOK
    go_wp2
    go_ret2
    exact ⟨_, rfl, Ow.nil _ _, B1.out⟩
end Go.Proofs.YtgnampbbkaolmaaDoor
