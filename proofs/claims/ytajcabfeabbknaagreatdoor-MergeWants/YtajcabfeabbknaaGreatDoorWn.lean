/-
  What copies answers: the files at which those of a list are kept.
  What Want answers.
-/
import Derived.Test.YtajcabfeabbknaaGreatDoorMw
import Derived.Test.YtajcabfeabbknaaGreatDoorMq
import Derived.Test.YtajcabfeabbknaaGreatDoorCt
namespace Go.Proofs.YtajcabfeabbknaaGreatDoor
open Go.RowKit

def cpF (kf : En → List UInt8) (l : List En) : List En := l.filterMap fun x => if kf x = [] then none else some ⟨mk (kf x), false, x.z⟩
theorem cpF_next (l : List En) (kf : En → List UInt8) (j : Nat) (h : j < l.length) : cpF kf (l.take (j + 1)) = if kf (atE l j) = [] then cpF kf (l.take j) else cpF kf (l.take j) ++ [⟨mk (kf (atE l j)), false, (atE l j).z⟩] := by
  rw [take_at l j h]
  unfold cpF
  rw [List.filterMap_append]
  generalize atE l j = x
  by_cases hb : kf x = [] <;> simp [hb]
theorem wpList_append_sf {w0 wr : World} {ops : Array Oper} {rest : List Oper} {o : Oper} {a : Act} {Q : Exit → Act → World → Prop} (hgd : o.guard = none) (s x : Operand)
    (ho : o.op = .call { callee := .builtin .append, args := #[s, x], argTypes := #[22, 22] })
    (B : Nat) (v : Value) (L : List En) (hs : a.eval s = v) (hse : SE w0 wr B v L) (y : En) (u : Value) (hu : Sl w0 u y.z) (hx : a.eval x = .slice (some ⟨wr.heap.size, 0, none⟩) 1 1) (hbig : L.length ≤ 1000) (w : World) (hB : Below w.heap.size w wr) (hBw : w.heap.size ≤ B)
    (hBr : B ≤ wr.heap.size)
    (h : ∀ v' w', SE w0 w' B v' (L ++ [y]) → Below w.heap.size w w' → wpList Tryz.prog ops Q rest (a.put o.dst v') w') :
    wpList Tryz.prog ops Q (o :: rest) a (wr.alloc (.cells #[.string y.p, .bool y.d, u] 46)) := by
  obtain ⟨U, h1, h2⟩ := hse
  have n4 : Below wr.heap.size wr (wr.alloc (.cells #[.string y.p, .bool y.d, u] 46)) := (Below.refl _ _).alloc (Nat.le_refl _) _
  have B4 : Below w.heap.size w (wr.alloc (.cells #[.string y.p, .bool y.d, u] 46)) := hB.trans (n4.mono hB.size)
  have R4 := h1.below n4
  refine wpList_append_en hgd s x ho B v L U hs R4 wr.heap.size 1 [y] (fun _ => u) 1 0 rfl hx ?_ ?_ ?_ (Nat.le_trans hBr n4.size) ?_
  · intro j hj
    have e := flat_get [y] (fun _ => u) j
    rw [if_pos hj, ← flat_one] at e
    rw [Nat.zero_add, World.cell?_alloc_at _ _ _ _ rfl, ← e]
    simp
  · intro i hi
    exact sl_one hu
  · simp; omega
  · intro v' w' r' g'
    refine h v' w' ⟨_, r', fun i hi => ?_⟩ (B4.grown g' B4.size (fun k hk => Nat.le_trans hBw (own_base R4 k hk)))
    rw [List.length_append, List.length_singleton] at hi
    unfold behU
    rcases Nat.lt_or_ge i L.length with hlt | hge
    · rw [if_pos hlt, atE_left L [y] i hlt]
      exact h2 i hlt
    · obtain rfl : i = L.length := by omega
      rw [if_neg (by omega)]
      have e := atE_right L [y] 0
      rw [Nat.add_zero] at e
      rw [e]
      exact hu
set_option maxHeartbeats 2000000 in
theorem copies_any (v : Value) (l : List En) (kf : En → List UInt8) (g1 g2 g3 g4 : Nat) (w0 w : World) (h : ES w0 v l) (hb0 : Below w0.heap.size w0 w) (hl : Lt l)
    (hf : ∀ (W : World) (u : Value) (x : En), Below w.heap.size w W → EV W u x → x.p.size ≤ 1000 → Calls Tryz.prog 55 #[u, .pointer (some ⟨g1, 0, none⟩), .pointer (some ⟨g2, 0, none⟩), .pointer (some ⟨g3, 0, none⟩), .pointer (some ⟨g4, 0, none⟩)] W fun e w' => e = .returned (.string (mk (kf x))) ∧ Below W.heap.size W w') :
    Calls Tryz.prog 23 #[v, .func (.func 55) #[] #[.pointer (some ⟨g1, 0, none⟩), .pointer (some ⟨g2, 0, none⟩), .pointer (some ⟨g3, 0, none⟩), .pointer (some ⟨g4, 0, none⟩)]] w fun e w' => ∃ v', e = .returned v' ∧ SE w0 w' w.heap.size v' (cpF kf l) ∧ Below w.heap.size w w' := by
  obtain ⟨a, c, rfl, h2, h3, h4⟩ := h.shape
  have HS : Hid (ES w0 (.slice a l.length c) l) := h
  have HB0 : Hid (Below w0.heap.size w0 w) := hb0
  have HL : Hid (Lt l) := hl
  have HF : Hid (∀ (W : World) (u : Value) (x : En), Below w.heap.size w W → EV W u x → x.p.size ≤ 1000 → Calls Tryz.prog 55 #[u, .pointer (some ⟨g1, 0, none⟩), .pointer (some ⟨g2, 0, none⟩), .pointer (some ⟨g3, 0, none⟩), .pointer (some ⟨g4, 0, none⟩)] W fun e w' => e = .returned (.string (mk (kf x))) ∧ Below W.heap.size W w') := hf
  have hn := hl.1
  have HV : Hid (∀ j, (cpF kf (l.take j)).length ≤ 100) := fun j => by
    have h1 : (cpF kf (l.take j)).length ≤ (l.take j).length := List.length_filterMap_le _ _
    rw [List.length_take] at h1
    omega
  obtain ⟨n, hn'⟩ : ∃ n, n = l.length := ⟨_, rfl⟩
  have HN : Hid (n = l.length) := hn'
  rw [← hn'] at HS h2 hn ⊢
  clear h hl h3 h4 hn' hf hb0
  obtain ⟨Z, hZ⟩ : ∃ Z, Z = cpF kf l := ⟨_, rfl⟩
  have HZ : Hid (Z = cpF kf l) := hZ
  rw [← hZ]
  clear hZ
  go_enter Tryz.func23, Tryz.ntmps23
  go_wp2
  go_loopw [5, 11] (fun s q wr => ∃ j : Nat, j ≤ n ∧ q = .int .i64 j ∧ SE w0 wr w.heap.size s (cpF kf (l.take j)) ∧ Below w.heap.size w wr) (fun _ q _ => n - (intOf q).toNat)
  case atStart => exact ⟨0, by omega, rfl, SE.nil _ _ _, Below.refl _ _⟩
  case round =>
    obtain ⟨j, hj, rfl, se, bel⟩ := hrel
    have HB : Hid (Below w.heap.size w wr) := bel
    have HO : Hid (SE w0 wr w.heap.size u5 (cpF kf (l.take j))) := se
    obtain ⟨va, vc, rfl⟩ := se.shape
    obtain ⟨nv, hnv⟩ : ∃ nv, nv = (cpF kf (l.take j)).length := ⟨_, rfl⟩
    have HJ : Hid (nv = (cpF kf (l.take j)).length) := hnv
    have hj9 : nv ≤ 100 := by rw [hnv]; exact HV.out j
    rw [← hnv] at HO ⊢
    clear bel se hnv
    by_cases hlt : j < n
    · have lt2 : (j : Int) < (n : Int) := by omega
      obtain ⟨b, off, ua, un, uc, rfl, d1, d2, d3, hun, hsl⟩ := HS.out.at j (by rw [← HN.out]; exact hlt)
      have D0 : Below w0.heap.size w0 wr := HB0.out.trans (HB.out.mono HB0.out.size)
      have c1 := (D0.cell (World.block_lt_of_cell? _ _ d1)).trans d1
      have c2 := (D0.cell (World.block_lt_of_cell? _ _ d2)).trans d2
      have c3 := (D0.cell (World.block_lt_of_cell? _ _ d3)).trans d3
      have q1 : IntKind.i64.wrap ((j : Int) + 1) = ((j + 1 : Nat) : Int) := by simp [IntKind.wrap, IntKind.bits, IntKind.signed]; omega
      have HT : Hid (cpF kf (l.take (j + 1)) = if kf (atE l j) = [] then cpF kf (l.take j) else cpF kf (l.take j) ++ [⟨mk (kf (atE l j)), false, (atE l j).z⟩]) := cpF_next l kf j (by rw [← HN.out]; exact hlt)
      have SX : Hid (Sl w0 (.slice ua un uc) (atE l j).z) := hsl
      obtain ⟨W1, hW1⟩ : ∃ W1, W1 = wr.alloc (.cells #[.string (atE l j).p, .bool (atE l j).d, .slice ua un uc] 46) := ⟨_, rfl⟩
      have b1 : Below wr.heap.size wr W1 := by rw [hW1]; exact (Below.refl _ _).alloc (Nat.le_refl _) _
      have K1 : W1.heap[wr.heap.size]? = some (.cells #[.string (atE l j).p, .bool (atE l j).d, .slice ua un uc] 46 (0, 0)) := by rw [hW1]; exact heap_alloc_new _ _
      have HK : Hid (∀ W, Below W1.heap.size W1 W → W.heap[wr.heap.size]? = some (.cells #[.string (atE l j).p, .bool (atE l j).d, .slice ua un uc] 46 (0, 0))) := fun W hb => (hb.block _ (lt_of_block K1)).trans K1
      have B1 : Hid (Below w.heap.size w W1) := HB.out.trans (b1.mono HB.out.size)
      have O1 : Hid (SE w0 W1 w.heap.size (.slice va nv vc) (cpF kf (l.take j))) := HO.out.below b1
      have CS := HF.out W1 (.agg #[.string (atE l j).p, .bool (atE l j).d, .slice ua un uc]) (atE l j) B1.out ⟨ua, un, uc, rfl, hsl.kept (HB0.out.trans (B1.out.mono HB0.out.size))⟩ (HL.out.at j).1
      clear hun hsl d1 d2 d3 b1 K1 HO D0
      generalize atE l j = x at *
      generalize hkx : kf x = kx at *
      generalize cpF kf (l.take j) = L at *
      clear hkx
      go_wp2_with fail
      rw [← hW1]
      clear hW1
      refine CS.mono ?_
      rintro e w2 ⟨rfl, b2⟩
      have B2 : Hid (Below w.heap.size w w2) := B1.out.trans (b2.mono B1.out.size)
      have O2 : Hid (SE w0 w2 w.heap.size (.slice va nv vc) L) := O1.out.below b2
      obtain ⟨p0, p1, p2, f0, f1, f2⟩ := trio (HK.out w2 b2)
      clear CS b2 O1 c1 c2 c3
      by_cases h0 : kx = []
      · have NX : Hid (cpF kf (l.take (j + 1)) = L) := by unfold Hid; rw [HT.out, if_pos h0]
        subst h0
        rw [mk_nil]
        have ON : Hid (SE w0 w2 w.heap.size (.slice va nv vc) (cpF kf (l.take (j + 1)))) := by unfold Hid; rw [NX.out]; exact O2.out
        clear HT
        go_wp2
        go_roundw
        case rel => exact ⟨j + 1, by omega, by go_num, ON.out, B2.out⟩
        case measure => simp [intOf]; omega
      · have HT2 : Hid (cpF kf (l.take (j + 1)) = L ++ [⟨mk kx, false, x.z⟩]) := by unfold Hid; rw [HT.out, if_neg h0]
        have t0 := mk_ne h0
        clear HT
        go_wp2_with (at_builtin; refine wpList_append_sf rfl _ _ rfl w.heap.size _ L rfl O2.out ⟨mk kx, false, x.z⟩ _ SX.out rfl (by rw [← HJ.out]; omega) w B2.out (Nat.le_refl _) B2.out.size (Hid.out ?_))
        unfold Hid
        intro v4 w4 s4 b4
        have S4 : Hid (SE w0 w4 w.heap.size v4 (cpF kf (l.take (j + 1)))) := by unfold Hid; rw [HT2.out]; exact s4
        have B4 : Hid (Below w.heap.size w w4) := b4
        clear s4 b4 O2 p0 p1 p2 f0 f1 f2
        go_wp2
        go_roundw
        case rel => exact ⟨j + 1, by omega, by go_num, S4.out, B4.out⟩
        case measure => simp [intOf]; omega
    · obtain rfl : j = n := by omega
      have HR : Hid (SE w0 wr w.heap.size (.slice va nv vc) Z) := by
        have h1 := HO.out
        have h2 : l.take j = l := by rw [HN.out, List.take_length]
        rw [h2] at h1
        unfold Hid
        rw [HZ.out]
        exact h1
      go_wp2
      go_ret
      exact ⟨_, rfl, HR.out, HB.out⟩
end Go.Proofs.YtajcabfeabbknaaGreatDoor
namespace Go.Proofs.YtajcabfeabbknaaGreatDoor
open Go.RowKit

theorem cps_eq (s d : List En) (P : Pol) : cpF (kpt s d P) d = cps s d P := rfl
theorem kpt_small (s d : List En) (P : Pol) (x : En) : (kpt s d P x).length ≤ 128 := by
  unfold kpt
  split
  · simp
  split
  · simp
  split
  · simp
  · exact kep_small _
theorem Lt.lw {l : List En} (h : Lt l) : Lw l := ⟨by have := h.1; omega, fun x hx => (h.2 x hx).1⟩
theorem cps_lw {s d : List En} {P : Pol} (hd : Lt d) : Lt (cps s d P) := by
  refine ⟨Nat.le_trans (List.length_filterMap_le _ _) hd.1, fun x hx => ?_⟩
  obtain ⟨y, hy, _, rfl⟩ := mem_cps.1 hx
  refine ⟨?_, (hd.2 y hy).2⟩
  have := kpt_small s d P y
  show (mk (kpt s d P y)).size ≤ 1000
  rw [mk_size]
  omega
theorem Lt.filter {l : List En} (h : Lt l) (f : En → Bool) : Lt (l.filter f) := ⟨Nat.le_trans (List.length_filter_le _ _) h.1, fun x hx => h.2 x ((List.mem_filter.1 hx).1)⟩
theorem wnt_mem {s d : List En} {P : Pol} {x : En} (h : x ∈ wnt s d P) : x ∈ cps s d P ∨ x ∈ s ∨ x ∈ d := by
  rcases mem_fold' _ _ _ h with h | h
  · exact .inl h
  · rcases mem_fold' _ _ _ h with h | h
    · exact .inr (.inl h)
    · exact .inr (.inr ((List.mem_filter.1 h).1))
theorem wnt_lt {s d : List En} {P : Pol} (hs : Lt s) (hd : Lt d) (h : (wnt s d P).length ≤ 100) : Lt (wnt s d P) := by
  refine ⟨h, fun x hx => ?_⟩
  rcases wnt_mem hx with h | h | h
  · exact (cps_lw hd).2 x h
  · exact hs.2 x h
  · exact hd.2 x h
set_option maxHeartbeats 4000000 in
theorem want_any (vs vd : Value) (s d : List En) (P : Pol) (w : World) (hs : ES w vs s) (hls : Lt s) (hd : ES w vd d) (hld : Lt d) (hm : Mx w) :
    Calls Tryz.prog 7 #[vs, vd, .agg #[.bool P.del, .bool P.bak]] w fun e w' => ∃ v', e = .returned (.tuple #[v', .int .i64 (want s d P).2]) ∧ OE w' w.heap.size v' (want s d P).1 ∧ Below w.heap.size w w' := by
  obtain ⟨W1, hW1⟩ : ∃ W1, W1 = w.alloc (.cells #[.bool P.del, .bool P.bak] 24) := ⟨_, rfl⟩
  have b1 : Below w.heap.size w W1 := by rw [hW1]; exact (Below.refl _ _).alloc (Nat.le_refl _) _
  have k1 : W1.cell? ⟨w.heap.size, 0, none⟩ = some (.bool P.del) ∧ W1.cell? ⟨w.heap.size, 1, none⟩ = some (.bool P.bak) := by
    rw [hW1, World.cell?_alloc_at _ _ _ _ rfl, World.cell?_alloc_at _ _ _ _ rfl]; exact ⟨rfl, rfl⟩
  have HK : Hid (∀ W, Below W1.heap.size W1 W → W.cell? ⟨w.heap.size, 0, none⟩ = some (.bool P.del) ∧ W.cell? ⟨w.heap.size, 1, none⟩ = some (.bool P.bak)) := fun W hb =>
    ⟨(hb.cell (World.block_lt_of_cell? _ _ k1.1)).trans k1.1, (hb.cell (World.block_lt_of_cell? _ _ k1.2)).trans k1.2⟩
  have B1 : Hid (Below w.heap.size w W1) := b1
  have C1 := checkT_any vs s W1 (hs.kept b1) hls (hm.kept b1)
  have HC2 : Hid (∀ W, Below w.heap.size w W → Calls Tryz.prog 19 #[vd] W fun e w' => e = .returned (.int .i64 (ckT d)) ∧ Below W.heap.size W w') := fun W hb => checkT_any vd d W (hd.kept hb) hld (hm.kept hb)
  have HST : Hid (∀ W, Below w.heap.size w W → Calls Tryz.prog 20 #[vs, .agg #[.bool P.del, .bool P.bak]] W fun e w' => ∃ gs gh gp g, e = .returned (.func (.func 50) #[] #[.pointer (some ⟨gs, 0, none⟩), .pointer (some ⟨gh, 0, none⟩), .pointer (some ⟨gp, 0, none⟩)]) ∧
      StC w' gs gh gp g vs P.del ∧ Below W.heap.size W w') := fun W hb => staying_any vs s P W (hs.kept hb)
  have HPK : Hid (∀ W gs gh gp g, Below w.heap.size w W → StC W gs gh gp g vs P.del → Calls Tryz.prog 22 #[vd, .func (.func 50) #[] #[.pointer (some ⟨gs, 0, none⟩), .pointer (some ⟨gh, 0, none⟩), .pointer (some ⟨gp, 0, none⟩)]] W fun e w' => ∃ v', e = .returned v' ∧ SE W w' W.heap.size v' (d.filter (sty s P.del)) ∧ Below W.heap.size W w') := fun W gs gh gp g hb hc =>
    pickT vd d (sty s P.del) gs gh gp W (hd.kept hb) hld (fun W' u x hb' hu hp => stay1_any vs u s x P.del gs gh gp g W' (hs.kept (hb.trans (hb'.mono hb.size))) hls hu hp (hc.kept hb'))
  have HL1 : Hid (∀ W W' v, Below w.heap.size w W → Below W.heap.size W W' → SE W W' W.heap.size v (d.filter (sty s P.del)) → Srt d → Calls Tryz.prog 21 #[v, vs] W' fun e w' => ∃ v', e = .returned v' ∧ SE W w' W.heap.size v' (s.foldl ins (d.filter (sty s P.del))) ∧ Below W.heap.size W w') := fun W W' v hb hb' se hsd =>
    lay_any W v vs _ s W' se hb' ((DS.of_es (hs.kept hb)).keep (fun h0 b e => hb'.block b ((hs.kept hb).block h0 b e))) (fun h0 b e => by
      have h1 := (hs.kept hb).block h0 b e
      refine ⟨fun e' => ?_, Nat.lt_of_lt_of_le h1 hb'.size⟩
      have := se.base b e'
      omega) (hsd.filter _) (hld.filter _).lw hls.lw (by have h1 := (hld.filter (sty s P.del)).1; have h2 := hls.1; omega) (hm.kept hb)
  have HKE : Hid (∀ W gs gh gp g, Below w.heap.size w W → StC W gs gh gp g vs P.del → Calls Tryz.prog 24 #[vs, vd, .agg #[.bool P.del, .bool P.bak], .func (.func 50) #[] #[.pointer (some ⟨gs, 0, none⟩), .pointer (some ⟨gh, 0, none⟩), .pointer (some ⟨gp, 0, none⟩)]] W fun e w' =>
      ∃ kp kt ks kd, e = .returned (.func (.func 55) #[] #[.pointer (some ⟨kp, 0, none⟩), .pointer (some ⟨kt, 0, none⟩), .pointer (some ⟨ks, 0, none⟩), .pointer (some ⟨kd, 0, none⟩)]) ∧ KpC w' kp kt ks kd gs gh gp g vs vd P ∧ Below W.heap.size W w') := fun W gs gh gp g hb hc => keeping_any vs vd P gs gh gp g W ⟨s, hs.kept hb⟩ ⟨d, hd.kept hb⟩ hc
  have HCO : Hid (∀ W0 W kp kt ks kd gs gh gp g, Below w.heap.size w W0 → Below W0.heap.size W0 W → KpC W kp kt ks kd gs gh gp g vs vd P → Calls Tryz.prog 23 #[vd, .func (.func 55) #[] #[.pointer (some ⟨kp, 0, none⟩), .pointer (some ⟨kt, 0, none⟩), .pointer (some ⟨ks, 0, none⟩), .pointer (some ⟨kd, 0, none⟩)]] W fun e w' =>
      ∃ v', e = .returned v' ∧ SE W0 w' W.heap.size v' (cps s d P) ∧ Below W.heap.size W w') := fun W0 W kp kt ks kd gs gh gp g hb0 hb hc =>
    copies_any vd d (kpt s d P) kp kt ks kd W0 W (hd.kept hb0) hb hld (fun W' u x hb' hu hp => keep1_any vs vd u s d x P kp kt ks kd gs gh gp g W' (hs.kept ((hb0.trans (hb.mono hb0.size)).trans (hb'.mono (Nat.le_trans hb0.size hb.size)))) hls (hd.kept ((hb0.trans (hb.mono hb0.size)).trans (hb'.mono (Nat.le_trans hb0.size hb.size)))) hld hu hp (hm.kept ((hb0.trans (hb.mono hb0.size)).trans (hb'.mono (Nat.le_trans hb0.size hb.size)))) (hc.kept hb'))
  have HL2 : Hid (∀ W W' W'' v u, Below w.heap.size w W → Below W.heap.size W W' → Below W.heap.size W W'' → SE W W' W.heap.size v (s.foldl ins (d.filter (sty s P.del))) → W'.heap.size ≤ W''.heap.size → SE W W'' W.heap.size v (s.foldl ins (d.filter (sty s P.del))) → SE W W'' W'.heap.size u (cps s d P) → Srt d → Calls Tryz.prog 21 #[v, u] W'' fun e w' => ∃ v', e = .returned v' ∧ SE W w' W.heap.size v' (wnt s d P) ∧ Below W.heap.size W w') := fun W W' W'' v u hb hb' hb'' se hsz se2 su hsd => by
    have l1 := len_fold s (d.filter (sty s P.del))
    have l2 := (hld.filter (sty s P.del)).1
    have l3 := hls.1
    have l4 := (cps_lw (s := s) (P := P) hld).1
    exact lay_any W v u _ (cps s d P) W'' se2 hb'' (DS.of_se su) (fun _ b e => ⟨fun e' => by
      have h1 := su.base b e
      have h2 := own_lt se b e'
      omega, own_lt su b e⟩) (fold_srt _ (hsd.filter _)) ⟨by omega, fun x hx => by
        rcases mem_fold' _ _ _ hx with h | h
        · exact (hls.2 x h).1
        · exact ((hld.filter _).2 x h).1⟩ (cps_lw hld).lw (by omega) (hm.kept hb)
  have HCP : Hid (∀ W v, ES W v (wnt s d P) → (wnt s d P).length ≤ 64 → Calls Tryz.prog 25 #[v] W fun e w' => ∃ v', e = .returned v' ∧ OE w' W.heap.size v' (wnt s d P) ∧ Below W.heap.size W w') := fun W v he hl => copy_any v _ W he (wnt_lt hls hld (by omega))
  have HSD : Hid (ckT d = 0 → Srt d) := fun e => (tree_wf e).1
  have HR : Hid (want s d P = if ckT s ≠ 0 then ([], ckT s) else if ckT d ≠ 0 then ([], ckT d) else if 64 < (wnt s d P).length then ([], 10) else (wnt s d P, 0)) := rfl
  have HWL : Hid ((wnt s d P).length ≤ 1000) := by
    unfold Hid wnt
    have l0 := len_fold (cps s d P) (s.foldl ins (d.filter (sty s P.del)))
    have l1 := len_fold s (d.filter (sty s P.del))
    have l2 := (hld.filter (sty s P.del)).1
    have l3 := hls.1
    have l4 := (cps_lw (s := s) (P := P) hld).1
    omega
  obtain ⟨a, c, rfl, _, _, _⟩ := hs.shape
  obtain ⟨a2, c2, rfl, _, _, _⟩ := hd.shape
  generalize s.length = n at *
  generalize d.length = n2 at *
  generalize want s d P = R at *
  generalize ckT s = ks at *
  generalize ckT d = kd at *
  clear hs hls hd hld hm b1 k1
  go_enter Tryz.func7, Tryz.ntmps7
  go_wp2_with fail
  rw [← hW1]
  clear hW1
  refine C1.mono ?_
  rintro e w2 ⟨rfl, b2⟩
  have B2 : Hid (Below w.heap.size w w2) := B1.out.trans (b2.mono B1.out.size)
  have D2 : Hid (Below W1.heap.size W1 w2) := b2
  clear C1 b2
  by_cases h1 : ks = 0
  case neg =>
    have HR2 : Hid (R = ([], ks)) := by unfold Hid; rw [HR.out, if_pos h1]
    have t0 : (ks != 0) = true := by simp [h1]
    clear HR
    go_wp2
    refine bodyPost_ret (v := .tuple #[.slice none 0 0, .int .i64 ks]) ?h1 rfl ?_
    case h1 => simp [results, Tryz.results7, go_sem, *]
    exact ⟨_, by rw [HR2.out], by rw [HR2.out]; exact OE.nil _ _, B2.out⟩
  subst h1
  have C2 := HC2.out w2 B2.out
  clear HC2
  go_wp2_with fail
  refine C2.mono ?_
  rintro e w3 ⟨rfl, b3⟩
  have B3 : Hid (Below w.heap.size w w3) := B2.out.trans (b3.mono B2.out.size)
  have D3 : Hid (Below W1.heap.size W1 w3) := D2.out.trans (b3.mono D2.out.size)
  clear C2 b3 B2 D2
  by_cases h2 : kd = 0
  case neg =>
    have HR2 : Hid (R = ([], kd)) := by unfold Hid; rw [HR.out, if_neg (by simp), if_pos h2]
    have t0 : (kd != 0) = true := by simp [h2]
    clear HR
    go_wp2
    refine bodyPost_ret (v := .tuple #[.slice none 0 0, .int .i64 kd]) ?h2 rfl ?_
    case h2 => simp [results, Tryz.results7, go_sem, *]
    exact ⟨_, by rw [HR2.out], by rw [HR2.out]; exact OE.nil _ _, B3.out⟩
  subst h2
  have HR2 : Hid (R = if 64 < (wnt s d P).length then ([], 10) else (wnt s d P, 0)) := by unfold Hid; rw [HR.out, if_neg (by simp), if_neg (by simp)]
  have SD : Hid (Srt d) := HSD.out rfl
  clear HR HSD
  obtain ⟨c0, c1⟩ := HK.out w3 D3.out
  have C3 := HST.out w3 B3.out
  clear HST
  go_wp2_with fail
  refine C3.mono ?_
  rintro e w4 ⟨gs, gh, gp, g, rfl, st4, b4⟩
  have B4 : Hid (Below w.heap.size w w4) := B3.out.trans (b4.mono B3.out.size)
  have D4 : Hid (Below W1.heap.size W1 w4) := D3.out.trans (b4.mono D3.out.size)
  have ST4 : Hid (StC w4 gs gh gp g (.slice a n c) P.del) := st4
  clear C3 b4 st4 c0 c1 B3 D3
  have C4 := HPK.out w4 gs gh gp g B4.out ST4.out
  clear HPK
  go_wp2_with fail
  refine C4.mono ?_
  rintro e w5 ⟨v5, rfl, s5, b5⟩
  have B5 : Hid (Below w4.heap.size w4 w5) := b5
  have S5 : Hid (SE w4 w5 w4.heap.size v5 (d.filter (sty s P.del))) := s5
  clear C4 b5 s5
  have C5 := HL1.out w4 w5 v5 B4.out B5.out S5.out SD.out
  obtain ⟨va5, vc5, rfl⟩ := S5.out.shape
  clear HL1
  go_wp2_with fail
  refine C5.mono ?_
  rintro e w6 ⟨v6, rfl, s6, b6⟩
  have B6 : Hid (Below w4.heap.size w4 w6) := b6
  have S6 : Hid (SE w4 w6 w4.heap.size v6 (s.foldl ins (d.filter (sty s P.del)))) := s6
  have E6 : Hid (Below w.heap.size w w6) := B4.out.trans (b6.mono B4.out.size)
  have D6 : Hid (Below W1.heap.size W1 w6) := D4.out.trans (b6.mono D4.out.size)
  have ST6 : Hid (StC w6 gs gh gp g (.slice a n c) P.del) := ST4.out.kept b6
  clear C5 b6 s6 S5 B5
  obtain ⟨c0, c1⟩ := HK.out w6 D6.out
  have C6 := HKE.out w6 gs gh gp g E6.out ST6.out
  obtain ⟨va6, vc6, rfl⟩ := S6.out.shape
  clear HKE
  go_wp2_with fail
  refine C6.mono ?_
  rintro e w7 ⟨kp, kt, kz, kq, rfl, kc7, b7⟩
  have B7 : Hid (Below w4.heap.size w4 w7) := B6.out.trans (b7.mono B6.out.size)
  have S7 : Hid (SE w4 w7 w4.heap.size (.slice va6 (s.foldl ins (d.filter (sty s P.del))).length vc6) (s.foldl ins (d.filter (sty s P.del)))) := S6.out.below b7
  have KC7 : Hid (KpC w7 kp kt kz kq gs gh gp g (.slice a n c) (.slice a2 n2 c2) P) := kc7
  clear C6 b7 kc7 c0 c1 S6
  have C7 := HCO.out w4 w7 kp kt kz kq gs gh gp g B4.out B7.out KC7.out
  clear HCO
  go_wp2_with fail
  refine C7.mono ?_
  rintro e w8 ⟨v8, rfl, s8, b8⟩
  have B8 : Hid (Below w4.heap.size w4 w8) := B7.out.trans (b8.mono B7.out.size)
  have C8 := HL2.out w4 w7 w8 _ v8 B4.out B7.out B8.out S7.out b8.size (S7.out.below b8) s8 SD.out
  obtain ⟨va8, vc8, rfl⟩ := s8.shape
  clear C7 b8 s8 S7 HL2
  go_wp2_with fail
  refine C8.mono ?_
  rintro e w9 ⟨v9, rfl, s9, b9⟩
  have B9 : Hid (Below w.heap.size w w9) := B4.out.trans (b9.mono B4.out.size)
  have E9 : Hid (ES w9 v9 (wnt s d P)) := s9.es b9
  obtain ⟨va9, vc9, rfl⟩ := s9.shape
  clear C8 b9 s9
  obtain ⟨nw, hnw⟩ : ∃ nw, nw = (wnt s d P).length := ⟨_, rfl⟩
  rw [← hnw] at E9 HR2 HCP HWL ⊢
  have hwl : nw ≤ 1000 := HWL.out
  clear hnw HWL
  by_cases h64 : 64 < nw
  · have HR3 : Hid (R = ([], 10)) := by unfold Hid; rw [HR2.out, if_pos h64]
    have t1 : (64 : Int) < (nw : Int) := by omega
    clear HR2
    go_wp2
    refine bodyPost_ret (v := .tuple #[.slice none 0 0, .int .i64 10]) ?h3 rfl ?_
    case h3 => simp [results, Tryz.results7, go_sem, *]
    exact ⟨_, by rw [HR3.out], by rw [HR3.out]; exact OE.nil _ _, B9.out⟩
  · have HR3 : Hid (R = (wnt s d P, 0)) := by unfold Hid; rw [HR2.out, if_neg h64]
    have t1 : ¬ (64 : Int) < (nw : Int) := by omega
    have C9 := HCP.out w9 _ E9.out (by omega)
    clear HR2 HCP
    go_wp2_with fail
    refine C9.mono ?_
    rintro e w10 ⟨v10, rfl, o10, b10⟩
    have B10 : Hid (Below w.heap.size w w10) := B9.out.trans (b10.mono B9.out.size)
    have O10 : Hid (OE w10 w9.heap.size v10 (wnt s d P)) := o10
    have S9 : Hid (w.heap.size ≤ w9.heap.size) := B9.out.size
    obtain ⟨va10, vc10, rfl, _, _, _⟩ := o10.es.shape
    clear C9 b10 o10
    go_wp2
    refine bodyPost_ret (v := .tuple #[.slice va10 (wnt s d P).length vc10, .int .i64 0]) ?h4 rfl ?_
    case h4 => simp [results, Tryz.results7, go_sem, *]
    exact ⟨_, by rw [HR3.out], by rw [HR3.out]; exact O10.out.mono S9.out, B10.out⟩
end Go.Proofs.YtajcabfeabbknaaGreatDoor
