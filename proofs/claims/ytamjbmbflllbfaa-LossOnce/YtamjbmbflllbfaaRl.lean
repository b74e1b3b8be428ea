/-
  What the document's Lost answers.
-/
import Derived.Test.YtamjbmbflllbfaaRh
namespace Go.Proofs.Ytamjbmbflllbfaa
open Go.RowKit Go.Shelf
set_option maxRecDepth 100000

theorem retLo {tmps : Array Value} {w : World} {g : Nat} {cs : Array Value} (hp : tmps.getD 6 undef = .pointer (some ⟨g, 0, none⟩)) (hg : w.heap[g]? = some (.cells cs 31 (0, 0))) (hl : cs.size = 7) : (results Try.f25 tmps).run Try.prog w = .ok (.tuple #[.agg cs, tmps.getD 7 undef]) w := by
  have hld := ldD hg hl
  have hr : Try.f25.results = #[.cell 6 31, .tmp 7] := rfl
  have hp' : tmps[6]?.getD undef = .pointer (some ⟨g, 0, none⟩) := by simpa using hp
  simp [results, hp', asAddr, hld]
/-- What is appended to a row lets another row of the same kind be, if they stand apart. -/
theorem RP.grownX {t : TypeId} {w w' : World} {B : Nat} {v u : Value} {l : List Pk} (k : RP t w B u l) (g : w.grownBy w' v.ownBlock) (hd : ∀ i, u.ownBlock = some i → v.ownBlock ≠ some i) : RP t w' B u l :=
  k.keep fun i _ hi hh => (g.block i (blk_lt hh) (fun e => hd i hi e.symm)).trans hh
/-- Two rows apart. -/
def Ap (u v : Value) : Prop := ∀ i, u.ownBlock = some i → v.ownBlock ≠ some i
theorem Ap.symm {u v : Value} (h : Ap u v) : Ap v u := fun i hi hu => h i hu hi
theorem Ap.nil (v : Value) : Ap (.slice none 0 0) v := fun i hi => by cases hi
/-- A row that grew stands apart from the other one. -/
theorem Ap.grown {t : TypeId} {w : World} {B : Nat} {u v v' : Value} {l : List Pk} (h : Ap u v) (k : RP t w B u l) (ow : v'.ownBlock = v.ownBlock ∨ ∃ j, v'.ownBlock = some j ∧ w.heap.size ≤ j) : Ap u v' := fun i hi hv => by
  rcases ow with o | ⟨j, o, hj⟩
  · exact h i hi (o ▸ hv)
  · rw [o] at hv
    cases hv
    have := k.lt hi
    omega
theorem wpList_append_pkx {ops : Array Oper} {rest : List Oper} {o : Oper} {a : Act} {w : World} {Q : Exit → Act → World → Prop} (hgd : o.guard = none) (s x : Operand) (ho : o.op = .call { callee := .builtin .append, args := #[s, x], argTypes := #[27, 27] })
    (B : Nat) (v : Value) (l : List Pk) (hs : a.eval s = v) (hown : RP 29 w B v l) (g : Nat) (p : Pk) (hx : a.eval x = .slice (some ⟨g, 0, none⟩) 1 1) (hm : PB w g 29 p) (hbig : l.length ≤ 100000) (hbase : B ≤ w.heap.size)
    (h : ∀ v' w', RP 29 w' B v' (l ++ [p]) → w.grownBy w' v.ownBlock → (v'.ownBlock = v.ownBlock ∨ ∃ j, v'.ownBlock = some j ∧ w.heap.size ≤ j) → wpList Try.prog ops Q rest (a.put o.dst v') w') : wpList Try.prog ops Q (o :: rest) a w := by
  obtain ⟨i0, hi, hz0, hz1, hz2⟩ := info_parts infoQ
  refine wpList_append_lies w hgd s x 27 ho B 29 i0 (.agg #[.int .i64 0, .int .i64 0, .int .i64 0, .bool false]) 4 32 Try.underlying27 hi hz0 hz1 hz2 rfl (by decide) v l.length (l.map Pk.c).flatten hs hown.own ⟨g, 0, none⟩ 1 1 p.c hx rfl (fun j u hj => by rw [Addr.add_lit]; exact hm.range j u hj) (pc_one p) (by omega) (by unfold maxLen; omega) (by omega) hbase _ rfl ?_
  intro g' cap w' o3 g3 hv3 _
  refine h _ w' (RP.of ?_) g3 (hv3.imp (fun e => e.symm) (fun e => ⟨g', rfl, by rw [e]; exact Nat.le_refl _⟩))
  rw [flatP_snoc, List.length_append, List.length_singleton]
  exact o3
set_option maxHeartbeats 4000000 in
theorem rlost_any (w : World) (B : Nat) (v : Value) (k : Int) (q : Pk) (s : Lg) (now late : Int) (h : DS w B v k q s) (hok : s.ok) :
    Calls Try.prog 25 #[.agg (dc v k q s.g), .int .i64 now, .int .i64 late] w fun e w' => ∃ v' vt, e = .returned (.tuple #[.agg (dc v' k q s.g), vt]) ∧ DS w' (min B w.heap.size) v' k q (lostL s now late) ∧ RP 29 w' w.heap.size vt (lostP s now late) ∧ Below w.heap.size w w' := by
  obtain ⟨W1, hW1⟩ : ∃ W1, W1 = w.alloc (.cells (dc v k q s.g) 31) := ⟨_, rfl⟩
  obtain ⟨W2, hW2⟩ : ∃ W2, W2 = W1.alloc (.cells (dc (.slice none 0 0) 0 pk0 0) 31) := ⟨_, rfl⟩
  have b1 : Below w.heap.size w W1 := by rw [hW1]; exact al_b _ _
  have b2 : Below W1.heap.size W1 W2 := by rw [hW2]; exact al_b _ _
  have z1 : W1.heap.size = w.heap.size + 1 := by rw [hW1]; simp
  have z2 : W2.heap.size = w.heap.size + 1 + 1 := by rw [hW2]; simp [z1]
  obtain ⟨hA, eA⟩ : ∃ x, x = w.heap.size := ⟨_, rfl⟩
  obtain ⟨hR, eR⟩ : ∃ x, x = w.heap.size + 1 := ⟨_, rfl⟩
  have g1 : DB W2 hA v k q s.g := by rw [eA]; exact DB.kept (by rw [hW1]; exact DB.new _ _ _ _ _) b2
  have r1 : DB W2 hR (.slice none 0 0) 0 pk0 0 := by rw [eR, ← z1, hW2]; exact DB.new _ _ _ _ _
  have HB2 : Hid (Below w.heap.size w W2) := b1.trans (b2.mono b1.size)
  have HLT : Hid (hA = w.heap.size ∧ hR = w.heap.size + 1 ∧ W2.heap.size = w.heap.size + 1 + 1) := ⟨eA, eR, z2⟩
  have HG : Hid (DB W2 hA v k q s.g ∧ DB W2 hR (.slice none 0 0) 0 pk0 0) := ⟨g1, r1⟩
  have h2 := h.below HB2.out
  have HDS : Hid (DS W2 B v k q s) := h2
  have hln := hok.ln
  obtain ⟨a, c, rfl, -⟩ := id h.rs.is.shape
  have HAT : Hid (∀ j, j < s.o.length → ∀ W, Below W2.heap.size W2 W → ∃ b off, a = some ⟨b, off, none⟩ ∧ PC W b (off + j * 4) (atP s.o j)) := fun j hj W hb => (h2.rs.is.kept hb).at j hj
  have HCC : Hid (∀ W, Below W2.heap.size W2 W → DC W hA (.slice a s.o.length c) k q s.g) := fun W hb => (g1.kept hb).dc
  have CT : Hid (∀ n W, Calls Try.prog 44 #[.int .i64 n] W fun e w' => e = .returned (.bool (tm n)) ∧ w' = W) := fun n W => rtime_any n W
  have CTN := fun W => CT.out now W
  have CTL := fun W => CT.out late W
  have HREF : Hid ((tm now && tm late) = false → lostP s now late = [] ∧ lostL s now late = s) := fun e => by unfold lostP lostL; rw [e]; exact ⟨rfl, rfl⟩
  have HACC : Hid ((tm now && tm late) = true → lostP s now late = s.o.filter (lstF s.g now late) ∧ lostL s now late = tkL s (lstF s.g now late)) := fun e => by unfold lostP lostL; rw [e]; exact ⟨rfl, rfl⟩
  have HDK : Hid (DK k q s) := h.dk
  have hg0 := hok.g0
  have hg1 : s.g ≤ 1099511627776 := by have := hok.g1; have := hok.n1; omega
  have HTB : Hid (tm now = true → 0 ≤ now ∧ now ≤ 1099511627776) := fun e => tm_iff.1 e
  have HTL : Hid (tm late = true → 0 ≤ late ∧ late ≤ 1099511627776) := fun e => tm_iff.1 e
  obtain ⟨c0, c1, c2, c3, c4, c5, c6, -, -, -, -, -, -, -⟩ := g1.dc
  clear b1 b2 z1 z2 g1 r1 h h2 hok
  obtain ⟨n9, hn9⟩ : ∃ n9, n9 = s.o.length := ⟨_, rfl⟩
  have HN9 : Hid (n9 = s.o.length) := hn9
  rw [← hn9] at hW1 c0 HG HDS HAT HCC hln ⊢
  clear hn9
  cases hn : (tm now && tm late) with
  | false =>
    obtain ⟨e1, e2⟩ := HREF.out hn
    rw [e1, e2]
    obtain ⟨W4, hW4⟩ : ∃ W4, W4 = W2.setRow hR (dc (.slice a n9 c) k q s.g) := ⟨_, rfl⟩
    have HW4 : Hid (W4 = W2.setRow hR (dc (.slice a n9 c) k q s.g)) := hW4
    have HP4 : Hid (W4.heap[hR]? = some (.cells (dc (.slice a n9 c) k q s.g) 31 (0, 0))) := by rw [hW4]; exact HG.out.2.row _ _ _ _
    have b4 : Below w.heap.size w W4 := by rw [hW4]; exact below_setRow HB2.out (by omega) _
    have nR : Value.ownBlock (.slice a n9 c) ≠ some hR := fun e => by
      obtain ⟨cs, hh⟩ := HDS.out.rs.ty e
      have := HG.out.2
      unfold DB at this
      rw [this] at hh
      simp at hh
    have d4 : DS W4 (min B w.heap.size) (.slice a n9 c) k q s := by
      rw [hW4]
      exact ⟨(HDS.out.rs.mono (Nat.min_le_left _ _)).keep fun i cs hi hh => (setRow_other _ _ _ _ (fun e => nR (by rw [hi, e]))).trans hh, HDK.out⟩
    have HEND : Hid (DS W4 (min B w.heap.size) (.slice a n9 c) k q s ∧ RP 29 W4 w.heap.size (.slice none 0 0) [] ∧ Below w.heap.size w W4) := ⟨d4, RP.nil _ _ _, b4⟩
    clear hW4 b4 e1 e2 nR d4 HREF HACC HTB HTL
    cases hnn : tm now with
    | false =>
      rw [hnn] at CTN
      clear hn hnn
      go_enter Try.func25, Try.ntmps25
      go_upto_region 1 with fail
      try rw [← hW1]
      try rw [← hW2]
      try rw [← eR]
      try rw [← eA]
      clear hW1 hW2 eA eR
      go_wp2_with fail
      refine (CTN _).mono ?_
      rintro e w9 ⟨rfl, q1⟩
      rw [q1]
      clear q1 w9
      go_upto_region 2 with fail
      go_wp2_with (first | refine wpList_load_row rfl 31 _ rfl hA rfl 31 (dc (.slice a n9 c) k q s.g) (0, 0) _ HG.out.1 Try.underlying31 rfl sizeD ?_ | refine wpList_store_row rfl 31 _ _ rfl hR (dc (.slice a n9 c) k q s.g) rfl rfl 31 _ HG.out.2 sizeD rfl (dc_one _ _ _ _ _ _) (Hid.out ?_))
      unfold Hid
      rw [← HW4.out]
      clear HW4
      go_wp2
      refine bodyPost_ret (retLo rfl HP4.out rfl) rfl ?_
      exact ⟨_, _, rfl, HEND.out⟩
    | true =>
      have hnl : tm late = false := by rw [hnn] at hn; simpa using hn
      rw [hnn] at CTN
      rw [hnl] at CTL
      clear hn hnn hnl
      go_enter Try.func25, Try.ntmps25
      go_upto_region 1 with fail
      try rw [← hW1]
      try rw [← hW2]
      try rw [← eR]
      try rw [← eA]
      clear hW1 hW2 eA eR
      go_wp2_with fail
      refine (CTN _).mono ?_
      rintro e w9 ⟨rfl, q1⟩
      rw [q1]
      clear q1 w9
      go_wp2_with fail
      refine (CTL _).mono ?_
      rintro e w9 ⟨rfl, q1⟩
      rw [q1]
      clear q1 w9
      go_upto_region 2 with fail
      go_wp2_with (first | refine wpList_load_row rfl 31 _ rfl hA rfl 31 (dc (.slice a n9 c) k q s.g) (0, 0) _ HG.out.1 Try.underlying31 rfl sizeD ?_ | refine wpList_store_row rfl 31 _ _ rfl hR (dc (.slice a n9 c) k q s.g) rfl rfl 31 _ HG.out.2 sizeD rfl (dc_one _ _ _ _ _ _) (Hid.out ?_))
      unfold Hid
      rw [← HW4.out]
      clear HW4
      go_wp2
      refine bodyPost_ret (retLo rfl HP4.out rfl) rfl ?_
      exact ⟨_, _, rfl, HEND.out⟩
  | true =>
    obtain ⟨e1, e2⟩ := HACC.out hn
    rw [e1, e2]
    have hnn : tm now = true := by rw [Bool.and_eq_true] at hn; exact hn.1
    have hnl : tm late = true := by rw [Bool.and_eq_true] at hn; exact hn.2
    obtain ⟨n0, n1⟩ := HTB.out hnn
    obtain ⟨t0, t1⟩ := HTL.out hnl
    rw [hnn] at CTN
    rw [hnl] at CTL
    clear hn hnn hnl e1 e2 HREF HACC HTB HTL
    have HFD : Hid (∀ p : Pk, lstF s.g now late p = (decide (p.n ≤ s.g - 3) || (decide (p.n < s.g) && decide (p.t ≤ now - late)))) := fun p => rfl
    have HFY : Hid (∀ i, i < n9 → lstF s.g now late (atP s.o i) = true → (s.o.take (i + 1)).filter (lstF s.g now late) = (s.o.take i).filter (lstF s.g now late) ++ [atP s.o i] ∧ (s.o.take (i + 1)).filter (fun p => !lstF s.g now late p) = (s.o.take i).filter (fun p => !lstF s.g now late p)) := fun i hi hp => ⟨filt_yes (by have := HN9.out; omega) hp, filt_no (f := fun p => !lstF s.g now late p) (by have := HN9.out; omega) (by simp only [hp, Bool.not_true])⟩
    have HFN : Hid (∀ i, i < n9 → lstF s.g now late (atP s.o i) = false → (s.o.take (i + 1)).filter (lstF s.g now late) = (s.o.take i).filter (lstF s.g now late) ∧ (s.o.take (i + 1)).filter (fun p => !lstF s.g now late p) = (s.o.take i).filter (fun p => !lstF s.g now late p) ++ [atP s.o i]) := fun i hi hp => ⟨filt_no (by have := HN9.out; omega) hp, filt_yes (f := fun p => !lstF s.g now late p) (by have := HN9.out; omega) (by simp only [hp, Bool.not_false])⟩
    have HFL : Hid (∀ i, ((s.o.take i).filter (lstF s.g now late)).length ≤ i ∧ ((s.o.take i).filter (fun p => !lstF s.g now late p)).length ≤ i) := fun i => ⟨filt_le _ s.o i, filt_le _ s.o i⟩
    have HEQ : Hid ((s.o.take n9).filter (lstF s.g now late) = s.o.filter (lstF s.g now late) ∧ (tkL s (lstF s.g now late)).o = (s.o.take n9).filter (fun p => !lstF s.g now late p)) := by
      have e := HN9.out
      refine ⟨?_, ?_⟩
      · rw [e, List.take_length]
      · unfold tkL; rw [e, List.take_length]
    have HDK2 : Hid (DK k q (tkL s (lstF s.g now late))) := ⟨HDK.out.k0, HDK.out.k1, HDK.out.no, HDK.out.ye⟩
    generalize hf : lstF s.g now late = f at *
    generalize hS : tkL s f = S3 at *
    clear hf hS
    generalize hY : (fun i => (s.o.take i).filter f) = Y at *
    have HY : Hid (∀ i, (s.o.take i).filter f = Y i) := fun i => by rw [← hY]
    have HY0 : Hid (Y 0 = []) := by rw [← hY]; rfl
    generalize hX : (fun i => (s.o.take i).filter (fun p => !f p)) = X at *
    have HX : Hid (∀ i, (s.o.take i).filter (fun p => !f p) = X i) := fun i => by rw [← hX]
    have HX0 : Hid (X 0 = []) := by rw [← hX]; rfl
    clear hY hX
    simp only [HY.out, HX.out] at HFY HFN HFL HEQ
    clear HY HX
    generalize s.o.filter f = G at *
    generalize hAv : atP s.o = Av at *
    clear hAv
    generalize s.g = sg at *
    have x1 : wrap64 (sg - 3) = sg - 3 := by unfold wrap64; omega
    have x2 : wrap64 (now - late) = now - late := by unfold wrap64; omega
    clear n0 n1 t0 t1 hg0 hg1
    go_enter Try.func25, Try.ntmps25
    go_upto_region 1 with fail
    try rw [← hW1]
    try rw [← hW2]
    try rw [← eR]
    try rw [← eA]
    clear hW1 hW2 eA eR
    go_wp2_with fail
    refine (CTN _).mono ?_
    rintro e w9 ⟨rfl, q1⟩
    rw [q1]
    clear q1 w9
    go_wp2_with fail
    refine (CTL _).mono ?_
    rintro e w9 ⟨rfl, q1⟩
    rw [q1]
    clear q1 w9
    go_wp2_with fail
    go_loopw [8, 9, 10] (fun u8 u9 u wr => ∃ i : Nat, i ≤ n9 ∧ u = .int .i64 i ∧ Below W2.heap.size W2 wr ∧ RP 29 wr W2.heap.size u8 (X i) ∧ RP 29 wr W2.heap.size u9 (Y i) ∧ Ap u8 u9) (fun _ _ u _ => n9 - (intOf u).toNat)
    case atStart => exact ⟨0, by omega, rfl, Below.refl _ _, by rw [HX0.out]; exact RP.nil _ _ _, by rw [HY0.out]; exact RP.nil _ _ _, Ap.nil _⟩
    case round =>
      obtain ⟨i, hi, rfl, bel, rx, ry, ap⟩ := hrel
      have HB : Hid (Below W2.heap.size W2 wr) := bel
      have HBW : Hid (Below w.heap.size w wr) := HB2.out.trans (bel.mono HB2.out.size)
      obtain ⟨xa, xc, rfl, -⟩ := id rx.is.shape
      obtain ⟨ya, yc, rfl, -⟩ := id ry.is.shape
      have HRX : Hid (RP 29 wr W2.heap.size (.slice xa (X i).length xc) (X i)) := rx
      have HRY : Hid (RP 29 wr W2.heap.size (.slice ya (Y i).length yc) (Y i)) := ry
      have HAP : Hid (Ap (.slice xa (X i).length xc) (.slice ya (Y i).length yc)) := ap
      obtain ⟨l1, l2⟩ := HFL.out i
      obtain ⟨d0, d1, d2, d3, d4, d5, d6, f0, f1, f2, f3, f4, f5, f6⟩ := HCC.out wr bel
      clear rx ry ap c0 c1 c2 c3 c4 c5 c6
      by_cases hin : i < n9
      · have lt2 : (i : Int) < (n9 : Int) := by omega
        have l0 : (0 : Int) ≤ (i : Int) := by omega
        obtain ⟨b, off, rfl, k0, k1, k2, k3⟩ := HAT.out i hin wr bel
        have HYE : Hid (f (Av i) = true → Y (i + 1) = Y i ++ [Av i] ∧ X (i + 1) = X i) := fun hp => HFY.out i hin hp
        have HNE : Hid (f (Av i) = false → Y (i + 1) = Y i ∧ X (i + 1) = X i ++ [Av i]) := fun hp => HFN.out i hin hp
        have HFP : Hid (f (Av i) = (decide ((Av i).n ≤ sg - 3) || (decide ((Av i).n < sg) && decide ((Av i).t ≤ now - late)))) := HFD.out (Av i)
        generalize hx : Av i = p at *
        clear hx bel f0 f1 f2 f3 f4 f5 f6 d1 d2 d3 d4 d5
        obtain ⟨W5, hW5⟩ : ∃ W5, W5 = wr.alloc (.cells #[.int .i64 p.n, .int .i64 p.t, .int .i64 p.z, .bool p.a] 29) := ⟨_, rfl⟩
        have b5 : Below wr.heap.size wr W5 := by rw [hW5]; exact al_b _ _
        have p5 : PB W5 wr.heap.size 29 p := by rw [hW5]; exact PB.new _ _ p
        obtain ⟨e0, e1, e2, e3⟩ := p5.pc
        simp only [Nat.zero_add] at e0 e1 e2 e3
        have m6 : W5.cell? ⟨hA, 6, none⟩ = some (.int .i64 sg) := (b5.cell (World.block_lt_of_cell? _ _ d6)).trans d6
        obtain ⟨W6, hW6⟩ : ∃ W6, W6 = W5.alloc (.cells #[.int .i64 p.n, .int .i64 p.t, .int .i64 p.z, .bool p.a] 29) := ⟨_, rfl⟩
        have b6 : Below wr.heap.size wr W6 := by rw [hW6]; exact b5.trans ((al_b _ _).mono b5.size)
        have HP6 : Hid (PB W6 W5.heap.size 29 p) := by rw [hW6]; exact PB.new _ _ p
        have HW6 : Hid (W6 = W5.alloc (.cells #[.int .i64 p.n, .int .i64 p.t, .int .i64 p.z, .bool p.a] 29)) := hW6
        have HB6 : Hid (Below wr.heap.size wr W6) := b6
        have HX6 : Hid (RP 29 W6 W2.heap.size (.slice xa (X i).length xc) (X i)) := HRX.out.below b6
        have HY6 : Hid (RP 29 W6 W2.heap.size (.slice ya (Y i).length yc) (Y i)) := HRY.out.below b6
        have HS6 : Hid (W2.heap.size ≤ W6.heap.size) := Nat.le_trans HB.out.size b6.size
        obtain ⟨hq, ehq⟩ : ∃ x, x = wr.heap.size := ⟨_, rfl⟩
        rw [← ehq] at e0 e1 e2 e3
        generalize hzx : (X i).length = zx at *
        have HZX : Hid ((X i).length = zx) := hzx
        generalize hzy : (Y i).length = zy at *
        have HZY : Hid ((Y i).length = zy) := hzy
        clear b5 p5 b6 hzx hzy
        by_cases y1 : p.n < sg
        · have z1 : decide (p.n < sg) = true := decide_eq_true y1
          by_cases y2 : p.n ≤ sg - 3
          · have z2 : decide (p.n ≤ sg - 3) = true := decide_eq_true y2
            have hfp : f p = true := by rw [HFP.out]; rw [z2]; rfl
            obtain ⟨s1, s2⟩ := HYE.out hfp
            have HS1 : Hid (Y (i + 1) = Y i ++ [p]) := s1
            have HS2 : Hid (X (i + 1) = X i) := s2
            clear HYE HNE HFP s1 s2 hfp
            go_upto_region 8 with fail
            try rw [← hW5]
            try rw [← ehq]
            clear hW5 ehq
            go_wp2_with (at_builtin; rw [← hW6]; refine wpList_append_pkx rfl _ _ rfl W2.heap.size (.slice ya zy yc) (Y i) rfl HY6.out W5.heap.size p rfl HP6.out (by rw [HZY.out]; omega) HS6.out (Hid.out ?_))
            unfold Hid
            intro v7 w7 r7 g7 o7
            try rw [← HW6.out] at g7
            have hz6 : W5.heap.size + 1 = W6.heap.size := by rw [HW6.out]; simp
            try rw [hz6] at o7
            clear HW6 hz6 hW6
            have HBW7 : Hid (Below W2.heap.size W2 w7) := grown_below (HB.out.trans (HB6.out.mono HB.out.size)) HS6.out g7 (fun q hq => HY6.out.base hq)
            have HAP7 : Hid (Ap (.slice xa zx xc) v7) := HAP.out.grown HX6.out o7
            have HX7 : Hid (RP 29 w7 W2.heap.size (.slice xa zx xc) (X i)) := HX6.out.grownX g7 (fun q hq => HAP.out q hq)
            have R7 : Hid (RP 29 w7 W2.heap.size v7 (Y i ++ [p])) := r7
            obtain ⟨va7, vc7, rfl, -⟩ := id r7.is.shape
            clear r7 g7 o7
            generalize (Y i ++ [p]).length = z7 at *
            go_wp2
            go_roundw
            case rel => exact ⟨i + 1, by omega, by go_num, HBW7.out, by rw [HS2.out]; exact HX7.out, by rw [HS1.out]; exact R7.out, HAP7.out⟩
            case measure => simp [intOf]; omega
          · have z2 : decide (p.n ≤ sg - 3) = false := decide_eq_false y2
            by_cases y3 : p.t ≤ now - late
            · have z3 : decide (p.t ≤ now - late) = true := decide_eq_true y3
              have hfp : f p = true := by rw [HFP.out]; rw [z1, z2, z3]; rfl
              obtain ⟨s1, s2⟩ := HYE.out hfp
              have HS1 : Hid (Y (i + 1) = Y i ++ [p]) := s1
              have HS2 : Hid (X (i + 1) = X i) := s2
              clear HYE HNE HFP s1 s2 hfp
              go_upto_region 8 with fail
              try rw [← hW5]
              try rw [← ehq]
              clear hW5 ehq
              go_wp2_with (at_builtin; rw [← hW6]; refine wpList_append_pkx rfl _ _ rfl W2.heap.size (.slice ya zy yc) (Y i) rfl HY6.out W5.heap.size p rfl HP6.out (by rw [HZY.out]; omega) HS6.out (Hid.out ?_))
              unfold Hid
              intro v7 w7 r7 g7 o7
              try rw [← HW6.out] at g7
              have hz6 : W5.heap.size + 1 = W6.heap.size := by rw [HW6.out]; simp
              try rw [hz6] at o7
              clear HW6 hz6 hW6
              have HBW7 : Hid (Below W2.heap.size W2 w7) := grown_below (HB.out.trans (HB6.out.mono HB.out.size)) HS6.out g7 (fun q hq => HY6.out.base hq)
              have HAP7 : Hid (Ap (.slice xa zx xc) v7) := HAP.out.grown HX6.out o7
              have HX7 : Hid (RP 29 w7 W2.heap.size (.slice xa zx xc) (X i)) := HX6.out.grownX g7 (fun q hq => HAP.out q hq)
              have R7 : Hid (RP 29 w7 W2.heap.size v7 (Y i ++ [p])) := r7
              obtain ⟨va7, vc7, rfl, -⟩ := id r7.is.shape
              clear r7 g7 o7
              generalize (Y i ++ [p]).length = z7 at *
              go_wp2
              go_roundw
              case rel => exact ⟨i + 1, by omega, by go_num, HBW7.out, by rw [HS2.out]; exact HX7.out, by rw [HS1.out]; exact R7.out, HAP7.out⟩
              case measure => simp [intOf]; omega
            · have z3 : decide (p.t ≤ now - late) = false := decide_eq_false y3
              have hfp : f p = false := by rw [HFP.out]; rw [z1, z2, z3]; rfl
              obtain ⟨s1, s2⟩ := HNE.out hfp
              have HS1 : Hid (Y (i + 1) = Y i) := s1
              have HS2 : Hid (X (i + 1) = X i ++ [p]) := s2
              clear HYE HNE HFP s1 s2 hfp
              go_upto_region 8 with fail
              try rw [← hW5]
              try rw [← ehq]
              clear hW5 ehq
              go_wp2_with (at_builtin; rw [← hW6]; refine wpList_append_pkx rfl _ _ rfl W2.heap.size (.slice xa zx xc) (X i) rfl HX6.out W5.heap.size p rfl HP6.out (by rw [HZX.out]; omega) HS6.out (Hid.out ?_))
              unfold Hid
              intro v7 w7 r7 g7 o7
              try rw [← HW6.out] at g7
              have hz6 : W5.heap.size + 1 = W6.heap.size := by rw [HW6.out]; simp
              try rw [hz6] at o7
              clear HW6 hz6 hW6
              have HBW7 : Hid (Below W2.heap.size W2 w7) := grown_below (HB.out.trans (HB6.out.mono HB.out.size)) HS6.out g7 (fun q hq => HX6.out.base hq)
              have HAP7 : Hid (Ap v7 (.slice ya zy yc)) := (HAP.out.symm.grown HY6.out o7).symm
              have HY7 : Hid (RP 29 w7 W2.heap.size (.slice ya zy yc) (Y i)) := HY6.out.grownX g7 (fun q hq => HAP.out.symm q hq)
              have R7 : Hid (RP 29 w7 W2.heap.size v7 (X i ++ [p])) := r7
              obtain ⟨va7, vc7, rfl, -⟩ := id r7.is.shape
              clear r7 g7 o7
              generalize (X i ++ [p]).length = z7 at *
              go_wp2
              go_roundw
              case rel => exact ⟨i + 1, by omega, by go_num, HBW7.out, by rw [HS2.out]; exact R7.out, by rw [HS1.out]; exact HY7.out, HAP7.out⟩
              case measure => simp [intOf]; omega
        · have z1 : decide (p.n < sg) = false := decide_eq_false y1
          have z2 : decide (p.n ≤ sg - 3) = false := decide_eq_false (by omega)
          have hfp : f p = false := by rw [HFP.out]; rw [z1, z2]; rfl
          obtain ⟨s1, s2⟩ := HNE.out hfp
          have HS1 : Hid (Y (i + 1) = Y i) := s1
          have HS2 : Hid (X (i + 1) = X i ++ [p]) := s2
          clear HYE HNE HFP s1 s2 hfp
          go_upto_region 8 with fail
          try rw [← hW5]
          try rw [← ehq]
          clear hW5 ehq
          go_wp2_with (at_builtin; rw [← hW6]; refine wpList_append_pkx rfl _ _ rfl W2.heap.size (.slice xa zx xc) (X i) rfl HX6.out W5.heap.size p rfl HP6.out (by rw [HZX.out]; omega) HS6.out (Hid.out ?_))
          unfold Hid
          intro v7 w7 r7 g7 o7
          try rw [← HW6.out] at g7
          have hz6 : W5.heap.size + 1 = W6.heap.size := by rw [HW6.out]; simp
          try rw [hz6] at o7
          clear HW6 hz6 hW6
          have HBW7 : Hid (Below W2.heap.size W2 w7) := grown_below (HB.out.trans (HB6.out.mono HB.out.size)) HS6.out g7 (fun q hq => HX6.out.base hq)
          have HAP7 : Hid (Ap v7 (.slice ya zy yc)) := (HAP.out.symm.grown HY6.out o7).symm
          have HY7 : Hid (RP 29 w7 W2.heap.size (.slice ya zy yc) (Y i)) := HY6.out.grownX g7 (fun q hq => HAP.out.symm q hq)
          have R7 : Hid (RP 29 w7 W2.heap.size v7 (X i ++ [p])) := r7
          obtain ⟨va7, vc7, rfl, -⟩ := id r7.is.shape
          clear r7 g7 o7
          generalize (X i ++ [p]).length = z7 at *
          go_wp2
          go_roundw
          case rel => exact ⟨i + 1, by omega, by go_num, HBW7.out, by rw [HS2.out]; exact R7.out, by rw [HS1.out]; exact HY7.out, HAP7.out⟩
          case measure => simp [intOf]; omega
      · obtain rfl : i = n9 := by omega
        have lt2 : ¬ (i : Int) < (i : Int) := by omega
        obtain ⟨q1, q2⟩ := HEQ.out
        have HGR : Hid (RP 29 wr W2.heap.size (.slice ya (Y i).length yc) G) := by unfold Hid; rw [← q1]; exact HRY.out
        have HGX : Hid (RP 29 wr W2.heap.size (.slice xa (X i).length xc) S3.o) := by unfold Hid; rw [q2]; exact HRX.out
        generalize hzx : (X i).length = zx at *
        generalize hzy : (Y i).length = zy at *
        have gA := HG.out.1.kept bel
        have gR := HG.out.2.kept bel
        obtain ⟨W4, hW4⟩ : ∃ W4, W4 = wr.setCell ⟨hA, 0, none⟩ (.slice xa zx xc) := ⟨_, rfl⟩
        have HW4 : Hid (W4 = wr.setCell ⟨hA, 0, none⟩ (.slice xa zx xc)) := hW4
        have hAl : hA < W2.heap.size := blk_lt HG.out.1
        have hRl : hR < W2.heap.size := blk_lt HG.out.2
        have hRA : hR ≠ hA := by have := HLT.out; omega
        have H4A : Hid (DB W4 hA (.slice xa zx xc) k q sg) := by rw [hW4]; exact gA.set0 _
        have H4R : Hid (DB W4 hR (.slice none 0 0) 0 pk0 0) := by rw [hW4]; exact (Below.heap_setCell _ _ _ _ hRA).trans gR
        have rx4 : RP 29 W4 W2.heap.size (.slice xa zx xc) S3.o := by rw [hW4]; exact HGX.out.set (fun e => by have := HGX.out.base e; omega)
        have ry4 : RP 29 W4 W2.heap.size (.slice ya zy yc) G := by rw [hW4]; exact HGR.out.set (fun e => by have := HGR.out.base e; omega)
        have b4 : Below w.heap.size w W4 := by rw [hW4]; exact HBW.out.setCell (p := ⟨hA, 0, none⟩) (by have := HLT.out; show w.heap.size ≤ hA; omega) _
        obtain ⟨W7, hW7⟩ : ∃ W7, W7 = W4.setRow hR (dc (.slice xa zx xc) k q sg) := ⟨_, rfl⟩
        have HW7 : Hid (W7 = W4.setRow hR (dc (.slice xa zx xc) k q sg)) := hW7
        have HP7 : Hid (W7.heap[hR]? = some (.cells (dc (.slice xa zx xc) k q sg) 31 (0, 0))) := by rw [hW7]; exact H4R.out.row _ _ _ _
        have kx : RP 29 W7 W2.heap.size (.slice xa zx xc) S3.o := by rw [hW7]; exact rx4.keep fun i cs hi hh => (setRow_other _ _ _ _ (fun e => by have := rx4.base hi; omega)).trans hh
        have ky : RP 29 W7 W2.heap.size (.slice ya zy yc) G := by rw [hW7]; exact ry4.keep fun i cs hi hh => (setRow_other _ _ _ _ (fun e => by have := ry4.base hi; omega)).trans hh
        have b7 : Below w.heap.size w W7 := by rw [hW7]; exact below_setRow b4 (by have := HLT.out; omega) _
        have HEND : Hid (DS W7 (min B w.heap.size) (.slice xa zx xc) k q S3 ∧ RP 29 W7 w.heap.size (.slice ya zy yc) G ∧ Below w.heap.size w W7) := ⟨⟨kx.mono (Nat.le_trans (Nat.min_le_right _ _) HB2.out.size), HDK2.out⟩, ky.mono HB2.out.size, b7⟩
        clear q1 q2 hzx hzy gA gR hW4 hAl hRl hRA rx4 ry4 b4 hW7 kx ky b7 bel
        go_upto_region 12 with fail
        rw [← HW4.out]
        clear HW4
        go_wp2_with (first | refine wpList_load_row rfl 31 _ rfl hA rfl 31 (dc (.slice xa zx xc) k q sg) (0, 0) _ H4A.out Try.underlying31 rfl sizeD ?_ | refine wpList_store_row rfl 31 _ _ rfl hR (dc (.slice xa zx xc) k q sg) rfl rfl 31 _ H4R.out sizeD rfl (dc_one _ _ _ _ _ _) (Hid.out ?_))
        unfold Hid
        rw [← HW7.out]
        clear HW7
        go_wp2
        refine bodyPost_ret (retLo rfl HP7.out rfl) rfl ?_
        exact ⟨_, _, rfl, HEND.out⟩
end Go.Proofs.Ytamjbmbflllbfaa
