/-
  What the document's Ack answers.
-/
import Derived.Test.YtamjbmbflllbfaaRl
import Derived.Test.YtamjbmbflllbfaaRc
import Derived.Test.YtamjbmbflllbfaaRx
import Derived.Test.YtamjbmbflllbfaaLb
namespace Go.Proofs.Ytamjbmbflllbfaa
open Go.RowKit Go.Shelf
set_option maxRecDepth 100000

theorem retAk {tmps : Array Value} {w : World} {g : Nat} {cs : Array Value} (hp : tmps.getD 6 undef = .pointer (some ⟨g, 0, none⟩)) (hg : w.heap[g]? = some (.cells cs 31 (0, 0))) (hl : cs.size = 7) : (results Try.f23 tmps).run Try.prog w = .ok (.tuple #[.agg cs, tmps.getD 7 undef, tmps.getD 8 undef, tmps.getD 9 undef, tmps.getD 10 undef]) w := by
  have hld := ldD hg hl
  have hr : Try.f23.results = #[.cell 6 31, .tmp 7, .tmp 8, .tmp 9, .tmp 10] := rfl
  have hp' : tmps[6]?.getD undef = .pointer (some ⟨g, 0, none⟩) := by simpa using hp
  simp [results, hp', asAddr, hld]
set_option maxHeartbeats 4000000 in
theorem rack_any (w : World) (B : Nat) (v u : Value) (k : Int) (q : Pk) (s : Lg) (l : List Sp) (now : Int) (h : DS w B v k q s) (hok : s.ok) (hu : SSp w u l) (hll : l.length ≤ 1000) :
    Calls Try.prog 23 #[.agg (dc v k q s.g), u, .int .i64 now] w fun e w' => ∃ v' vt, e = .returned (.tuple #[.agg (dc v' k q (ackN s l now).g), vt, .int .i64 (ackR s l now).1, .bool (ackR s l now).2, .int .i64 (comE s l now)]) ∧ DS w' (min B w.heap.size) v' k q (ackN s l now) ∧ RP 29 w' w.heap.size vt (ackG s l now) ∧ Below w.heap.size w w' := by
  obtain ⟨W1, hW1⟩ : ∃ W1, W1 = w.alloc (.cells (dc v k q s.g) 31) := ⟨_, rfl⟩
  obtain ⟨W2, hW2⟩ : ∃ W2, W2 = W1.alloc (.cells (dc (.slice none 0 0) 0 pk0 0) 31) := ⟨_, rfl⟩
  have b1 : Below w.heap.size w W1 := by rw [hW1]; exact al_b _ _
  have b2 : Below W1.heap.size W1 W2 := by rw [hW2]; exact al_b _ _
  have z1 : W1.heap.size = w.heap.size + 1 := by rw [hW1]; simp
  have z2 : W2.heap.size = w.heap.size + 1 + 1 := by rw [hW2]; simp [z1]
  obtain ⟨hA, eA⟩ : ∃ x, x = w.heap.size := ⟨_, rfl⟩
  obtain ⟨hR, eR⟩ : ∃ x, x = w.heap.size + 1 := ⟨_, rfl⟩
  have g1 : DB W2 hA v k q s.g := by rw [eA]; exact DB.kept (by rw [hW1]; exact DB.new _ _ _ _ _) b2
  have r1 : DB W2 hR (.slice none 0 0) 0 pk0 0 := by rw [eR, ← z1, hW2]; exact DB.new _ _ _ _ _
  have HB2 : Hid (Below w.heap.size w W2) := b1.trans (b2.mono b1.size)
  have HLT : Hid (hA = w.heap.size ∧ hR = w.heap.size + 1 ∧ W2.heap.size = w.heap.size + 1 + 1) := ⟨eA, eR, z2⟩
  have HG : Hid (DB W2 hA v k q s.g ∧ DB W2 hR (.slice none 0 0) 0 pk0 0) := ⟨g1, r1⟩
  have h2 := h.below HB2.out
  have HDS : Hid (DS W2 B v k q s) := h2
  have hln := hok.ln
  have HU2 : Hid (SSp W2 u l) := hu.kept HB2.out
  have ck := rcheck_any W2 u l HU2.out hll
  obtain ⟨a, c, rfl, -⟩ := id h.rs.is.shape
  obtain ⟨ua, uc, rfl, -⟩ := id hu.shape
  have HAT : Hid (∀ j, j < s.o.length → ∀ W, Below W2.heap.size W2 W → ∃ b off, a = some ⟨b, off, none⟩ ∧ PC W b (off + j * 4) (atP s.o j)) := fun j hj W hb => (h2.rs.is.kept hb).at j hj
  have HCC : Hid (∀ W, Below W2.heap.size W2 W → DC W hA (.slice a s.o.length c) k q s.g) := fun W hb => (g1.kept hb).dc
  have HOK : Hid s.ok := hok
  have HDK : Hid (DK k q s) := h.dk
  obtain ⟨dk0, dk1, dkn, dky⟩ := h.dk
  have HREF : Hid (comE s l now ≠ 0 → ackG s l now = [] ∧ ackR s l now = (0, false) ∧ ackN s l now = s) := fun e => by unfold ackG ackR ackN; rw [if_neg e, if_neg e, if_neg e]; exact ⟨rfl, rfl, rfl⟩
  have HACC : Hid (comE s l now = 0 → ackG s l now = gotP s l ∧ ackR s l now = ackS s l now ∧ ackN s l now = ackL s l) := fun e => by unfold ackG ackR ackN; rw [if_pos e, if_pos e, if_pos e]; exact ⟨rfl, rfl, rfl⟩
  have HRF : Hid (∀ w3, Below W2.heap.size W2 w3 → ∀ er : Int, comE s l now = er → er ≠ 0 → (w3.setRow hR (dc (.slice a s.o.length c) k q s.g)).heap[hR]? = some (.cells (dc (.slice a s.o.length c) k q s.g) 31 (0, 0)) ∧ DB w3 hA (.slice a s.o.length c) k q s.g ∧ DB w3 hR (.slice none 0 0) 0 pk0 0 ∧ DS (w3.setRow hR (dc (.slice a s.o.length c) k q s.g)) (min B w.heap.size) (.slice a s.o.length c) k q (ackN s l now) ∧ RP 29 (w3.setRow hR (dc (.slice a s.o.length c) k q s.g)) w.heap.size (.slice none 0 0) (ackG s l now) ∧ Below w.heap.size w (w3.setRow hR (dc (.slice a s.o.length c) k q s.g)) ∧ ackR s l now = (0, false) ∧ (ackN s l now).g = s.g) := fun w3 b3 er e1 e2 => by
    obtain ⟨y1, y2, y3⟩ := HREF.out (by rw [e1]; exact e2)
    have gR := HG.out.2.kept b3
    have nR : Value.ownBlock (.slice a s.o.length c) ≠ some hR := fun e => by
      obtain ⟨cs, hh⟩ := HDS.out.rs.ty e
      have := HG.out.2
      unfold DB at this
      rw [this] at hh
      simp at hh
    rw [y1, y2, y3]
    have bw := HB2.out.trans (b3.mono HB2.out.size)
    refine ⟨gR.row _ _ _ _, HG.out.1.kept b3, gR, ⟨((HDS.out.rs.below b3).mono (Nat.min_le_left _ _)).keep fun i cs hi hh => (setRow_other _ _ _ _ (fun e => nR (by rw [hi, e]))).trans hh, HDK.out⟩, RP.nil _ _ _, below_setRow bw (by have := HLT.out; omega) _, rfl, rfl⟩
  have c66 := g1.dc.c6
  clear b1 b2 z1 z2 g1 r1 h h2 hok hu
  obtain ⟨n9, hn9⟩ : ∃ n9, n9 = s.o.length := ⟨_, rfl⟩
  have HN9 : Hid (n9 = s.o.length) := hn9
  rw [← hn9] at hW1 HG HDS HAT HCC HRF hln ⊢
  clear hn9 c66
  obtain ⟨ul, hul⟩ : ∃ ul, ul = l.length := ⟨_, rfl⟩
  have HUL : Hid (ul = l.length) := hul
  rw [← hul] at HU2 ck hll ⊢
  clear hul
  by_cases hz : chkL l = 0
  · obtain ⟨hcn, hne, hlen⟩ := chkL_zero hz
    have hp := List.length_pos_iff.2 hne
    rw [hz] at ck
    have HTO : Hid (∀ W, SSp W (.slice ua ul uc) l → ∃ b off, ua = some ⟨b, off, none⟩ ∧ W.cell? ⟨b, off + (ul - 1) * 2 + 1, none⟩ = some (.int .i64 (lstT l))) := fun W hw => by
      obtain ⟨b, off, e, q⟩ := hw.at (l.length - 1) (by omega)
      exact ⟨b, off, e, by have := (spC q).2; rw [HUL.out]; exact this⟩
    have x2 : IntKind.i64.wrap ((ul : Int) - 1) = ((ul - 1 : Nat) : Int) := by have := HUL.out; rw [IntKind.wrap_i64]; omega
    have x3 : (ul : Int) - 1 = ((ul - 1 : Nat) : Int) := by have := HUL.out; omega
    have x4 : ((ul - 1 : Nat) : Int) < (ul : Int) := by have := HUL.out; omega
    have x5 : (0 : Int) ≤ ((ul - 1 : Nat) : Int) := by omega
    have HCE : Hid (comE s l now = if s.n < lstT l then 16 else if now < s.t ∨ 1099511627776 < now then 21 else 0) := by unfold Hid comE; rw [if_neg (fun e => e hz)]
    have hto0 : 0 ≤ lstT l := by have := hcn.1 _ (atS_mem l (l.length - 1) (by omega)); unfold lstT; unfold Okk at this; omega
    have HCN : Hid (Canon l ∧ l.length ≤ 64) := ⟨hcn, hlen⟩
    clear hcn hne hlen hp hz
    by_cases hk : 0 < k
    · obtain ⟨q1, q2⟩ := dky hk
      have zk : (k == 0) = false := by simp; omega
      have zk2 : ¬ k = 0 := by omega
      by_cases h1 : s.n < lstT l
      · have e1 : comE s l now = 16 := by rw [HCE.out, if_pos h1]
        have z2 : decide (q.n < lstT l) = true := decide_eq_true (by omega)
        have z3 : q.n < lstT l := by omega
        obtain ⟨-, y2, y3⟩ := HREF.out (by rw [e1]; omega)
        rw [e1, y2, show (ackN s l now).g = s.g by rw [y3]]
        clear y2 y3
        go_enter Try.func23, Try.ntmps23
        go_upto_region 1 with fail
        try rw [← hW1]
        try rw [← hW2]
        try rw [← eR]
        try rw [← eA]
        clear hW1 hW2 eA eR
        go_wp2_with fail
        refine ck.mono ?_
        rintro e w3 ⟨rfl, b3⟩
        have HB3 : Hid (Below W2.heap.size W2 w3) := b3
        have u3 := HU2.out.kept b3
        obtain ⟨b, off, rfl, kt⟩ := HTO.out w3 u3
        obtain ⟨c0, c1, c2, c3, c4, c5, c6, -, -, -, -, -, -, -⟩ := HCC.out w3 b3
        obtain ⟨p1, p2, p3, p4, p5, p6, p7, p8⟩ := HRF.out w3 b3 16 e1 (by omega)
        obtain ⟨W4, hW4⟩ : ∃ W4, W4 = w3.setRow hR (dc (.slice a n9 c) k q s.g) := ⟨_, rfl⟩
        rw [← hW4] at p1 p4 p5 p6
        have HW4 : Hid (W4 = w3.setRow hR (dc (.slice a n9 c) k q s.g)) := hW4
        have HP4 : Hid (W4.heap[hR]? = some (.cells (dc (.slice a n9 c) k q s.g) 31 (0, 0))) := p1
        have HGA : Hid (DB w3 hA (.slice a n9 c) k q s.g ∧ DB w3 hR (.slice none 0 0) 0 pk0 0) := ⟨p2, p3⟩
        have HEND : Hid (DS W4 (min B w.heap.size) (.slice a n9 c) k q (ackN s l now) ∧ RP 29 W4 w.heap.size (.slice none 0 0) (ackG s l now) ∧ Below w.heap.size w W4) := ⟨p4, p5, p6⟩
        clear hW4 p1 p2 p3 p4 p5 p6 p7 p8
        go_upto_region 6 with fail
        go_wp2_with (first | refine wpList_load_row rfl 31 _ rfl hA rfl 31 (dc (.slice a n9 c) k q s.g) (0, 0) _ HGA.out.1 Try.underlying31 rfl sizeD ?_ | refine wpList_store_row rfl 31 _ _ rfl hR (dc (.slice a n9 c) k q s.g) rfl rfl 31 _ HGA.out.2 sizeD rfl (dc_one _ _ _ _ _ _) (Hid.out ?_))
        unfold Hid
        rw [← HW4.out]
        clear HW4
        go_wp2
        refine bodyPost_ret (retAk rfl HP4.out rfl) rfl ?_
        exact ⟨_, _, rfl, HEND.out⟩
      · have z2 : decide (q.n < lstT l) = false := decide_eq_false (by omega)
        have z3 : ¬ q.n < lstT l := by omega
        by_cases h2 : now < s.t
        · have e1 : comE s l now = 21 := by rw [HCE.out, if_neg h1, if_pos (.inl h2)]
          have z4 : decide (now < q.t) = true := decide_eq_true (by omega)
          obtain ⟨-, y2, y3⟩ := HREF.out (by rw [e1]; omega)
          rw [e1, y2, show (ackN s l now).g = s.g by rw [y3]]
          clear y2 y3
          go_enter Try.func23, Try.ntmps23
          go_upto_region 1 with fail
          try rw [← hW1]
          try rw [← hW2]
          try rw [← eR]
          try rw [← eA]
          clear hW1 hW2 eA eR
          go_wp2_with fail
          refine ck.mono ?_
          rintro e w3 ⟨rfl, b3⟩
          have HB3 : Hid (Below W2.heap.size W2 w3) := b3
          have u3 := HU2.out.kept b3
          obtain ⟨b, off, rfl, kt⟩ := HTO.out w3 u3
          obtain ⟨c0, c1, c2, c3, c4, c5, c6, -, -, -, -, -, -, -⟩ := HCC.out w3 b3
          obtain ⟨p1, p2, p3, p4, p5, p6, p7, p8⟩ := HRF.out w3 b3 21 e1 (by omega)
          obtain ⟨W4, hW4⟩ : ∃ W4, W4 = w3.setRow hR (dc (.slice a n9 c) k q s.g) := ⟨_, rfl⟩
          rw [← hW4] at p1 p4 p5 p6
          have HW4 : Hid (W4 = w3.setRow hR (dc (.slice a n9 c) k q s.g)) := hW4
          have HP4 : Hid (W4.heap[hR]? = some (.cells (dc (.slice a n9 c) k q s.g) 31 (0, 0))) := p1
          have HGA : Hid (DB w3 hA (.slice a n9 c) k q s.g ∧ DB w3 hR (.slice none 0 0) 0 pk0 0) := ⟨p2, p3⟩
          have HEND : Hid (DS W4 (min B w.heap.size) (.slice a n9 c) k q (ackN s l now) ∧ RP 29 W4 w.heap.size (.slice none 0 0) (ackG s l now) ∧ Below w.heap.size w W4) := ⟨p4, p5, p6⟩
          clear hW4 p1 p2 p3 p4 p5 p6 p7 p8
          go_upto_region 8 with fail
          go_wp2_with (first | refine wpList_load_row rfl 31 _ rfl hA rfl 31 (dc (.slice a n9 c) k q s.g) (0, 0) _ HGA.out.1 Try.underlying31 rfl sizeD ?_ | refine wpList_store_row rfl 31 _ _ rfl hR (dc (.slice a n9 c) k q s.g) rfl rfl 31 _ HGA.out.2 sizeD rfl (dc_one _ _ _ _ _ _) (Hid.out ?_))
          unfold Hid
          rw [← HW4.out]
          clear HW4
          go_wp2
          refine bodyPost_ret (retAk rfl HP4.out rfl) rfl ?_
          exact ⟨_, _, rfl, HEND.out⟩
        · have z4 : decide (now < q.t) = false := decide_eq_false (by omega)
          by_cases h3 : 1099511627776 < now
          · have e1 : comE s l now = 21 := by rw [HCE.out, if_neg h1, if_pos (.inr h3)]
            have z5 : decide (1099511627776 < now) = true := decide_eq_true h3
            obtain ⟨-, y2, y3⟩ := HREF.out (by rw [e1]; omega)
            rw [e1, y2, show (ackN s l now).g = s.g by rw [y3]]
            clear y2 y3
            go_enter Try.func23, Try.ntmps23
            go_upto_region 1 with fail
            try rw [← hW1]
            try rw [← hW2]
            try rw [← eR]
            try rw [← eA]
            clear hW1 hW2 eA eR
            go_wp2_with fail
            refine ck.mono ?_
            rintro e w3 ⟨rfl, b3⟩
            have HB3 : Hid (Below W2.heap.size W2 w3) := b3
            have u3 := HU2.out.kept b3
            obtain ⟨b, off, rfl, kt⟩ := HTO.out w3 u3
            obtain ⟨c0, c1, c2, c3, c4, c5, c6, -, -, -, -, -, -, -⟩ := HCC.out w3 b3
            obtain ⟨p1, p2, p3, p4, p5, p6, p7, p8⟩ := HRF.out w3 b3 21 e1 (by omega)
            obtain ⟨W4, hW4⟩ : ∃ W4, W4 = w3.setRow hR (dc (.slice a n9 c) k q s.g) := ⟨_, rfl⟩
            rw [← hW4] at p1 p4 p5 p6
            have HW4 : Hid (W4 = w3.setRow hR (dc (.slice a n9 c) k q s.g)) := hW4
            have HP4 : Hid (W4.heap[hR]? = some (.cells (dc (.slice a n9 c) k q s.g) 31 (0, 0))) := p1
            have HGA : Hid (DB w3 hA (.slice a n9 c) k q s.g ∧ DB w3 hR (.slice none 0 0) 0 pk0 0) := ⟨p2, p3⟩
            have HEND : Hid (DS W4 (min B w.heap.size) (.slice a n9 c) k q (ackN s l now) ∧ RP 29 W4 w.heap.size (.slice none 0 0) (ackG s l now) ∧ Below w.heap.size w W4) := ⟨p4, p5, p6⟩
            clear hW4 p1 p2 p3 p4 p5 p6 p7 p8
            go_upto_region 8 with fail
            go_wp2_with (first | refine wpList_load_row rfl 31 _ rfl hA rfl 31 (dc (.slice a n9 c) k q s.g) (0, 0) _ HGA.out.1 Try.underlying31 rfl sizeD ?_ | refine wpList_store_row rfl 31 _ _ rfl hR (dc (.slice a n9 c) k q s.g) rfl rfl 31 _ HGA.out.2 sizeD rfl (dc_one _ _ _ _ _ _) (Hid.out ?_))
            unfold Hid
            rw [← HW4.out]
            clear HW4
            go_wp2
            refine bodyPost_ret (retAk rfl HP4.out rfl) rfl ?_
            exact ⟨_, _, rfl, HEND.out⟩
          · have z5 : decide (1099511627776 < now) = false := decide_eq_false h3
            have e1 : comE s l now = 0 := by rw [HCE.out, if_neg h1, if_neg (fun e => e.elim h2 h3)]
            obtain ⟨y1, y2, y3⟩ := HACC.out e1
            rw [e1, y1, y2, y3]
            obtain ⟨w1, w2, w3', w4⟩ := comE_zero e1
            have HFY : Hid (∀ i, i < n9 → inS l (atP s.o i).n = true → (s.o.take (i + 1)).filter (fun p => inS l p.n) = (s.o.take i).filter (fun p => inS l p.n) ++ [atP s.o i] ∧ (s.o.take (i + 1)).filter (fun p => !inS l p.n) = (s.o.take i).filter (fun p => !inS l p.n)) := fun i hi hp => ⟨filt_yes (f := fun p => inS l p.n) (by have := HN9.out; omega) hp, filt_no (f := fun p => !inS l p.n) (by have := HN9.out; omega) (by simp only [hp, Bool.not_true])⟩
            have HFN : Hid (∀ i, i < n9 → inS l (atP s.o i).n = false → (s.o.take (i + 1)).filter (fun p => inS l p.n) = (s.o.take i).filter (fun p => inS l p.n) ∧ (s.o.take (i + 1)).filter (fun p => !inS l p.n) = (s.o.take i).filter (fun p => !inS l p.n) ++ [atP s.o i]) := fun i hi hp => ⟨filt_no (f := fun p => inS l p.n) (by have := HN9.out; omega) hp, filt_yes (f := fun p => !inS l p.n) (by have := HN9.out; omega) (by simp only [hp, Bool.not_false])⟩
            have HSM : Hid (∀ i, i < n9 → inS l (atP s.o i).n = true → smL ((s.o.take (i + 1)).filter (fun p => inS l p.n)) s.g (lstT l) now = if (atP s.o i).n = lstT l ∧ s.g < lstT l then (now - (atP s.o i).t, true) else smL ((s.o.take i).filter (fun p => inS l p.n)) s.g (lstT l) now) := fun i hi hp => smL_step HOK.out HCN.out.1 (by have := HN9.out; omega) now hp
            have HFL : Hid (∀ i, ((s.o.take i).filter (fun p => inS l p.n)).length ≤ i ∧ ((s.o.take i).filter (fun p => !inS l p.n)).length ≤ i) := fun i => ⟨filt_le _ s.o i, filt_le _ s.o i⟩
            have HEQ : Hid ((s.o.take n9).filter (fun p => inS l p.n) = gotP s l ∧ (ackL s l).o = (s.o.take n9).filter (fun p => !inS l p.n)) := by
              have e := HN9.out
              refine ⟨?_, ?_⟩
              · rw [e, List.take_length]; rfl
              · unfold ackL; rw [e, List.take_length]
            have HEND0 : Hid ((if (smL (gotP s l) s.g (lstT l) now).2 = true ∧ (gotP s l).any (·.a) = true then smL (gotP s l) s.g (lstT l) now else (0, false)) = ackS s l now) := smL_end s l now
            have HDK2 : Hid (DK k q (ackL s l)) := ⟨HDK.out.k0, HDK.out.k1, HDK.out.no, HDK.out.ye⟩
            have HGM : Hid ((ackL s l).g = max s.g (lstT l)) := rfl
            rw [HGM.out]
            have HTB : Hid (∀ i, i < n9 → 0 ≤ (atP s.o i).t ∧ (atP s.o i).t ≤ 1099511627776) := fun i hi => by
              have hq := HOK.out.ea _ (atP_mem s.o i (by have := HN9.out; omega))
              have := hq.t0
              have := hq.t1
              have := HOK.out.t1
              omega
            have hnow0 : 0 ≤ now := by have := HOK.out.t0; omega
            have hnow1 : now ≤ 1099511627776 := by omega
            have HCH : Hid (∀ W n, SSp W (.slice ua ul uc) l → Calls Try.prog 43 #[.agg #[.slice ua ul uc], .int .i64 n] W fun e w' => e = .returned (.bool (inS l n)) ∧ Below W.heap.size W w') := fun W n hw => rhas_any W _ l n hw (by have := HCN.out.2; omega)
            clear y1 y2 y3 w1 w2 w3' w4 e1 h1 h2 h3 q1 q2 hto0 HREF HACC HRF HCE dkn dky
            generalize hf : inS l = f at *
            clear hf
            generalize hS : ackL s l = S3 at *
            clear hS
            generalize hY : (fun i => (s.o.take i).filter (fun p => f p.n)) = Y at *
            have HY : Hid (∀ i, (s.o.take i).filter (fun p => f p.n) = Y i) := fun i => by rw [← hY]
            have HY0 : Hid (Y 0 = []) := by rw [← hY]; rfl
            generalize hX : (fun i => (s.o.take i).filter (fun p => !f p.n)) = X at *
            have HX : Hid (∀ i, (s.o.take i).filter (fun p => !f p.n) = X i) := fun i => by rw [← hX]
            have HX0 : Hid (X 0 = []) := by rw [← hX]; rfl
            clear hY hX
            simp only [HY.out, HX.out] at HFY HFN HFL HEQ HSM
            clear HY HX
            generalize gotP s l = G at *
            generalize ackS s l now = RR at *
            generalize hAv : atP s.o = Av at *
            clear hAv
            obtain ⟨to_, hto⟩ : ∃ to_, to_ = lstT l := ⟨_, rfl⟩
            rw [← hto] at HTO z2 z3 HSM HEND0 HGM ⊢
            clear hto
            obtain ⟨sg, hsg⟩ : ∃ sg, sg = s.g := ⟨_, rfl⟩
            rw [← hsg] at HG HCC HSM HEND0 HGM hW1 ⊢
            clear hsg
            obtain ⟨M, hM⟩ : ∃ M, M = max sg to_ := ⟨_, rfl⟩
            have HM : Hid (M = max sg to_) := hM
            rw [← hM]
            clear hM
            have HSMY : Hid (∀ i, i < n9 → f (Av i).n = true → ((Av i).n = to_ ∧ sg < to_ → smL (Y (i + 1)) sg to_ now = (now - (Av i).t, true)) ∧ (¬ ((Av i).n = to_ ∧ sg < to_) → smL (Y (i + 1)) sg to_ now = smL (Y i) sg to_ now)) := fun i hi hp => ⟨fun e => by rw [HSM.out i hi hp, if_pos e], fun e => by rw [HSM.out i hi hp, if_neg e]⟩
            clear HSM
            have HS0 : Hid (smL [] sg to_ now = (0, false)) := by unfold Hid smL; rw [if_neg (fun e => e.2.1 rfl)]
            obtain ⟨SM, hSM⟩ : ∃ SM : List Pk → Int × Bool, SM = fun y => smL y sg to_ now := ⟨_, rfl⟩
            have hSM2 : ∀ y, smL y sg to_ now = SM y := fun y => by rw [hSM]
            simp only [hSM2] at HSMY HEND0 HS0
            clear hSM hSM2
            go_enter Try.func23, Try.ntmps23
            go_upto_region 1 with fail
            try rw [← hW1]
            try rw [← hW2]
            try rw [← eR]
            try rw [← eA]
            clear hW1 hW2 eA eR
            go_wp2_with fail
            refine ck.mono ?_
            rintro e w3 ⟨rfl, b3⟩
            have HB3 : Hid (Below W2.heap.size W2 w3) := b3
            have u3 := HU2.out.kept b3
            obtain ⟨b, off, rfl, kt⟩ := HTO.out w3 u3
            obtain ⟨c0, c1, c2, c3, c4, c5, c6, -, -, -, -, -, -, -⟩ := HCC.out w3 b3
            obtain ⟨W4, hW4⟩ : ∃ W4, W4 = w3.alloc (.cells #[.slice (some ⟨b, off, none⟩) ul uc] 82) := ⟨_, rfl⟩
            have b4 : Below w3.heap.size w3 W4 := by rw [hW4]; exact al_b _ _
            have g4 : W4.heap[w3.heap.size]? = some (.cells #[.slice (some ⟨b, off, none⟩) ul uc] 82 (0, 0)) := by rw [hW4]; exact heap_alloc_new _ _
            have HB4 : Hid (Below W2.heap.size W2 W4) := b3.trans (b4.mono b3.size)
            have HG4 : Hid (∀ W, Below W4.heap.size W4 W → W.cell? ⟨w3.heap.size, 0, none⟩ = some (.slice (some ⟨b, off, none⟩) ul uc)) := fun W hb => by have := blk_kept g4 hb (blk_lt g4); simp [World.cell?, this]
            have HU4 : Hid (∀ W, Below W4.heap.size W4 W → SSp W (.slice (some ⟨b, off, none⟩) ul uc) l) := fun W hb => (u3.kept b4).kept hb
            obtain ⟨hS, ehS⟩ : ∃ x, x = w3.heap.size := ⟨_, rfl⟩
            rw [← ehS] at HG4
            clear b3 u3 b4 g4 ck
            go_upto_region 11 with fail
            try rw [← hW4]
            try rw [← ehS]
            clear hW4 ehS
            go_wp2_with fail
            go_loopw [13, 14, 16, 17, 18, 19] (fun u13 u14 u16 u17 u18 u wr => ∃ i : Nat, i ≤ n9 ∧ u = .int .i64 i ∧ Below W4.heap.size W4 wr ∧ RP 29 wr W4.heap.size u13 (X i) ∧ RP 29 wr W4.heap.size u14 (Y i) ∧ Ap u13 u14 ∧ u16 = .bool ((Y i).any (·.a)) ∧ u17 = .int .i64 (SM (Y i)).1 ∧ u18 = .bool (SM (Y i)).2) (fun _ _ _ _ _ u _ => n9 - (intOf u).toNat)
            case atStart => exact ⟨0, by omega, rfl, Below.refl _ _, by rw [HX0.out]; exact RP.nil _ _ _, by rw [HY0.out]; exact RP.nil _ _ _, Ap.nil _, by rw [HY0.out]; rfl, by rw [HY0.out, HS0.out], by rw [HY0.out, HS0.out]⟩
            case round =>
              obtain ⟨i, hi, rfl, bel, rx, ry, ap, rfl, rfl, rfl⟩ := hrel
              have HB : Hid (Below W4.heap.size W4 wr) := bel
              have HB2W : Hid (Below W2.heap.size W2 wr) := HB4.out.trans (bel.mono HB4.out.size)
              have HBW : Hid (Below w.heap.size w wr) := HB2.out.trans (HB2W.out.mono HB2.out.size)
              obtain ⟨xa, xc, rfl, -⟩ := id rx.is.shape
              obtain ⟨ya, yc, rfl, -⟩ := id ry.is.shape
              have HRX : Hid (RP 29 wr W4.heap.size (.slice xa (X i).length xc) (X i)) := rx
              have HRY : Hid (RP 29 wr W4.heap.size (.slice ya (Y i).length yc) (Y i)) := ry
              have HAP : Hid (Ap (.slice xa (X i).length xc) (.slice ya (Y i).length yc)) := ap
              obtain ⟨l1, l2⟩ := HFL.out i
              obtain ⟨d0, d1, d2, d3, d4, d5, d6, -, -, -, -, -, -, -⟩ := HCC.out wr HB2W.out
              clear rx ry ap c0 c1 c2 c3 c4 c5 c6
              by_cases hin : i < n9
              · have lt2 : (i : Int) < (n9 : Int) := by omega
                have l0 : (0 : Int) ≤ (i : Int) := by omega
                obtain ⟨bb, of2, rfl, k0, k1, k2, k3⟩ := HAT.out i hin wr HB2W.out
                have HYE : Hid (f (Av i).n = true → Y (i + 1) = Y i ++ [Av i] ∧ X (i + 1) = X i) := fun hp => HFY.out i hin hp
                have HNE : Hid (f (Av i).n = false → Y (i + 1) = Y i ∧ X (i + 1) = X i ++ [Av i]) := fun hp => HFN.out i hin hp
                have HSY : Hid (f (Av i).n = true → ((Av i).n = to_ ∧ sg < to_ → SM (Y (i + 1)) = (now - (Av i).t, true)) ∧ (¬ ((Av i).n = to_ ∧ sg < to_) → SM (Y (i + 1)) = SM (Y i))) := fun hp => HSMY.out i hin hp
                obtain ⟨tb0, tb1⟩ := HTB.out i hin
                generalize hx : Av i = p at *
                clear hx bel d1 d2 d3 d4 d5
                obtain ⟨W5, hW5⟩ : ∃ W5, W5 = wr.alloc (.cells #[.int .i64 p.n, .int .i64 p.t, .int .i64 p.z, .bool p.a] 29) := ⟨_, rfl⟩
                have b5 : Below wr.heap.size wr W5 := by rw [hW5]; exact al_b _ _
                have p5 : PB W5 wr.heap.size 29 p := by rw [hW5]; exact PB.new _ _ p
                have HP5 : Hid (PB W5 wr.heap.size 29 p) := p5
                have HB5 : Hid (Below wr.heap.size wr W5) := b5
                obtain ⟨e0, e1, e2, e3⟩ := p5.pc
                simp only [Nat.zero_add] at e0 e1 e2 e3
                have s5 := HG4.out W5 (HB.out.trans (b5.mono HB.out.size))
                have ch := HCH.out W5 p.n (HU4.out W5 (HB.out.trans (b5.mono HB.out.size)))
                obtain ⟨hq, ehq⟩ : ∃ x, x = wr.heap.size := ⟨_, rfl⟩
                rw [← ehq] at e0 e1 e2 e3 HP5
                generalize hzx : (X i).length = zx at *
                have HZX : Hid ((X i).length = zx) := hzx
                generalize hzy : (Y i).length = zy at *
                have HZY : Hid ((Y i).length = zy) := hzy
                clear b5 p5 hzx hzy
                cases hfp : f p.n with
                | false =>
                  obtain ⟨s1, s2⟩ := HNE.out hfp
                  have HS1 : Hid (Y (i + 1) = Y i) := s1
                  have HS2 : Hid (X (i + 1) = X i ++ [p]) := s2
                  rw [hfp] at ch
                  clear HYE HNE HSY s1 s2 hfp
                  go_upto_region 16 with fail
                  try rw [← hW5]
                  try rw [← ehq]
                  clear hW5 ehq
                  go_wp2_with fail
                  refine ch.mono ?_
                  rintro e w6 ⟨rfl, b6⟩
                  have HB6 : Hid (Below wr.heap.size wr w6) := HB5.out.trans (b6.mono HB5.out.size)
                  have HP6 : Hid (PB w6 hq 29 p) := HP5.out.kept b6
                  obtain ⟨e0, e1, e2, e3⟩ := HP6.out.pc
                  simp only [Nat.zero_add] at e0 e1 e2 e3
                  obtain ⟨W7, hW7⟩ : ∃ W7, W7 = w6.alloc (.cells #[.int .i64 p.n, .int .i64 p.t, .int .i64 p.z, .bool p.a] 29) := ⟨_, rfl⟩
                  have b7 : Below wr.heap.size wr W7 := by rw [hW7]; exact HB6.out.trans ((al_b _ _).mono HB6.out.size)
                  have HW7 : Hid (W7 = w6.alloc (.cells #[.int .i64 p.n, .int .i64 p.t, .int .i64 p.z, .bool p.a] 29)) := hW7
                  have HP7 : Hid (PB W7 w6.heap.size 29 p) := by rw [hW7]; exact PB.new _ _ p
                  have HQ7 : Hid (PB W7 hq 29 p) := by rw [hW7]; exact HP6.out.kept (al_b _ _)
                  have HB7 : Hid (Below wr.heap.size wr W7) := b7
                  have HX6 : Hid (RP 29 W7 W4.heap.size (.slice xa zx xc) (X i)) := HRX.out.below b7
                  have HY6 : Hid (RP 29 W7 W4.heap.size (.slice ya zy yc) (Y i)) := HRY.out.below b7
                  have HS7 : Hid (W4.heap.size ≤ W7.heap.size) := Nat.le_trans HB.out.size b7.size
                  clear ch b6 b7
                  go_wp2_with (at_builtin; rw [← hW7]; refine wpList_append_pkx rfl _ _ rfl W4.heap.size (.slice xa zx xc) (X i) rfl HX6.out w6.heap.size p rfl HP7.out (by rw [HZX.out]; omega) HS7.out (Hid.out ?_))
                  unfold Hid
                  intro v8 w8 r8 g8 o8
                  try rw [← HW7.out] at g8
                  have hz7 : w6.heap.size + 1 = W7.heap.size := by rw [HW7.out]; simp
                  try rw [hz7] at o8
                  clear HW7 hz7 hW7
                  have HB8 : Hid (Below W4.heap.size W4 w8) := grown_below (HB.out.trans (HB7.out.mono HB.out.size)) HS7.out g8 (fun q hq => HX6.out.base hq)
                  have HAP8 : Hid (Ap v8 (.slice ya zy yc)) := (HAP.out.symm.grown HY6.out o8).symm
                  have HY8 : Hid (RP 29 w8 W4.heap.size (.slice ya zy yc) (Y i)) := HY6.out.grownX g8 (fun q hq => HAP.out.symm q hq)
                  have R8 : Hid (RP 29 w8 W4.heap.size v8 (X i ++ [p])) := r8
                  obtain ⟨va8, vc8, rfl, -⟩ := id r8.is.shape
                  clear r8 g8 o8
                  generalize (X i ++ [p]).length = z8 at *
                  go_wp2
                  go_roundw
                  case rel => exact ⟨i + 1, by omega, by go_num, HB8.out, by rw [HS2.out]; exact R8.out, by rw [HS1.out]; exact HY8.out, HAP8.out, by rw [HS1.out], by rw [HS1.out], by rw [HS1.out]⟩
                  case measure => simp [intOf]; omega
                | true =>
                  obtain ⟨s1, s2⟩ := HYE.out hfp
                  obtain ⟨v1, v2⟩ := HSY.out hfp
                  have HS1 : Hid (Y (i + 1) = Y i ++ [p]) := s1
                  have HS2 : Hid (X (i + 1) = X i) := s2
                  have HV1 : Hid (p.n = to_ ∧ sg < to_ → SM (Y i ++ [p]) = (now - p.t, true)) := fun e => by rw [← s1]; exact v1 e
                  have HV2 : Hid (¬ (p.n = to_ ∧ sg < to_) → SM (Y i ++ [p]) = SM (Y i)) := fun e => by rw [← s1]; exact v2 e
                  have HAN : Hid ((Y i ++ [p]).any (·.a) = ((Y i).any (·.a) || p.a)) := by unfold Hid; rw [List.any_append]; simp
                  rw [hfp] at ch
                  have HNB : Hid (Value.ownBlock (.slice ya zy yc) ≠ some hq) := fun e => by have h1 := HRY.out.lt e; omega
                  clear HYE HNE HSY s1 s2 hfp v1 v2
                  go_upto_region 16 with fail
                  try rw [← hW5]
                  try rw [← ehq]
                  clear hW5 ehq
                  go_wp2_with fail
                  refine ch.mono ?_
                  rintro e w6 ⟨rfl, b6⟩
                  have HB6 : Hid (Below wr.heap.size wr w6) := HB5.out.trans (b6.mono HB5.out.size)
                  have HP6 : Hid (PB w6 hq 29 p) := HP5.out.kept b6
                  obtain ⟨e0, e1, e2, e3⟩ := HP6.out.pc
                  simp only [Nat.zero_add] at e0 e1 e2 e3
                  obtain ⟨W7, hW7⟩ : ∃ W7, W7 = w6.alloc (.cells #[.int .i64 p.n, .int .i64 p.t, .int .i64 p.z, .bool p.a] 29) := ⟨_, rfl⟩
                  have b7 : Below wr.heap.size wr W7 := by rw [hW7]; exact HB6.out.trans ((al_b _ _).mono HB6.out.size)
                  have HW7 : Hid (W7 = w6.alloc (.cells #[.int .i64 p.n, .int .i64 p.t, .int .i64 p.z, .bool p.a] 29)) := hW7
                  have HP7 : Hid (PB W7 w6.heap.size 29 p) := by rw [hW7]; exact PB.new _ _ p
                  have HQ7 : Hid (PB W7 hq 29 p) := by rw [hW7]; exact HP6.out.kept (al_b _ _)
                  have HB7 : Hid (Below wr.heap.size wr W7) := b7
                  have HX6 : Hid (RP 29 W7 W4.heap.size (.slice xa zx xc) (X i)) := HRX.out.below b7
                  have HY6 : Hid (RP 29 W7 W4.heap.size (.slice ya zy yc) (Y i)) := HRY.out.below b7
                  have HS7 : Hid (W4.heap.size ≤ W7.heap.size) := Nat.le_trans HB.out.size b7.size
                  clear ch b6 b7
                  go_wp2_with (at_builtin; rw [← hW7]; refine wpList_append_pkx rfl _ _ rfl W4.heap.size (.slice ya zy yc) (Y i) rfl HY6.out w6.heap.size p rfl HP7.out (by rw [HZY.out]; omega) HS7.out (Hid.out ?_))
                  unfold Hid
                  intro v8 w8 r8 g8 o8
                  try rw [← HW7.out] at g8
                  have hz7 : w6.heap.size + 1 = W7.heap.size := by rw [HW7.out]; simp
                  try rw [hz7] at o8
                  clear HW7 hz7 hW7
                  have HB8 : Hid (Below W4.heap.size W4 w8) := grown_below (HB.out.trans (HB7.out.mono HB.out.size)) HS7.out g8 (fun q hq => HY6.out.base hq)
                  have HAP8 : Hid (Ap (.slice xa zx xc) v8) := HAP.out.grown HX6.out o8
                  have HX8 : Hid (RP 29 w8 W4.heap.size (.slice xa zx xc) (X i)) := HX6.out.grownX g8 (fun q hq => HAP.out q hq)
                  have hlq : hq < W7.heap.size := blk_lt HQ7.out
                  have q8 : PB w8 hq 29 p := (g8.block hq hlq (fun e => HNB.out e.symm)).trans HQ7.out
                  have c8 := HB4.out.trans (HB8.out.mono HB4.out.size)
                  have R8 : Hid (RP 29 w8 W4.heap.size v8 (Y i ++ [p])) := r8
                  obtain ⟨va8, vc8, rfl, -⟩ := id r8.is.shape
                  obtain ⟨e0, e1, e2, e3⟩ := q8.pc
                  simp only [Nat.zero_add] at e0 e1 e2 e3
                  obtain ⟨m0, m1, m2, m3, m4, m5, m6, -, -, -, -, -, -, -⟩ := HCC.out w8 c8
                  clear r8 g8 o8 q8 c8 hlq m0 m1 m2 m3 m4 m5
                  generalize (Y i ++ [p]).length = z8 at *
                  have HAN2 : Hid ((Y i ++ [p]).any (·.a) = ((Y i).any (·.a) || p.a)) := HAN.out
                  clear HAN
                  generalize hay : (Y i).any (·.a) = ay at *
                  generalize hsy : SM (Y i) = sy at *
                  clear hay hsy
                  obtain ⟨sa, sb⟩ := sy
                  obtain ⟨pn, pt, pz, pa⟩ := p
                  simp only at *
                  cases ay with
                  | false =>
                    by_cases hn : pn = to_
                    · have zn : (pn == to_) = true := by simp [hn]
                      by_cases hg : sg < to_
                      · have zg : decide (sg < to_) = true := decide_eq_true hg
                        have HSMV : Hid (SM (Y i ++ [⟨pn, pt, pz, pa⟩]) = (now - pt, true)) := HV1.out ⟨hn, hg⟩
                        have xw : wrap64 (now - pt) = now - pt := by unfold wrap64; omega
                        clear HV1 HV2 hn
                        go_wp2
                        go_roundw
                        case rel => exact ⟨i + 1, by omega, by go_num, HB8.out, by rw [HS2.out]; exact HX8.out, by rw [HS1.out]; exact R8.out, HAP8.out, by rw [HS1.out, HAN2.out]; rfl, by rw [HS1.out, HSMV.out], by rw [HS1.out, HSMV.out]⟩
                        case measure => simp [intOf]; omega
                      · have zg : decide (sg < to_) = false := decide_eq_false hg
                        have HSMV : Hid (SM (Y i ++ [⟨pn, pt, pz, pa⟩]) = (sa, sb)) := HV2.out (fun e => hg e.2)
                        clear HV1 HV2 hn
                        go_wp2
                        go_roundw
                        case rel => exact ⟨i + 1, by omega, by go_num, HB8.out, by rw [HS2.out]; exact HX8.out, by rw [HS1.out]; exact R8.out, HAP8.out, by rw [HS1.out, HAN2.out]; rfl, by rw [HS1.out, HSMV.out], by rw [HS1.out, HSMV.out]⟩
                        case measure => simp [intOf]; omega
                    · have zn : (pn == to_) = false := by simp [hn]
                      have HSMV : Hid (SM (Y i ++ [⟨pn, pt, pz, pa⟩]) = (sa, sb)) := HV2.out (fun e => hn e.1)
                      clear HV1 HV2
                      go_wp2
                      go_roundw
                      case rel => exact ⟨i + 1, by omega, by go_num, HB8.out, by rw [HS2.out]; exact HX8.out, by rw [HS1.out]; exact R8.out, HAP8.out, by rw [HS1.out, HAN2.out]; rfl, by rw [HS1.out, HSMV.out], by rw [HS1.out, HSMV.out]⟩
                      case measure => simp [intOf]; omega
                  | true =>
                    by_cases hn : pn = to_
                    · have zn : (pn == to_) = true := by simp [hn]
                      by_cases hg : sg < to_
                      · have zg : decide (sg < to_) = true := decide_eq_true hg
                        have HSMV : Hid (SM (Y i ++ [⟨pn, pt, pz, pa⟩]) = (now - pt, true)) := HV1.out ⟨hn, hg⟩
                        have xw : wrap64 (now - pt) = now - pt := by unfold wrap64; omega
                        clear HV1 HV2 hn
                        go_wp2
                        go_roundw
                        case rel => exact ⟨i + 1, by omega, by go_num, HB8.out, by rw [HS2.out]; exact HX8.out, by rw [HS1.out]; exact R8.out, HAP8.out, by rw [HS1.out, HAN2.out]; rfl, by rw [HS1.out, HSMV.out], by rw [HS1.out, HSMV.out]⟩
                        case measure => simp [intOf]; omega
                      · have zg : decide (sg < to_) = false := decide_eq_false hg
                        have HSMV : Hid (SM (Y i ++ [⟨pn, pt, pz, pa⟩]) = (sa, sb)) := HV2.out (fun e => hg e.2)
                        clear HV1 HV2 hn
                        go_wp2
                        go_roundw
                        case rel => exact ⟨i + 1, by omega, by go_num, HB8.out, by rw [HS2.out]; exact HX8.out, by rw [HS1.out]; exact R8.out, HAP8.out, by rw [HS1.out, HAN2.out]; rfl, by rw [HS1.out, HSMV.out], by rw [HS1.out, HSMV.out]⟩
                        case measure => simp [intOf]; omega
                    · have zn : (pn == to_) = false := by simp [hn]
                      have HSMV : Hid (SM (Y i ++ [⟨pn, pt, pz, pa⟩]) = (sa, sb)) := HV2.out (fun e => hn e.1)
                      clear HV1 HV2
                      go_wp2
                      go_roundw
                      case rel => exact ⟨i + 1, by omega, by go_num, HB8.out, by rw [HS2.out]; exact HX8.out, by rw [HS1.out]; exact R8.out, HAP8.out, by rw [HS1.out, HAN2.out]; rfl, by rw [HS1.out, HSMV.out], by rw [HS1.out, HSMV.out]⟩
                      case measure => simp [intOf]; omega
              · obtain rfl : i = n9 := by omega
                have lt2 : ¬ (i : Int) < (i : Int) := by omega
                obtain ⟨q1, q2⟩ := HEQ.out
                have HGR : Hid (RP 29 wr W4.heap.size (.slice ya (Y i).length yc) G) := by unfold Hid; rw [← q1]; exact HRY.out
                have HGX : Hid (RP 29 wr W4.heap.size (.slice xa (X i).length xc) S3.o) := by unfold Hid; rw [q2]; exact HRX.out
                generalize hzx : (X i).length = zx at *
                generalize hzy : (Y i).length = zy at *
                rw [q1]
                have gA := HG.out.1.kept HB2W.out
                have gR := HG.out.2.kept HB2W.out
                obtain ⟨W5, hW5⟩ : ∃ W5, W5 = (wr.setCell ⟨hA, 0, none⟩ (.slice xa zx xc)).setCell ⟨hA, 6, none⟩ (.int .i64 M) := ⟨_, rfl⟩
                have HW5 : Hid (W5 = (wr.setCell ⟨hA, 0, none⟩ (.slice xa zx xc)).setCell ⟨hA, 6, none⟩ (.int .i64 M)) := hW5
                have hAl : hA < W2.heap.size := blk_lt HG.out.1
                have hRl : hR < W2.heap.size := blk_lt HG.out.2
                have h24 := HB4.out.size
                have hRA : hR ≠ hA := by have := HLT.out; omega
                have H5A : Hid (DB W5 hA (.slice xa zx xc) k q M) := by rw [hW5]; exact (gA.set0 _).set6 _
                have H5R : Hid (DB W5 hR (.slice none 0 0) 0 pk0 0) := by rw [hW5]; exact (Below.heap_setCell _ _ _ _ hRA).trans ((Below.heap_setCell _ _ _ _ hRA).trans gR)
                have rx5 : RP 29 W5 W4.heap.size (.slice xa zx xc) S3.o := by rw [hW5]; exact (HGX.out.set (fun e => by have := HGX.out.base e; omega)).set (fun e => by have := HGX.out.base e; omega)
                have ry5 : RP 29 W5 W4.heap.size (.slice ya zy yc) G := by rw [hW5]; exact (HGR.out.set (fun e => by have := HGR.out.base e; omega)).set (fun e => by have := HGR.out.base e; omega)
                have hwA : w.heap.size ≤ hA := by have := HLT.out; omega
                have b5 : Below w.heap.size w W5 := by rw [hW5]; exact (HBW.out.setCell (p := ⟨hA, 0, none⟩) hwA _).setCell (p := ⟨hA, 6, none⟩) hwA _
                obtain ⟨W7, hW7⟩ : ∃ W7, W7 = W5.setRow hR (dc (.slice xa zx xc) k q M) := ⟨_, rfl⟩
                have HW7 : Hid (W7 = W5.setRow hR (dc (.slice xa zx xc) k q M)) := hW7
                have HP7 : Hid (W7.heap[hR]? = some (.cells (dc (.slice xa zx xc) k q M) 31 (0, 0))) := by rw [hW7]; exact H5R.out.row _ _ _ _
                have kx : RP 29 W7 W4.heap.size (.slice xa zx xc) S3.o := by rw [hW7]; exact rx5.keep fun i cs hi hh => (setRow_other _ _ _ _ (fun e => by have := rx5.base hi; omega)).trans hh
                have ky : RP 29 W7 W4.heap.size (.slice ya zy yc) G := by rw [hW7]; exact ry5.keep fun i cs hi hh => (setRow_other _ _ _ _ (fun e => by have := ry5.base hi; omega)).trans hh
                have b7 : Below w.heap.size w W7 := by rw [hW7]; exact below_setRow b5 (by have := HLT.out; omega) _
                have HEND : Hid (DS W7 (min B w.heap.size) (.slice xa zx xc) k q S3 ∧ RP 29 W7 w.heap.size (.slice ya zy yc) G ∧ Below w.heap.size w W7) := ⟨⟨kx.mono (Nat.le_trans (Nat.min_le_right _ _) (Nat.le_trans HB2.out.size h24)), HDK2.out⟩, ky.mono (Nat.le_trans HB2.out.size h24), b7⟩
                obtain ⟨d0, d1, d2, d3, d4, d5, d6, f0, f1, f2, f3, f4, f5, f6⟩ := gA.dc
                have HR1 : Hid ((if (SM G).2 = true ∧ G.any (·.a) = true then SM G else (0, false)) = RR) := HEND0.out
                clear q1 q2 hzx hzy gA gR hW5 hAl hRl hRA rx5 ry5 hwA b5 hW7 kx ky b7 bel h24 HEND0 d1 d2 d3 d4 d5
                generalize SM G = sg2 at *
                generalize G.any (·.a) = ga at *
                obtain ⟨sa, sb⟩ := sg2
                obtain ⟨ra, rb⟩ := RR
                cases sb with
                | false =>
                  have HR2 := HR1.out
                  simp at HR2
                  obtain ⟨rfl, rfl⟩ := HR2
                  clear HR1
                  go_upto_region 24 with fail
                  go_upto_region 25 with fail
                  try rw [← HM.out]
                  rw [← HW5.out]
                  clear HW5
                  go_wp2_with (first | refine wpList_load_row rfl 31 _ rfl hA rfl 31 (dc (.slice xa zx xc) k q M) (0, 0) _ H5A.out Try.underlying31 rfl sizeD ?_ | refine wpList_store_row rfl 31 _ _ rfl hR (dc (.slice xa zx xc) k q M) rfl rfl 31 _ H5R.out sizeD rfl (dc_one _ _ _ _ _ _) (Hid.out ?_))
                  unfold Hid
                  rw [← HW7.out]
                  clear HW7
                  repeat (first | go_skip | go_guarded | go_step)
                  refine bodyPost_ret (retAk rfl HP7.out rfl) rfl ?_
                  exact ⟨_, _, rfl, HEND.out⟩
                | true =>
                  cases ga with
                  | false =>
                    have HR2 := HR1.out
                    simp at HR2
                    obtain ⟨rfl, rfl⟩ := HR2
                    clear HR1
                    go_upto_region 24 with fail
                    go_upto_region 25 with fail
                    try rw [← HM.out]
                    rw [← HW5.out]
                    clear HW5
                    go_wp2_with (first | refine wpList_load_row rfl 31 _ rfl hA rfl 31 (dc (.slice xa zx xc) k q M) (0, 0) _ H5A.out Try.underlying31 rfl sizeD ?_ | refine wpList_store_row rfl 31 _ _ rfl hR (dc (.slice xa zx xc) k q M) rfl rfl 31 _ H5R.out sizeD rfl (dc_one _ _ _ _ _ _) (Hid.out ?_))
                    unfold Hid
                    rw [← HW7.out]
                    clear HW7
                    repeat (first | go_skip | go_guarded | go_step)
                    refine bodyPost_ret (retAk rfl HP7.out rfl) rfl ?_
                    exact ⟨_, _, rfl, HEND.out⟩
                  | true =>
                    have HR2 := HR1.out
                    simp at HR2
                    obtain ⟨rfl, rfl⟩ := HR2
                    clear HR1
                    go_upto_region 24 with fail
                    go_upto_region 25 with fail
                    try rw [← HM.out]
                    rw [← HW5.out]
                    clear HW5
                    go_wp2_with (first | refine wpList_load_row rfl 31 _ rfl hA rfl 31 (dc (.slice xa zx xc) k q M) (0, 0) _ H5A.out Try.underlying31 rfl sizeD ?_ | refine wpList_store_row rfl 31 _ _ rfl hR (dc (.slice xa zx xc) k q M) rfl rfl 31 _ H5R.out sizeD rfl (dc_one _ _ _ _ _ _) (Hid.out ?_))
                    unfold Hid
                    rw [← HW7.out]
                    clear HW7
                    repeat (first | go_skip | go_guarded | go_step)
                    refine bodyPost_ret (retAk rfl HP7.out rfl) rfl ?_
                    exact ⟨_, _, rfl, HEND.out⟩
    · obtain ⟨q1, q2⟩ := dkn (by omega)
      have e1 : comE s l now = 16 := by rw [HCE.out, if_pos (by omega)]
      have hk0 : k = 0 := by omega
      have zk : (k == 0) = true := by rw [hk0]; rfl
      obtain ⟨-, y2, y3⟩ := HREF.out (by rw [e1]; omega)
      rw [e1, y2, show (ackN s l now).g = s.g by rw [y3]]
      clear y2 y3 hk0
      go_enter Try.func23, Try.ntmps23
      go_upto_region 1 with fail
      try rw [← hW1]
      try rw [← hW2]
      try rw [← eR]
      try rw [← eA]
      clear hW1 hW2 eA eR
      go_wp2_with fail
      refine ck.mono ?_
      rintro e w3 ⟨rfl, b3⟩
      have HB3 : Hid (Below W2.heap.size W2 w3) := b3
      have u3 := HU2.out.kept b3
      obtain ⟨b, off, rfl, kt⟩ := HTO.out w3 u3
      obtain ⟨c0, c1, c2, c3, c4, c5, c6, -, -, -, -, -, -, -⟩ := HCC.out w3 b3
      obtain ⟨p1, p2, p3, p4, p5, p6, p7, p8⟩ := HRF.out w3 b3 16 e1 (by omega)
      obtain ⟨W4, hW4⟩ : ∃ W4, W4 = w3.setRow hR (dc (.slice a n9 c) k q s.g) := ⟨_, rfl⟩
      rw [← hW4] at p1 p4 p5 p6
      have HW4 : Hid (W4 = w3.setRow hR (dc (.slice a n9 c) k q s.g)) := hW4
      have HP4 : Hid (W4.heap[hR]? = some (.cells (dc (.slice a n9 c) k q s.g) 31 (0, 0))) := p1
      have HGA : Hid (DB w3 hA (.slice a n9 c) k q s.g ∧ DB w3 hR (.slice none 0 0) 0 pk0 0) := ⟨p2, p3⟩
      have HEND : Hid (DS W4 (min B w.heap.size) (.slice a n9 c) k q (ackN s l now) ∧ RP 29 W4 w.heap.size (.slice none 0 0) (ackG s l now) ∧ Below w.heap.size w W4) := ⟨p4, p5, p6⟩
      clear hW4 p1 p2 p3 p4 p5 p6 p7 p8
      go_upto_region 6 with fail
      go_wp2_with (first | refine wpList_load_row rfl 31 _ rfl hA rfl 31 (dc (.slice a n9 c) k q s.g) (0, 0) _ HGA.out.1 Try.underlying31 rfl sizeD ?_ | refine wpList_store_row rfl 31 _ _ rfl hR (dc (.slice a n9 c) k q s.g) rfl rfl 31 _ HGA.out.2 sizeD rfl (dc_one _ _ _ _ _ _) (Hid.out ?_))
      unfold Hid
      rw [← HW4.out]
      clear HW4
      go_wp2
      refine bodyPost_ret (retAk rfl HP4.out rfl) rfl ?_
      exact ⟨_, _, rfl, HEND.out⟩
  · have e1 : comE s l now = chkL l := by unfold comE; rw [if_pos hz]
    have t1 : (chkL l != 0) = true := by simpa using hz
    obtain ⟨-, y2, y3⟩ := HREF.out (by rw [e1]; exact hz)
    rw [e1, y2, show (ackN s l now).g = s.g by rw [y3]]
    clear y2 y3
    go_enter Try.func23, Try.ntmps23
    go_upto_region 1 with fail
    try rw [← hW1]
    try rw [← hW2]
    try rw [← eR]
    try rw [← eA]
    clear hW1 hW2 eA eR
    go_wp2_with fail
    refine ck.mono ?_
    rintro e w3 ⟨rfl, b3⟩
    have HB3 : Hid (Below W2.heap.size W2 w3) := b3
    obtain ⟨p1, p2, p3, p4, p5, p6, p7, p8⟩ := HRF.out w3 b3 (chkL l) e1 hz
    obtain ⟨W4, hW4⟩ : ∃ W4, W4 = w3.setRow hR (dc (.slice a n9 c) k q s.g) := ⟨_, rfl⟩
    rw [← hW4] at p1 p4 p5 p6
    have HW4 : Hid (W4 = w3.setRow hR (dc (.slice a n9 c) k q s.g)) := hW4
    have HP4 : Hid (W4.heap[hR]? = some (.cells (dc (.slice a n9 c) k q s.g) 31 (0, 0))) := p1
    have HGA : Hid (DB w3 hA (.slice a n9 c) k q s.g ∧ DB w3 hR (.slice none 0 0) 0 pk0 0) := ⟨p2, p3⟩
    have HEND : Hid (DS W4 (min B w.heap.size) (.slice a n9 c) k q (ackN s l now) ∧ RP 29 W4 w.heap.size (.slice none 0 0) (ackG s l now) ∧ Below w.heap.size w W4) := ⟨p4, p5, p6⟩
    clear hW4 p1 p2 p3 p4 p5 p6 p7 p8
    go_upto_region 3 with fail
    go_wp2_with (first | refine wpList_load_row rfl 31 _ rfl hA rfl 31 (dc (.slice a n9 c) k q s.g) (0, 0) _ HGA.out.1 Try.underlying31 rfl sizeD ?_ | refine wpList_store_row rfl 31 _ _ rfl hR (dc (.slice a n9 c) k q s.g) rfl rfl 31 _ HGA.out.2 sizeD rfl (dc_one _ _ _ _ _ _) (Hid.out ?_))
    unfold Hid
    rw [← HW4.out]
    clear HW4
    go_wp2
    refine bodyPost_ret (retAk rfl HP4.out rfl) rfl ?_
    exact ⟨_, _, rfl, HEND.out⟩
end Go.Proofs.Ytamjbmbflllbfaa
