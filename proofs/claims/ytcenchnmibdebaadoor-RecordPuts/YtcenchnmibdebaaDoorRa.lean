/-
  What recordAhead answers.
-/
import Derived.Test.YtcenchnmibdebaaDoorLaK
namespace Go.Proofs.YtcenchnmibdebaaDoor
open Go.RowKit
set_option maxRecDepth 100000

theorem results_ctt {fn : Func} {p u v : Tmp} {ty : TypeId} (h : fn.results = #[.cell p ty, .tmp u, .tmp v]) (tmps : Array Value) (P : Program) (w : World) :
    (results fn tmps).run P w = ((asAddr (tmps.getD p undef)).run P w).andThen fun a w₁ => ((loadVar ty a).run P w₁).andThen fun x w₂ => .ok (.tuple #[x, tmps.getD u undef, tmps.getD v undef]) w₂ := by
  simp only [results, h]
  simp [Sem.run_bind, Result.andThen]
theorem retA {tmps : Array Value} {w : World} {g : Nat} {x : Rc} {m e : Int} (hx : x.ok) (hp : tmps.getD 2 undef = .pointer (some ⟨g, 0, none⟩)) (hm : tmps.getD 3 undef = .int .i64 m) (he : tmps.getD 4 undef = .int .i64 e)
    (hg : w.heap[g]? = some (.cells x.cells.toArray 33 (0, 0))) : (results Tryd.f30 tmps).run Tryd.prog w = .ok (.tuple #[x.val, .int .i64 m, .int .i64 e]) w := by
  have hld : (loadVar 33 ⟨g, 0, none⟩).run Tryd.prog w = .ok x.val w := run_loadVar_row w g 33 33 x.cells.toArray (0, 0) _ hg Tryd.underlying33 rfl (Rc.infoA x hx)
  rw [results_ctt rfl, hp, hm, he]
  simp [asAddr, Result.andThen, hld]
set_option maxHeartbeats 4000000 in
theorem ahead_any (v : Value) (X : List Int) (w : World) (h : Sl w v X) (ht : Tb w) (hl : X.length ≤ 1000000) :
    Calls Tryd.prog 30 #[v] w fun e w' => e = .returned (.tuple #[(ahR X).val, .int .i64 (ahU X), .int .i64 (ahE X)]) ∧ Below w.heap.size w w' := by
  obtain ⟨W1, hW1⟩ : ∃ W1, W1 = w.alloc (.cells rzc 33) := ⟨_, rfl⟩
  have hwz : w.alloc (.cells #[.int .u8 0, .int .i64 0, .string ⟨#[]⟩, .int .u8 0, .int .u8 0, .int .u8 0, .int .u8 0, .int .u8 0, .int .u8 0, .int .u8 0, .int .u8 0, .int .u8 0, .int .u8 0, .int .u8 0, .int .u8 0, .int .u8 0, .int .u8 0, .int .u8 0, .int .u8 0, .int .u8 0, .int .u8 0, .int .u8 0, .int .u8 0, .int .u8 0, .int .u8 0, .int .u8 0, .int .u8 0, .int .u8 0, .int .u8 0, .int .u8 0, .int .u8 0, .int .u8 0, .int .u8 0, .int .u8 0, .int .u8 0, .int .i64 0, .int .i64 0] 33) = W1 := hW1.symm
  have b1 : Below w.heap.size w W1 := by rw [hW1]; exact al_below _ _
  have s1 : W1.heap.size = w.heap.size + 1 := by rw [hW1]; simp
  have g1 : W1.heap[w.heap.size]? = some (.cells rzc 33 (0, 0)) := by rw [hW1]; exact heap_alloc_new _ _
  have C0 : Hid (Calls Tryd.prog 48 #[v] W1 fun e w' => e = .returned (.tuple #[.int .i64 (laN X), .int .i64 (laU X), .int .i64 (laE X)]) ∧ Below W1.heap.size W1 w') := length_any v X W1 (h.kept b1) (ht.kept b1) hl
  have F0 : Hid (∀ W, Below W1.heap.size W1 W → W.heap[w.heap.size]? = some (.cells rzc 33 (0, 0)) ∧ Below w.heap.size w W ∧ Sl W v X ∧ Tb W) := fun W hb => ⟨blk_kept g1 hb (by omega), b1.trans (hb.mono b1.size), (h.kept b1).kept hb, (ht.kept b1).kept hb⟩
  have BX := h.bytes
  have LB := la_bd X BX
  have HZ : Hid (laE X ≠ 0 → ahE X = laE X ∧ ahR X = rc0 ∧ ahU X = 0) := fun h0 => by
    have e : ahE X = laE X := by unfold ahE; rw [if_pos h0]
    exact ⟨e, by unfold ahR; rw [e, if_neg h0], by unfold ahU; rw [e, if_neg h0]⟩
  have HZ2 : Hid (laE X = 0 → (X.length : Int) - laU X < laN X → ahE X = 3 ∧ ahR X = rc0 ∧ ahU X = 0) := fun h0 h1 => by
    have e : ahE X = 3 := by unfold ahE; rw [if_neg (by omega), if_pos h1]
    exact ⟨e, by unfold ahR; rw [e]; rfl, by unfold ahU; rw [e]; rfl⟩
  have HZ3 : Hid (laE X = 0 → ¬ (X.length : Int) - laU X < laN X → (rck (ahX X) ≠ 0 ∨ ¬ putB (ahX X) = whl X) → ahE X = 4 ∧ ahR X = rc0 ∧ ahU X = 0) := fun h0 h1 h2 => by
    have e : ahE X = 4 := by unfold ahE; rw [if_neg (by omega), if_neg h1, if_pos h2]
    exact ⟨e, by unfold ahR; rw [e]; rfl, by unfold ahU; rw [e]; rfl⟩
  have HZ4 : Hid (laE X = 0 → ¬ (X.length : Int) - laU X < laN X → rck (ahX X) = 0 → putB (ahX X) = whl X → ahE X = 0 ∧ ahR X = ahX X ∧ ahU X = (whl X).length) := fun h0 h1 h2 h3 => by
    have e : ahE X = 0 := by unfold ahE; rw [if_neg (by omega), if_neg h1, if_neg (by simp [h2, h3])]
    exact ⟨e, by unfold ahR; rw [if_pos e], by unfold ahU; rw [if_pos e]⟩
  have HZX : Hid (ahX X = rdR ((whl X).drop (laU X).toNat)) := rfl
  have HWH : Hid (whl X = X.take ((laU X).toNat + (laN X).toNat)) := rfl
  obtain ⟨a, c, rfl, hc1, hc2, hc3, hrow⟩ := id h
  have htb := ht
  clear hW1 b1 s1 g1 hc3 ht
  generalize laE X = E at *
  generalize ahE X = AE at *
  generalize ahR X = AR at *
  generalize ahU X = AU at *
  have c0 := C0.out
  clear C0
  by_cases hE : E = 0
  · subst hE
    obtain ⟨lu, l1⟩ := LB.2.2.2 rfl
    obtain ⟨u, hu⟩ : ∃ u : Nat, (u : Int) = laU X := ⟨(laU X).toNat, by omega⟩
    obtain ⟨m, hm⟩ : ∃ m : Nat, (m : Int) = laN X := ⟨(laN X).toNat, by omega⟩
    rw [← hu, ← hm] at c0 HZ2 HZ3 HZ4 HWH
    rw [← hu] at HZX lu l1
    have hm5 : m ≤ 512 := by omega
    have hu1 : u ≤ X.length := by omega
    have hXpos : 0 < X.length := by omega
    simp only [Int.toNat_natCast] at HWH HZX
    obtain ⟨b, off, rfl⟩ : ∃ b off, a = some ⟨b, off, none⟩ := by
      rcases hrow with h0 | ⟨_, b, off, e, _⟩
      · omega
      · exact ⟨b, off, e⟩
    clear hrow LB HZ hu hm
    by_cases hlt : (X.length : Int) - (u : Int) < (m : Int)
    · obtain ⟨e1, e2, e3⟩ := HZ2.out rfl hlt
      subst e1 e2 e3
      have d1 : decide ((X.length : Int) - (u : Int) < (m : Int)) = true := by simpa using hlt
      have yw : wrap64 ((X.length : Int) - (u : Int)) = (X.length : Int) - (u : Int) := by unfold wrap64; omega
      have yp : IntKind.i64.wrap ((X.length : Int) - (u : Int)) = (X.length : Int) - (u : Int) := by rw [IntKind.wrap_i64]; omega
      clear HZ2 HZ3 HZ4 HZX HWH h BX
      generalize X.length = L at *
      go_enter Tryd.func30, Tryd.ntmps30
      go_wp2_with fail
      try rw [hwz]
      clear hwz
      refine c0.mono ?_
      rintro e w2 ⟨rfl, b2⟩
      obtain ⟨r2, bb2, -, -⟩ := F0.out w2 b2
      have R2 : Hid (w2.heap[w.heap.size]? = some (.cells rzc 33 (0, 0))) := r2
      have BB2 : Hid (Below w.heap.size w w2) := bb2
      clear c0 r2 bb2 b2 F0
      go_wp2_with (first
        | refine wpList_built rfl 33 [] rfl [] rfl rc0.cells.toArray bRZ ?_
        | refine wpList_store_row rfl 33 _ _ rfl w.heap.size rc0.cells.toArray rfl rfl 33 rzc R2.out (Rc.infoA _ rc0_ok) rfl (Rc.ones _) ?_)
      exact bodyPost_ret (v := .tuple #[rc0.val, .int .i64 0, .int .i64 3]) (retA rc0_ok rfl rfl rfl (setRow_heap _ _ _ _ _ _ R2.out)) rfl ⟨rfl, below_setRow BB2.out (Nat.le_refl _) _⟩
    · have hsum : u + m ≤ X.length := by omega
      have d1 : decide ((X.length : Int) - (u : Int) < (m : Int)) = false := by simpa using hlt
      have yw : wrap64 ((X.length : Int) - (u : Int)) = (X.length : Int) - (u : Int) := by unfold wrap64; omega
      have yp : IntKind.i64.wrap ((X.length : Int) - (u : Int)) = (X.length : Int) - (u : Int) := by rw [IntKind.wrap_i64]; omega
      have xw : wrap64 ((u : Int) + (m : Int)) = ((u + m : Nat) : Int) := by unfold wrap64; omega
      have xp : IntKind.i64.wrap ((u : Int) + (m : Int)) = ((u + m : Nat) : Int) := by rw [IntKind.wrap_i64]; omega
      have q1 : ((u + m : Nat) : Int) ≤ (c : Int) := by omega
      have q0 : (0 : Int) ≤ ((u + m : Nat) : Int) := by omega
      have q2 : (u : Int) ≤ ((u + m : Nat) : Int) := by omega
      have q3 : (0 : Int) ≤ (u : Int) := by omega
      have wl : (whl X).length = u + m := by rw [HWH.out, List.length_take]; omega
      have HWL : Hid ((whl X).length = u + m) := wl
      have bw : Bts (whl X) := by rw [HWH.out]; exact bts_take BX _
      obtain ⟨rok, rps, -⟩ := rdR_ok _ (bts_drop bw u)
      rw [← HZX.out] at rok rps
      have HAO : Hid (ahX X).ok := rok
      have F1 : Hid (∀ W, Below W1.heap.size W1 W → Sl W (.slice (some ⟨b, off, none⟩) (u + m) c) (whl X)) := fun W hb => by
        rw [HWH.out]
        exact (F0.out W hb).2.2.1.take (u + m) hsum
      have CR : Hid (∀ W v', Below W1.heap.size W1 W → Sl W v' ((whl X).drop u) → Calls Tryd.prog 49 #[v'] W fun e w' => e = .returned (ahX X).val ∧ Below W.heap.size W w') := fun W v' hb hs => by
        rw [HZX.out]
        exact read_any v' _ W hs (F0.out W hb).2.2.2 (by rw [List.length_drop, wl]; omega)
      have F2 : Hid (∀ W, Below W1.heap.size W1 W → (¬ c = u → Sl W (.slice (some ⟨b, off + u, none⟩) (u + m - u) (c - u)) ((whl X).drop u)) ∧ (c = u → Sl W (.slice (some ⟨b, off, none⟩) 0 0) ((whl X).drop u))) := fun W hb => by
        have := F1.out W hb
        refine ⟨fun _ => this.drop u (by omega), fun hcu => ?_⟩
        have h0 : (whl X).drop u = [] := List.drop_of_length_le (by rw [wl]; omega)
        rw [h0]
        exact ⟨_, 0, rfl, Nat.le_refl _, by unfold maxLen; omega, fun e => (by cases e), .inl rfl⟩
      have hR1 : ∀ W3 W4, Below W1.heap.size W1 W3 → Fi.Off w.heap.size W3 W4 → Tb W4 ∧ Sl W4 (.slice (some ⟨b, off, none⟩) (u + m) c) (whl X) ∧ W4.heap.size = W3.heap.size := fun W3 W4 h3 h4 => by
        have t3 := (F0.out W3 h3).2.2.2
        have b0 : Below w.heap.size W3 W4 := h4.below (Nat.le_refl _)
        have t4 : Tb W4 := ⟨t3.1.below b0 htb.1.pos, t3.2.1.below b0 htb.2.1.pos, by
          obtain ⟨mm, hmm⟩ := htb.2.2
          obtain ⟨m3, hm3⟩ := t3.2.2
          exact ⟨m3, (b0.cell (World.block_lt_of_cell? _ _ hmm)).trans hm3⟩⟩
        refine ⟨t4, ?_, h4.size⟩
        have hw : Sl w (.slice (some ⟨b, off, none⟩) (u + m) c) (whl X) := by rw [HWH.out]; exact h.take (u + m) hsum
        have bw4 : Below w.heap.size w W4 := (F0.out W3 h3).2.1.trans b0
        exact hw.kept bw4
      have CP4 : Hid (∀ W3 W4, Below W1.heap.size W1 W3 → Fi.Off w.heap.size W3 W4 → Calls Tryd.prog 6 #[(ahX X).val] W4 fun e w' => ∃ v, e = .returned (.tuple #[v, .int .i64 (rck (ahX X))]) ∧ Sl w' v (putB (ahX X)) ∧ Below W4.heap.size W4 w') := fun W3 W4 h3 h4 => put_any (ahX X) W4 rok (hR1 W3 W4 h3 h4).1 (by omega)
      have CE4 : Hid (∀ W3 W4 W5 v', Below W1.heap.size W1 W3 → Fi.Off w.heap.size W3 W4 → Below W4.heap.size W4 W5 → Sl W5 v' (putB (ahX X)) → Calls Tryd.prog 50 #[v', .slice (some ⟨b, off, none⟩) (u + m) c] W5 fun r w' => r = .returned (.bool (decide (putB (ahX X) = whl X))) ∧ w' = W5) := fun W3 W4 W5 v' h3 h4 h5 hs => equal_any v' _ _ _ W5 hs ((hR1 W3 W4 h3 h4).2.1.kept h5)
      have HZ3' : Hid ((rck (ahX X) ≠ 0 ∨ ¬ putB (ahX X) = whl X) → AE = 4 ∧ AR = rc0 ∧ AU = 0) := HZ3.out rfl hlt
      have HZ4' : Hid (rck (ahX X) = 0 → putB (ahX X) = whl X → AE = 0 ∧ AR = ahX X ∧ AU = ((u + m : Nat) : Int)) := fun h1 h2 => by
        have := HZ4.out rfl hlt h1 h2
        rw [wl] at this
        exact this
      have F0' : Hid (∀ W, Below W1.heap.size W1 W → W.heap[w.heap.size]? = some (.cells rzc 33 (0, 0)) ∧ Below w.heap.size w W) := fun W hb => ⟨(F0.out W hb).1, (F0.out W hb).2.1⟩
      have HSZ : Hid (w.heap.size < W1.heap.size) := blk_lt (F0.out W1 (Below.refl _ _)).1
      clear HZ2 HZ3 HZ4 HZX HWH h BX F0 F1 wl bw rps hc1 hc2 rok hR1 htb
      unfold Rc.val at CP4
      generalize hXX : X.length = L at *
      generalize ahX X = x at *
      generalize whl X = WH at *
      generalize rck x = k at *
      generalize putB x = PB at *
      unfold Rc.val at CR
      go_enter Tryd.func30, Tryd.ntmps30
      go_wp2_with fail
      try rw [hwz]
      clear hwz
      refine c0.mono ?_
      rintro e w2 ⟨rfl, b2⟩
      have B2 : Hid (Below W1.heap.size W1 w2) := b2
      clear c0 b2
      have f2 := F2.out w2 B2.out
      by_cases hcu : c = u
      · have sd := f2.2 hcu
        have cr := CR.out w2 _ B2.out sd
        have hm0 : m = 0 := by omega
        subst hm0
        simp only [Nat.add_zero] at *
        subst hcu
        clear f2 F2 CR sd
        go_wp2_with fail
        try simp only [Nat.sub_self]
        refine cr.mono ?_
        rintro e w3 ⟨rfl, b3⟩
        have B3 : Hid (Below W1.heap.size W1 w3) := B2.out.trans (b3.mono B2.out.size)
        have r3 := (F0'.out w3 B3.out).1
        have R3 : Hid (w3.heap[w.heap.size]? = some (.cells rzc 33 (0, 0))) := r3
        have HI : Hid ((Tryd.prog.info? 33).map (·.size) = some x.cells.toArray.size) := Rc.infoA x HAO.out
        have HE2 : Hid (rzc.size = x.cells.toArray.size) := rzc_size.trans (Rc.size x HAO.out).symm
        have H1 : Hid (x.cells.toArray.all (·.oneCell') = true) := Rc.ones x
        have ZR : Hid ((Tryd.prog.info? 33).map (·.size) = some x.cells.length) := Rc.infoL x HAO.out
        clear cr b3 r3 B2
        go_wp2_with (refine wpList_store_row rfl 33 _ _ rfl w.heap.size x.cells.toArray rfl rfl 33 rzc R3.out HI.out HE2.out H1.out (Hid.out ?_))
        unfold Hid
        have s4 := setRow_heap w3 w.heap.size rzc x.cells.toArray 33 (0, 0) R3.out
        have b4 : Below w.heap.size w (w3.setRow w.heap.size x.cells.toArray) := below_setRow (F0'.out w3 B3.out).2 (Nat.le_refl _) _
        have q4 : Fi.Off w.heap.size w3 (w3.setRow w.heap.size x.cells.toArray) := off_setRow _ _ _
        generalize w3.setRow w.heap.size x.cells.toArray = w4 at *
        have S4 : Hid (w4.heap[w.heap.size]? = some (.cells x.cells.toArray 33 (0, 0))) := s4
        have RN4 : Hid (w4.rangeAt w.heap.size 0 x.cells) := blk_range s4
        have B4 : Hid (Below w.heap.size w w4) := b4
        have Q4 : Hid (Fi.Off w.heap.size w3 w4) := q4
        have cp := CP4.out w3 w4 B3.out q4
        clear s4 b4 q4 R3
        go_wp2_with (refine wpList_load_mid rfl 33 _ rfl w.heap.size 0 rfl x.cells _ RN4.out Tryd.underlying33 rfl ZR.out ?_)
        refine cp.mono ?_
        rintro e w5 ⟨v5, rfl, s5, b5⟩
        have S5 : Hid (w5.heap[w.heap.size]? = some (.cells x.cells.toArray 33 (0, 0))) := blk_kept S4.out b5 (blk_lt S4.out)
        have RN5 : Hid (w5.rangeAt w.heap.size 0 x.cells) := blk_range S5.out
        have B5 : Hid (Below w.heap.size w w5) := B4.out.trans (b5.mono B4.out.size)
        have ce := CE4.out w3 w4 w5 v5 B3.out Q4.out b5 s5
        obtain ⟨va5, vc5, rfl, -⟩ := id s5
        clear cp s5 b5 RN4 S4 CP4 CE4
        generalize PB.length = pl at *
        by_cases hk : k = 0
        · subst hk
          by_cases hpw : PB = WH
          · obtain ⟨e1, e2, e3⟩ := HZ4'.out rfl hpw
            rw [decide_eq_true hpw] at ce
            subst e1 e2 e3
            clear HZ3' HZ4'
            go_wp2_with fail
            refine ce.mono ?_
            rintro e w6 ⟨rfl, e6⟩
            replace e6 := e6.symm
            subst e6
            clear ce
            go_wp2_with (first
              | refine wpList_load_mid rfl 33 _ rfl w.heap.size 0 rfl AR.cells _ RN5.out Tryd.underlying33 rfl ZR.out ?_
              | refine wpList_store_row rfl 33 _ _ rfl w.heap.size AR.cells.toArray rfl rfl 33 AR.cells.toArray S5.out HI.out rfl H1.out ?_)
            exact bodyPost_ret (v := .tuple #[AR.val, .int .i64 ((c : Nat) : Int), .int .i64 0]) (retA HAO.out rfl rfl rfl (setRow_heap _ _ _ _ _ _ S5.out)) rfl ⟨rfl, below_setRow B5.out (Nat.le_refl _) _⟩
          · obtain ⟨e1, e2, e3⟩ := HZ3'.out (.inr hpw)
            rw [decide_eq_false hpw] at ce
            subst e1 e2 e3
            clear HZ3' HZ4'
            go_wp2_with fail
            refine ce.mono ?_
            rintro e w6 ⟨rfl, e6⟩
            replace e6 := e6.symm
            subst e6
            clear ce
            go_wp2_with (first
              | refine wpList_built rfl 33 [] rfl [] rfl rc0.cells.toArray bRZ ?_
              | refine wpList_store_row rfl 33 _ _ rfl w.heap.size rc0.cells.toArray rfl rfl 33 x.cells.toArray S5.out (Rc.infoA _ rc0_ok) (by rw [Rc.size x HAO.out, Rc.size rc0 rc0_ok]) (Rc.ones _) ?_)
            exact bodyPost_ret (v := .tuple #[rc0.val, .int .i64 0, .int .i64 4]) (retA rc0_ok rfl rfl rfl (setRow_heap _ _ _ _ _ _ S5.out)) rfl ⟨rfl, below_setRow B5.out (Nat.le_refl _) _⟩
        · obtain ⟨e1, e2, e3⟩ := HZ3'.out (.inl hk)
          subst e1 e2 e3
          have dk : (k != 0) = true := by simpa using hk
          clear HZ3' HZ4' ce
          go_wp2_with (first
            | refine wpList_built rfl 33 [] rfl [] rfl rc0.cells.toArray bRZ ?_
            | refine wpList_store_row rfl 33 _ _ rfl w.heap.size rc0.cells.toArray rfl rfl 33 x.cells.toArray S5.out (Rc.infoA _ rc0_ok) (by rw [Rc.size x HAO.out, Rc.size rc0 rc0_ok]) (Rc.ones _) ?_)
          exact bodyPost_ret (v := .tuple #[rc0.val, .int .i64 0, .int .i64 4]) (retA rc0_ok rfl rfl rfl (setRow_heap _ _ _ _ _ _ S5.out)) rfl ⟨rfl, below_setRow B5.out (Nat.le_refl _) _⟩
      · have sd := f2.1 hcu
        rw [Nat.add_sub_cancel_left] at sd
        have cr := CR.out w2 _ B2.out sd
        clear f2 F2 CR sd
        go_wp2_with fail
        refine cr.mono ?_
        rintro e w3 ⟨rfl, b3⟩
        have B3 : Hid (Below W1.heap.size W1 w3) := B2.out.trans (b3.mono B2.out.size)
        have r3 := (F0'.out w3 B3.out).1
        have R3 : Hid (w3.heap[w.heap.size]? = some (.cells rzc 33 (0, 0))) := r3
        have HI : Hid ((Tryd.prog.info? 33).map (·.size) = some x.cells.toArray.size) := Rc.infoA x HAO.out
        have HE2 : Hid (rzc.size = x.cells.toArray.size) := rzc_size.trans (Rc.size x HAO.out).symm
        have H1 : Hid (x.cells.toArray.all (·.oneCell') = true) := Rc.ones x
        have ZR : Hid ((Tryd.prog.info? 33).map (·.size) = some x.cells.length) := Rc.infoL x HAO.out
        clear cr b3 r3 B2
        go_wp2_with (refine wpList_store_row rfl 33 _ _ rfl w.heap.size x.cells.toArray rfl rfl 33 rzc R3.out HI.out HE2.out H1.out (Hid.out ?_))
        unfold Hid
        have s4 := setRow_heap w3 w.heap.size rzc x.cells.toArray 33 (0, 0) R3.out
        have b4 : Below w.heap.size w (w3.setRow w.heap.size x.cells.toArray) := below_setRow (F0'.out w3 B3.out).2 (Nat.le_refl _) _
        have q4 : Fi.Off w.heap.size w3 (w3.setRow w.heap.size x.cells.toArray) := off_setRow _ _ _
        generalize w3.setRow w.heap.size x.cells.toArray = w4 at *
        have S4 : Hid (w4.heap[w.heap.size]? = some (.cells x.cells.toArray 33 (0, 0))) := s4
        have RN4 : Hid (w4.rangeAt w.heap.size 0 x.cells) := blk_range s4
        have B4 : Hid (Below w.heap.size w w4) := b4
        have Q4 : Hid (Fi.Off w.heap.size w3 w4) := q4
        have cp := CP4.out w3 w4 B3.out q4
        clear s4 b4 q4 R3
        go_wp2_with (refine wpList_load_mid rfl 33 _ rfl w.heap.size 0 rfl x.cells _ RN4.out Tryd.underlying33 rfl ZR.out ?_)
        refine cp.mono ?_
        rintro e w5 ⟨v5, rfl, s5, b5⟩
        have S5 : Hid (w5.heap[w.heap.size]? = some (.cells x.cells.toArray 33 (0, 0))) := blk_kept S4.out b5 (blk_lt S4.out)
        have RN5 : Hid (w5.rangeAt w.heap.size 0 x.cells) := blk_range S5.out
        have B5 : Hid (Below w.heap.size w w5) := B4.out.trans (b5.mono B4.out.size)
        have ce := CE4.out w3 w4 w5 v5 B3.out Q4.out b5 s5
        obtain ⟨va5, vc5, rfl, -⟩ := id s5
        clear cp s5 b5 RN4 S4 CP4 CE4
        generalize PB.length = pl at *
        by_cases hk : k = 0
        · subst hk
          by_cases hpw : PB = WH
          · obtain ⟨e1, e2, e3⟩ := HZ4'.out rfl hpw
            rw [decide_eq_true hpw] at ce
            subst e1 e2 e3
            clear HZ3' HZ4'
            go_wp2_with fail
            refine ce.mono ?_
            rintro e w6 ⟨rfl, e6⟩
            replace e6 := e6.symm
            subst e6
            clear ce
            go_wp2_with (first
              | refine wpList_load_mid rfl 33 _ rfl w.heap.size 0 rfl AR.cells _ RN5.out Tryd.underlying33 rfl ZR.out ?_
              | refine wpList_store_row rfl 33 _ _ rfl w.heap.size AR.cells.toArray rfl rfl 33 AR.cells.toArray S5.out HI.out rfl H1.out ?_)
            exact bodyPost_ret (v := .tuple #[AR.val, .int .i64 ((u + m : Nat) : Int), .int .i64 0]) (retA HAO.out rfl rfl rfl (setRow_heap _ _ _ _ _ _ S5.out)) rfl ⟨rfl, below_setRow B5.out (Nat.le_refl _) _⟩
          · obtain ⟨e1, e2, e3⟩ := HZ3'.out (.inr hpw)
            rw [decide_eq_false hpw] at ce
            subst e1 e2 e3
            clear HZ3' HZ4'
            go_wp2_with fail
            refine ce.mono ?_
            rintro e w6 ⟨rfl, e6⟩
            replace e6 := e6.symm
            subst e6
            clear ce
            go_wp2_with (first
              | refine wpList_built rfl 33 [] rfl [] rfl rc0.cells.toArray bRZ ?_
              | refine wpList_store_row rfl 33 _ _ rfl w.heap.size rc0.cells.toArray rfl rfl 33 x.cells.toArray S5.out (Rc.infoA _ rc0_ok) (by rw [Rc.size x HAO.out, Rc.size rc0 rc0_ok]) (Rc.ones _) ?_)
            exact bodyPost_ret (v := .tuple #[rc0.val, .int .i64 0, .int .i64 4]) (retA rc0_ok rfl rfl rfl (setRow_heap _ _ _ _ _ _ S5.out)) rfl ⟨rfl, below_setRow B5.out (Nat.le_refl _) _⟩
        · obtain ⟨e1, e2, e3⟩ := HZ3'.out (.inl hk)
          subst e1 e2 e3
          have dk : (k != 0) = true := by simpa using hk
          clear HZ3' HZ4' ce
          go_wp2_with (first
            | refine wpList_built rfl 33 [] rfl [] rfl rc0.cells.toArray bRZ ?_
            | refine wpList_store_row rfl 33 _ _ rfl w.heap.size rc0.cells.toArray rfl rfl 33 x.cells.toArray S5.out (Rc.infoA _ rc0_ok) (by rw [Rc.size x HAO.out, Rc.size rc0 rc0_ok]) (Rc.ones _) ?_)
          exact bodyPost_ret (v := .tuple #[rc0.val, .int .i64 0, .int .i64 4]) (retA rc0_ok rfl rfl rfl (setRow_heap _ _ _ _ _ _ S5.out)) rfl ⟨rfl, below_setRow B5.out (Nat.le_refl _) _⟩
  · obtain ⟨e1, e2, e3⟩ := HZ.out hE
    subst e1 e2 e3
    have d1 : (AE != 0) = true := by simpa using hE
    clear HZ HZ2 HZ3 HZ4 HZX HWH h BX LB hrow
    generalize X.length = L at *
    go_enter Tryd.func30, Tryd.ntmps30
    go_wp2_with fail
    try rw [hwz]
    clear hwz
    refine c0.mono ?_
    rintro e w2 ⟨rfl, b2⟩
    obtain ⟨r2, bb2, -, -⟩ := F0.out w2 b2
    have R2 : Hid (w2.heap[w.heap.size]? = some (.cells rzc 33 (0, 0))) := r2
    have BB2 : Hid (Below w.heap.size w w2) := bb2
    clear c0 r2 bb2 b2 F0
    go_wp2_with (first
      | refine wpList_built rfl 33 [] rfl [] rfl rc0.cells.toArray bRZ ?_
      | refine wpList_store_row rfl 33 _ _ rfl w.heap.size rc0.cells.toArray rfl rfl 33 rzc R2.out (Rc.infoA _ rc0_ok) rfl (Rc.ones _) ?_)
    exact bodyPost_ret (v := .tuple #[rc0.val, .int .i64 0, .int .i64 AE]) (retA rc0_ok rfl rfl rfl (setRow_heap _ _ _ _ _ _ R2.out)) rfl ⟨rfl, below_setRow BB2.out (Nat.le_refl _) _⟩
end Go.Proofs.YtcenchnmibdebaaDoor
