/-
  What the document's Sent answers.
-/
import Derived.Test.YtamjbmbflllbfaaRh
import Derived.Deep.RegionWith
import Derived.Deep.DeepCutAuto
namespace Go.Proofs.Ytamjbmbflllbfaa
open Go.RowKit Go.Shelf
set_option maxRecDepth 100000

theorem retS {tmps : Array Value} {w : World} {g : Nat} {cs : Array Value} (hp : tmps.getD 4 undef = .pointer (some ⟨g, 0, none⟩)) (hg : w.heap[g]? = some (.cells cs 31 (0, 0))) (hl : cs.size = 7) : (results Try.f26 tmps).run Try.prog w = .ok (.tuple #[.agg cs, tmps.getD 5 undef]) w := by
  have hld := ldD hg hl
  have hr : Try.f26.results = #[.cell 4 31, .tmp 5] := rfl
  have hp' : tmps[4]?.getD undef = .pointer (some ⟨g, 0, none⟩) := by simpa using hp
  simp [results, hp', asAddr, hld]
abbrev sn (w : World) (h : Nat) (k' : Int) (p : Pk) : World := (((((w.setCell ⟨h, 1, none⟩ (.int .i64 k')).setCell ⟨h, 2, none⟩ (.int .i64 p.n)).setCell ⟨h, 3, none⟩ (.int .i64 p.t)).setCell ⟨h, 4, none⟩ (.int .i64 p.z)).setCell ⟨h, 5, none⟩ (.bool p.a)).drew
theorem drew_heap (w : World) : w.drew.heap = w.heap := rfl
theorem sn_db {w : World} {h : Nat} {v : Value} {k : Int} {q : Pk} {g : Int} (e : DB w h v k q g) (k' : Int) (p : Pk) : DB (sn w h k' p) h v k' p g := by
  unfold DB at e ⊢
  simp only [sn, drew_heap, World.setCell, Array.getElem?_modify, if_true, e]
  simp
theorem set_other {w : World} {h h' i : Nat} {x : Value} (hn : h' ≠ h) : (w.setCell ⟨h, i, none⟩ x).heap[h']? = w.heap[h']? := Below.heap_setCell _ _ _ _ hn
theorem sn_other {w : World} {h h' : Nat} (k' : Int) (p : Pk) (hn : h' ≠ h) : (sn w h k' p).heap[h']? = w.heap[h']? := by
  simp only [sn, drew_heap]
  rw [set_other hn, set_other hn, set_other hn, set_other hn, set_other hn]
theorem sn_rp {t : TypeId} {w : World} {B h : Nat} {v : Value} {l : List Pk} (r : RP t w B v l) (hn : v.ownBlock ≠ some h) (k' : Int) (p : Pk) : RP t (sn w h k' p) B v l :=
  r.keep fun i cs hi hh => (sn_other k' p (fun e => hn (by rw [hi, e]))).trans hh
theorem drew_below {n : Nat} {w0 w : World} (b : Below n w0 w) : Below n w0 w.drew := b.drew
theorem set_belowN {n : Nat} {w0 w : World} {h i : Nat} {x : Value} (b : Below n w0 w) (hn : n ≤ h) : Below n w0 (w.setCell ⟨h, i, none⟩ x) := b.setCell (p := ⟨h, i, none⟩) hn _
theorem sn_below {n : Nat} {w0 w : World} {h : Nat} (b : Below n w0 w) (hn : n ≤ h) (k' : Int) (p : Pk) : Below n w0 (sn w h k' p) := by
  refine drew_below ?_
  refine set_belowN ?_ hn
  refine set_belowN ?_ hn
  refine set_belowN ?_ hn
  refine set_belowN ?_ hn
  exact set_belowN b hn
set_option maxHeartbeats 8000000 in
theorem rsent_any (w : World) (B : Nat) (v : Value) (k : Int) (q : Pk) (s : Lg) (p : Pk) (h : DS w B v k q s) (hln : s.o.length ≤ 1024) (hk1 : k < 1000000) :
    Calls Try.prog 26 #[.agg (dc v k q s.g), p.v] w fun e w' => ∃ v' k' q', e = .returned (.tuple #[.agg (dc v' k' q' s.g), .int .i64 (sendE s p)]) ∧ DS w' (min B w.heap.size) v' k' q' (sendL s p) ∧ Below w.heap.size w w' ∧ k' ≤ k + 1 := by
  obtain ⟨W1, hW1⟩ : ∃ W1, W1 = w.alloc (.cells (dc v k q s.g) 31) := ⟨_, rfl⟩
  obtain ⟨W2, hW2⟩ : ∃ W2, W2 = W1.alloc (.cells #[.int .i64 p.n, .int .i64 p.t, .int .i64 p.z, .bool p.a] 29) := ⟨_, rfl⟩
  obtain ⟨W3, hW3⟩ : ∃ W3, W3 = W2.alloc (.cells (dc (.slice none 0 0) 0 pk0 0) 31) := ⟨_, rfl⟩
  have b1 : Below w.heap.size w W1 := by rw [hW1]; exact al_b _ _
  have b2 : Below W1.heap.size W1 W2 := by rw [hW2]; exact al_b _ _
  have b3 : Below W2.heap.size W2 W3 := by rw [hW3]; exact al_b _ _
  have z1 : W1.heap.size = w.heap.size + 1 := by rw [hW1]; simp
  have z2 : W2.heap.size = w.heap.size + 2 := by rw [hW2]; simp [z1]
  have z3 : W3.heap.size = w.heap.size + 3 := by rw [hW3]; simp [z2]
  have g1 : DB W3 w.heap.size v k q s.g := DB.kept (DB.kept (by rw [hW1]; exact DB.new _ _ _ _ _) b2) b3
  have p1 : PB W3 (w.heap.size + 1) 29 p := by
    have : PB W2 W1.heap.size 29 p := by rw [hW2]; exact PB.new _ _ p
    rw [z1] at this
    exact this.kept b3
  have r1 : DB W3 (w.heap.size + 2) (.slice none 0 0) 0 pk0 0 := by rw [← z2, hW3]; exact DB.new _ _ _ _ _
  have HZ1 : Hid (W1.heap.size = w.heap.size + 1) := z1
  have HZ2 : Hid (W2.heap.size = w.heap.size + 2) := z2
  have HZ3 : Hid (W3.heap.size = w.heap.size + 3) := z3
  have bb : Below w.heap.size w W3 := (b1.trans (b2.mono b1.size)).trans (b3.mono (b1.trans (b2.mono b1.size)).size)
  have HB3 : Hid (Below w.heap.size w W3) := bb
  have HG : Hid (DB W3 w.heap.size v k q s.g ∧ PB W3 (w.heap.size + 1) 29 p ∧ DB W3 (w.heap.size + 2) (.slice none 0 0) 0 pk0 0) := ⟨g1, p1, r1⟩
  have HDS : Hid (DS W3 B v k q s) := h.below bb
  obtain ⟨hA, eA⟩ : ∃ x, x = w.heap.size := ⟨_, rfl⟩
  obtain ⟨hP, eP⟩ : ∃ x, x = w.heap.size + 1 := ⟨_, rfl⟩
  obtain ⟨hR, eR⟩ : ∃ x, x = w.heap.size + 1 + 1 := ⟨_, rfl⟩
  rw [show w.heap.size + 2 = w.heap.size + 1 + 1 from rfl, ← eR, ← eP, ← eA] at HG
  rw [← eA] at g1
  rw [← eP] at p1
  have HLT : Hid (hA = w.heap.size ∧ hP = w.heap.size + 1 ∧ hR = w.heap.size + 1 + 1) := ⟨eA, eP, eR⟩
  have HLE : Hid (w.heap.size ≤ hA ∧ w.heap.size ≤ hP ∧ w.heap.size ≤ hR) := ⟨by omega, by omega, by omega⟩
  obtain ⟨c0, c1, c2, c3, c4, c5, c6, -, -, -, -, -, -, -⟩ := g1.dc
  obtain ⟨d0, d1, d2, d3⟩ := p1.pc
  simp only [Nat.zero_add] at d0 d1 d2 d3
  obtain ⟨dk0, dk1, dkn, dky⟩ := h.dk
  obtain ⟨a, c, rfl, -⟩ := id h.rs.is.shape
  have CT : Hid (∀ n W, Calls Try.prog 44 #[.int .i64 n] W fun e w' => e = .returned (.bool (tm n)) ∧ w' = W) := fun n W => rtime_any n W
  have HM : Hid (mgo s p = (tm p.n && tm p.t && decide (s.n < p.n) && decide (s.t ≤ p.t) && decide (1 ≤ p.z) && decide (p.z ≤ 1200))) := rfl
  have HTN : Hid (tm p.n = true → 0 ≤ p.n ∧ p.n ≤ 1099511627776) := fun e => tm_iff.1 e
  have HTT : Hid (tm p.t = true → 0 ≤ p.t ∧ p.t ≤ 1099511627776) := fun e => tm_iff.1 e
  have HSN : Hid (mgo s p = false → sendE s p = 2 ∧ sendL s p = s) := fun e => sendE_no e
  have HSF : Hid (mgo s p = true → s.o.length = 1024 → sendE s p = 10 ∧ sendL s p = s) := fun e f => sendE_full e f
  have HSY : Hid (mgo s p = true → s.o.length ≠ 1024 → sendE s p = 0 ∧ sendL s p = ⟨s.o ++ [p], p.n, p.t, s.g⟩) := fun e f => sendE_yes e f
  have HDS0 : Hid (DS w B (.slice a s.o.length c) k q s) := h
  have CTN := fun W => CT.out p.n W
  have CTT := fun W => CT.out p.t W
  clear b1 b2 b3 z1 z2 z3 g1 p1 r1 bb h
  have HD0 : Hid (DS w B (.slice a s.o.length c) k q s) := HDS0.out
  obtain ⟨n9, hn9⟩ : ∃ n9, n9 = s.o.length := ⟨_, rfl⟩
  have HN9 : Hid (n9 = s.o.length) := hn9
  rw [← hn9] at hW1 c0 HG HDS HD0 HSF HSY hln ⊢
  clear hn9
  cases hn : tm p.n with
  | false =>
    have hm : mgo s p = false := by rw [HM.out, hn]; rfl
    have es := HSN.out hm
    obtain ⟨e1, e2⟩ := es
    rw [e1, e2]
    obtain ⟨W4, hW4⟩ : ∃ W4, W4 = W3.setRow hR (dc (.slice a n9 c) k q s.g) := ⟨_, rfl⟩
    have HW4 : Hid (W4 = W3.setRow hR (dc (.slice a n9 c) k q s.g)) := hW4
    have HP4 : Hid (W4.heap[hR]? = some (.cells (dc (.slice a n9 c) k q s.g) 31 (0, 0))) := by rw [hW4]; exact HG.out.2.2.row _ _ _ _
    have b4 : Below w.heap.size w W4 := by rw [hW4]; exact below_setRow HB3.out HLE.out.2.2 _
    have HEND : Hid (DS W4 (min B w.heap.size) (.slice a n9 c) k q s ∧ Below w.heap.size w W4 ∧ k ≤ k + 1) := ⟨((HD0.out.below b4).mono (Nat.min_le_left _ _)), b4, by omega⟩
    clear hW4 b4 e1 e2 HSN HSF HSY HM HTN HTT dkn dky
    rw [hn] at CTN
    go_enter Try.func26, Try.ntmps26
    go_upto_region 1 with fail
    try rw [← hW1]
    try rw [← hW2]
    try rw [← hW3]
    try rw [← eR]
    try rw [← eP]
    try rw [← eA]
    clear hW1 hW2 hW3 eA eP eR
    go_wp2_with fail
    refine (CTN _).mono ?_
    rintro e w9 ⟨rfl, e1⟩
    rw [e1]
    clear e1 w9
    go_upto_region 2 with fail
    go_wp2_with (first | refine wpList_load_row rfl 31 _ rfl hA rfl 31 (dc (.slice a n9 c) k q s.g) (0, 0) _ HG.out.1 Try.underlying31 rfl sizeD ?_ | refine wpList_store_row rfl 31 _ _ rfl hR (dc (.slice a n9 c) k q s.g) rfl rfl 31 _ HG.out.2.2 sizeD rfl (dc_one _ _ _ _ _ _) (Hid.out ?_))
    unfold Hid
    rw [← HW4.out]
    clear HW4
    go_wp2
    refine bodyPost_ret (retS rfl HP4.out rfl) rfl ?_
    exact ⟨_, _, _, rfl, HEND.out⟩
  | true =>
    obtain ⟨n0, n1⟩ := HTN.out hn
    rw [hn] at CTN
    cases ht : tm p.t with
    | false =>
      have hm : mgo s p = false := by rw [HM.out, hn, ht]; rfl
      have es := HSN.out hm
      obtain ⟨e1, e2⟩ := es
      rw [e1, e2]
      obtain ⟨W4, hW4⟩ : ∃ W4, W4 = W3.setRow hR (dc (.slice a n9 c) k q s.g) := ⟨_, rfl⟩
      have HW4 : Hid (W4 = W3.setRow hR (dc (.slice a n9 c) k q s.g)) := hW4
      have HP4 : Hid (W4.heap[hR]? = some (.cells (dc (.slice a n9 c) k q s.g) 31 (0, 0))) := by rw [hW4]; exact HG.out.2.2.row _ _ _ _
      have b4 : Below w.heap.size w W4 := by rw [hW4]; exact below_setRow HB3.out HLE.out.2.2 _
      have HEND : Hid (DS W4 (min B w.heap.size) (.slice a n9 c) k q s ∧ Below w.heap.size w W4 ∧ k ≤ k + 1) := ⟨((HD0.out.below b4).mono (Nat.min_le_left _ _)), b4, by omega⟩
      clear hW4 b4 e1 e2 HSN HSF HSY HM HTN HTT dkn dky
      rw [ht] at CTT
      go_enter Try.func26, Try.ntmps26
      go_upto_region 1 with fail
      try rw [← hW1]
      try rw [← hW2]
      try rw [← hW3]
      try rw [← eR]
      try rw [← eP]
      try rw [← eA]
      clear hW1 hW2 hW3 eA eP eR
      go_wp2_with fail
      refine (CTN _).mono ?_
      rintro e w9 ⟨rfl, e1⟩
      rw [e1]
      clear e1 w9
      go_wp2_with fail
      refine (CTT _).mono ?_
      rintro e w9 ⟨rfl, e1⟩
      rw [e1]
      clear e1 w9
      go_upto_region 2 with fail
      go_wp2_with (first | refine wpList_load_row rfl 31 _ rfl hA rfl 31 (dc (.slice a n9 c) k q s.g) (0, 0) _ HG.out.1 Try.underlying31 rfl sizeD ?_ | refine wpList_store_row rfl 31 _ _ rfl hR (dc (.slice a n9 c) k q s.g) rfl rfl 31 _ HG.out.2.2 sizeD rfl (dc_one _ _ _ _ _ _) (Hid.out ?_))
      unfold Hid
      rw [← HW4.out]
      clear HW4
      go_wp2
      refine bodyPost_ret (retS rfl HP4.out rfl) rfl ?_
      exact ⟨_, _, _, rfl, HEND.out⟩
    | true =>
      obtain ⟨t0, t1⟩ := HTT.out ht
      rw [ht] at CTT
      by_cases hk : 0 < k
      · obtain ⟨q1, q2⟩ := dky hk
        have zk : decide (0 < k) = true := decide_eq_true hk
        by_cases hpn : p.n ≤ q.n
        · have zn : decide (p.n ≤ q.n) = true := decide_eq_true hpn
          have hm : mgo s p = false := by rw [HM.out, decide_eq_false (show ¬ s.n < p.n by omega)]; simp
          have es := HSN.out hm
          obtain ⟨e1, e2⟩ := es
          rw [e1, e2]
          obtain ⟨W4, hW4⟩ : ∃ W4, W4 = W3.setRow hR (dc (.slice a n9 c) k q s.g) := ⟨_, rfl⟩
          have HW4 : Hid (W4 = W3.setRow hR (dc (.slice a n9 c) k q s.g)) := hW4
          have HP4 : Hid (W4.heap[hR]? = some (.cells (dc (.slice a n9 c) k q s.g) 31 (0, 0))) := by rw [hW4]; exact HG.out.2.2.row _ _ _ _
          have b4 : Below w.heap.size w W4 := by rw [hW4]; exact below_setRow HB3.out HLE.out.2.2 _
          have HEND : Hid (DS W4 (min B w.heap.size) (.slice a n9 c) k q s ∧ Below w.heap.size w W4 ∧ k ≤ k + 1) := ⟨((HD0.out.below b4).mono (Nat.min_le_left _ _)), b4, by omega⟩
          clear hW4 b4 e1 e2 HSN HSF HSY HM HTN HTT dkn dky
          go_enter Try.func26, Try.ntmps26
          go_upto_region 1 with fail
          try rw [← hW1]
          try rw [← hW2]
          try rw [← hW3]
          try rw [← eR]
          try rw [← eP]
          try rw [← eA]
          clear hW1 hW2 hW3 eA eP eR
          go_wp2_with fail
          refine (CTN _).mono ?_
          rintro e w9 ⟨rfl, e1⟩
          rw [e1]
          clear e1 w9
          go_wp2_with fail
          refine (CTT _).mono ?_
          rintro e w9 ⟨rfl, e1⟩
          rw [e1]
          clear e1 w9
          go_upto_region 2 with fail
          go_wp2_with (first | refine wpList_load_row rfl 31 _ rfl hA rfl 31 (dc (.slice a n9 c) k q s.g) (0, 0) _ HG.out.1 Try.underlying31 rfl sizeD ?_ | refine wpList_store_row rfl 31 _ _ rfl hR (dc (.slice a n9 c) k q s.g) rfl rfl 31 _ HG.out.2.2 sizeD rfl (dc_one _ _ _ _ _ _) (Hid.out ?_))
          unfold Hid
          rw [← HW4.out]
          clear HW4
          go_wp2
          refine bodyPost_ret (retS rfl HP4.out rfl) rfl ?_
          exact ⟨_, _, _, rfl, HEND.out⟩
        · have zn : decide (p.n ≤ q.n) = false := decide_eq_false hpn
          by_cases hpt : p.t < q.t
          · have zt : decide (p.t < q.t) = true := decide_eq_true hpt
            have hm : mgo s p = false := by rw [HM.out, decide_eq_false (show ¬ s.t ≤ p.t by omega)]; simp
            have es := HSN.out hm
            obtain ⟨e1, e2⟩ := es
            rw [e1, e2]
            obtain ⟨W4, hW4⟩ : ∃ W4, W4 = W3.setRow hR (dc (.slice a n9 c) k q s.g) := ⟨_, rfl⟩
            have HW4 : Hid (W4 = W3.setRow hR (dc (.slice a n9 c) k q s.g)) := hW4
            have HP4 : Hid (W4.heap[hR]? = some (.cells (dc (.slice a n9 c) k q s.g) 31 (0, 0))) := by rw [hW4]; exact HG.out.2.2.row _ _ _ _
            have b4 : Below w.heap.size w W4 := by rw [hW4]; exact below_setRow HB3.out HLE.out.2.2 _
            have HEND : Hid (DS W4 (min B w.heap.size) (.slice a n9 c) k q s ∧ Below w.heap.size w W4 ∧ k ≤ k + 1) := ⟨((HD0.out.below b4).mono (Nat.min_le_left _ _)), b4, by omega⟩
            clear hW4 b4 e1 e2 HSN HSF HSY HM HTN HTT dkn dky
            go_enter Try.func26, Try.ntmps26
            go_upto_region 1 with fail
            try rw [← hW1]
            try rw [← hW2]
            try rw [← hW3]
            try rw [← eR]
            try rw [← eP]
            try rw [← eA]
            clear hW1 hW2 hW3 eA eP eR
            go_wp2_with fail
            refine (CTN _).mono ?_
            rintro e w9 ⟨rfl, e1⟩
            rw [e1]
            clear e1 w9
            go_wp2_with fail
            refine (CTT _).mono ?_
            rintro e w9 ⟨rfl, e1⟩
            rw [e1]
            clear e1 w9
            go_upto_region 2 with fail
            go_wp2_with (first | refine wpList_load_row rfl 31 _ rfl hA rfl 31 (dc (.slice a n9 c) k q s.g) (0, 0) _ HG.out.1 Try.underlying31 rfl sizeD ?_ | refine wpList_store_row rfl 31 _ _ rfl hR (dc (.slice a n9 c) k q s.g) rfl rfl 31 _ HG.out.2.2 sizeD rfl (dc_one _ _ _ _ _ _) (Hid.out ?_))
            unfold Hid
            rw [← HW4.out]
            clear HW4
            go_wp2
            refine bodyPost_ret (retS rfl HP4.out rfl) rfl ?_
            exact ⟨_, _, _, rfl, HEND.out⟩
          · have zt : decide (p.t < q.t) = false := decide_eq_false hpt
            have w1 : s.n < p.n := by omega
            have w2 : s.t ≤ p.t := by omega
            by_cases hz1 : p.z < 1
            · have zz : decide (p.z < 1) = true := decide_eq_true hz1
              have hm : mgo s p = false := by rw [HM.out, decide_eq_false (show ¬ 1 ≤ p.z by omega)]; simp
              have es := HSN.out hm
              obtain ⟨e1, e2⟩ := es
              rw [e1, e2]
              obtain ⟨W4, hW4⟩ : ∃ W4, W4 = W3.setRow hR (dc (.slice a n9 c) k q s.g) := ⟨_, rfl⟩
              have HW4 : Hid (W4 = W3.setRow hR (dc (.slice a n9 c) k q s.g)) := hW4
              have HP4 : Hid (W4.heap[hR]? = some (.cells (dc (.slice a n9 c) k q s.g) 31 (0, 0))) := by rw [hW4]; exact HG.out.2.2.row _ _ _ _
              have b4 : Below w.heap.size w W4 := by rw [hW4]; exact below_setRow HB3.out HLE.out.2.2 _
              have HEND : Hid (DS W4 (min B w.heap.size) (.slice a n9 c) k q s ∧ Below w.heap.size w W4 ∧ k ≤ k + 1) := ⟨((HD0.out.below b4).mono (Nat.min_le_left _ _)), b4, by omega⟩
              clear hW4 b4 e1 e2 HSN HSF HSY HM HTN HTT dkn dky
              go_enter Try.func26, Try.ntmps26
              go_upto_region 1 with fail
              try rw [← hW1]
              try rw [← hW2]
              try rw [← hW3]
              try rw [← eR]
              try rw [← eP]
              try rw [← eA]
              clear hW1 hW2 hW3 eA eP eR
              go_wp2_with fail
              refine (CTN _).mono ?_
              rintro e w9 ⟨rfl, e1⟩
              rw [e1]
              clear e1 w9
              go_wp2_with fail
              refine (CTT _).mono ?_
              rintro e w9 ⟨rfl, e1⟩
              rw [e1]
              clear e1 w9
              go_upto_region 2 with fail
              go_wp2_with (first | refine wpList_load_row rfl 31 _ rfl hA rfl 31 (dc (.slice a n9 c) k q s.g) (0, 0) _ HG.out.1 Try.underlying31 rfl sizeD ?_ | refine wpList_store_row rfl 31 _ _ rfl hR (dc (.slice a n9 c) k q s.g) rfl rfl 31 _ HG.out.2.2 sizeD rfl (dc_one _ _ _ _ _ _) (Hid.out ?_))
              unfold Hid
              rw [← HW4.out]
              clear HW4
              go_wp2
              refine bodyPost_ret (retS rfl HP4.out rfl) rfl ?_
              exact ⟨_, _, _, rfl, HEND.out⟩
            · have zz : decide (p.z < 1) = false := decide_eq_false hz1
              by_cases hz2 : 1200 < p.z
              · have zy : decide (1200 < p.z) = true := decide_eq_true hz2
                have hm : mgo s p = false := by rw [HM.out, decide_eq_false (show ¬ p.z ≤ 1200 by omega)]; simp
                have es := HSN.out hm
                obtain ⟨e1, e2⟩ := es
                rw [e1, e2]
                obtain ⟨W4, hW4⟩ : ∃ W4, W4 = W3.setRow hR (dc (.slice a n9 c) k q s.g) := ⟨_, rfl⟩
                have HW4 : Hid (W4 = W3.setRow hR (dc (.slice a n9 c) k q s.g)) := hW4
                have HP4 : Hid (W4.heap[hR]? = some (.cells (dc (.slice a n9 c) k q s.g) 31 (0, 0))) := by rw [hW4]; exact HG.out.2.2.row _ _ _ _
                have b4 : Below w.heap.size w W4 := by rw [hW4]; exact below_setRow HB3.out HLE.out.2.2 _
                have HEND : Hid (DS W4 (min B w.heap.size) (.slice a n9 c) k q s ∧ Below w.heap.size w W4 ∧ k ≤ k + 1) := ⟨((HD0.out.below b4).mono (Nat.min_le_left _ _)), b4, by omega⟩
                clear hW4 b4 e1 e2 HSN HSF HSY HM HTN HTT dkn dky
                go_enter Try.func26, Try.ntmps26
                go_upto_region 1 with fail
                try rw [← hW1]
                try rw [← hW2]
                try rw [← hW3]
                try rw [← eR]
                try rw [← eP]
                try rw [← eA]
                clear hW1 hW2 hW3 eA eP eR
                go_wp2_with fail
                refine (CTN _).mono ?_
                rintro e w9 ⟨rfl, e1⟩
                rw [e1]
                clear e1 w9
                go_wp2_with fail
                refine (CTT _).mono ?_
                rintro e w9 ⟨rfl, e1⟩
                rw [e1]
                clear e1 w9
                go_upto_region 2 with fail
                go_wp2_with (first | refine wpList_load_row rfl 31 _ rfl hA rfl 31 (dc (.slice a n9 c) k q s.g) (0, 0) _ HG.out.1 Try.underlying31 rfl sizeD ?_ | refine wpList_store_row rfl 31 _ _ rfl hR (dc (.slice a n9 c) k q s.g) rfl rfl 31 _ HG.out.2.2 sizeD rfl (dc_one _ _ _ _ _ _) (Hid.out ?_))
                unfold Hid
                rw [← HW4.out]
                clear HW4
                go_wp2
                refine bodyPost_ret (retS rfl HP4.out rfl) rfl ?_
                exact ⟨_, _, _, rfl, HEND.out⟩
              · have zy : decide (1200 < p.z) = false := decide_eq_false hz2
                have hm : mgo s p = true := by rw [HM.out, hn, ht, decide_eq_true w1, decide_eq_true w2, decide_eq_true (show 1 ≤ p.z by omega), decide_eq_true (show p.z ≤ 1200 by omega)]; rfl
                by_cases hf : n9 = 1024
                · have zf : (1024 : Int) ≤ (n9 : Int) := by omega
                  have es := HSF.out hm hf
                  obtain ⟨e1, e2⟩ := es
                  rw [e1, e2]
                  obtain ⟨W4, hW4⟩ : ∃ W4, W4 = W3.setRow hR (dc (.slice a n9 c) k q s.g) := ⟨_, rfl⟩
                  have HW4 : Hid (W4 = W3.setRow hR (dc (.slice a n9 c) k q s.g)) := hW4
                  have HP4 : Hid (W4.heap[hR]? = some (.cells (dc (.slice a n9 c) k q s.g) 31 (0, 0))) := by rw [hW4]; exact HG.out.2.2.row _ _ _ _
                  have b4 : Below w.heap.size w W4 := by rw [hW4]; exact below_setRow HB3.out HLE.out.2.2 _
                  have HEND : Hid (DS W4 (min B w.heap.size) (.slice a n9 c) k q s ∧ Below w.heap.size w W4 ∧ k ≤ k + 1) := ⟨((HD0.out.below b4).mono (Nat.min_le_left _ _)), b4, by omega⟩
                  clear hW4 b4 e1 e2 HSN HSF HSY HM HTN HTT dkn dky
                  clear hf hm
                  go_enter Try.func26, Try.ntmps26
                  go_upto_region 1 with fail
                  try rw [← hW1]
                  try rw [← hW2]
                  try rw [← hW3]
                  try rw [← eR]
                  try rw [← eP]
                  try rw [← eA]
                  clear hW1 hW2 hW3 eA eP eR
                  go_wp2_with fail
                  refine (CTN _).mono ?_
                  rintro e w9 ⟨rfl, e1⟩
                  rw [e1]
                  clear e1 w9
                  go_wp2_with fail
                  refine (CTT _).mono ?_
                  rintro e w9 ⟨rfl, e1⟩
                  rw [e1]
                  clear e1 w9
                  go_upto_region 4 with fail
                  go_wp2_with (first | refine wpList_load_row rfl 31 _ rfl hA rfl 31 (dc (.slice a n9 c) k q s.g) (0, 0) _ HG.out.1 Try.underlying31 rfl sizeD ?_ | refine wpList_store_row rfl 31 _ _ rfl hR (dc (.slice a n9 c) k q s.g) rfl rfl 31 _ HG.out.2.2 sizeD rfl (dc_one _ _ _ _ _ _) (Hid.out ?_))
                  unfold Hid
                  rw [← HW4.out]
                  clear HW4
                  go_wp2
                  refine bodyPost_ret (retS rfl HP4.out rfl) rfl ?_
                  exact ⟨_, _, _, rfl, HEND.out⟩
                · have zf : ¬ (1024 : Int) ≤ (n9 : Int) := by omega
                  obtain ⟨e1, e2⟩ := HSY.out hm hf
                  rw [e1, e2]
                  have DKN : Hid (DK (k + 1) p ⟨s.o ++ [p], p.n, p.t, s.g⟩) := ⟨by omega, by omega, fun e => by omega, fun _ => ⟨rfl, rfl⟩⟩
                  have x1 : IntKind.i64.wrap (k + 1) = k + 1 := by rw [IntKind.wrap_i64]; omega
                  clear e1 e2 HSN HSF HSY HM HTN HTT dkn dky hm
                  have HD : Hid (∀ W, Below W3.heap.size W3 W → DC W hA (.slice a n9 c) k q s.g ∧ PC W hP 0 p ∧ PB W hP 29 p ∧ PS W (.slice a n9 c) s.o ∧ DB W hA (.slice a n9 c) k q s.g ∧ DB W hR (.slice none 0 0) 0 pk0 0 ∧ Below w.heap.size w W) := fun W hb => ⟨(HG.out.1.kept hb).dc, (HG.out.2.1.kept hb).pc, HG.out.2.1.kept hb, (by have := HDS.out.rs.is.kept hb; exact this), HG.out.1.kept hb, HG.out.2.2.kept hb, HB3.out.trans (hb.mono HB3.out.size)⟩
                  go_enter Try.func26, Try.ntmps26
                  go_upto_region 1 with fail
                  try rw [← hW1]
                  try rw [← hW2]
                  try rw [← hW3]
                  try rw [← eR]
                  try rw [← eP]
                  try rw [← eA]
                  clear hW1 hW2 hW3 eA eP eR
                  go_wp2_with fail
                  refine (CTN _).mono ?_
                  rintro e w9 ⟨rfl, e1⟩
                  rw [e1]
                  clear e1 w9
                  go_wp2_with fail
                  refine (CTT _).mono ?_
                  rintro e w9 ⟨rfl, e1⟩
                  rw [e1]
                  clear e1 w9
                  go_upto_region 6 with fail
                  go_cut [] (fun wx => ∃ v', DB wx hA v' k q s.g ∧ RP 29 wx w.heap.size v' (s.o ++ [p]) ∧ PB wx hP 29 p ∧ DB wx hR (.slice none 0 0) 0 pk0 0 ∧ Below w.heap.size w wx)
                  case first =>
                    refine wp_region_held_drew (S := fun _ => True) (by kernel_rfl) trivial (fun _ => ?_)
                    refine wpAnyH_name (fun u0 hu0 => ?_)
                    have bu0 : Below W3.heap.size W3 u0 := by rw [hu0.out]; exact (Below.refl _ _).drew
                    have Du0 : Below W3.heap.size W3 u0 := by rw [hu0.out]; exact (Below.refl _ _).drew
                    refine wpAnyH_take (i := 0) (oi := { dst := some 54, op := Op.move (Operand.tmp 6), type := 27, pos := "ref.go:48", after := #[], guard := none }) (v := ?va1) rfl (by kernel_rfl) (by kernel_rfl) (by kernel_rfl) (fun _ _ _ h => h) (Or.inl ⟨by rfl, ?ya1⟩) trivial ?ra1
                    case ya1 => (intro w hSw; go_simp; try with_reducible rfl)
                    try simp only [Act.put, List.setIfInBounds_toArray, List.set_cons_zero, List.set_cons_succ]
                    refine wpAnyH_take (i := 1) (oi := { dst := some 55, op := Op.fieldAddr 31 (Operand.tmp 2) 0, type := 0, pos := "ref.go:48", after := #[], guard := none }) (v := ?va2) rfl (by kernel_rfl) (by kernel_rfl) (by kernel_rfl) (fun _ _ _ h => h) (Or.inl ⟨by rfl, ?ya2⟩) trivial ?ra2
                    case ya2 => (intro w hSw; go_simp; try with_reducible rfl)
                    try simp only [Act.put, List.setIfInBounds_toArray, List.set_cons_zero, List.set_cons_succ]
                    refine wpAnyH_ready (rs := [2, 4]) (by kernel_rfl) (by simp) ?_
                    refine AllReadyH.cons (o := { dst := some 56, op := Op.load 27 (Operand.tmp 55), type := 27, pos := "ref.go:48", after := #[{ on := 1, ground := Ground.data }], guard := none }) rfl (fun KK hKK => ?_) ?_
                    · have xl := (HD.out u0 Du0).1.c0
                      go_simp
                      refine hKK.out _ _ trivial (fun _ => ?_)
                      clear hKK KK
                      try simp only [Act.put, List.setIfInBounds_toArray, List.set_cons_zero, List.set_cons_succ]
                      refine wpAnyH_name (fun u3 hu3 => ?_)
                      have Du3 := Du0
                      rw [← hu3.out] at Du3
                      try rw [← hu3.out] at gB
                      refine wpAnyH_ready (rs := [3, 4]) (by kernel_rfl) (by simp) ?_
                      refine AllReadyH.cons (o := { dst := some 57, op := Op.call { callee := Callee.builtin Builtin.append, args := #[Operand.tmp 54, Operand.tmp 56], argTypes := #[27, 27] }, type := 27, pos := "ref.go:48", after := #[{ on := 0, ground := Ground.data }, { on := 2, ground := Ground.data }], guard := none }) rfl (fun KK hKK => ?_) ?_
                      · refine wp_append_pks _ _ rfl W3.heap.size (.slice none 0 0) [] (by simp [Act.eval]) (RP.nil _ _ _) (.slice a n9 c) s.o (by simp [Act.eval]) (HD.out u3 Du3).2.2.2.1 (by simp only [List.length_nil]; have := HN9.out; omega) Du3.size ?_
                        intro v3 u4' r3 g3
                        refine hKK.out _ _ trivial (fun _ => ?_)
                        clear hKK KK
                        try simp only [Act.put, List.setIfInBounds_toArray, List.set_cons_zero, List.set_cons_succ]
                        refine wpAnyH_name (fun u4 hu4 => ?_)
                        rw [← hu4.out] at r3 g3
                        have Du4 : Below W3.heap.size W3 u4 := grown_below Du3 Du3.size g3 (fun i hi => by cases hi)
                        try replace gB : PB u4 _ 29 p := (g3.block _ (blk_lt gB) (fun e => by cases e)).trans gB
                        simp only [List.nil_append] at r3
                        obtain ⟨a3, c3, rfl, -⟩ := id r3.is.shape
                        rw [← HN9.out] at r3
                        refine wpAnyH_ready (rs := [4]) (by kernel_rfl) (by simp) ?_
                        refine AllReadyH.cons (o := { dst := some 58, op := Op.load 29 (Operand.tmp 3), type := 29, pos := "ref.go:48", after := #[], guard := none }) rfl (fun KK hKK => ?_) ?_
                        · obtain ⟨y0, y1, y2, y3⟩ := (HD.out u4 Du4).2.1
                          simp only [Nat.zero_add] at y0 y1 y2 y3
                          go_simp
                          refine hKK.out _ _ trivial (fun _ => ?_)
                          clear hKK KK
                          try simp only [Act.put, List.setIfInBounds_toArray, List.set_cons_zero, List.set_cons_succ]
                          refine wpAnyH_name (fun u5 hu5 => ?_)
                          have Du5 := Du4
                          rw [← hu5.out] at Du5
                          try rw [← hu5.out] at r3
                          refine wpAnyH_ready (rs := [5]) (by kernel_rfl) (by simp) ?_
                          refine AllReadyH.cons (o := { dst := some 59, op := Op.buildSlice 27 1 #[(0, Operand.tmp 58)], type := 27, pos := "ref.go:48", after := #[{ on := 4, ground := Ground.data }], guard := none }) rfl (fun KK hKK => ?_) ?_
                          · go_simp
                            refine hKK.out _ _ trivial (fun _ => ?_)
                            clear hKK KK
                            try simp only [Act.put, List.setIfInBounds_toArray, List.set_cons_zero, List.set_cons_succ]
                            refine wpAnyH_name (fun u6 hu6 => ?_)
                            have Du6 : Below W3.heap.size W3 u6 := by rw [hu6.out]; exact Du5.trans ((al_b _ _).mono Du5.size)
                            have gB : PB u6 u5.heap.size 29 p := by rw [hu6.out]; exact PB.new _ _ _
                            try replace r3 : RP 29 u6 W3.heap.size (.slice a3 n9 c3) s.o := by rw [hu6.out]; exact r3.below (al_b _ _)
                            refine wpAnyH_ready (rs := [6]) (by kernel_rfl) (by simp) ?_
                            refine AllReadyH.cons (o := { dst := some 60, op := Op.call { callee := Callee.builtin Builtin.append, args := #[Operand.tmp 57, Operand.tmp 59], argTypes := #[27, 27] }, type := 27, pos := "ref.go:48", after := #[{ on := 3, ground := Ground.data }, { on := 5, ground := Ground.data }, { on := 3, ground := Ground.chain }], guard := none }) rfl (fun KK hKK => ?_) ?_
                            · refine wp_append_pks _ _ rfl W3.heap.size (.slice a3 n9 c3) s.o (by first | (simp [Act.eval]; done) | (simp [Act.eval, HN9.out])) r3 (.slice (some ⟨u5.heap.size, 0, none⟩) 1 1) [p] (by simp [Act.eval]) gB.ps (by rw [← HN9.out]; simp only [List.length_singleton]; omega) Du6.size ?_
                              intro v4 u7' r4 g4
                              refine hKK.out _ _ trivial (fun _ => ?_)
                              clear hKK KK
                              try simp only [Act.put, List.setIfInBounds_toArray, List.set_cons_zero, List.set_cons_succ]
                              refine wpAnyH_name (fun u7 hu7 => ?_)
                              rw [← hu7.out] at r4 g4
                              obtain ⟨a4, c4, rfl, -⟩ := id r4.is.shape
                              generalize hz4 : (s.o ++ [p]).length = n4 at *
                              clear hz4
                              have Du7 : Below W3.heap.size W3 u7 := grown_below Du6 Du6.size g4 (fun i hi => r3.base hi)
                              obtain ⟨q0, -, -, -, -, -, -, f0, -, -, -, -, -, -⟩ := (HD.out u7 Du7).1
                              refine wpAnyH_take (i := 7) (oi := { dst := some 61, op := Op.fieldAddr 31 (Operand.tmp 2) 0, type := 0, pos := "ref.go:48", after := #[{ on := 0, ground := Ground.phase }, { on := 1, ground := Ground.phase }, { on := 2, ground := Ground.phase }, { on := 3, ground := Ground.phase }, { on := 4, ground := Ground.phase }, { on := 5, ground := Ground.phase }, { on := 6, ground := Ground.phase }], guard := none }) (v := ?va8) rfl (by kernel_rfl) (by kernel_rfl) (by kernel_rfl) (fun _ _ _ h => h) (Or.inl ⟨by rfl, ?ya8⟩) trivial ?ra8
                              case ya8 => (intro w hSw; go_simp; try with_reducible rfl)
                              try simp only [Act.put, List.setIfInBounds_toArray, List.set_cons_zero, List.set_cons_succ]
                              refine wpAnyH_ready (rs := [8]) (by kernel_rfl) (by simp) ?_
                              refine AllReadyH.cons (o := { dst := none, op := Op.store 27 (Operand.tmp 61) (Operand.tmp 60), type := 0, pos := "ref.go:48", after := #[{ on := 7, ground := Ground.data }, { on := 6, ground := Ground.data }, { on := 6, ground := Ground.chain }, { on := 0, ground := Ground.phase }, { on := 1, ground := Ground.phase }, { on := 2, ground := Ground.phase }, { on := 3, ground := Ground.phase }, { on := 4, ground := Ground.phase }, { on := 5, ground := Ground.phase }, { on := 6, ground := Ground.phase }], guard := none }) rfl (fun KK hKK => ?_) ?_
                              · go_simp
                                refine hKK.out _ _ trivial (fun _ => ?_)
                                clear hKK KK
                                try simp only [Act.put]
                                refine wpAnyH_name (fun u9 hu9 => ?_)
                                have Z1 : DB u9 hA (.slice a4 n4 c4) k q s.g := by rw [hu9.out]; exact (HD.out u7 Du7).2.2.2.2.1.set0 _
                                have nA : Value.ownBlock (.slice a4 n4 c4) ≠ some hA := fun e => by have h1 := r4.base e; have h2 := blk_lt HG.out.1; omega
                                have hpA : hP ≠ hA := by have := HLT.out; omega
                                have hrA : hR ≠ hA := by have := HLT.out; omega
                                have Z2 : RP 29 u9 w.heap.size (.slice a4 n4 c4) (s.o ++ [p]) := by rw [hu9.out]; exact (r4.mono HB3.out.size).set nA
                                have Z3 : PB u9 hP 29 p := by rw [hu9.out]; exact (Below.heap_setCell _ _ _ _ hpA).trans (HD.out u7 Du7).2.2.1
                                have Z4 : DB u9 hR (.slice none 0 0) 0 pk0 0 := by rw [hu9.out]; exact (Below.heap_setCell _ _ _ _ hrA).trans (HD.out u7 Du7).2.2.2.2.2.1
                                have Z5 : Below w.heap.size w u9 := by rw [hu9.out]; exact ((HD.out u7 Du7).2.2.2.2.2.2).setCell HLE.out.1 _
                                refine wpAnyH_done (by kernel_rfl) ?_ _
                                go_wp2_with fail
                                go_meet
                                exact ⟨_, Z1, Z2, Z3, Z4, Z5⟩
                              exact AllReadyH.nil
                            exact AllReadyH.nil
                          exact AllReadyH.nil
                        exact AllReadyH.nil
                      refine AllReadyH.cons (o := { dst := some 58, op := Op.load 29 (Operand.tmp 3), type := 29, pos := "ref.go:48", after := #[], guard := none }) rfl (fun KK hKK => ?_) ?_
                      · obtain ⟨y0, y1, y2, y3⟩ := (HD.out u3 Du3).2.1
                        simp only [Nat.zero_add] at y0 y1 y2 y3
                        go_simp
                        refine hKK.out _ _ trivial (fun _ => ?_)
                        clear hKK KK
                        try simp only [Act.put, List.setIfInBounds_toArray, List.set_cons_zero, List.set_cons_succ]
                        refine wpAnyH_name (fun u10 hu10 => ?_)
                        have Du10 := Du3
                        rw [← hu10.out] at Du10
                        try rw [← hu10.out] at r3
                        refine wpAnyH_ready (rs := [3, 5]) (by kernel_rfl) (by simp) ?_
                        refine AllReadyH.cons (o := { dst := some 57, op := Op.call { callee := Callee.builtin Builtin.append, args := #[Operand.tmp 54, Operand.tmp 56], argTypes := #[27, 27] }, type := 27, pos := "ref.go:48", after := #[{ on := 0, ground := Ground.data }, { on := 2, ground := Ground.data }], guard := none }) rfl (fun KK hKK => ?_) ?_
                        · refine wp_append_pks _ _ rfl W3.heap.size (.slice none 0 0) [] (by simp [Act.eval]) (RP.nil _ _ _) (.slice a n9 c) s.o (by simp [Act.eval]) (HD.out u10 Du10).2.2.2.1 (by simp only [List.length_nil]; have := HN9.out; omega) Du10.size ?_
                          intro v3 u11' r3 g3
                          refine hKK.out _ _ trivial (fun _ => ?_)
                          clear hKK KK
                          try simp only [Act.put, List.setIfInBounds_toArray, List.set_cons_zero, List.set_cons_succ]
                          refine wpAnyH_name (fun u11 hu11 => ?_)
                          rw [← hu11.out] at r3 g3
                          have Du11 : Below W3.heap.size W3 u11 := grown_below Du10 Du10.size g3 (fun i hi => by cases hi)
                          try replace gB : PB u11 _ 29 p := (g3.block _ (blk_lt gB) (fun e => by cases e)).trans gB
                          simp only [List.nil_append] at r3
                          obtain ⟨a3, c3, rfl, -⟩ := id r3.is.shape
                          rw [← HN9.out] at r3
                          refine wpAnyH_ready (rs := [5]) (by kernel_rfl) (by simp) ?_
                          refine AllReadyH.cons (o := { dst := some 59, op := Op.buildSlice 27 1 #[(0, Operand.tmp 58)], type := 27, pos := "ref.go:48", after := #[{ on := 4, ground := Ground.data }], guard := none }) rfl (fun KK hKK => ?_) ?_
                          · go_simp
                            refine hKK.out _ _ trivial (fun _ => ?_)
                            clear hKK KK
                            try simp only [Act.put, List.setIfInBounds_toArray, List.set_cons_zero, List.set_cons_succ]
                            refine wpAnyH_name (fun u12 hu12 => ?_)
                            have Du12 : Below W3.heap.size W3 u12 := by rw [hu12.out]; exact Du11.trans ((al_b _ _).mono Du11.size)
                            have gB : PB u12 u11.heap.size 29 p := by rw [hu12.out]; exact PB.new _ _ _
                            try replace r3 : RP 29 u12 W3.heap.size (.slice a3 n9 c3) s.o := by rw [hu12.out]; exact r3.below (al_b _ _)
                            refine wpAnyH_ready (rs := [6]) (by kernel_rfl) (by simp) ?_
                            refine AllReadyH.cons (o := { dst := some 60, op := Op.call { callee := Callee.builtin Builtin.append, args := #[Operand.tmp 57, Operand.tmp 59], argTypes := #[27, 27] }, type := 27, pos := "ref.go:48", after := #[{ on := 3, ground := Ground.data }, { on := 5, ground := Ground.data }, { on := 3, ground := Ground.chain }], guard := none }) rfl (fun KK hKK => ?_) ?_
                            · refine wp_append_pks _ _ rfl W3.heap.size (.slice a3 n9 c3) s.o (by first | (simp [Act.eval]; done) | (simp [Act.eval, HN9.out])) r3 (.slice (some ⟨u11.heap.size, 0, none⟩) 1 1) [p] (by simp [Act.eval]) gB.ps (by rw [← HN9.out]; simp only [List.length_singleton]; omega) Du12.size ?_
                              intro v4 u13' r4 g4
                              refine hKK.out _ _ trivial (fun _ => ?_)
                              clear hKK KK
                              try simp only [Act.put, List.setIfInBounds_toArray, List.set_cons_zero, List.set_cons_succ]
                              refine wpAnyH_name (fun u13 hu13 => ?_)
                              rw [← hu13.out] at r4 g4
                              obtain ⟨a4, c4, rfl, -⟩ := id r4.is.shape
                              generalize hz4 : (s.o ++ [p]).length = n4 at *
                              clear hz4
                              have Du13 : Below W3.heap.size W3 u13 := grown_below Du12 Du12.size g4 (fun i hi => r3.base hi)
                              obtain ⟨q0, -, -, -, -, -, -, f0, -, -, -, -, -, -⟩ := (HD.out u13 Du13).1
                              refine wpAnyH_take (i := 7) (oi := { dst := some 61, op := Op.fieldAddr 31 (Operand.tmp 2) 0, type := 0, pos := "ref.go:48", after := #[{ on := 0, ground := Ground.phase }, { on := 1, ground := Ground.phase }, { on := 2, ground := Ground.phase }, { on := 3, ground := Ground.phase }, { on := 4, ground := Ground.phase }, { on := 5, ground := Ground.phase }, { on := 6, ground := Ground.phase }], guard := none }) (v := ?va14) rfl (by kernel_rfl) (by kernel_rfl) (by kernel_rfl) (fun _ _ _ h => h) (Or.inl ⟨by rfl, ?ya14⟩) trivial ?ra14
                              case ya14 => (intro w hSw; go_simp; try with_reducible rfl)
                              try simp only [Act.put, List.setIfInBounds_toArray, List.set_cons_zero, List.set_cons_succ]
                              refine wpAnyH_ready (rs := [8]) (by kernel_rfl) (by simp) ?_
                              refine AllReadyH.cons (o := { dst := none, op := Op.store 27 (Operand.tmp 61) (Operand.tmp 60), type := 0, pos := "ref.go:48", after := #[{ on := 7, ground := Ground.data }, { on := 6, ground := Ground.data }, { on := 6, ground := Ground.chain }, { on := 0, ground := Ground.phase }, { on := 1, ground := Ground.phase }, { on := 2, ground := Ground.phase }, { on := 3, ground := Ground.phase }, { on := 4, ground := Ground.phase }, { on := 5, ground := Ground.phase }, { on := 6, ground := Ground.phase }], guard := none }) rfl (fun KK hKK => ?_) ?_
                              · go_simp
                                refine hKK.out _ _ trivial (fun _ => ?_)
                                clear hKK KK
                                try simp only [Act.put]
                                refine wpAnyH_name (fun u15 hu15 => ?_)
                                have Z1 : DB u15 hA (.slice a4 n4 c4) k q s.g := by rw [hu15.out]; exact (HD.out u13 Du13).2.2.2.2.1.set0 _
                                have nA : Value.ownBlock (.slice a4 n4 c4) ≠ some hA := fun e => by have h1 := r4.base e; have h2 := blk_lt HG.out.1; omega
                                have hpA : hP ≠ hA := by have := HLT.out; omega
                                have hrA : hR ≠ hA := by have := HLT.out; omega
                                have Z2 : RP 29 u15 w.heap.size (.slice a4 n4 c4) (s.o ++ [p]) := by rw [hu15.out]; exact (r4.mono HB3.out.size).set nA
                                have Z3 : PB u15 hP 29 p := by rw [hu15.out]; exact (Below.heap_setCell _ _ _ _ hpA).trans (HD.out u13 Du13).2.2.1
                                have Z4 : DB u15 hR (.slice none 0 0) 0 pk0 0 := by rw [hu15.out]; exact (Below.heap_setCell _ _ _ _ hrA).trans (HD.out u13 Du13).2.2.2.2.2.1
                                have Z5 : Below w.heap.size w u15 := by rw [hu15.out]; exact ((HD.out u13 Du13).2.2.2.2.2.2).setCell HLE.out.1 _
                                refine wpAnyH_done (by kernel_rfl) ?_ _
                                go_wp2_with fail
                                go_meet
                                exact ⟨_, Z1, Z2, Z3, Z4, Z5⟩
                              exact AllReadyH.nil
                            exact AllReadyH.nil
                          exact AllReadyH.nil
                        refine AllReadyH.cons (o := { dst := some 59, op := Op.buildSlice 27 1 #[(0, Operand.tmp 58)], type := 27, pos := "ref.go:48", after := #[{ on := 4, ground := Ground.data }], guard := none }) rfl (fun KK hKK => ?_) ?_
                        · go_simp
                          refine hKK.out _ _ trivial (fun _ => ?_)
                          clear hKK KK
                          try simp only [Act.put, List.setIfInBounds_toArray, List.set_cons_zero, List.set_cons_succ]
                          refine wpAnyH_name (fun u16 hu16 => ?_)
                          have Du16 : Below W3.heap.size W3 u16 := by rw [hu16.out]; exact Du10.trans ((al_b _ _).mono Du10.size)
                          have gB : PB u16 u10.heap.size 29 p := by rw [hu16.out]; exact PB.new _ _ _
                          try replace r3 : RP 29 u16 W3.heap.size (.slice a3 n9 c3) s.o := by rw [hu16.out]; exact r3.below (al_b _ _)
                          refine wpAnyH_ready (rs := [3]) (by kernel_rfl) (by simp) ?_
                          refine AllReadyH.cons (o := { dst := some 57, op := Op.call { callee := Callee.builtin Builtin.append, args := #[Operand.tmp 54, Operand.tmp 56], argTypes := #[27, 27] }, type := 27, pos := "ref.go:48", after := #[{ on := 0, ground := Ground.data }, { on := 2, ground := Ground.data }], guard := none }) rfl (fun KK hKK => ?_) ?_
                          · refine wp_append_pks _ _ rfl W3.heap.size (.slice none 0 0) [] (by simp [Act.eval]) (RP.nil _ _ _) (.slice a n9 c) s.o (by simp [Act.eval]) (HD.out u16 Du16).2.2.2.1 (by simp only [List.length_nil]; have := HN9.out; omega) Du16.size ?_
                            intro v3 u17' r3 g3
                            refine hKK.out _ _ trivial (fun _ => ?_)
                            clear hKK KK
                            try simp only [Act.put, List.setIfInBounds_toArray, List.set_cons_zero, List.set_cons_succ]
                            refine wpAnyH_name (fun u17 hu17 => ?_)
                            rw [← hu17.out] at r3 g3
                            have Du17 : Below W3.heap.size W3 u17 := grown_below Du16 Du16.size g3 (fun i hi => by cases hi)
                            try replace gB : PB u17 _ 29 p := (g3.block _ (blk_lt gB) (fun e => by cases e)).trans gB
                            simp only [List.nil_append] at r3
                            obtain ⟨a3, c3, rfl, -⟩ := id r3.is.shape
                            rw [← HN9.out] at r3
                            refine wpAnyH_ready (rs := [6]) (by kernel_rfl) (by simp) ?_
                            refine AllReadyH.cons (o := { dst := some 60, op := Op.call { callee := Callee.builtin Builtin.append, args := #[Operand.tmp 57, Operand.tmp 59], argTypes := #[27, 27] }, type := 27, pos := "ref.go:48", after := #[{ on := 3, ground := Ground.data }, { on := 5, ground := Ground.data }, { on := 3, ground := Ground.chain }], guard := none }) rfl (fun KK hKK => ?_) ?_
                            · refine wp_append_pks _ _ rfl W3.heap.size (.slice a3 n9 c3) s.o (by first | (simp [Act.eval]; done) | (simp [Act.eval, HN9.out])) r3 (.slice (some ⟨u10.heap.size, 0, none⟩) 1 1) [p] (by simp [Act.eval]) gB.ps (by rw [← HN9.out]; simp only [List.length_singleton]; omega) Du17.size ?_
                              intro v4 u18' r4 g4
                              refine hKK.out _ _ trivial (fun _ => ?_)
                              clear hKK KK
                              try simp only [Act.put, List.setIfInBounds_toArray, List.set_cons_zero, List.set_cons_succ]
                              refine wpAnyH_name (fun u18 hu18 => ?_)
                              rw [← hu18.out] at r4 g4
                              obtain ⟨a4, c4, rfl, -⟩ := id r4.is.shape
                              generalize hz4 : (s.o ++ [p]).length = n4 at *
                              clear hz4
                              have Du18 : Below W3.heap.size W3 u18 := grown_below Du17 Du17.size g4 (fun i hi => r3.base hi)
                              obtain ⟨q0, -, -, -, -, -, -, f0, -, -, -, -, -, -⟩ := (HD.out u18 Du18).1
                              refine wpAnyH_take (i := 7) (oi := { dst := some 61, op := Op.fieldAddr 31 (Operand.tmp 2) 0, type := 0, pos := "ref.go:48", after := #[{ on := 0, ground := Ground.phase }, { on := 1, ground := Ground.phase }, { on := 2, ground := Ground.phase }, { on := 3, ground := Ground.phase }, { on := 4, ground := Ground.phase }, { on := 5, ground := Ground.phase }, { on := 6, ground := Ground.phase }], guard := none }) (v := ?va19) rfl (by kernel_rfl) (by kernel_rfl) (by kernel_rfl) (fun _ _ _ h => h) (Or.inl ⟨by rfl, ?ya19⟩) trivial ?ra19
                              case ya19 => (intro w hSw; go_simp; try with_reducible rfl)
                              try simp only [Act.put, List.setIfInBounds_toArray, List.set_cons_zero, List.set_cons_succ]
                              refine wpAnyH_ready (rs := [8]) (by kernel_rfl) (by simp) ?_
                              refine AllReadyH.cons (o := { dst := none, op := Op.store 27 (Operand.tmp 61) (Operand.tmp 60), type := 0, pos := "ref.go:48", after := #[{ on := 7, ground := Ground.data }, { on := 6, ground := Ground.data }, { on := 6, ground := Ground.chain }, { on := 0, ground := Ground.phase }, { on := 1, ground := Ground.phase }, { on := 2, ground := Ground.phase }, { on := 3, ground := Ground.phase }, { on := 4, ground := Ground.phase }, { on := 5, ground := Ground.phase }, { on := 6, ground := Ground.phase }], guard := none }) rfl (fun KK hKK => ?_) ?_
                              · go_simp
                                refine hKK.out _ _ trivial (fun _ => ?_)
                                clear hKK KK
                                try simp only [Act.put]
                                refine wpAnyH_name (fun u20 hu20 => ?_)
                                have Z1 : DB u20 hA (.slice a4 n4 c4) k q s.g := by rw [hu20.out]; exact (HD.out u18 Du18).2.2.2.2.1.set0 _
                                have nA : Value.ownBlock (.slice a4 n4 c4) ≠ some hA := fun e => by have h1 := r4.base e; have h2 := blk_lt HG.out.1; omega
                                have hpA : hP ≠ hA := by have := HLT.out; omega
                                have hrA : hR ≠ hA := by have := HLT.out; omega
                                have Z2 : RP 29 u20 w.heap.size (.slice a4 n4 c4) (s.o ++ [p]) := by rw [hu20.out]; exact (r4.mono HB3.out.size).set nA
                                have Z3 : PB u20 hP 29 p := by rw [hu20.out]; exact (Below.heap_setCell _ _ _ _ hpA).trans (HD.out u18 Du18).2.2.1
                                have Z4 : DB u20 hR (.slice none 0 0) 0 pk0 0 := by rw [hu20.out]; exact (Below.heap_setCell _ _ _ _ hrA).trans (HD.out u18 Du18).2.2.2.2.2.1
                                have Z5 : Below w.heap.size w u20 := by rw [hu20.out]; exact ((HD.out u18 Du18).2.2.2.2.2.2).setCell HLE.out.1 _
                                refine wpAnyH_done (by kernel_rfl) ?_ _
                                go_wp2_with fail
                                go_meet
                                exact ⟨_, Z1, Z2, Z3, Z4, Z5⟩
                              exact AllReadyH.nil
                            exact AllReadyH.nil
                          exact AllReadyH.nil
                        exact AllReadyH.nil
                      exact AllReadyH.nil
                    refine AllReadyH.cons (o := { dst := some 58, op := Op.load 29 (Operand.tmp 3), type := 29, pos := "ref.go:48", after := #[], guard := none }) rfl (fun KK hKK => ?_) ?_
                    · obtain ⟨y0, y1, y2, y3⟩ := (HD.out u0 Du0).2.1
                      simp only [Nat.zero_add] at y0 y1 y2 y3
                      go_simp
                      refine hKK.out _ _ trivial (fun _ => ?_)
                      clear hKK KK
                      try simp only [Act.put, List.setIfInBounds_toArray, List.set_cons_zero, List.set_cons_succ]
                      refine wpAnyH_name (fun u21 hu21 => ?_)
                      have Du21 := Du0
                      rw [← hu21.out] at Du21
                      try rw [← hu21.out] at r3
                      refine wpAnyH_ready (rs := [2, 5]) (by kernel_rfl) (by simp) ?_
                      refine AllReadyH.cons (o := { dst := some 56, op := Op.load 27 (Operand.tmp 55), type := 27, pos := "ref.go:48", after := #[{ on := 1, ground := Ground.data }], guard := none }) rfl (fun KK hKK => ?_) ?_
                      · have xl := (HD.out u21 Du21).1.c0
                        go_simp
                        refine hKK.out _ _ trivial (fun _ => ?_)
                        clear hKK KK
                        try simp only [Act.put, List.setIfInBounds_toArray, List.set_cons_zero, List.set_cons_succ]
                        refine wpAnyH_name (fun u22 hu22 => ?_)
                        have Du22 := Du21
                        rw [← hu22.out] at Du22
                        try rw [← hu22.out] at gB
                        refine wpAnyH_ready (rs := [3, 5]) (by kernel_rfl) (by simp) ?_
                        refine AllReadyH.cons (o := { dst := some 57, op := Op.call { callee := Callee.builtin Builtin.append, args := #[Operand.tmp 54, Operand.tmp 56], argTypes := #[27, 27] }, type := 27, pos := "ref.go:48", after := #[{ on := 0, ground := Ground.data }, { on := 2, ground := Ground.data }], guard := none }) rfl (fun KK hKK => ?_) ?_
                        · refine wp_append_pks _ _ rfl W3.heap.size (.slice none 0 0) [] (by simp [Act.eval]) (RP.nil _ _ _) (.slice a n9 c) s.o (by simp [Act.eval]) (HD.out u22 Du22).2.2.2.1 (by simp only [List.length_nil]; have := HN9.out; omega) Du22.size ?_
                          intro v3 u23' r3 g3
                          refine hKK.out _ _ trivial (fun _ => ?_)
                          clear hKK KK
                          try simp only [Act.put, List.setIfInBounds_toArray, List.set_cons_zero, List.set_cons_succ]
                          refine wpAnyH_name (fun u23 hu23 => ?_)
                          rw [← hu23.out] at r3 g3
                          have Du23 : Below W3.heap.size W3 u23 := grown_below Du22 Du22.size g3 (fun i hi => by cases hi)
                          try replace gB : PB u23 _ 29 p := (g3.block _ (blk_lt gB) (fun e => by cases e)).trans gB
                          simp only [List.nil_append] at r3
                          obtain ⟨a3, c3, rfl, -⟩ := id r3.is.shape
                          rw [← HN9.out] at r3
                          refine wpAnyH_ready (rs := [5]) (by kernel_rfl) (by simp) ?_
                          refine AllReadyH.cons (o := { dst := some 59, op := Op.buildSlice 27 1 #[(0, Operand.tmp 58)], type := 27, pos := "ref.go:48", after := #[{ on := 4, ground := Ground.data }], guard := none }) rfl (fun KK hKK => ?_) ?_
                          · go_simp
                            refine hKK.out _ _ trivial (fun _ => ?_)
                            clear hKK KK
                            try simp only [Act.put, List.setIfInBounds_toArray, List.set_cons_zero, List.set_cons_succ]
                            refine wpAnyH_name (fun u24 hu24 => ?_)
                            have Du24 : Below W3.heap.size W3 u24 := by rw [hu24.out]; exact Du23.trans ((al_b _ _).mono Du23.size)
                            have gB : PB u24 u23.heap.size 29 p := by rw [hu24.out]; exact PB.new _ _ _
                            try replace r3 : RP 29 u24 W3.heap.size (.slice a3 n9 c3) s.o := by rw [hu24.out]; exact r3.below (al_b _ _)
                            refine wpAnyH_ready (rs := [6]) (by kernel_rfl) (by simp) ?_
                            refine AllReadyH.cons (o := { dst := some 60, op := Op.call { callee := Callee.builtin Builtin.append, args := #[Operand.tmp 57, Operand.tmp 59], argTypes := #[27, 27] }, type := 27, pos := "ref.go:48", after := #[{ on := 3, ground := Ground.data }, { on := 5, ground := Ground.data }, { on := 3, ground := Ground.chain }], guard := none }) rfl (fun KK hKK => ?_) ?_
                            · refine wp_append_pks _ _ rfl W3.heap.size (.slice a3 n9 c3) s.o (by first | (simp [Act.eval]; done) | (simp [Act.eval, HN9.out])) r3 (.slice (some ⟨u23.heap.size, 0, none⟩) 1 1) [p] (by simp [Act.eval]) gB.ps (by rw [← HN9.out]; simp only [List.length_singleton]; omega) Du24.size ?_
                              intro v4 u25' r4 g4
                              refine hKK.out _ _ trivial (fun _ => ?_)
                              clear hKK KK
                              try simp only [Act.put, List.setIfInBounds_toArray, List.set_cons_zero, List.set_cons_succ]
                              refine wpAnyH_name (fun u25 hu25 => ?_)
                              rw [← hu25.out] at r4 g4
                              obtain ⟨a4, c4, rfl, -⟩ := id r4.is.shape
                              generalize hz4 : (s.o ++ [p]).length = n4 at *
                              clear hz4
                              have Du25 : Below W3.heap.size W3 u25 := grown_below Du24 Du24.size g4 (fun i hi => r3.base hi)
                              obtain ⟨q0, -, -, -, -, -, -, f0, -, -, -, -, -, -⟩ := (HD.out u25 Du25).1
                              refine wpAnyH_take (i := 7) (oi := { dst := some 61, op := Op.fieldAddr 31 (Operand.tmp 2) 0, type := 0, pos := "ref.go:48", after := #[{ on := 0, ground := Ground.phase }, { on := 1, ground := Ground.phase }, { on := 2, ground := Ground.phase }, { on := 3, ground := Ground.phase }, { on := 4, ground := Ground.phase }, { on := 5, ground := Ground.phase }, { on := 6, ground := Ground.phase }], guard := none }) (v := ?va26) rfl (by kernel_rfl) (by kernel_rfl) (by kernel_rfl) (fun _ _ _ h => h) (Or.inl ⟨by rfl, ?ya26⟩) trivial ?ra26
                              case ya26 => (intro w hSw; go_simp; try with_reducible rfl)
                              try simp only [Act.put, List.setIfInBounds_toArray, List.set_cons_zero, List.set_cons_succ]
                              refine wpAnyH_ready (rs := [8]) (by kernel_rfl) (by simp) ?_
                              refine AllReadyH.cons (o := { dst := none, op := Op.store 27 (Operand.tmp 61) (Operand.tmp 60), type := 0, pos := "ref.go:48", after := #[{ on := 7, ground := Ground.data }, { on := 6, ground := Ground.data }, { on := 6, ground := Ground.chain }, { on := 0, ground := Ground.phase }, { on := 1, ground := Ground.phase }, { on := 2, ground := Ground.phase }, { on := 3, ground := Ground.phase }, { on := 4, ground := Ground.phase }, { on := 5, ground := Ground.phase }, { on := 6, ground := Ground.phase }], guard := none }) rfl (fun KK hKK => ?_) ?_
                              · go_simp
                                refine hKK.out _ _ trivial (fun _ => ?_)
                                clear hKK KK
                                try simp only [Act.put]
                                refine wpAnyH_name (fun u27 hu27 => ?_)
                                have Z1 : DB u27 hA (.slice a4 n4 c4) k q s.g := by rw [hu27.out]; exact (HD.out u25 Du25).2.2.2.2.1.set0 _
                                have nA : Value.ownBlock (.slice a4 n4 c4) ≠ some hA := fun e => by have h1 := r4.base e; have h2 := blk_lt HG.out.1; omega
                                have hpA : hP ≠ hA := by have := HLT.out; omega
                                have hrA : hR ≠ hA := by have := HLT.out; omega
                                have Z2 : RP 29 u27 w.heap.size (.slice a4 n4 c4) (s.o ++ [p]) := by rw [hu27.out]; exact (r4.mono HB3.out.size).set nA
                                have Z3 : PB u27 hP 29 p := by rw [hu27.out]; exact (Below.heap_setCell _ _ _ _ hpA).trans (HD.out u25 Du25).2.2.1
                                have Z4 : DB u27 hR (.slice none 0 0) 0 pk0 0 := by rw [hu27.out]; exact (Below.heap_setCell _ _ _ _ hrA).trans (HD.out u25 Du25).2.2.2.2.2.1
                                have Z5 : Below w.heap.size w u27 := by rw [hu27.out]; exact ((HD.out u25 Du25).2.2.2.2.2.2).setCell HLE.out.1 _
                                refine wpAnyH_done (by kernel_rfl) ?_ _
                                go_wp2_with fail
                                go_meet
                                exact ⟨_, Z1, Z2, Z3, Z4, Z5⟩
                              exact AllReadyH.nil
                            exact AllReadyH.nil
                          exact AllReadyH.nil
                        refine AllReadyH.cons (o := { dst := some 59, op := Op.buildSlice 27 1 #[(0, Operand.tmp 58)], type := 27, pos := "ref.go:48", after := #[{ on := 4, ground := Ground.data }], guard := none }) rfl (fun KK hKK => ?_) ?_
                        · go_simp
                          refine hKK.out _ _ trivial (fun _ => ?_)
                          clear hKK KK
                          try simp only [Act.put, List.setIfInBounds_toArray, List.set_cons_zero, List.set_cons_succ]
                          refine wpAnyH_name (fun u28 hu28 => ?_)
                          have Du28 : Below W3.heap.size W3 u28 := by rw [hu28.out]; exact Du22.trans ((al_b _ _).mono Du22.size)
                          have gB : PB u28 u22.heap.size 29 p := by rw [hu28.out]; exact PB.new _ _ _
                          try replace r3 : RP 29 u28 W3.heap.size (.slice a3 n9 c3) s.o := by rw [hu28.out]; exact r3.below (al_b _ _)
                          refine wpAnyH_ready (rs := [3]) (by kernel_rfl) (by simp) ?_
                          refine AllReadyH.cons (o := { dst := some 57, op := Op.call { callee := Callee.builtin Builtin.append, args := #[Operand.tmp 54, Operand.tmp 56], argTypes := #[27, 27] }, type := 27, pos := "ref.go:48", after := #[{ on := 0, ground := Ground.data }, { on := 2, ground := Ground.data }], guard := none }) rfl (fun KK hKK => ?_) ?_
                          · refine wp_append_pks _ _ rfl W3.heap.size (.slice none 0 0) [] (by simp [Act.eval]) (RP.nil _ _ _) (.slice a n9 c) s.o (by simp [Act.eval]) (HD.out u28 Du28).2.2.2.1 (by simp only [List.length_nil]; have := HN9.out; omega) Du28.size ?_
                            intro v3 u29' r3 g3
                            refine hKK.out _ _ trivial (fun _ => ?_)
                            clear hKK KK
                            try simp only [Act.put, List.setIfInBounds_toArray, List.set_cons_zero, List.set_cons_succ]
                            refine wpAnyH_name (fun u29 hu29 => ?_)
                            rw [← hu29.out] at r3 g3
                            have Du29 : Below W3.heap.size W3 u29 := grown_below Du28 Du28.size g3 (fun i hi => by cases hi)
                            try replace gB : PB u29 _ 29 p := (g3.block _ (blk_lt gB) (fun e => by cases e)).trans gB
                            simp only [List.nil_append] at r3
                            obtain ⟨a3, c3, rfl, -⟩ := id r3.is.shape
                            rw [← HN9.out] at r3
                            refine wpAnyH_ready (rs := [6]) (by kernel_rfl) (by simp) ?_
                            refine AllReadyH.cons (o := { dst := some 60, op := Op.call { callee := Callee.builtin Builtin.append, args := #[Operand.tmp 57, Operand.tmp 59], argTypes := #[27, 27] }, type := 27, pos := "ref.go:48", after := #[{ on := 3, ground := Ground.data }, { on := 5, ground := Ground.data }, { on := 3, ground := Ground.chain }], guard := none }) rfl (fun KK hKK => ?_) ?_
                            · refine wp_append_pks _ _ rfl W3.heap.size (.slice a3 n9 c3) s.o (by first | (simp [Act.eval]; done) | (simp [Act.eval, HN9.out])) r3 (.slice (some ⟨u22.heap.size, 0, none⟩) 1 1) [p] (by simp [Act.eval]) gB.ps (by rw [← HN9.out]; simp only [List.length_singleton]; omega) Du29.size ?_
                              intro v4 u30' r4 g4
                              refine hKK.out _ _ trivial (fun _ => ?_)
                              clear hKK KK
                              try simp only [Act.put, List.setIfInBounds_toArray, List.set_cons_zero, List.set_cons_succ]
                              refine wpAnyH_name (fun u30 hu30 => ?_)
                              rw [← hu30.out] at r4 g4
                              obtain ⟨a4, c4, rfl, -⟩ := id r4.is.shape
                              generalize hz4 : (s.o ++ [p]).length = n4 at *
                              clear hz4
                              have Du30 : Below W3.heap.size W3 u30 := grown_below Du29 Du29.size g4 (fun i hi => r3.base hi)
                              obtain ⟨q0, -, -, -, -, -, -, f0, -, -, -, -, -, -⟩ := (HD.out u30 Du30).1
                              refine wpAnyH_take (i := 7) (oi := { dst := some 61, op := Op.fieldAddr 31 (Operand.tmp 2) 0, type := 0, pos := "ref.go:48", after := #[{ on := 0, ground := Ground.phase }, { on := 1, ground := Ground.phase }, { on := 2, ground := Ground.phase }, { on := 3, ground := Ground.phase }, { on := 4, ground := Ground.phase }, { on := 5, ground := Ground.phase }, { on := 6, ground := Ground.phase }], guard := none }) (v := ?va31) rfl (by kernel_rfl) (by kernel_rfl) (by kernel_rfl) (fun _ _ _ h => h) (Or.inl ⟨by rfl, ?ya31⟩) trivial ?ra31
                              case ya31 => (intro w hSw; go_simp; try with_reducible rfl)
                              try simp only [Act.put, List.setIfInBounds_toArray, List.set_cons_zero, List.set_cons_succ]
                              refine wpAnyH_ready (rs := [8]) (by kernel_rfl) (by simp) ?_
                              refine AllReadyH.cons (o := { dst := none, op := Op.store 27 (Operand.tmp 61) (Operand.tmp 60), type := 0, pos := "ref.go:48", after := #[{ on := 7, ground := Ground.data }, { on := 6, ground := Ground.data }, { on := 6, ground := Ground.chain }, { on := 0, ground := Ground.phase }, { on := 1, ground := Ground.phase }, { on := 2, ground := Ground.phase }, { on := 3, ground := Ground.phase }, { on := 4, ground := Ground.phase }, { on := 5, ground := Ground.phase }, { on := 6, ground := Ground.phase }], guard := none }) rfl (fun KK hKK => ?_) ?_
                              · go_simp
                                refine hKK.out _ _ trivial (fun _ => ?_)
                                clear hKK KK
                                try simp only [Act.put]
                                refine wpAnyH_name (fun u32 hu32 => ?_)
                                have Z1 : DB u32 hA (.slice a4 n4 c4) k q s.g := by rw [hu32.out]; exact (HD.out u30 Du30).2.2.2.2.1.set0 _
                                have nA : Value.ownBlock (.slice a4 n4 c4) ≠ some hA := fun e => by have h1 := r4.base e; have h2 := blk_lt HG.out.1; omega
                                have hpA : hP ≠ hA := by have := HLT.out; omega
                                have hrA : hR ≠ hA := by have := HLT.out; omega
                                have Z2 : RP 29 u32 w.heap.size (.slice a4 n4 c4) (s.o ++ [p]) := by rw [hu32.out]; exact (r4.mono HB3.out.size).set nA
                                have Z3 : PB u32 hP 29 p := by rw [hu32.out]; exact (Below.heap_setCell _ _ _ _ hpA).trans (HD.out u30 Du30).2.2.1
                                have Z4 : DB u32 hR (.slice none 0 0) 0 pk0 0 := by rw [hu32.out]; exact (Below.heap_setCell _ _ _ _ hrA).trans (HD.out u30 Du30).2.2.2.2.2.1
                                have Z5 : Below w.heap.size w u32 := by rw [hu32.out]; exact ((HD.out u30 Du30).2.2.2.2.2.2).setCell HLE.out.1 _
                                refine wpAnyH_done (by kernel_rfl) ?_ _
                                go_wp2_with fail
                                go_meet
                                exact ⟨_, Z1, Z2, Z3, Z4, Z5⟩
                              exact AllReadyH.nil
                            exact AllReadyH.nil
                          exact AllReadyH.nil
                        exact AllReadyH.nil
                      refine AllReadyH.cons (o := { dst := some 59, op := Op.buildSlice 27 1 #[(0, Operand.tmp 58)], type := 27, pos := "ref.go:48", after := #[{ on := 4, ground := Ground.data }], guard := none }) rfl (fun KK hKK => ?_) ?_
                      · go_simp
                        refine hKK.out _ _ trivial (fun _ => ?_)
                        clear hKK KK
                        try simp only [Act.put, List.setIfInBounds_toArray, List.set_cons_zero, List.set_cons_succ]
                        refine wpAnyH_name (fun u33 hu33 => ?_)
                        have Du33 : Below W3.heap.size W3 u33 := by rw [hu33.out]; exact Du21.trans ((al_b _ _).mono Du21.size)
                        have gB : PB u33 u21.heap.size 29 p := by rw [hu33.out]; exact PB.new _ _ _
                        try replace r3 : RP 29 u33 W3.heap.size (.slice a3 n9 c3) s.o := by rw [hu33.out]; exact r3.below (al_b _ _)
                        refine wpAnyH_ready (rs := [2]) (by kernel_rfl) (by simp) ?_
                        refine AllReadyH.cons (o := { dst := some 56, op := Op.load 27 (Operand.tmp 55), type := 27, pos := "ref.go:48", after := #[{ on := 1, ground := Ground.data }], guard := none }) rfl (fun KK hKK => ?_) ?_
                        · have xl := (HD.out u33 Du33).1.c0
                          go_simp
                          refine hKK.out _ _ trivial (fun _ => ?_)
                          clear hKK KK
                          try simp only [Act.put, List.setIfInBounds_toArray, List.set_cons_zero, List.set_cons_succ]
                          refine wpAnyH_name (fun u34 hu34 => ?_)
                          have Du34 := Du33
                          rw [← hu34.out] at Du34
                          try rw [← hu34.out] at gB
                          refine wpAnyH_ready (rs := [3]) (by kernel_rfl) (by simp) ?_
                          refine AllReadyH.cons (o := { dst := some 57, op := Op.call { callee := Callee.builtin Builtin.append, args := #[Operand.tmp 54, Operand.tmp 56], argTypes := #[27, 27] }, type := 27, pos := "ref.go:48", after := #[{ on := 0, ground := Ground.data }, { on := 2, ground := Ground.data }], guard := none }) rfl (fun KK hKK => ?_) ?_
                          · refine wp_append_pks _ _ rfl W3.heap.size (.slice none 0 0) [] (by simp [Act.eval]) (RP.nil _ _ _) (.slice a n9 c) s.o (by simp [Act.eval]) (HD.out u34 Du34).2.2.2.1 (by simp only [List.length_nil]; have := HN9.out; omega) Du34.size ?_
                            intro v3 u35' r3 g3
                            refine hKK.out _ _ trivial (fun _ => ?_)
                            clear hKK KK
                            try simp only [Act.put, List.setIfInBounds_toArray, List.set_cons_zero, List.set_cons_succ]
                            refine wpAnyH_name (fun u35 hu35 => ?_)
                            rw [← hu35.out] at r3 g3
                            have Du35 : Below W3.heap.size W3 u35 := grown_below Du34 Du34.size g3 (fun i hi => by cases hi)
                            try replace gB : PB u35 _ 29 p := (g3.block _ (blk_lt gB) (fun e => by cases e)).trans gB
                            simp only [List.nil_append] at r3
                            obtain ⟨a3, c3, rfl, -⟩ := id r3.is.shape
                            rw [← HN9.out] at r3
                            refine wpAnyH_ready (rs := [6]) (by kernel_rfl) (by simp) ?_
                            refine AllReadyH.cons (o := { dst := some 60, op := Op.call { callee := Callee.builtin Builtin.append, args := #[Operand.tmp 57, Operand.tmp 59], argTypes := #[27, 27] }, type := 27, pos := "ref.go:48", after := #[{ on := 3, ground := Ground.data }, { on := 5, ground := Ground.data }, { on := 3, ground := Ground.chain }], guard := none }) rfl (fun KK hKK => ?_) ?_
                            · refine wp_append_pks _ _ rfl W3.heap.size (.slice a3 n9 c3) s.o (by first | (simp [Act.eval]; done) | (simp [Act.eval, HN9.out])) r3 (.slice (some ⟨u21.heap.size, 0, none⟩) 1 1) [p] (by simp [Act.eval]) gB.ps (by rw [← HN9.out]; simp only [List.length_singleton]; omega) Du35.size ?_
                              intro v4 u36' r4 g4
                              refine hKK.out _ _ trivial (fun _ => ?_)
                              clear hKK KK
                              try simp only [Act.put, List.setIfInBounds_toArray, List.set_cons_zero, List.set_cons_succ]
                              refine wpAnyH_name (fun u36 hu36 => ?_)
                              rw [← hu36.out] at r4 g4
                              obtain ⟨a4, c4, rfl, -⟩ := id r4.is.shape
                              generalize hz4 : (s.o ++ [p]).length = n4 at *
                              clear hz4
                              have Du36 : Below W3.heap.size W3 u36 := grown_below Du35 Du35.size g4 (fun i hi => r3.base hi)
                              obtain ⟨q0, -, -, -, -, -, -, f0, -, -, -, -, -, -⟩ := (HD.out u36 Du36).1
                              refine wpAnyH_take (i := 7) (oi := { dst := some 61, op := Op.fieldAddr 31 (Operand.tmp 2) 0, type := 0, pos := "ref.go:48", after := #[{ on := 0, ground := Ground.phase }, { on := 1, ground := Ground.phase }, { on := 2, ground := Ground.phase }, { on := 3, ground := Ground.phase }, { on := 4, ground := Ground.phase }, { on := 5, ground := Ground.phase }, { on := 6, ground := Ground.phase }], guard := none }) (v := ?va37) rfl (by kernel_rfl) (by kernel_rfl) (by kernel_rfl) (fun _ _ _ h => h) (Or.inl ⟨by rfl, ?ya37⟩) trivial ?ra37
                              case ya37 => (intro w hSw; go_simp; try with_reducible rfl)
                              try simp only [Act.put, List.setIfInBounds_toArray, List.set_cons_zero, List.set_cons_succ]
                              refine wpAnyH_ready (rs := [8]) (by kernel_rfl) (by simp) ?_
                              refine AllReadyH.cons (o := { dst := none, op := Op.store 27 (Operand.tmp 61) (Operand.tmp 60), type := 0, pos := "ref.go:48", after := #[{ on := 7, ground := Ground.data }, { on := 6, ground := Ground.data }, { on := 6, ground := Ground.chain }, { on := 0, ground := Ground.phase }, { on := 1, ground := Ground.phase }, { on := 2, ground := Ground.phase }, { on := 3, ground := Ground.phase }, { on := 4, ground := Ground.phase }, { on := 5, ground := Ground.phase }, { on := 6, ground := Ground.phase }], guard := none }) rfl (fun KK hKK => ?_) ?_
                              · go_simp
                                refine hKK.out _ _ trivial (fun _ => ?_)
                                clear hKK KK
                                try simp only [Act.put]
                                refine wpAnyH_name (fun u38 hu38 => ?_)
                                have Z1 : DB u38 hA (.slice a4 n4 c4) k q s.g := by rw [hu38.out]; exact (HD.out u36 Du36).2.2.2.2.1.set0 _
                                have nA : Value.ownBlock (.slice a4 n4 c4) ≠ some hA := fun e => by have h1 := r4.base e; have h2 := blk_lt HG.out.1; omega
                                have hpA : hP ≠ hA := by have := HLT.out; omega
                                have hrA : hR ≠ hA := by have := HLT.out; omega
                                have Z2 : RP 29 u38 w.heap.size (.slice a4 n4 c4) (s.o ++ [p]) := by rw [hu38.out]; exact (r4.mono HB3.out.size).set nA
                                have Z3 : PB u38 hP 29 p := by rw [hu38.out]; exact (Below.heap_setCell _ _ _ _ hpA).trans (HD.out u36 Du36).2.2.1
                                have Z4 : DB u38 hR (.slice none 0 0) 0 pk0 0 := by rw [hu38.out]; exact (Below.heap_setCell _ _ _ _ hrA).trans (HD.out u36 Du36).2.2.2.2.2.1
                                have Z5 : Below w.heap.size w u38 := by rw [hu38.out]; exact ((HD.out u36 Du36).2.2.2.2.2.2).setCell HLE.out.1 _
                                refine wpAnyH_done (by kernel_rfl) ?_ _
                                go_wp2_with fail
                                go_meet
                                exact ⟨_, Z1, Z2, Z3, Z4, Z5⟩
                              exact AllReadyH.nil
                            exact AllReadyH.nil
                          exact AllReadyH.nil
                        exact AllReadyH.nil
                      exact AllReadyH.nil
                    exact AllReadyH.nil
                  case rest =>
                    obtain ⟨v', g6, r6, p6, r0, b6⟩ := hcut
                    obtain ⟨c0, c1, c2, c3, c4, c5, c6, f0, f1, f2, f3, f4, f5, f6⟩ := g6.dc
                    obtain ⟨e0, e1, e2, e3⟩ := p6.pc
                    simp only [Nat.zero_add] at e0 e1 e2 e3
                    have hap : ¬ hA = hP := by have := HLT.out; omega
                    have hpa : ¬ hP = hA := by have := HLT.out; omega
                    obtain ⟨W5, hW5⟩ : ∃ W5, W5 = sn wc hA (k + 1) p := ⟨_, rfl⟩
                    obtain ⟨va, vc, rfl, -⟩ := id r6.is.shape
                    obtain ⟨nn, hnn⟩ : ∃ nn, nn = (s.o ++ [p]).length := ⟨_, rfl⟩
                    rw [← hnn] at g6 r6 c0
                    have hrA : hR ≠ hA := by have := HLT.out; omega
                    have hvA : Value.ownBlock (.slice va nn vc) ≠ some hA := fun e => by obtain ⟨cs, hh⟩ := r6.ty e; unfold DB at g6; rw [g6] at hh; simp at hh
                    have HW5 : Hid (W5 = (((((wc.setCell ⟨hA, 1, none⟩ (.int .i64 (k + 1))).setCell ⟨hA, 2, none⟩ (.int .i64 p.n)).setCell ⟨hA, 3, none⟩ (.int .i64 p.t)).setCell ⟨hA, 4, none⟩ (.int .i64 p.z)).setCell ⟨hA, 5, none⟩ (.bool p.a)).drew) := hW5
                    have H5 : Hid (DB W5 hA (.slice va nn vc) (k + 1) p s.g ∧ DB W5 hR (.slice none 0 0) 0 pk0 0) := by rw [hW5]; exact ⟨sn_db g6 _ _, (sn_other _ _ hrA).trans r0⟩
                    have r5 : RP 29 W5 w.heap.size (.slice va nn vc) (s.o ++ [p]) := by rw [hW5]; exact sn_rp r6 hvA _ _
                    have b5 : Below w.heap.size w W5 := by rw [hW5]; exact sn_below b6 HLE.out.1 _ _
                    obtain ⟨W4, hW4⟩ : ∃ W4, W4 = W5.setRow hR (dc (.slice va nn vc) (k + 1) p s.g) := ⟨_, rfl⟩
                    have HW4 : Hid (W4 = W5.setRow hR (dc (.slice va nn vc) (k + 1) p s.g)) := hW4
                    have HP4 : Hid (W4.heap[hR]? = some (.cells (dc (.slice va nn vc) (k + 1) p s.g) 31 (0, 0))) := by rw [hW4]; exact H5.out.2.row _ _ _ _
                    have hvR : Value.ownBlock (.slice va nn vc) ≠ some hR := fun e => by obtain ⟨cs, hh⟩ := r5.ty e; have := H5.out.2; unfold DB at this; rw [this] at hh; simp at hh
                    have r4 : RP 29 W4 w.heap.size (.slice va nn vc) (s.o ++ [p]) := by rw [hW4]; exact r5.keep fun i cs hi hh => (setRow_other _ _ _ _ (fun e => hvR (by rw [hi, e]))).trans hh
                    have b4 : Below w.heap.size w W4 := by rw [hW4]; exact below_setRow b5 HLE.out.2.2 _
                    have HEND : Hid (DS W4 (min B w.heap.size) (.slice va nn vc) (k + 1) p ⟨s.o ++ [p], p.n, p.t, s.g⟩ ∧ Below w.heap.size w W4 ∧ k + 1 ≤ k + 1) := ⟨⟨r4.mono (Nat.min_le_right _ _), DKN.out⟩, b4, Int.le_refl _⟩
                    clear hnn hW5 hrA hvA r5 b5 hW4 hvR r4 b4
                    have HG6 : Hid (DB wc hA (.slice va nn vc) k q s.g ∧ RP 29 wc w.heap.size (.slice va nn vc) (s.o ++ [p]) ∧ DB wc hR (.slice none 0 0) 0 pk0 0 ∧ Below w.heap.size w wc) := ⟨g6, r6, r0, b6⟩
                    clear g6 r6 p6 r0 b6 d0 d1 d2 d3 HD HG HB3 HDS HD0 HDS0 CT CTN CTT
                    go_wp2_with fail
                    go_region_with (fail)
                    all_goals
                      rw [← HW5.out]
                      clear HW5
                      go_wp2_with (first | refine wpList_load_row rfl 31 _ rfl hA rfl 31 (dc (.slice va nn vc) (k + 1) p s.g) (0, 0) _ H5.out.1 Try.underlying31 rfl sizeD ?_ | refine wpList_store_row rfl 31 _ _ rfl hR (dc (.slice va nn vc) (k + 1) p s.g) rfl rfl 31 _ H5.out.2 sizeD rfl (dc_one _ _ _ _ _ _) (Hid.out ?_))
                      unfold Hid
                      rw [← HW4.out]
                      clear HW4
                      go_wp2
                      refine bodyPost_ret (retS rfl HP4.out rfl) rfl ?_
                      exact ⟨_, _, _, rfl, HEND.out⟩
      · obtain ⟨q1, q2⟩ := dkn (by omega)
        have zk : decide (0 < k) = false := decide_eq_false hk
        have w1 : s.n < p.n := by omega
        have w2 : s.t ≤ p.t := by omega
        by_cases hz1 : p.z < 1
        · have zz : decide (p.z < 1) = true := decide_eq_true hz1
          have hm : mgo s p = false := by rw [HM.out, decide_eq_false (show ¬ 1 ≤ p.z by omega)]; simp
          have es := HSN.out hm
          obtain ⟨e1, e2⟩ := es
          rw [e1, e2]
          obtain ⟨W4, hW4⟩ : ∃ W4, W4 = W3.setRow hR (dc (.slice a n9 c) k q s.g) := ⟨_, rfl⟩
          have HW4 : Hid (W4 = W3.setRow hR (dc (.slice a n9 c) k q s.g)) := hW4
          have HP4 : Hid (W4.heap[hR]? = some (.cells (dc (.slice a n9 c) k q s.g) 31 (0, 0))) := by rw [hW4]; exact HG.out.2.2.row _ _ _ _
          have b4 : Below w.heap.size w W4 := by rw [hW4]; exact below_setRow HB3.out HLE.out.2.2 _
          have HEND : Hid (DS W4 (min B w.heap.size) (.slice a n9 c) k q s ∧ Below w.heap.size w W4 ∧ k ≤ k + 1) := ⟨((HD0.out.below b4).mono (Nat.min_le_left _ _)), b4, by omega⟩
          clear hW4 b4 e1 e2 HSN HSF HSY HM HTN HTT dkn dky
          go_enter Try.func26, Try.ntmps26
          go_upto_region 1 with fail
          try rw [← hW1]
          try rw [← hW2]
          try rw [← hW3]
          try rw [← eR]
          try rw [← eP]
          try rw [← eA]
          clear hW1 hW2 hW3 eA eP eR
          go_wp2_with fail
          refine (CTN _).mono ?_
          rintro e w9 ⟨rfl, e1⟩
          rw [e1]
          clear e1 w9
          go_wp2_with fail
          refine (CTT _).mono ?_
          rintro e w9 ⟨rfl, e1⟩
          rw [e1]
          clear e1 w9
          go_upto_region 2 with fail
          go_wp2_with (first | refine wpList_load_row rfl 31 _ rfl hA rfl 31 (dc (.slice a n9 c) k q s.g) (0, 0) _ HG.out.1 Try.underlying31 rfl sizeD ?_ | refine wpList_store_row rfl 31 _ _ rfl hR (dc (.slice a n9 c) k q s.g) rfl rfl 31 _ HG.out.2.2 sizeD rfl (dc_one _ _ _ _ _ _) (Hid.out ?_))
          unfold Hid
          rw [← HW4.out]
          clear HW4
          go_wp2
          refine bodyPost_ret (retS rfl HP4.out rfl) rfl ?_
          exact ⟨_, _, _, rfl, HEND.out⟩
        · have zz : decide (p.z < 1) = false := decide_eq_false hz1
          by_cases hz2 : 1200 < p.z
          · have zy : decide (1200 < p.z) = true := decide_eq_true hz2
            have hm : mgo s p = false := by rw [HM.out, decide_eq_false (show ¬ p.z ≤ 1200 by omega)]; simp
            have es := HSN.out hm
            obtain ⟨e1, e2⟩ := es
            rw [e1, e2]
            obtain ⟨W4, hW4⟩ : ∃ W4, W4 = W3.setRow hR (dc (.slice a n9 c) k q s.g) := ⟨_, rfl⟩
            have HW4 : Hid (W4 = W3.setRow hR (dc (.slice a n9 c) k q s.g)) := hW4
            have HP4 : Hid (W4.heap[hR]? = some (.cells (dc (.slice a n9 c) k q s.g) 31 (0, 0))) := by rw [hW4]; exact HG.out.2.2.row _ _ _ _
            have b4 : Below w.heap.size w W4 := by rw [hW4]; exact below_setRow HB3.out HLE.out.2.2 _
            have HEND : Hid (DS W4 (min B w.heap.size) (.slice a n9 c) k q s ∧ Below w.heap.size w W4 ∧ k ≤ k + 1) := ⟨((HD0.out.below b4).mono (Nat.min_le_left _ _)), b4, by omega⟩
            clear hW4 b4 e1 e2 HSN HSF HSY HM HTN HTT dkn dky
            go_enter Try.func26, Try.ntmps26
            go_upto_region 1 with fail
            try rw [← hW1]
            try rw [← hW2]
            try rw [← hW3]
            try rw [← eR]
            try rw [← eP]
            try rw [← eA]
            clear hW1 hW2 hW3 eA eP eR
            go_wp2_with fail
            refine (CTN _).mono ?_
            rintro e w9 ⟨rfl, e1⟩
            rw [e1]
            clear e1 w9
            go_wp2_with fail
            refine (CTT _).mono ?_
            rintro e w9 ⟨rfl, e1⟩
            rw [e1]
            clear e1 w9
            go_upto_region 2 with fail
            go_wp2_with (first | refine wpList_load_row rfl 31 _ rfl hA rfl 31 (dc (.slice a n9 c) k q s.g) (0, 0) _ HG.out.1 Try.underlying31 rfl sizeD ?_ | refine wpList_store_row rfl 31 _ _ rfl hR (dc (.slice a n9 c) k q s.g) rfl rfl 31 _ HG.out.2.2 sizeD rfl (dc_one _ _ _ _ _ _) (Hid.out ?_))
            unfold Hid
            rw [← HW4.out]
            clear HW4
            go_wp2
            refine bodyPost_ret (retS rfl HP4.out rfl) rfl ?_
            exact ⟨_, _, _, rfl, HEND.out⟩
          · have zy : decide (1200 < p.z) = false := decide_eq_false hz2
            have hm : mgo s p = true := by rw [HM.out, hn, ht, decide_eq_true w1, decide_eq_true w2, decide_eq_true (show 1 ≤ p.z by omega), decide_eq_true (show p.z ≤ 1200 by omega)]; rfl
            by_cases hf : n9 = 1024
            · have zf : (1024 : Int) ≤ (n9 : Int) := by omega
              have es := HSF.out hm hf
              obtain ⟨e1, e2⟩ := es
              rw [e1, e2]
              obtain ⟨W4, hW4⟩ : ∃ W4, W4 = W3.setRow hR (dc (.slice a n9 c) k q s.g) := ⟨_, rfl⟩
              have HW4 : Hid (W4 = W3.setRow hR (dc (.slice a n9 c) k q s.g)) := hW4
              have HP4 : Hid (W4.heap[hR]? = some (.cells (dc (.slice a n9 c) k q s.g) 31 (0, 0))) := by rw [hW4]; exact HG.out.2.2.row _ _ _ _
              have b4 : Below w.heap.size w W4 := by rw [hW4]; exact below_setRow HB3.out HLE.out.2.2 _
              have HEND : Hid (DS W4 (min B w.heap.size) (.slice a n9 c) k q s ∧ Below w.heap.size w W4 ∧ k ≤ k + 1) := ⟨((HD0.out.below b4).mono (Nat.min_le_left _ _)), b4, by omega⟩
              clear hW4 b4 e1 e2 HSN HSF HSY HM HTN HTT dkn dky
              clear hf hm
              go_enter Try.func26, Try.ntmps26
              go_upto_region 1 with fail
              try rw [← hW1]
              try rw [← hW2]
              try rw [← hW3]
              try rw [← eR]
              try rw [← eP]
              try rw [← eA]
              clear hW1 hW2 hW3 eA eP eR
              go_wp2_with fail
              refine (CTN _).mono ?_
              rintro e w9 ⟨rfl, e1⟩
              rw [e1]
              clear e1 w9
              go_wp2_with fail
              refine (CTT _).mono ?_
              rintro e w9 ⟨rfl, e1⟩
              rw [e1]
              clear e1 w9
              go_upto_region 4 with fail
              go_wp2_with (first | refine wpList_load_row rfl 31 _ rfl hA rfl 31 (dc (.slice a n9 c) k q s.g) (0, 0) _ HG.out.1 Try.underlying31 rfl sizeD ?_ | refine wpList_store_row rfl 31 _ _ rfl hR (dc (.slice a n9 c) k q s.g) rfl rfl 31 _ HG.out.2.2 sizeD rfl (dc_one _ _ _ _ _ _) (Hid.out ?_))
              unfold Hid
              rw [← HW4.out]
              clear HW4
              go_wp2
              refine bodyPost_ret (retS rfl HP4.out rfl) rfl ?_
              exact ⟨_, _, _, rfl, HEND.out⟩
            · have zf : ¬ (1024 : Int) ≤ (n9 : Int) := by omega
              obtain ⟨e1, e2⟩ := HSY.out hm hf
              rw [e1, e2]
              have DKN : Hid (DK (k + 1) p ⟨s.o ++ [p], p.n, p.t, s.g⟩) := ⟨by omega, by omega, fun e => by omega, fun _ => ⟨rfl, rfl⟩⟩
              have x1 : IntKind.i64.wrap (k + 1) = k + 1 := by rw [IntKind.wrap_i64]; omega
              clear e1 e2 HSN HSF HSY HM HTN HTT dkn dky hm
              have HD : Hid (∀ W, Below W3.heap.size W3 W → DC W hA (.slice a n9 c) k q s.g ∧ PC W hP 0 p ∧ PB W hP 29 p ∧ PS W (.slice a n9 c) s.o ∧ DB W hA (.slice a n9 c) k q s.g ∧ DB W hR (.slice none 0 0) 0 pk0 0 ∧ Below w.heap.size w W) := fun W hb => ⟨(HG.out.1.kept hb).dc, (HG.out.2.1.kept hb).pc, HG.out.2.1.kept hb, (by have := HDS.out.rs.is.kept hb; exact this), HG.out.1.kept hb, HG.out.2.2.kept hb, HB3.out.trans (hb.mono HB3.out.size)⟩
              go_enter Try.func26, Try.ntmps26
              go_upto_region 1 with fail
              try rw [← hW1]
              try rw [← hW2]
              try rw [← hW3]
              try rw [← eR]
              try rw [← eP]
              try rw [← eA]
              clear hW1 hW2 hW3 eA eP eR
              go_wp2_with fail
              refine (CTN _).mono ?_
              rintro e w9 ⟨rfl, e1⟩
              rw [e1]
              clear e1 w9
              go_wp2_with fail
              refine (CTT _).mono ?_
              rintro e w9 ⟨rfl, e1⟩
              rw [e1]
              clear e1 w9
              go_upto_region 6 with fail
              go_cut [] (fun wx => ∃ v', DB wx hA v' k q s.g ∧ RP 29 wx w.heap.size v' (s.o ++ [p]) ∧ PB wx hP 29 p ∧ DB wx hR (.slice none 0 0) 0 pk0 0 ∧ Below w.heap.size w wx)
              case first =>
                refine wp_region_held_drew (S := fun _ => True) (by kernel_rfl) trivial (fun _ => ?_)
                refine wpAnyH_name (fun u0 hu0 => ?_)
                have bu0 : Below W3.heap.size W3 u0 := by rw [hu0.out]; exact (Below.refl _ _).drew
                have Du0 : Below W3.heap.size W3 u0 := by rw [hu0.out]; exact (Below.refl _ _).drew
                refine wpAnyH_take (i := 0) (oi := { dst := some 54, op := Op.move (Operand.tmp 6), type := 27, pos := "ref.go:48", after := #[], guard := none }) (v := ?vb1) rfl (by kernel_rfl) (by kernel_rfl) (by kernel_rfl) (fun _ _ _ h => h) (Or.inl ⟨by rfl, ?yb1⟩) trivial ?rb1
                case yb1 => (intro w hSw; go_simp; try with_reducible rfl)
                try simp only [Act.put, List.setIfInBounds_toArray, List.set_cons_zero, List.set_cons_succ]
                refine wpAnyH_take (i := 1) (oi := { dst := some 55, op := Op.fieldAddr 31 (Operand.tmp 2) 0, type := 0, pos := "ref.go:48", after := #[], guard := none }) (v := ?vb2) rfl (by kernel_rfl) (by kernel_rfl) (by kernel_rfl) (fun _ _ _ h => h) (Or.inl ⟨by rfl, ?yb2⟩) trivial ?rb2
                case yb2 => (intro w hSw; go_simp; try with_reducible rfl)
                try simp only [Act.put, List.setIfInBounds_toArray, List.set_cons_zero, List.set_cons_succ]
                refine wpAnyH_ready (rs := [2, 4]) (by kernel_rfl) (by simp) ?_
                refine AllReadyH.cons (o := { dst := some 56, op := Op.load 27 (Operand.tmp 55), type := 27, pos := "ref.go:48", after := #[{ on := 1, ground := Ground.data }], guard := none }) rfl (fun KK hKK => ?_) ?_
                · have xl := (HD.out u0 Du0).1.c0
                  go_simp
                  refine hKK.out _ _ trivial (fun _ => ?_)
                  clear hKK KK
                  try simp only [Act.put, List.setIfInBounds_toArray, List.set_cons_zero, List.set_cons_succ]
                  refine wpAnyH_name (fun u3 hu3 => ?_)
                  have Du3 := Du0
                  rw [← hu3.out] at Du3
                  try rw [← hu3.out] at gB
                  refine wpAnyH_ready (rs := [3, 4]) (by kernel_rfl) (by simp) ?_
                  refine AllReadyH.cons (o := { dst := some 57, op := Op.call { callee := Callee.builtin Builtin.append, args := #[Operand.tmp 54, Operand.tmp 56], argTypes := #[27, 27] }, type := 27, pos := "ref.go:48", after := #[{ on := 0, ground := Ground.data }, { on := 2, ground := Ground.data }], guard := none }) rfl (fun KK hKK => ?_) ?_
                  · refine wp_append_pks _ _ rfl W3.heap.size (.slice none 0 0) [] (by simp [Act.eval]) (RP.nil _ _ _) (.slice a n9 c) s.o (by simp [Act.eval]) (HD.out u3 Du3).2.2.2.1 (by simp only [List.length_nil]; have := HN9.out; omega) Du3.size ?_
                    intro v3 u4' r3 g3
                    refine hKK.out _ _ trivial (fun _ => ?_)
                    clear hKK KK
                    try simp only [Act.put, List.setIfInBounds_toArray, List.set_cons_zero, List.set_cons_succ]
                    refine wpAnyH_name (fun u4 hu4 => ?_)
                    rw [← hu4.out] at r3 g3
                    have Du4 : Below W3.heap.size W3 u4 := grown_below Du3 Du3.size g3 (fun i hi => by cases hi)
                    try replace gB : PB u4 _ 29 p := (g3.block _ (blk_lt gB) (fun e => by cases e)).trans gB
                    simp only [List.nil_append] at r3
                    obtain ⟨a3, c3, rfl, -⟩ := id r3.is.shape
                    rw [← HN9.out] at r3
                    refine wpAnyH_ready (rs := [4]) (by kernel_rfl) (by simp) ?_
                    refine AllReadyH.cons (o := { dst := some 58, op := Op.load 29 (Operand.tmp 3), type := 29, pos := "ref.go:48", after := #[], guard := none }) rfl (fun KK hKK => ?_) ?_
                    · obtain ⟨y0, y1, y2, y3⟩ := (HD.out u4 Du4).2.1
                      simp only [Nat.zero_add] at y0 y1 y2 y3
                      go_simp
                      refine hKK.out _ _ trivial (fun _ => ?_)
                      clear hKK KK
                      try simp only [Act.put, List.setIfInBounds_toArray, List.set_cons_zero, List.set_cons_succ]
                      refine wpAnyH_name (fun u5 hu5 => ?_)
                      have Du5 := Du4
                      rw [← hu5.out] at Du5
                      try rw [← hu5.out] at r3
                      refine wpAnyH_ready (rs := [5]) (by kernel_rfl) (by simp) ?_
                      refine AllReadyH.cons (o := { dst := some 59, op := Op.buildSlice 27 1 #[(0, Operand.tmp 58)], type := 27, pos := "ref.go:48", after := #[{ on := 4, ground := Ground.data }], guard := none }) rfl (fun KK hKK => ?_) ?_
                      · go_simp
                        refine hKK.out _ _ trivial (fun _ => ?_)
                        clear hKK KK
                        try simp only [Act.put, List.setIfInBounds_toArray, List.set_cons_zero, List.set_cons_succ]
                        refine wpAnyH_name (fun u6 hu6 => ?_)
                        have Du6 : Below W3.heap.size W3 u6 := by rw [hu6.out]; exact Du5.trans ((al_b _ _).mono Du5.size)
                        have gB : PB u6 u5.heap.size 29 p := by rw [hu6.out]; exact PB.new _ _ _
                        try replace r3 : RP 29 u6 W3.heap.size (.slice a3 n9 c3) s.o := by rw [hu6.out]; exact r3.below (al_b _ _)
                        refine wpAnyH_ready (rs := [6]) (by kernel_rfl) (by simp) ?_
                        refine AllReadyH.cons (o := { dst := some 60, op := Op.call { callee := Callee.builtin Builtin.append, args := #[Operand.tmp 57, Operand.tmp 59], argTypes := #[27, 27] }, type := 27, pos := "ref.go:48", after := #[{ on := 3, ground := Ground.data }, { on := 5, ground := Ground.data }, { on := 3, ground := Ground.chain }], guard := none }) rfl (fun KK hKK => ?_) ?_
                        · refine wp_append_pks _ _ rfl W3.heap.size (.slice a3 n9 c3) s.o (by first | (simp [Act.eval]; done) | (simp [Act.eval, HN9.out])) r3 (.slice (some ⟨u5.heap.size, 0, none⟩) 1 1) [p] (by simp [Act.eval]) gB.ps (by rw [← HN9.out]; simp only [List.length_singleton]; omega) Du6.size ?_
                          intro v4 u7' r4 g4
                          refine hKK.out _ _ trivial (fun _ => ?_)
                          clear hKK KK
                          try simp only [Act.put, List.setIfInBounds_toArray, List.set_cons_zero, List.set_cons_succ]
                          refine wpAnyH_name (fun u7 hu7 => ?_)
                          rw [← hu7.out] at r4 g4
                          obtain ⟨a4, c4, rfl, -⟩ := id r4.is.shape
                          generalize hz4 : (s.o ++ [p]).length = n4 at *
                          clear hz4
                          have Du7 : Below W3.heap.size W3 u7 := grown_below Du6 Du6.size g4 (fun i hi => r3.base hi)
                          obtain ⟨q0, -, -, -, -, -, -, f0, -, -, -, -, -, -⟩ := (HD.out u7 Du7).1
                          refine wpAnyH_take (i := 7) (oi := { dst := some 61, op := Op.fieldAddr 31 (Operand.tmp 2) 0, type := 0, pos := "ref.go:48", after := #[{ on := 0, ground := Ground.phase }, { on := 1, ground := Ground.phase }, { on := 2, ground := Ground.phase }, { on := 3, ground := Ground.phase }, { on := 4, ground := Ground.phase }, { on := 5, ground := Ground.phase }, { on := 6, ground := Ground.phase }], guard := none }) (v := ?vb8) rfl (by kernel_rfl) (by kernel_rfl) (by kernel_rfl) (fun _ _ _ h => h) (Or.inl ⟨by rfl, ?yb8⟩) trivial ?rb8
                          case yb8 => (intro w hSw; go_simp; try with_reducible rfl)
                          try simp only [Act.put, List.setIfInBounds_toArray, List.set_cons_zero, List.set_cons_succ]
                          refine wpAnyH_ready (rs := [8]) (by kernel_rfl) (by simp) ?_
                          refine AllReadyH.cons (o := { dst := none, op := Op.store 27 (Operand.tmp 61) (Operand.tmp 60), type := 0, pos := "ref.go:48", after := #[{ on := 7, ground := Ground.data }, { on := 6, ground := Ground.data }, { on := 6, ground := Ground.chain }, { on := 0, ground := Ground.phase }, { on := 1, ground := Ground.phase }, { on := 2, ground := Ground.phase }, { on := 3, ground := Ground.phase }, { on := 4, ground := Ground.phase }, { on := 5, ground := Ground.phase }, { on := 6, ground := Ground.phase }], guard := none }) rfl (fun KK hKK => ?_) ?_
                          · go_simp
                            refine hKK.out _ _ trivial (fun _ => ?_)
                            clear hKK KK
                            try simp only [Act.put]
                            refine wpAnyH_name (fun u9 hu9 => ?_)
                            have Z1 : DB u9 hA (.slice a4 n4 c4) k q s.g := by rw [hu9.out]; exact (HD.out u7 Du7).2.2.2.2.1.set0 _
                            have nA : Value.ownBlock (.slice a4 n4 c4) ≠ some hA := fun e => by have h1 := r4.base e; have h2 := blk_lt HG.out.1; omega
                            have hpA : hP ≠ hA := by have := HLT.out; omega
                            have hrA : hR ≠ hA := by have := HLT.out; omega
                            have Z2 : RP 29 u9 w.heap.size (.slice a4 n4 c4) (s.o ++ [p]) := by rw [hu9.out]; exact (r4.mono HB3.out.size).set nA
                            have Z3 : PB u9 hP 29 p := by rw [hu9.out]; exact (Below.heap_setCell _ _ _ _ hpA).trans (HD.out u7 Du7).2.2.1
                            have Z4 : DB u9 hR (.slice none 0 0) 0 pk0 0 := by rw [hu9.out]; exact (Below.heap_setCell _ _ _ _ hrA).trans (HD.out u7 Du7).2.2.2.2.2.1
                            have Z5 : Below w.heap.size w u9 := by rw [hu9.out]; exact ((HD.out u7 Du7).2.2.2.2.2.2).setCell HLE.out.1 _
                            refine wpAnyH_done (by kernel_rfl) ?_ _
                            go_wp2_with fail
                            go_meet
                            exact ⟨_, Z1, Z2, Z3, Z4, Z5⟩
                          exact AllReadyH.nil
                        exact AllReadyH.nil
                      exact AllReadyH.nil
                    exact AllReadyH.nil
                  refine AllReadyH.cons (o := { dst := some 58, op := Op.load 29 (Operand.tmp 3), type := 29, pos := "ref.go:48", after := #[], guard := none }) rfl (fun KK hKK => ?_) ?_
                  · obtain ⟨y0, y1, y2, y3⟩ := (HD.out u3 Du3).2.1
                    simp only [Nat.zero_add] at y0 y1 y2 y3
                    go_simp
                    refine hKK.out _ _ trivial (fun _ => ?_)
                    clear hKK KK
                    try simp only [Act.put, List.setIfInBounds_toArray, List.set_cons_zero, List.set_cons_succ]
                    refine wpAnyH_name (fun u10 hu10 => ?_)
                    have Du10 := Du3
                    rw [← hu10.out] at Du10
                    try rw [← hu10.out] at r3
                    refine wpAnyH_ready (rs := [3, 5]) (by kernel_rfl) (by simp) ?_
                    refine AllReadyH.cons (o := { dst := some 57, op := Op.call { callee := Callee.builtin Builtin.append, args := #[Operand.tmp 54, Operand.tmp 56], argTypes := #[27, 27] }, type := 27, pos := "ref.go:48", after := #[{ on := 0, ground := Ground.data }, { on := 2, ground := Ground.data }], guard := none }) rfl (fun KK hKK => ?_) ?_
                    · refine wp_append_pks _ _ rfl W3.heap.size (.slice none 0 0) [] (by simp [Act.eval]) (RP.nil _ _ _) (.slice a n9 c) s.o (by simp [Act.eval]) (HD.out u10 Du10).2.2.2.1 (by simp only [List.length_nil]; have := HN9.out; omega) Du10.size ?_
                      intro v3 u11' r3 g3
                      refine hKK.out _ _ trivial (fun _ => ?_)
                      clear hKK KK
                      try simp only [Act.put, List.setIfInBounds_toArray, List.set_cons_zero, List.set_cons_succ]
                      refine wpAnyH_name (fun u11 hu11 => ?_)
                      rw [← hu11.out] at r3 g3
                      have Du11 : Below W3.heap.size W3 u11 := grown_below Du10 Du10.size g3 (fun i hi => by cases hi)
                      try replace gB : PB u11 _ 29 p := (g3.block _ (blk_lt gB) (fun e => by cases e)).trans gB
                      simp only [List.nil_append] at r3
                      obtain ⟨a3, c3, rfl, -⟩ := id r3.is.shape
                      rw [← HN9.out] at r3
                      refine wpAnyH_ready (rs := [5]) (by kernel_rfl) (by simp) ?_
                      refine AllReadyH.cons (o := { dst := some 59, op := Op.buildSlice 27 1 #[(0, Operand.tmp 58)], type := 27, pos := "ref.go:48", after := #[{ on := 4, ground := Ground.data }], guard := none }) rfl (fun KK hKK => ?_) ?_
                      · go_simp
                        refine hKK.out _ _ trivial (fun _ => ?_)
                        clear hKK KK
                        try simp only [Act.put, List.setIfInBounds_toArray, List.set_cons_zero, List.set_cons_succ]
                        refine wpAnyH_name (fun u12 hu12 => ?_)
                        have Du12 : Below W3.heap.size W3 u12 := by rw [hu12.out]; exact Du11.trans ((al_b _ _).mono Du11.size)
                        have gB : PB u12 u11.heap.size 29 p := by rw [hu12.out]; exact PB.new _ _ _
                        try replace r3 : RP 29 u12 W3.heap.size (.slice a3 n9 c3) s.o := by rw [hu12.out]; exact r3.below (al_b _ _)
                        refine wpAnyH_ready (rs := [6]) (by kernel_rfl) (by simp) ?_
                        refine AllReadyH.cons (o := { dst := some 60, op := Op.call { callee := Callee.builtin Builtin.append, args := #[Operand.tmp 57, Operand.tmp 59], argTypes := #[27, 27] }, type := 27, pos := "ref.go:48", after := #[{ on := 3, ground := Ground.data }, { on := 5, ground := Ground.data }, { on := 3, ground := Ground.chain }], guard := none }) rfl (fun KK hKK => ?_) ?_
                        · refine wp_append_pks _ _ rfl W3.heap.size (.slice a3 n9 c3) s.o (by first | (simp [Act.eval]; done) | (simp [Act.eval, HN9.out])) r3 (.slice (some ⟨u11.heap.size, 0, none⟩) 1 1) [p] (by simp [Act.eval]) gB.ps (by rw [← HN9.out]; simp only [List.length_singleton]; omega) Du12.size ?_
                          intro v4 u13' r4 g4
                          refine hKK.out _ _ trivial (fun _ => ?_)
                          clear hKK KK
                          try simp only [Act.put, List.setIfInBounds_toArray, List.set_cons_zero, List.set_cons_succ]
                          refine wpAnyH_name (fun u13 hu13 => ?_)
                          rw [← hu13.out] at r4 g4
                          obtain ⟨a4, c4, rfl, -⟩ := id r4.is.shape
                          generalize hz4 : (s.o ++ [p]).length = n4 at *
                          clear hz4
                          have Du13 : Below W3.heap.size W3 u13 := grown_below Du12 Du12.size g4 (fun i hi => r3.base hi)
                          obtain ⟨q0, -, -, -, -, -, -, f0, -, -, -, -, -, -⟩ := (HD.out u13 Du13).1
                          refine wpAnyH_take (i := 7) (oi := { dst := some 61, op := Op.fieldAddr 31 (Operand.tmp 2) 0, type := 0, pos := "ref.go:48", after := #[{ on := 0, ground := Ground.phase }, { on := 1, ground := Ground.phase }, { on := 2, ground := Ground.phase }, { on := 3, ground := Ground.phase }, { on := 4, ground := Ground.phase }, { on := 5, ground := Ground.phase }, { on := 6, ground := Ground.phase }], guard := none }) (v := ?vb14) rfl (by kernel_rfl) (by kernel_rfl) (by kernel_rfl) (fun _ _ _ h => h) (Or.inl ⟨by rfl, ?yb14⟩) trivial ?rb14
                          case yb14 => (intro w hSw; go_simp; try with_reducible rfl)
                          try simp only [Act.put, List.setIfInBounds_toArray, List.set_cons_zero, List.set_cons_succ]
                          refine wpAnyH_ready (rs := [8]) (by kernel_rfl) (by simp) ?_
                          refine AllReadyH.cons (o := { dst := none, op := Op.store 27 (Operand.tmp 61) (Operand.tmp 60), type := 0, pos := "ref.go:48", after := #[{ on := 7, ground := Ground.data }, { on := 6, ground := Ground.data }, { on := 6, ground := Ground.chain }, { on := 0, ground := Ground.phase }, { on := 1, ground := Ground.phase }, { on := 2, ground := Ground.phase }, { on := 3, ground := Ground.phase }, { on := 4, ground := Ground.phase }, { on := 5, ground := Ground.phase }, { on := 6, ground := Ground.phase }], guard := none }) rfl (fun KK hKK => ?_) ?_
                          · go_simp
                            refine hKK.out _ _ trivial (fun _ => ?_)
                            clear hKK KK
                            try simp only [Act.put]
                            refine wpAnyH_name (fun u15 hu15 => ?_)
                            have Z1 : DB u15 hA (.slice a4 n4 c4) k q s.g := by rw [hu15.out]; exact (HD.out u13 Du13).2.2.2.2.1.set0 _
                            have nA : Value.ownBlock (.slice a4 n4 c4) ≠ some hA := fun e => by have h1 := r4.base e; have h2 := blk_lt HG.out.1; omega
                            have hpA : hP ≠ hA := by have := HLT.out; omega
                            have hrA : hR ≠ hA := by have := HLT.out; omega
                            have Z2 : RP 29 u15 w.heap.size (.slice a4 n4 c4) (s.o ++ [p]) := by rw [hu15.out]; exact (r4.mono HB3.out.size).set nA
                            have Z3 : PB u15 hP 29 p := by rw [hu15.out]; exact (Below.heap_setCell _ _ _ _ hpA).trans (HD.out u13 Du13).2.2.1
                            have Z4 : DB u15 hR (.slice none 0 0) 0 pk0 0 := by rw [hu15.out]; exact (Below.heap_setCell _ _ _ _ hrA).trans (HD.out u13 Du13).2.2.2.2.2.1
                            have Z5 : Below w.heap.size w u15 := by rw [hu15.out]; exact ((HD.out u13 Du13).2.2.2.2.2.2).setCell HLE.out.1 _
                            refine wpAnyH_done (by kernel_rfl) ?_ _
                            go_wp2_with fail
                            go_meet
                            exact ⟨_, Z1, Z2, Z3, Z4, Z5⟩
                          exact AllReadyH.nil
                        exact AllReadyH.nil
                      exact AllReadyH.nil
                    refine AllReadyH.cons (o := { dst := some 59, op := Op.buildSlice 27 1 #[(0, Operand.tmp 58)], type := 27, pos := "ref.go:48", after := #[{ on := 4, ground := Ground.data }], guard := none }) rfl (fun KK hKK => ?_) ?_
                    · go_simp
                      refine hKK.out _ _ trivial (fun _ => ?_)
                      clear hKK KK
                      try simp only [Act.put, List.setIfInBounds_toArray, List.set_cons_zero, List.set_cons_succ]
                      refine wpAnyH_name (fun u16 hu16 => ?_)
                      have Du16 : Below W3.heap.size W3 u16 := by rw [hu16.out]; exact Du10.trans ((al_b _ _).mono Du10.size)
                      have gB : PB u16 u10.heap.size 29 p := by rw [hu16.out]; exact PB.new _ _ _
                      try replace r3 : RP 29 u16 W3.heap.size (.slice a3 n9 c3) s.o := by rw [hu16.out]; exact r3.below (al_b _ _)
                      refine wpAnyH_ready (rs := [3]) (by kernel_rfl) (by simp) ?_
                      refine AllReadyH.cons (o := { dst := some 57, op := Op.call { callee := Callee.builtin Builtin.append, args := #[Operand.tmp 54, Operand.tmp 56], argTypes := #[27, 27] }, type := 27, pos := "ref.go:48", after := #[{ on := 0, ground := Ground.data }, { on := 2, ground := Ground.data }], guard := none }) rfl (fun KK hKK => ?_) ?_
                      · refine wp_append_pks _ _ rfl W3.heap.size (.slice none 0 0) [] (by simp [Act.eval]) (RP.nil _ _ _) (.slice a n9 c) s.o (by simp [Act.eval]) (HD.out u16 Du16).2.2.2.1 (by simp only [List.length_nil]; have := HN9.out; omega) Du16.size ?_
                        intro v3 u17' r3 g3
                        refine hKK.out _ _ trivial (fun _ => ?_)
                        clear hKK KK
                        try simp only [Act.put, List.setIfInBounds_toArray, List.set_cons_zero, List.set_cons_succ]
                        refine wpAnyH_name (fun u17 hu17 => ?_)
                        rw [← hu17.out] at r3 g3
                        have Du17 : Below W3.heap.size W3 u17 := grown_below Du16 Du16.size g3 (fun i hi => by cases hi)
                        try replace gB : PB u17 _ 29 p := (g3.block _ (blk_lt gB) (fun e => by cases e)).trans gB
                        simp only [List.nil_append] at r3
                        obtain ⟨a3, c3, rfl, -⟩ := id r3.is.shape
                        rw [← HN9.out] at r3
                        refine wpAnyH_ready (rs := [6]) (by kernel_rfl) (by simp) ?_
                        refine AllReadyH.cons (o := { dst := some 60, op := Op.call { callee := Callee.builtin Builtin.append, args := #[Operand.tmp 57, Operand.tmp 59], argTypes := #[27, 27] }, type := 27, pos := "ref.go:48", after := #[{ on := 3, ground := Ground.data }, { on := 5, ground := Ground.data }, { on := 3, ground := Ground.chain }], guard := none }) rfl (fun KK hKK => ?_) ?_
                        · refine wp_append_pks _ _ rfl W3.heap.size (.slice a3 n9 c3) s.o (by first | (simp [Act.eval]; done) | (simp [Act.eval, HN9.out])) r3 (.slice (some ⟨u10.heap.size, 0, none⟩) 1 1) [p] (by simp [Act.eval]) gB.ps (by rw [← HN9.out]; simp only [List.length_singleton]; omega) Du17.size ?_
                          intro v4 u18' r4 g4
                          refine hKK.out _ _ trivial (fun _ => ?_)
                          clear hKK KK
                          try simp only [Act.put, List.setIfInBounds_toArray, List.set_cons_zero, List.set_cons_succ]
                          refine wpAnyH_name (fun u18 hu18 => ?_)
                          rw [← hu18.out] at r4 g4
                          obtain ⟨a4, c4, rfl, -⟩ := id r4.is.shape
                          generalize hz4 : (s.o ++ [p]).length = n4 at *
                          clear hz4
                          have Du18 : Below W3.heap.size W3 u18 := grown_below Du17 Du17.size g4 (fun i hi => r3.base hi)
                          obtain ⟨q0, -, -, -, -, -, -, f0, -, -, -, -, -, -⟩ := (HD.out u18 Du18).1
                          refine wpAnyH_take (i := 7) (oi := { dst := some 61, op := Op.fieldAddr 31 (Operand.tmp 2) 0, type := 0, pos := "ref.go:48", after := #[{ on := 0, ground := Ground.phase }, { on := 1, ground := Ground.phase }, { on := 2, ground := Ground.phase }, { on := 3, ground := Ground.phase }, { on := 4, ground := Ground.phase }, { on := 5, ground := Ground.phase }, { on := 6, ground := Ground.phase }], guard := none }) (v := ?vb19) rfl (by kernel_rfl) (by kernel_rfl) (by kernel_rfl) (fun _ _ _ h => h) (Or.inl ⟨by rfl, ?yb19⟩) trivial ?rb19
                          case yb19 => (intro w hSw; go_simp; try with_reducible rfl)
                          try simp only [Act.put, List.setIfInBounds_toArray, List.set_cons_zero, List.set_cons_succ]
                          refine wpAnyH_ready (rs := [8]) (by kernel_rfl) (by simp) ?_
                          refine AllReadyH.cons (o := { dst := none, op := Op.store 27 (Operand.tmp 61) (Operand.tmp 60), type := 0, pos := "ref.go:48", after := #[{ on := 7, ground := Ground.data }, { on := 6, ground := Ground.data }, { on := 6, ground := Ground.chain }, { on := 0, ground := Ground.phase }, { on := 1, ground := Ground.phase }, { on := 2, ground := Ground.phase }, { on := 3, ground := Ground.phase }, { on := 4, ground := Ground.phase }, { on := 5, ground := Ground.phase }, { on := 6, ground := Ground.phase }], guard := none }) rfl (fun KK hKK => ?_) ?_
                          · go_simp
                            refine hKK.out _ _ trivial (fun _ => ?_)
                            clear hKK KK
                            try simp only [Act.put]
                            refine wpAnyH_name (fun u20 hu20 => ?_)
                            have Z1 : DB u20 hA (.slice a4 n4 c4) k q s.g := by rw [hu20.out]; exact (HD.out u18 Du18).2.2.2.2.1.set0 _
                            have nA : Value.ownBlock (.slice a4 n4 c4) ≠ some hA := fun e => by have h1 := r4.base e; have h2 := blk_lt HG.out.1; omega
                            have hpA : hP ≠ hA := by have := HLT.out; omega
                            have hrA : hR ≠ hA := by have := HLT.out; omega
                            have Z2 : RP 29 u20 w.heap.size (.slice a4 n4 c4) (s.o ++ [p]) := by rw [hu20.out]; exact (r4.mono HB3.out.size).set nA
                            have Z3 : PB u20 hP 29 p := by rw [hu20.out]; exact (Below.heap_setCell _ _ _ _ hpA).trans (HD.out u18 Du18).2.2.1
                            have Z4 : DB u20 hR (.slice none 0 0) 0 pk0 0 := by rw [hu20.out]; exact (Below.heap_setCell _ _ _ _ hrA).trans (HD.out u18 Du18).2.2.2.2.2.1
                            have Z5 : Below w.heap.size w u20 := by rw [hu20.out]; exact ((HD.out u18 Du18).2.2.2.2.2.2).setCell HLE.out.1 _
                            refine wpAnyH_done (by kernel_rfl) ?_ _
                            go_wp2_with fail
                            go_meet
                            exact ⟨_, Z1, Z2, Z3, Z4, Z5⟩
                          exact AllReadyH.nil
                        exact AllReadyH.nil
                      exact AllReadyH.nil
                    exact AllReadyH.nil
                  exact AllReadyH.nil
                refine AllReadyH.cons (o := { dst := some 58, op := Op.load 29 (Operand.tmp 3), type := 29, pos := "ref.go:48", after := #[], guard := none }) rfl (fun KK hKK => ?_) ?_
                · obtain ⟨y0, y1, y2, y3⟩ := (HD.out u0 Du0).2.1
                  simp only [Nat.zero_add] at y0 y1 y2 y3
                  go_simp
                  refine hKK.out _ _ trivial (fun _ => ?_)
                  clear hKK KK
                  try simp only [Act.put, List.setIfInBounds_toArray, List.set_cons_zero, List.set_cons_succ]
                  refine wpAnyH_name (fun u21 hu21 => ?_)
                  have Du21 := Du0
                  rw [← hu21.out] at Du21
                  try rw [← hu21.out] at r3
                  refine wpAnyH_ready (rs := [2, 5]) (by kernel_rfl) (by simp) ?_
                  refine AllReadyH.cons (o := { dst := some 56, op := Op.load 27 (Operand.tmp 55), type := 27, pos := "ref.go:48", after := #[{ on := 1, ground := Ground.data }], guard := none }) rfl (fun KK hKK => ?_) ?_
                  · have xl := (HD.out u21 Du21).1.c0
                    go_simp
                    refine hKK.out _ _ trivial (fun _ => ?_)
                    clear hKK KK
                    try simp only [Act.put, List.setIfInBounds_toArray, List.set_cons_zero, List.set_cons_succ]
                    refine wpAnyH_name (fun u22 hu22 => ?_)
                    have Du22 := Du21
                    rw [← hu22.out] at Du22
                    try rw [← hu22.out] at gB
                    refine wpAnyH_ready (rs := [3, 5]) (by kernel_rfl) (by simp) ?_
                    refine AllReadyH.cons (o := { dst := some 57, op := Op.call { callee := Callee.builtin Builtin.append, args := #[Operand.tmp 54, Operand.tmp 56], argTypes := #[27, 27] }, type := 27, pos := "ref.go:48", after := #[{ on := 0, ground := Ground.data }, { on := 2, ground := Ground.data }], guard := none }) rfl (fun KK hKK => ?_) ?_
                    · refine wp_append_pks _ _ rfl W3.heap.size (.slice none 0 0) [] (by simp [Act.eval]) (RP.nil _ _ _) (.slice a n9 c) s.o (by simp [Act.eval]) (HD.out u22 Du22).2.2.2.1 (by simp only [List.length_nil]; have := HN9.out; omega) Du22.size ?_
                      intro v3 u23' r3 g3
                      refine hKK.out _ _ trivial (fun _ => ?_)
                      clear hKK KK
                      try simp only [Act.put, List.setIfInBounds_toArray, List.set_cons_zero, List.set_cons_succ]
                      refine wpAnyH_name (fun u23 hu23 => ?_)
                      rw [← hu23.out] at r3 g3
                      have Du23 : Below W3.heap.size W3 u23 := grown_below Du22 Du22.size g3 (fun i hi => by cases hi)
                      try replace gB : PB u23 _ 29 p := (g3.block _ (blk_lt gB) (fun e => by cases e)).trans gB
                      simp only [List.nil_append] at r3
                      obtain ⟨a3, c3, rfl, -⟩ := id r3.is.shape
                      rw [← HN9.out] at r3
                      refine wpAnyH_ready (rs := [5]) (by kernel_rfl) (by simp) ?_
                      refine AllReadyH.cons (o := { dst := some 59, op := Op.buildSlice 27 1 #[(0, Operand.tmp 58)], type := 27, pos := "ref.go:48", after := #[{ on := 4, ground := Ground.data }], guard := none }) rfl (fun KK hKK => ?_) ?_
                      · go_simp
                        refine hKK.out _ _ trivial (fun _ => ?_)
                        clear hKK KK
                        try simp only [Act.put, List.setIfInBounds_toArray, List.set_cons_zero, List.set_cons_succ]
                        refine wpAnyH_name (fun u24 hu24 => ?_)
                        have Du24 : Below W3.heap.size W3 u24 := by rw [hu24.out]; exact Du23.trans ((al_b _ _).mono Du23.size)
                        have gB : PB u24 u23.heap.size 29 p := by rw [hu24.out]; exact PB.new _ _ _
                        try replace r3 : RP 29 u24 W3.heap.size (.slice a3 n9 c3) s.o := by rw [hu24.out]; exact r3.below (al_b _ _)
                        refine wpAnyH_ready (rs := [6]) (by kernel_rfl) (by simp) ?_
                        refine AllReadyH.cons (o := { dst := some 60, op := Op.call { callee := Callee.builtin Builtin.append, args := #[Operand.tmp 57, Operand.tmp 59], argTypes := #[27, 27] }, type := 27, pos := "ref.go:48", after := #[{ on := 3, ground := Ground.data }, { on := 5, ground := Ground.data }, { on := 3, ground := Ground.chain }], guard := none }) rfl (fun KK hKK => ?_) ?_
                        · refine wp_append_pks _ _ rfl W3.heap.size (.slice a3 n9 c3) s.o (by first | (simp [Act.eval]; done) | (simp [Act.eval, HN9.out])) r3 (.slice (some ⟨u23.heap.size, 0, none⟩) 1 1) [p] (by simp [Act.eval]) gB.ps (by rw [← HN9.out]; simp only [List.length_singleton]; omega) Du24.size ?_
                          intro v4 u25' r4 g4
                          refine hKK.out _ _ trivial (fun _ => ?_)
                          clear hKK KK
                          try simp only [Act.put, List.setIfInBounds_toArray, List.set_cons_zero, List.set_cons_succ]
                          refine wpAnyH_name (fun u25 hu25 => ?_)
                          rw [← hu25.out] at r4 g4
                          obtain ⟨a4, c4, rfl, -⟩ := id r4.is.shape
                          generalize hz4 : (s.o ++ [p]).length = n4 at *
                          clear hz4
                          have Du25 : Below W3.heap.size W3 u25 := grown_below Du24 Du24.size g4 (fun i hi => r3.base hi)
                          obtain ⟨q0, -, -, -, -, -, -, f0, -, -, -, -, -, -⟩ := (HD.out u25 Du25).1
                          refine wpAnyH_take (i := 7) (oi := { dst := some 61, op := Op.fieldAddr 31 (Operand.tmp 2) 0, type := 0, pos := "ref.go:48", after := #[{ on := 0, ground := Ground.phase }, { on := 1, ground := Ground.phase }, { on := 2, ground := Ground.phase }, { on := 3, ground := Ground.phase }, { on := 4, ground := Ground.phase }, { on := 5, ground := Ground.phase }, { on := 6, ground := Ground.phase }], guard := none }) (v := ?vb26) rfl (by kernel_rfl) (by kernel_rfl) (by kernel_rfl) (fun _ _ _ h => h) (Or.inl ⟨by rfl, ?yb26⟩) trivial ?rb26
                          case yb26 => (intro w hSw; go_simp; try with_reducible rfl)
                          try simp only [Act.put, List.setIfInBounds_toArray, List.set_cons_zero, List.set_cons_succ]
                          refine wpAnyH_ready (rs := [8]) (by kernel_rfl) (by simp) ?_
                          refine AllReadyH.cons (o := { dst := none, op := Op.store 27 (Operand.tmp 61) (Operand.tmp 60), type := 0, pos := "ref.go:48", after := #[{ on := 7, ground := Ground.data }, { on := 6, ground := Ground.data }, { on := 6, ground := Ground.chain }, { on := 0, ground := Ground.phase }, { on := 1, ground := Ground.phase }, { on := 2, ground := Ground.phase }, { on := 3, ground := Ground.phase }, { on := 4, ground := Ground.phase }, { on := 5, ground := Ground.phase }, { on := 6, ground := Ground.phase }], guard := none }) rfl (fun KK hKK => ?_) ?_
                          · go_simp
                            refine hKK.out _ _ trivial (fun _ => ?_)
                            clear hKK KK
                            try simp only [Act.put]
                            refine wpAnyH_name (fun u27 hu27 => ?_)
                            have Z1 : DB u27 hA (.slice a4 n4 c4) k q s.g := by rw [hu27.out]; exact (HD.out u25 Du25).2.2.2.2.1.set0 _
                            have nA : Value.ownBlock (.slice a4 n4 c4) ≠ some hA := fun e => by have h1 := r4.base e; have h2 := blk_lt HG.out.1; omega
                            have hpA : hP ≠ hA := by have := HLT.out; omega
                            have hrA : hR ≠ hA := by have := HLT.out; omega
                            have Z2 : RP 29 u27 w.heap.size (.slice a4 n4 c4) (s.o ++ [p]) := by rw [hu27.out]; exact (r4.mono HB3.out.size).set nA
                            have Z3 : PB u27 hP 29 p := by rw [hu27.out]; exact (Below.heap_setCell _ _ _ _ hpA).trans (HD.out u25 Du25).2.2.1
                            have Z4 : DB u27 hR (.slice none 0 0) 0 pk0 0 := by rw [hu27.out]; exact (Below.heap_setCell _ _ _ _ hrA).trans (HD.out u25 Du25).2.2.2.2.2.1
                            have Z5 : Below w.heap.size w u27 := by rw [hu27.out]; exact ((HD.out u25 Du25).2.2.2.2.2.2).setCell HLE.out.1 _
                            refine wpAnyH_done (by kernel_rfl) ?_ _
                            go_wp2_with fail
                            go_meet
                            exact ⟨_, Z1, Z2, Z3, Z4, Z5⟩
                          exact AllReadyH.nil
                        exact AllReadyH.nil
                      exact AllReadyH.nil
                    refine AllReadyH.cons (o := { dst := some 59, op := Op.buildSlice 27 1 #[(0, Operand.tmp 58)], type := 27, pos := "ref.go:48", after := #[{ on := 4, ground := Ground.data }], guard := none }) rfl (fun KK hKK => ?_) ?_
                    · go_simp
                      refine hKK.out _ _ trivial (fun _ => ?_)
                      clear hKK KK
                      try simp only [Act.put, List.setIfInBounds_toArray, List.set_cons_zero, List.set_cons_succ]
                      refine wpAnyH_name (fun u28 hu28 => ?_)
                      have Du28 : Below W3.heap.size W3 u28 := by rw [hu28.out]; exact Du22.trans ((al_b _ _).mono Du22.size)
                      have gB : PB u28 u22.heap.size 29 p := by rw [hu28.out]; exact PB.new _ _ _
                      try replace r3 : RP 29 u28 W3.heap.size (.slice a3 n9 c3) s.o := by rw [hu28.out]; exact r3.below (al_b _ _)
                      refine wpAnyH_ready (rs := [3]) (by kernel_rfl) (by simp) ?_
                      refine AllReadyH.cons (o := { dst := some 57, op := Op.call { callee := Callee.builtin Builtin.append, args := #[Operand.tmp 54, Operand.tmp 56], argTypes := #[27, 27] }, type := 27, pos := "ref.go:48", after := #[{ on := 0, ground := Ground.data }, { on := 2, ground := Ground.data }], guard := none }) rfl (fun KK hKK => ?_) ?_
                      · refine wp_append_pks _ _ rfl W3.heap.size (.slice none 0 0) [] (by simp [Act.eval]) (RP.nil _ _ _) (.slice a n9 c) s.o (by simp [Act.eval]) (HD.out u28 Du28).2.2.2.1 (by simp only [List.length_nil]; have := HN9.out; omega) Du28.size ?_
                        intro v3 u29' r3 g3
                        refine hKK.out _ _ trivial (fun _ => ?_)
                        clear hKK KK
                        try simp only [Act.put, List.setIfInBounds_toArray, List.set_cons_zero, List.set_cons_succ]
                        refine wpAnyH_name (fun u29 hu29 => ?_)
                        rw [← hu29.out] at r3 g3
                        have Du29 : Below W3.heap.size W3 u29 := grown_below Du28 Du28.size g3 (fun i hi => by cases hi)
                        try replace gB : PB u29 _ 29 p := (g3.block _ (blk_lt gB) (fun e => by cases e)).trans gB
                        simp only [List.nil_append] at r3
                        obtain ⟨a3, c3, rfl, -⟩ := id r3.is.shape
                        rw [← HN9.out] at r3
                        refine wpAnyH_ready (rs := [6]) (by kernel_rfl) (by simp) ?_
                        refine AllReadyH.cons (o := { dst := some 60, op := Op.call { callee := Callee.builtin Builtin.append, args := #[Operand.tmp 57, Operand.tmp 59], argTypes := #[27, 27] }, type := 27, pos := "ref.go:48", after := #[{ on := 3, ground := Ground.data }, { on := 5, ground := Ground.data }, { on := 3, ground := Ground.chain }], guard := none }) rfl (fun KK hKK => ?_) ?_
                        · refine wp_append_pks _ _ rfl W3.heap.size (.slice a3 n9 c3) s.o (by first | (simp [Act.eval]; done) | (simp [Act.eval, HN9.out])) r3 (.slice (some ⟨u22.heap.size, 0, none⟩) 1 1) [p] (by simp [Act.eval]) gB.ps (by rw [← HN9.out]; simp only [List.length_singleton]; omega) Du29.size ?_
                          intro v4 u30' r4 g4
                          refine hKK.out _ _ trivial (fun _ => ?_)
                          clear hKK KK
                          try simp only [Act.put, List.setIfInBounds_toArray, List.set_cons_zero, List.set_cons_succ]
                          refine wpAnyH_name (fun u30 hu30 => ?_)
                          rw [← hu30.out] at r4 g4
                          obtain ⟨a4, c4, rfl, -⟩ := id r4.is.shape
                          generalize hz4 : (s.o ++ [p]).length = n4 at *
                          clear hz4
                          have Du30 : Below W3.heap.size W3 u30 := grown_below Du29 Du29.size g4 (fun i hi => r3.base hi)
                          obtain ⟨q0, -, -, -, -, -, -, f0, -, -, -, -, -, -⟩ := (HD.out u30 Du30).1
                          refine wpAnyH_take (i := 7) (oi := { dst := some 61, op := Op.fieldAddr 31 (Operand.tmp 2) 0, type := 0, pos := "ref.go:48", after := #[{ on := 0, ground := Ground.phase }, { on := 1, ground := Ground.phase }, { on := 2, ground := Ground.phase }, { on := 3, ground := Ground.phase }, { on := 4, ground := Ground.phase }, { on := 5, ground := Ground.phase }, { on := 6, ground := Ground.phase }], guard := none }) (v := ?vb31) rfl (by kernel_rfl) (by kernel_rfl) (by kernel_rfl) (fun _ _ _ h => h) (Or.inl ⟨by rfl, ?yb31⟩) trivial ?rb31
                          case yb31 => (intro w hSw; go_simp; try with_reducible rfl)
                          try simp only [Act.put, List.setIfInBounds_toArray, List.set_cons_zero, List.set_cons_succ]
                          refine wpAnyH_ready (rs := [8]) (by kernel_rfl) (by simp) ?_
                          refine AllReadyH.cons (o := { dst := none, op := Op.store 27 (Operand.tmp 61) (Operand.tmp 60), type := 0, pos := "ref.go:48", after := #[{ on := 7, ground := Ground.data }, { on := 6, ground := Ground.data }, { on := 6, ground := Ground.chain }, { on := 0, ground := Ground.phase }, { on := 1, ground := Ground.phase }, { on := 2, ground := Ground.phase }, { on := 3, ground := Ground.phase }, { on := 4, ground := Ground.phase }, { on := 5, ground := Ground.phase }, { on := 6, ground := Ground.phase }], guard := none }) rfl (fun KK hKK => ?_) ?_
                          · go_simp
                            refine hKK.out _ _ trivial (fun _ => ?_)
                            clear hKK KK
                            try simp only [Act.put]
                            refine wpAnyH_name (fun u32 hu32 => ?_)
                            have Z1 : DB u32 hA (.slice a4 n4 c4) k q s.g := by rw [hu32.out]; exact (HD.out u30 Du30).2.2.2.2.1.set0 _
                            have nA : Value.ownBlock (.slice a4 n4 c4) ≠ some hA := fun e => by have h1 := r4.base e; have h2 := blk_lt HG.out.1; omega
                            have hpA : hP ≠ hA := by have := HLT.out; omega
                            have hrA : hR ≠ hA := by have := HLT.out; omega
                            have Z2 : RP 29 u32 w.heap.size (.slice a4 n4 c4) (s.o ++ [p]) := by rw [hu32.out]; exact (r4.mono HB3.out.size).set nA
                            have Z3 : PB u32 hP 29 p := by rw [hu32.out]; exact (Below.heap_setCell _ _ _ _ hpA).trans (HD.out u30 Du30).2.2.1
                            have Z4 : DB u32 hR (.slice none 0 0) 0 pk0 0 := by rw [hu32.out]; exact (Below.heap_setCell _ _ _ _ hrA).trans (HD.out u30 Du30).2.2.2.2.2.1
                            have Z5 : Below w.heap.size w u32 := by rw [hu32.out]; exact ((HD.out u30 Du30).2.2.2.2.2.2).setCell HLE.out.1 _
                            refine wpAnyH_done (by kernel_rfl) ?_ _
                            go_wp2_with fail
                            go_meet
                            exact ⟨_, Z1, Z2, Z3, Z4, Z5⟩
                          exact AllReadyH.nil
                        exact AllReadyH.nil
                      exact AllReadyH.nil
                    exact AllReadyH.nil
                  refine AllReadyH.cons (o := { dst := some 59, op := Op.buildSlice 27 1 #[(0, Operand.tmp 58)], type := 27, pos := "ref.go:48", after := #[{ on := 4, ground := Ground.data }], guard := none }) rfl (fun KK hKK => ?_) ?_
                  · go_simp
                    refine hKK.out _ _ trivial (fun _ => ?_)
                    clear hKK KK
                    try simp only [Act.put, List.setIfInBounds_toArray, List.set_cons_zero, List.set_cons_succ]
                    refine wpAnyH_name (fun u33 hu33 => ?_)
                    have Du33 : Below W3.heap.size W3 u33 := by rw [hu33.out]; exact Du21.trans ((al_b _ _).mono Du21.size)
                    have gB : PB u33 u21.heap.size 29 p := by rw [hu33.out]; exact PB.new _ _ _
                    try replace r3 : RP 29 u33 W3.heap.size (.slice a3 n9 c3) s.o := by rw [hu33.out]; exact r3.below (al_b _ _)
                    refine wpAnyH_ready (rs := [2]) (by kernel_rfl) (by simp) ?_
                    refine AllReadyH.cons (o := { dst := some 56, op := Op.load 27 (Operand.tmp 55), type := 27, pos := "ref.go:48", after := #[{ on := 1, ground := Ground.data }], guard := none }) rfl (fun KK hKK => ?_) ?_
                    · have xl := (HD.out u33 Du33).1.c0
                      go_simp
                      refine hKK.out _ _ trivial (fun _ => ?_)
                      clear hKK KK
                      try simp only [Act.put, List.setIfInBounds_toArray, List.set_cons_zero, List.set_cons_succ]
                      refine wpAnyH_name (fun u34 hu34 => ?_)
                      have Du34 := Du33
                      rw [← hu34.out] at Du34
                      try rw [← hu34.out] at gB
                      refine wpAnyH_ready (rs := [3]) (by kernel_rfl) (by simp) ?_
                      refine AllReadyH.cons (o := { dst := some 57, op := Op.call { callee := Callee.builtin Builtin.append, args := #[Operand.tmp 54, Operand.tmp 56], argTypes := #[27, 27] }, type := 27, pos := "ref.go:48", after := #[{ on := 0, ground := Ground.data }, { on := 2, ground := Ground.data }], guard := none }) rfl (fun KK hKK => ?_) ?_
                      · refine wp_append_pks _ _ rfl W3.heap.size (.slice none 0 0) [] (by simp [Act.eval]) (RP.nil _ _ _) (.slice a n9 c) s.o (by simp [Act.eval]) (HD.out u34 Du34).2.2.2.1 (by simp only [List.length_nil]; have := HN9.out; omega) Du34.size ?_
                        intro v3 u35' r3 g3
                        refine hKK.out _ _ trivial (fun _ => ?_)
                        clear hKK KK
                        try simp only [Act.put, List.setIfInBounds_toArray, List.set_cons_zero, List.set_cons_succ]
                        refine wpAnyH_name (fun u35 hu35 => ?_)
                        rw [← hu35.out] at r3 g3
                        have Du35 : Below W3.heap.size W3 u35 := grown_below Du34 Du34.size g3 (fun i hi => by cases hi)
                        try replace gB : PB u35 _ 29 p := (g3.block _ (blk_lt gB) (fun e => by cases e)).trans gB
                        simp only [List.nil_append] at r3
                        obtain ⟨a3, c3, rfl, -⟩ := id r3.is.shape
                        rw [← HN9.out] at r3
                        refine wpAnyH_ready (rs := [6]) (by kernel_rfl) (by simp) ?_
                        refine AllReadyH.cons (o := { dst := some 60, op := Op.call { callee := Callee.builtin Builtin.append, args := #[Operand.tmp 57, Operand.tmp 59], argTypes := #[27, 27] }, type := 27, pos := "ref.go:48", after := #[{ on := 3, ground := Ground.data }, { on := 5, ground := Ground.data }, { on := 3, ground := Ground.chain }], guard := none }) rfl (fun KK hKK => ?_) ?_
                        · refine wp_append_pks _ _ rfl W3.heap.size (.slice a3 n9 c3) s.o (by first | (simp [Act.eval]; done) | (simp [Act.eval, HN9.out])) r3 (.slice (some ⟨u21.heap.size, 0, none⟩) 1 1) [p] (by simp [Act.eval]) gB.ps (by rw [← HN9.out]; simp only [List.length_singleton]; omega) Du35.size ?_
                          intro v4 u36' r4 g4
                          refine hKK.out _ _ trivial (fun _ => ?_)
                          clear hKK KK
                          try simp only [Act.put, List.setIfInBounds_toArray, List.set_cons_zero, List.set_cons_succ]
                          refine wpAnyH_name (fun u36 hu36 => ?_)
                          rw [← hu36.out] at r4 g4
                          obtain ⟨a4, c4, rfl, -⟩ := id r4.is.shape
                          generalize hz4 : (s.o ++ [p]).length = n4 at *
                          clear hz4
                          have Du36 : Below W3.heap.size W3 u36 := grown_below Du35 Du35.size g4 (fun i hi => r3.base hi)
                          obtain ⟨q0, -, -, -, -, -, -, f0, -, -, -, -, -, -⟩ := (HD.out u36 Du36).1
                          refine wpAnyH_take (i := 7) (oi := { dst := some 61, op := Op.fieldAddr 31 (Operand.tmp 2) 0, type := 0, pos := "ref.go:48", after := #[{ on := 0, ground := Ground.phase }, { on := 1, ground := Ground.phase }, { on := 2, ground := Ground.phase }, { on := 3, ground := Ground.phase }, { on := 4, ground := Ground.phase }, { on := 5, ground := Ground.phase }, { on := 6, ground := Ground.phase }], guard := none }) (v := ?vb37) rfl (by kernel_rfl) (by kernel_rfl) (by kernel_rfl) (fun _ _ _ h => h) (Or.inl ⟨by rfl, ?yb37⟩) trivial ?rb37
                          case yb37 => (intro w hSw; go_simp; try with_reducible rfl)
                          try simp only [Act.put, List.setIfInBounds_toArray, List.set_cons_zero, List.set_cons_succ]
                          refine wpAnyH_ready (rs := [8]) (by kernel_rfl) (by simp) ?_
                          refine AllReadyH.cons (o := { dst := none, op := Op.store 27 (Operand.tmp 61) (Operand.tmp 60), type := 0, pos := "ref.go:48", after := #[{ on := 7, ground := Ground.data }, { on := 6, ground := Ground.data }, { on := 6, ground := Ground.chain }, { on := 0, ground := Ground.phase }, { on := 1, ground := Ground.phase }, { on := 2, ground := Ground.phase }, { on := 3, ground := Ground.phase }, { on := 4, ground := Ground.phase }, { on := 5, ground := Ground.phase }, { on := 6, ground := Ground.phase }], guard := none }) rfl (fun KK hKK => ?_) ?_
                          · go_simp
                            refine hKK.out _ _ trivial (fun _ => ?_)
                            clear hKK KK
                            try simp only [Act.put]
                            refine wpAnyH_name (fun u38 hu38 => ?_)
                            have Z1 : DB u38 hA (.slice a4 n4 c4) k q s.g := by rw [hu38.out]; exact (HD.out u36 Du36).2.2.2.2.1.set0 _
                            have nA : Value.ownBlock (.slice a4 n4 c4) ≠ some hA := fun e => by have h1 := r4.base e; have h2 := blk_lt HG.out.1; omega
                            have hpA : hP ≠ hA := by have := HLT.out; omega
                            have hrA : hR ≠ hA := by have := HLT.out; omega
                            have Z2 : RP 29 u38 w.heap.size (.slice a4 n4 c4) (s.o ++ [p]) := by rw [hu38.out]; exact (r4.mono HB3.out.size).set nA
                            have Z3 : PB u38 hP 29 p := by rw [hu38.out]; exact (Below.heap_setCell _ _ _ _ hpA).trans (HD.out u36 Du36).2.2.1
                            have Z4 : DB u38 hR (.slice none 0 0) 0 pk0 0 := by rw [hu38.out]; exact (Below.heap_setCell _ _ _ _ hrA).trans (HD.out u36 Du36).2.2.2.2.2.1
                            have Z5 : Below w.heap.size w u38 := by rw [hu38.out]; exact ((HD.out u36 Du36).2.2.2.2.2.2).setCell HLE.out.1 _
                            refine wpAnyH_done (by kernel_rfl) ?_ _
                            go_wp2_with fail
                            go_meet
                            exact ⟨_, Z1, Z2, Z3, Z4, Z5⟩
                          exact AllReadyH.nil
                        exact AllReadyH.nil
                      exact AllReadyH.nil
                    exact AllReadyH.nil
                  exact AllReadyH.nil
                exact AllReadyH.nil
              case rest =>
                obtain ⟨v', g6, r6, p6, r0, b6⟩ := hcut
                obtain ⟨c0, c1, c2, c3, c4, c5, c6, f0, f1, f2, f3, f4, f5, f6⟩ := g6.dc
                obtain ⟨e0, e1, e2, e3⟩ := p6.pc
                simp only [Nat.zero_add] at e0 e1 e2 e3
                have hap : ¬ hA = hP := by have := HLT.out; omega
                have hpa : ¬ hP = hA := by have := HLT.out; omega
                obtain ⟨W5, hW5⟩ : ∃ W5, W5 = sn wc hA (k + 1) p := ⟨_, rfl⟩
                obtain ⟨va, vc, rfl, -⟩ := id r6.is.shape
                obtain ⟨nn, hnn⟩ : ∃ nn, nn = (s.o ++ [p]).length := ⟨_, rfl⟩
                rw [← hnn] at g6 r6 c0
                have hrA : hR ≠ hA := by have := HLT.out; omega
                have hvA : Value.ownBlock (.slice va nn vc) ≠ some hA := fun e => by obtain ⟨cs, hh⟩ := r6.ty e; unfold DB at g6; rw [g6] at hh; simp at hh
                have HW5 : Hid (W5 = (((((wc.setCell ⟨hA, 1, none⟩ (.int .i64 (k + 1))).setCell ⟨hA, 2, none⟩ (.int .i64 p.n)).setCell ⟨hA, 3, none⟩ (.int .i64 p.t)).setCell ⟨hA, 4, none⟩ (.int .i64 p.z)).setCell ⟨hA, 5, none⟩ (.bool p.a)).drew) := hW5
                have H5 : Hid (DB W5 hA (.slice va nn vc) (k + 1) p s.g ∧ DB W5 hR (.slice none 0 0) 0 pk0 0) := by rw [hW5]; exact ⟨sn_db g6 _ _, (sn_other _ _ hrA).trans r0⟩
                have r5 : RP 29 W5 w.heap.size (.slice va nn vc) (s.o ++ [p]) := by rw [hW5]; exact sn_rp r6 hvA _ _
                have b5 : Below w.heap.size w W5 := by rw [hW5]; exact sn_below b6 HLE.out.1 _ _
                obtain ⟨W4, hW4⟩ : ∃ W4, W4 = W5.setRow hR (dc (.slice va nn vc) (k + 1) p s.g) := ⟨_, rfl⟩
                have HW4 : Hid (W4 = W5.setRow hR (dc (.slice va nn vc) (k + 1) p s.g)) := hW4
                have HP4 : Hid (W4.heap[hR]? = some (.cells (dc (.slice va nn vc) (k + 1) p s.g) 31 (0, 0))) := by rw [hW4]; exact H5.out.2.row _ _ _ _
                have hvR : Value.ownBlock (.slice va nn vc) ≠ some hR := fun e => by obtain ⟨cs, hh⟩ := r5.ty e; have := H5.out.2; unfold DB at this; rw [this] at hh; simp at hh
                have r4 : RP 29 W4 w.heap.size (.slice va nn vc) (s.o ++ [p]) := by rw [hW4]; exact r5.keep fun i cs hi hh => (setRow_other _ _ _ _ (fun e => hvR (by rw [hi, e]))).trans hh
                have b4 : Below w.heap.size w W4 := by rw [hW4]; exact below_setRow b5 HLE.out.2.2 _
                have HEND : Hid (DS W4 (min B w.heap.size) (.slice va nn vc) (k + 1) p ⟨s.o ++ [p], p.n, p.t, s.g⟩ ∧ Below w.heap.size w W4 ∧ k + 1 ≤ k + 1) := ⟨⟨r4.mono (Nat.min_le_right _ _), DKN.out⟩, b4, Int.le_refl _⟩
                clear hnn hW5 hrA hvA r5 b5 hW4 hvR r4 b4
                have HG6 : Hid (DB wc hA (.slice va nn vc) k q s.g ∧ RP 29 wc w.heap.size (.slice va nn vc) (s.o ++ [p]) ∧ DB wc hR (.slice none 0 0) 0 pk0 0 ∧ Below w.heap.size w wc) := ⟨g6, r6, r0, b6⟩
                clear g6 r6 p6 r0 b6 d0 d1 d2 d3 HD HG HB3 HDS HD0 HDS0 CT CTN CTT
                go_wp2_with fail
                go_region_with (fail)
                all_goals
                  rw [← HW5.out]
                  clear HW5
                  go_wp2_with (first | refine wpList_load_row rfl 31 _ rfl hA rfl 31 (dc (.slice va nn vc) (k + 1) p s.g) (0, 0) _ H5.out.1 Try.underlying31 rfl sizeD ?_ | refine wpList_store_row rfl 31 _ _ rfl hR (dc (.slice va nn vc) (k + 1) p s.g) rfl rfl 31 _ H5.out.2 sizeD rfl (dc_one _ _ _ _ _ _) (Hid.out ?_))
                  unfold Hid
                  rw [← HW4.out]
                  clear HW4
                  go_wp2
                  refine bodyPost_ret (retS rfl HP4.out rfl) rfl ?_
                  exact ⟨_, _, _, rfl, HEND.out⟩
end Go.Proofs.Ytamjbmbflllbfaa
