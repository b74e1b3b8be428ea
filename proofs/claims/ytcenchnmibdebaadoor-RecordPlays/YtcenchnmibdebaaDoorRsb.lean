/-
  What the document's Step answers: a Begin.
-/
import Derived.Test.YtcenchnmibdebaaDoorRsn
import Derived.Test.YtcenchnmibdebaaDoorTg
import Derived.Test.YtcenchnmibdebaaDoorTm
import Derived.Deep.DeepCutAuto
namespace Go.Proofs.YtcenchnmibdebaaDoor
open Go.RowKit
set_option maxRecDepth 100000

theorem blk_c0 {w : World} {g : Nat} {x y : Value} {T : TypeId} {fr : Nat × Nat} (h : w.heap[g]? = some (.cells #[x, y] T fr)) : w.cell? ⟨g, 0, none⟩ = some x := by simp [World.cell?, h]
theorem blk_c1 {w : World} {g : Nat} {x y : Value} {T : TypeId} {fr : Nat × Nat} (h : w.heap[g]? = some (.cells #[x, y] T fr)) : w.cell? ⟨g, 1, none⟩ = some y := by simp [World.cell?, h]
theorem bPq' (i n : Int) (p : ByteArray) (f : Nat → Int) : Tryd.prog.built 61 [(0, .int .i64 i), (1, .string p), (2, .agg (u8c ((List.range 32).map f))), (3, .int .i64 n), (4, .int .i64 0)] = some (Pa.cells ⟨i, p, (List.range 32).map f, n, 0⟩).toArray := by kernel_rfl
theorem bPq (i n : Int) (p : ByteArray) (s : List Int) (h : s.length = 32) : Tryd.prog.built 61 [(0, .int .i64 i), (1, .string p), (2, .agg (u8c s)), (3, .int .i64 n), (4, .int .i64 0)] = some (Pa.cells ⟨i, p, s, n, 0⟩).toArray := by
  have := bPq' i n p (fun j => s.getD j 0)
  rwa [map_range s 32 h] at this
theorem new_paq (w : World) : (w.alloc (.cells #[.int .i64 0, .string ⟨#[]⟩, .int .u8 0, .int .u8 0, .int .u8 0, .int .u8 0, .int .u8 0, .int .u8 0, .int .u8 0, .int .u8 0, .int .u8 0, .int .u8 0, .int .u8 0, .int .u8 0, .int .u8 0, .int .u8 0, .int .u8 0, .int .u8 0, .int .u8 0, .int .u8 0, .int .u8 0, .int .u8 0, .int .u8 0, .int .u8 0, .int .u8 0, .int .u8 0, .int .u8 0, .int .u8 0, .int .u8 0, .int .u8 0, .int .u8 0, .int .u8 0, .int .u8 0, .int .u8 0, .int .i64 0, .int .i64 0] 61)).heap[w.heap.size]? = some (.cells pzc 61 (0, 0)) := heap_alloc_new _ _
set_option maxHeartbeats 4000000 in
theorem rstep_begin (v : Value) (s : Ste) (r : Rc) (w : World) (h : PS w v s.l) (hs : Ris s) (hr : r.ok) (hi : r.x.i ≤ 4611686018427387904) (hk : r.k = 0) :
    Calls Tryd.prog 11 #[.agg #[v, .int .i64 s.n], r.val] w fun e w' => ∃ v', e = .returned (.tuple #[SVal v' ((step s r).getD s), .bool (step s r).isSome]) ∧ PS w' v' ((step s r).getD s).l ∧ Below w.heap.size w w' ∧ ((v' = v ∧ ((step s r).getD s).l = s.l) ∨ RPq w' w.heap.size v' ((step s r).getD s).l) := by
  obtain ⟨a, c, rfl, hac, hcm, -⟩ := h.shape
  have hln := hs.ln
  obtain ⟨W0, hW0⟩ : ∃ W0, W0 = w.alloc (.cells #[.slice a s.l.length c, .int .i64 s.n] 46) := ⟨_, rfl⟩
  have b0 : Below w.heap.size w W0 := by rw [hW0]; exact al_below _ _
  have z0 : W0.heap.size = w.heap.size + 1 := by rw [hW0]; simp
  have g0 : W0.heap[w.heap.size]? = some (.cells #[.slice a s.l.length c, .int .i64 s.n] 46 (0, 0)) := by rw [hW0]; exact heap_alloc_new _ _
  obtain ⟨W1, hW1⟩ : ∃ W1, W1 = W0.alloc (.cells r.cells.toArray 25) := ⟨_, rfl⟩
  have b1 : Below W0.heap.size W0 W1 := by rw [hW1]; exact al_below _ _
  have z1 : W1.heap.size = W0.heap.size + 1 := by rw [hW1]; simp
  have g1 : W1.heap[W0.heap.size]? = some (.cells r.cells.toArray 25 (0, 0)) := by rw [hW1]; exact heap_alloc_new _ _
  obtain ⟨W2, hW2⟩ : ∃ W2, W2 = W1.alloc (.cells #[.slice none 0 0, .int .i64 0] 46) := ⟨_, rfl⟩
  have b2 : Below W1.heap.size W1 W2 := by rw [hW2]; exact al_below _ _
  have z2 : W2.heap.size = W1.heap.size + 1 := by rw [hW2]; simp
  have g2 : W2.heap[W1.heap.size]? = some (.cells #[.slice none 0 0, .int .i64 0] 46 (0, 0)) := by rw [hW2]; exact heap_alloc_new _ _
  have b02 : Below W0.heap.size W0 W2 := b1.trans (b2.mono b1.size)
  have b2' : Below w.heap.size w W2 := b0.trans (b02.mono b0.size)
  have FB : Hid (∀ W, Below W2.heap.size W2 W → W.heap[w.heap.size]? = some (.cells #[.slice a s.l.length c, .int .i64 s.n] 46 (0, 0)) ∧ W.heap[W0.heap.size]? = some (.cells r.cells.toArray 25 (0, 0)) ∧ W.heap[W1.heap.size]? = some (.cells #[.slice none 0 0, .int .i64 0] 46 (0, 0)) ∧ Below w.heap.size w W) := fun W hb => ⟨blk_kept (blk_kept g0 b02 (by omega)) hb (by omega), blk_kept (blk_kept g1 b2 (by omega)) hb (by omega), blk_kept g2 hb (by omega), b2'.trans (hb.mono b2'.size)⟩
  have FK : Hid (∀ W, Below W2.heap.size W2 W → W.cell? ⟨w.heap.size, 0, none⟩ = some (.slice a s.l.length c) ∧ W.cell? ⟨w.heap.size, 1, none⟩ = some (.int .i64 s.n) ∧ W.rangeAt w.heap.size 0 [.slice a s.l.length c, .int .i64 s.n] ∧ W.cell? ⟨W0.heap.size, 0, none⟩ = some (.int .u8 r.k) ∧ W.cell? ⟨W0.heap.size, 1, none⟩ = some (.int .i64 r.x.i) ∧ W.cell? ⟨W0.heap.size, 2, none⟩ = some (.string r.x.p) ∧ W.cell? ⟨W0.heap.size, 35, none⟩ = some (.int .i64 r.x.n) ∧ W.cell? ⟨W0.heap.size, 36, none⟩ = some (.int .i64 r.x.o) ∧ W.heap[W1.heap.size]? = some (.cells #[.slice none 0 0, .int .i64 0] 46 (0, 0)) ∧ Below w.heap.size w W) := fun W hb => by
    obtain ⟨h1, h2, h3, h4⟩ := FB.out W hb
    obtain ⟨q0, q1, q2, -, q4, q5⟩ := rcC (blk_range h2) hr
    simp only [Nat.zero_add] at q0 q1 q2 q4 q5
    exact ⟨by simp [World.cell?, h1], by simp [World.cell?, h1], blk_range h1, q0, q1, q2, q4, q5, h3, h4⟩
  have HS : Hid (PS W2 (.slice a s.l.length c) s.l) := h.kept b2'
  have HI : Hid (Ris s) := hs
  have HRO : Hid r.ok := hr
  have H0 : Hid (PS w (.slice a s.l.length c) s.l) := h
  have HSZ : Hid (w.heap.size ≤ W1.heap.size) := by unfold Hid; omega
  have HSY : Hid (w.heap.size ≤ W2.heap.size ∧ w.heap.size ≠ W1.heap.size ∧ W0.heap.size ≠ W1.heap.size) := ⟨by omega, by omega, by omega⟩
  have yw : wrap64 (r.x.i + 1) = r.x.i + 1 := by have := hr.2.2.2.2.1.1; unfold wrap64; omega
  have yp : IntKind.i64.wrap (r.x.i + 1) = r.x.i + 1 := by have := hr.2.2.2.2.1.1; rw [IntKind.wrap_i64]; omega
  have HM : Hid (step s r = if (fnd s.l r.x.p).isSome = true ∨ 64 ≤ s.l.length ∨ r.x.i < s.n then none else some ⟨s.l ++ [{ r.x with o := 0 }], r.x.i + 1⟩) := by unfold Hid step; rw [if_pos hk]
  obtain ⟨z, hz⟩ : ∃ z : Pa, z = { r.x with o := 0 } := ⟨_, rfl⟩
  have HZO : Hid z.ok := by unfold Hid; rw [hz]; exact ⟨hr.2.2.1, hr.2.2.2.1, hr.2.2.2.2.1, hr.2.2.2.2.2.1, i64_0⟩
  have BZ : Hid (Tryd.prog.built 61 [(0, .int .i64 r.x.i), (1, .string r.x.p), (2, .agg (u8c r.x.s)), (3, .int .i64 r.x.n), (4, .int .i64 0)] = some z.cells.toArray) := by unfold Hid; rw [hz]; exact bPq r.x.i r.x.n r.x.p r.x.s hr.2.2.1
  rw [← hz] at HM
  rw [hk] at FK
  obtain ⟨y, hy⟩ : ∃ y, y = (fnd s.l r.x.p).getD pa0 := ⟨_, rfl⟩
  have HY : Hid y.ok := by
    unfold Hid
    rw [hy]
    cases hf : fnd s.l r.x.p with
    | none => exact pa0_ok
    | some z => exact h.2 z (List.mem_of_find?_eq_some hf)
  have CF : Hid (∀ W, Below W2.heap.size W2 W → Calls Tryd.prog 17 #[.agg #[.slice a s.l.length c, .int .i64 s.n], .string r.x.p] W fun e w' => e = .returned (.tuple #[y.val, .bool (fnd s.l r.x.p).isSome]) ∧ Below W.heap.size W w') := fun W hb => by
    rw [hy]
    exact rfind_any _ s.l s.n r.x.p W (HS.out.kept hb) (by omega)
  unfold Pa.val at CF
  obtain ⟨ys, hys⟩ : ∃ ys, ys = y.cells.toArray := ⟨_, rfl⟩
  have HYI : Hid ((Tryd.prog.info? 61).map (·.size) = some ys.size) := by unfold Hid; rw [hys]; exact Pa.infoAq y HY.out
  have HYE : Hid (pzc.size = ys.size) := by unfold Hid; rw [hys]; exact pzc_size.trans (Pa.size y HY.out).symm
  have HY1 : Hid (ys.all (·.oneCell') = true) := by unfold Hid; rw [hys]; exact Pa.ones y
  rw [← hys] at CF
  clear hys HY hy hz hk
  unfold Rc.val
  have hw0 := hW0.symm
  have hw1 := hW1.symm
  have hw2 := hW2.symm
  obtain ⟨n, hn'⟩ : ∃ n, n = s.l.length := ⟨_, rfl⟩
  have HN : Hid (n = s.l.length) := hn'
  rw [← hn'] at HS H0 hln FK FB CF HM hw0 hac ⊢
  obtain ⟨rcs, hrcs⟩ : ∃ rcs, rcs = r.cells := ⟨_, rfl⟩
  have HCS : Hid (rcs = r.cells) := hrcs
  rw [← hrcs] at FB hw1 ⊢
  clear h hs hr hi hn' hrcs hW0 b0 z0 g0 hW1 b1 z1 g1 hW2 b2 z2 g2 b02 b2' hac hcm
  generalize hSTP : step s r = R at *
  generalize (fnd s.l r.x.p).isSome = fb at *
  obtain ⟨ii, hii⟩ : ∃ ii, ii = r.x.i := ⟨_, rfl⟩
  have HII : Hid (ii = r.x.i) := hii
  rw [← hii] at FK HM BZ yw yp
  obtain ⟨pp, hpp⟩ : ∃ pp, pp = r.x.p := ⟨_, rfl⟩
  have HPP : Hid (pp = r.x.p) := hpp
  rw [← hpp] at FK CF BZ
  obtain ⟨nn, hnn⟩ : ∃ nn, nn = r.x.n := ⟨_, rfl⟩
  have HNN : Hid (nn = r.x.n) := hnn
  rw [← hnn] at FK BZ
  clear hSTP hii hpp hnn
  go_enter Tryd.func11, Tryd.ntmps11
  go_wp2_with fail
  try rw [hw0]
  try rw [hw1]
  try rw [hw2]
  try clear hw2
  try clear hw1
  try clear hw0
  go_loopw [7, 8] (fun y z wr => ∃ j : Nat, j ≤ n ∧ z = .int .i64 j ∧ y = .int .i64 (lst s.l ii j) ∧ Below W2.heap.size W2 wr) (fun _ z _ => n - (intOf z).toNat)
  case atStart => exact ⟨0, by omega, rfl, rfl, Below.refl _ _⟩
  case round =>
    obtain ⟨j, hj, rfl, rfl, bel⟩ := hrel
    have HB : Hid (Below W2.heap.size W2 wr) := bel
    by_cases hlt : j < n
    · have lt2 : (j : Int) < (n : Int) := by omega
      have lt3 : (0 : Int) ≤ (j : Int) := by omega
      obtain ⟨c0, c1, -, c3, c4, -, -, -, -, -⟩ := FK.out wr bel
      obtain ⟨b, off, rfl, hr1⟩ := (HS.out.kept bel).at j (by rw [← HN.out]; exact hlt)
      have hx := Pa.at s.l HI.out.ok j
      obtain ⟨k0, -⟩ := paC hr1 hx
      have NH : Hid ((atP s.l j).i = ii → lst s.l ii (j + 1) = j) := fun e => lst_hit HI.out (by rw [← HN.out]; exact hlt) e
      have NM : Hid (¬ (atP s.l j).i = ii → lst s.l ii (j + 1) = lst s.l ii j) := fun e => lst_miss (by rw [← HN.out]; exact hlt) e
      clear hr1 hx bel FK FB
      generalize atP s.l j = x at *
      by_cases hq : x.i = ii
      · have t0 : (x.i == ii) = true := by simpa using hq
        have NX : Hid (lst s.l ii (j + 1) = j) := NH.out hq
        clear NH NM hq
        generalize x.i = xi at *
        go_wp2_with fail
        go_quiet (fail)
        have BZ : Hid (Below W2.heap.size W2 (wr.drewN nq)) := ⟨HB.out.os, HB.out.tape, HB.out.output, HB.out.size, HB.out.block⟩
        go_wp2
        go_roundw
        case rel => exact ⟨j + 1, by omega, by go_num, by rw [NX.out], BZ.out⟩
        case measure => simp [intOf]; omega
      · have t0 : (x.i == ii) = false := by simpa using hq
        have NX : Hid (lst s.l ii (j + 1) = lst s.l ii j) := NM.out hq
        clear NH NM hq
        generalize x.i = xi at *
        go_wp2_with fail
        go_quiet (fail)
        have BZ : Hid (Below W2.heap.size W2 (wr.drewN nq)) := ⟨HB.out.os, HB.out.tape, HB.out.output, HB.out.size, HB.out.block⟩
        go_wp2
        go_roundw
        case rel => exact ⟨j + 1, by omega, by go_num, by rw [NX.out], BZ.out⟩
        case measure => simp [intOf]; omega
    · obtain rfl : j = n := by omega
      clear HS
      obtain ⟨c0, c1, c2, c3, c4, c5, c6, c7, -, -⟩ := FK.out wr bel
      have C2 : Hid (wr.rangeAt w.heap.size 0 [.slice a j c, .int .i64 s.n]) := c2
      clear c2
      go_upto_region 9 with fail
      go_cut [10] (fun s6 wx => s6 = .bool fb ∧ Below W2.heap.size W2 wx)
      case first =>
        have cf := CF.out wr bel
        clear CF FK FB bel
        go_wp2_with (first
          | refine wpList_load_mid rfl 46 _ rfl w.heap.size 0 rfl [.slice a j c, .int .i64 s.n] _ C2.out Tryd.underlying46 rfl sizeTq ?_)
        refine cf.mono ?_
        rintro e w9 ⟨rfl, b9⟩
        clear cf
        have BW : Hid (Below W2.heap.size W2 w9) := HB.out.trans (b9.mono HB.out.size)
        clear b9
        go_wp2_with (first
          | refine wpList_store_row rfl 61 _ _ rfl w9.heap.size ys rfl rfl 61 pzc (new_paq w9) HYI.out HYE.out HY1.out ?_)
        go_meet
        exact ⟨rfl, below_setRow (BW.out.trans ((al_below _ _).mono BW.out.size)) BW.out.size _⟩
      case rest =>
      obtain ⟨rfl, hf⟩ := hcut
      clear CF HYI HYE HY1 HB bel c0 c1 c3 c4 c5 c6 c7 C2
      obtain ⟨c0, c1, c2, c3, c4, c5, c6, c7, c9, c10⟩ := FK.out wc hf
      have C2 : Hid (wc.rangeAt w.heap.size 0 [.slice a j c, .int .i64 s.n]) := c2
      have C5 : Hid (wc.heap[W1.heap.size]? = some (.cells #[.slice none 0 0, .int .i64 0] 46 (0, 0)) ∧ Below w.heap.size w wc) := ⟨c9, c10⟩
      clear c2 c9 c10
      by_cases hni : ii < s.n
      · have d1 : decide (ii < s.n) = true := decide_eq_true hni
        have HR : Hid (R = none) := by unfold Hid; rw [HM.out, if_pos (.inr (.inr hni))]
        clear HM hf FK FB hni
        go_wp2_with (first
          | refine wpList_load_mid rfl 46 _ rfl w.heap.size 0 rfl [.slice a j c, .int .i64 s.n] _ C2.out Tryd.underlying46 rfl sizeTq ?_
          | refine wpList_store_row rfl 46 _ _ rfl W1.heap.size #[.slice a j c, .int .i64 s.n] rfl rfl 46 #[.slice none 0 0, .int .i64 0] C5.out.1 sizeTq rfl (st_ones _ _ _ _) ?_)
        exact bodyPost_ret (v := .tuple #[.agg #[.slice a j c, .int .i64 s.n], .bool false]) (retSq rfl rfl (setRow_heap _ _ _ _ _ _ C5.out.1)) rfl ⟨.slice a j c, by rw [HR.out]; rfl, by rw [HR.out]; exact H0.out.kept (below_setRow C5.out.2 HSZ.out _), below_setRow C5.out.2 HSZ.out _, .inl ⟨rfl, by rw [HR.out]; rfl⟩⟩
      · have d1 : decide (ii < s.n) = false := decide_eq_false hni
        by_cases h64 : 64 ≤ j
        · have d64 : decide ((64 : Int) ≤ (j : Int)) = true := by simp; omega
          have HR : Hid (R = none) := by unfold Hid; rw [HM.out, if_pos (.inr (.inl h64))]
          clear HM hf FK FB hni h64
          go_wp2_with (first
            | refine wpList_load_mid rfl 46 _ rfl w.heap.size 0 rfl [.slice a j c, .int .i64 s.n] _ C2.out Tryd.underlying46 rfl sizeTq ?_
            | refine wpList_store_row rfl 46 _ _ rfl W1.heap.size #[.slice a j c, .int .i64 s.n] rfl rfl 46 #[.slice none 0 0, .int .i64 0] C5.out.1 sizeTq rfl (st_ones _ _ _ _) ?_)
          exact bodyPost_ret (v := .tuple #[.agg #[.slice a j c, .int .i64 s.n], .bool false]) (retSq rfl rfl (setRow_heap _ _ _ _ _ _ C5.out.1)) rfl ⟨.slice a j c, by rw [HR.out]; rfl, by rw [HR.out]; exact H0.out.kept (below_setRow C5.out.2 HSZ.out _), below_setRow C5.out.2 HSZ.out _, .inl ⟨rfl, by rw [HR.out]; rfl⟩⟩
        · have d64 : decide ((64 : Int) ≤ (j : Int)) = false := by simp; omega
          cases fb with
          | true =>
            have HR : Hid (R = none) := by unfold Hid; rw [HM.out, if_pos (.inl rfl)]
            clear HM hf FK FB hni h64
            go_wp2_with (first
              | refine wpList_load_mid rfl 46 _ rfl w.heap.size 0 rfl [.slice a j c, .int .i64 s.n] _ C2.out Tryd.underlying46 rfl sizeTq ?_
              | refine wpList_store_row rfl 46 _ _ rfl W1.heap.size #[.slice a j c, .int .i64 s.n] rfl rfl 46 #[.slice none 0 0, .int .i64 0] C5.out.1 sizeTq rfl (st_ones _ _ _ _) ?_)
            exact bodyPost_ret (v := .tuple #[.agg #[.slice a j c, .int .i64 s.n], .bool false]) (retSq rfl rfl (setRow_heap _ _ _ _ _ _ C5.out.1)) rfl ⟨.slice a j c, by rw [HR.out]; rfl, by rw [HR.out]; exact H0.out.kept (below_setRow C5.out.2 HSZ.out _), below_setRow C5.out.2 HSZ.out _, .inl ⟨rfl, by rw [HR.out]; rfl⟩⟩
          | false =>
            have HR : Hid (R = some ⟨s.l ++ [z], ii + 1⟩) := by unfold Hid; rw [HM.out, if_neg (fun q => q.elim (fun e => by cases e) (fun q => q.elim h64 hni))]
            have HF : Hid (Below W2.heap.size W2 wc) := hf
            have HLZ : Hid ((s.l ++ [z]).length = j + 1) := by unfold Hid; rw [List.length_append, ← HN.out]; rfl
            have HPS : Hid (∀ W, Below W2.heap.size W2 W → PS W (.slice a j c) s.l) := fun W hb => H0.out.kept ((FB.out W hb).2.2.2)
            clear HM hf hni h64 C2 C5
            go_upto_region 12 with fail
            clear c0 c1 c3 c4 c5 c6 c7
            refine wp_region_held_drew (S := fun W : World => W.heap[w.heap.size]? = some (.cells #[.slice a j c, .int .i64 s.n] 46 (0, 0)) ∧ W.heap[W0.heap.size]? = some (.cells rcs.toArray 25 (0, 0))) (by kernel_rfl) (⟨(FB.out wc HF.out).1, (FB.out wc HF.out).2.1⟩) (fun _ => ?_)
            refine wpAnyH_name (fun u0 hu0 => ?_)
            have su0 : (fun W : World => W.heap[w.heap.size]? = some (.cells #[.slice a j c, .int .i64 s.n] 46 (0, 0)) ∧ W.heap[W0.heap.size]? = some (.cells rcs.toArray 25 (0, 0))) u0 := by rw [hu0.out]; exact (⟨(FB.out wc HF.out).1, (FB.out wc HF.out).2.1⟩)
            have Tu0 : Below W2.heap.size W2 u0 := by rw [hu0.out]; exact HF.out.drew
            refine wpAnyH_take (i := 0) (oi := { dst := some 54, op := Op.move (Operand.tmp 6), type := 44, pos := "ref.go:173", after := #[], guard := none }) (v := ?vq1) rfl (by kernel_rfl) (by kernel_rfl) (by kernel_rfl) (fun _ _ _ h => h) (Or.inl ⟨by rfl, ?yq1⟩) su0 ?rq1
            case yq1 => (intro w hSw; go_simp; try with_reducible rfl)
            try simp only [Act.put, List.setIfInBounds_toArray, List.set_cons_zero, List.set_cons_succ]
            refine wpAnyH_take (i := 1) (oi := { dst := some 55, op := Op.fieldAddr 46 (Operand.tmp 2) 0, type := 0, pos := "ref.go:173", after := #[], guard := none }) (v := ?vq2) rfl (by kernel_rfl) (by kernel_rfl) (by kernel_rfl) (fun _ _ _ h => h) (Or.inl ⟨by rfl, ?yq2⟩) su0 ?rq2
            case yq2 => (intro w hSw; go_simp; try with_reducible rfl)
            try simp only [Act.put, List.setIfInBounds_toArray, List.set_cons_zero, List.set_cons_succ]
            refine wpAnyH_take (i := 2) (oi := { dst := some 56, op := Op.load 44 (Operand.tmp 55), type := 44, pos := "ref.go:173", after := #[{ on := 1, ground := Ground.data }], guard := none }) (v := ?vq3) rfl (by kernel_rfl) (by kernel_rfl) (by kernel_rfl) (fun _ _ _ h => h) (Or.inl ⟨by rfl, ?yq3⟩) su0 ?rq3
            case yq3 => (intro w hSw; have t0 := blk_c0 hSw.1; go_simp; try with_reducible rfl)
            try simp only [Act.put, List.setIfInBounds_toArray, List.set_cons_zero, List.set_cons_succ]
            refine wpAnyH_take (i := 4) (oi := { dst := some 58, op := Op.fieldAddr 25 (Operand.tmp 3) 1, type := 0, pos := "ref.go:173", after := #[], guard := none }) (v := ?vq4) rfl (by kernel_rfl) (by kernel_rfl) (by kernel_rfl) (fun _ _ _ h => h) (Or.inl ⟨by rfl, ?yq4⟩) su0 ?rq4
            case yq4 => (intro w hSw; go_simp; try with_reducible rfl)
            try simp only [Act.put, List.setIfInBounds_toArray, List.set_cons_zero, List.set_cons_succ]
            refine wpAnyH_take (i := 5) (oi := { dst := some 59, op := Op.load 3 (Operand.tmp 58), type := 3, pos := "ref.go:173", after := #[{ on := 4, ground := Ground.data }], guard := none }) (v := ?vq5) rfl (by kernel_rfl) (by kernel_rfl) (by kernel_rfl) (fun _ _ _ h => h) (Or.inl ⟨by rfl, ?yq5⟩) su0 ?rq5
            case yq5 => (intro w hSw; obtain ⟨q0, q1, q2, -, q4, -⟩ := rcC (blk_range (by have := hSw.2; rw [HCS.out] at this; exact this)) HRO.out; simp only [Nat.zero_add] at q0 q1 q2 q4; rw [← HII.out] at q1; rw [← HPP.out] at q2; rw [← HNN.out] at q4; go_simp; try with_reducible rfl)
            try simp only [Act.put, List.setIfInBounds_toArray, List.set_cons_zero, List.set_cons_succ]
            refine wpAnyH_take (i := 6) (oi := { dst := some 60, op := Op.fieldAddr 25 (Operand.tmp 3) 2, type := 0, pos := "ref.go:173", after := #[], guard := none }) (v := ?vq6) rfl (by kernel_rfl) (by kernel_rfl) (by kernel_rfl) (fun _ _ _ h => h) (Or.inl ⟨by rfl, ?yq6⟩) su0 ?rq6
            case yq6 => (intro w hSw; go_simp; try with_reducible rfl)
            try simp only [Act.put, List.setIfInBounds_toArray, List.set_cons_zero, List.set_cons_succ]
            refine wpAnyH_take (i := 7) (oi := { dst := some 61, op := Op.load 9 (Operand.tmp 60), type := 9, pos := "ref.go:173", after := #[{ on := 6, ground := Ground.data }], guard := none }) (v := ?vq7) rfl (by kernel_rfl) (by kernel_rfl) (by kernel_rfl) (fun _ _ _ h => h) (Or.inl ⟨by rfl, ?yq7⟩) su0 ?rq7
            case yq7 => (intro w hSw; obtain ⟨q0, q1, q2, -, q4, -⟩ := rcC (blk_range (by have := hSw.2; rw [HCS.out] at this; exact this)) HRO.out; simp only [Nat.zero_add] at q0 q1 q2 q4; rw [← HII.out] at q1; rw [← HPP.out] at q2; rw [← HNN.out] at q4; go_simp; try with_reducible rfl)
            try simp only [Act.put, List.setIfInBounds_toArray, List.set_cons_zero, List.set_cons_succ]
            refine wpAnyH_take (i := 8) (oi := { dst := some 62, op := Op.fieldAddr 25 (Operand.tmp 3) 3, type := 0, pos := "ref.go:173", after := #[], guard := none }) (v := ?vq8) rfl (by kernel_rfl) (by kernel_rfl) (by kernel_rfl) (fun _ _ _ h => h) (Or.inl ⟨by rfl, ?yq8⟩) su0 ?rq8
            case yq8 => (intro w hSw; go_simp; try with_reducible rfl)
            try simp only [Act.put, List.setIfInBounds_toArray, List.set_cons_zero, List.set_cons_succ]
            refine wpAnyH_take (i := 9) (oi := { dst := some 63, op := Op.load 23 (Operand.tmp 62), type := 23, pos := "ref.go:173", after := #[{ on := 8, ground := Ground.data }], guard := none }) (v := .agg (r.x.s.map (Value.int .u8)).toArray) rfl (by kernel_rfl) (by kernel_rfl) (by kernel_rfl) (fun _ _ _ h => h) (yieldsIf_load_mid (by rfl) 23 _ rfl W0.heap.size 3 rfl (r.x.s.map (Value.int .u8)) _ (fun W hW => by have h9 := hW.2; rw [HCS.out] at h9; have := (rcC (blk_range h9) HRO.out).2.2.2.1; simpa using this) Tryd.underlying23 rfl (by rw [sizeHs]; simp [HRO.out.2.2.1])) su0 ?_
            try simp only [Act.put, List.setIfInBounds_toArray, List.set_cons_zero, List.set_cons_succ]
            refine wpAnyH_take (i := 10) (oi := { dst := some 64, op := Op.fieldAddr 25 (Operand.tmp 3) 4, type := 0, pos := "ref.go:173", after := #[], guard := none }) (v := ?vq10) rfl (by kernel_rfl) (by kernel_rfl) (by kernel_rfl) (fun _ _ _ h => h) (Or.inl ⟨by rfl, ?yq10⟩) su0 ?rq10
            case yq10 => (intro w hSw; go_simp; try with_reducible rfl)
            try simp only [Act.put, List.setIfInBounds_toArray, List.set_cons_zero, List.set_cons_succ]
            refine wpAnyH_take (i := 11) (oi := { dst := some 65, op := Op.load 3 (Operand.tmp 64), type := 3, pos := "ref.go:173", after := #[{ on := 10, ground := Ground.data }], guard := none }) (v := ?vq11) rfl (by kernel_rfl) (by kernel_rfl) (by kernel_rfl) (fun _ _ _ h => h) (Or.inl ⟨by rfl, ?yq11⟩) su0 ?rq11
            case yq11 => (intro w hSw; obtain ⟨q0, q1, q2, -, q4, -⟩ := rcC (blk_range (by have := hSw.2; rw [HCS.out] at this; exact this)) HRO.out; simp only [Nat.zero_add] at q0 q1 q2 q4; rw [← HII.out] at q1; rw [← HPP.out] at q2; rw [← HNN.out] at q4; go_simp; try with_reducible rfl)
            try simp only [Act.put, List.setIfInBounds_toArray, List.set_cons_zero, List.set_cons_succ]
            refine wpAnyH_take (i := 12) (oi := { dst := some 66, op := Op.build 61 #[(0, Operand.tmp 59), (1, Operand.tmp 61), (2, Operand.tmp 63), (3, Operand.tmp 65), (4, Operand.const (Value.int IntKind.i64 0))], type := 61, pos := "ref.go:173", after := #[{ on := 5, ground := Ground.data }, { on := 7, ground := Ground.data }, { on := 9, ground := Ground.data }, { on := 11, ground := Ground.data }], guard := none }) (v := .agg z.cells.toArray) rfl (by kernel_rfl) (by kernel_rfl) (by kernel_rfl) (fun _ _ _ h => h) (yields_built (by rfl) 61 [(0, _), (1, _), (2, _), (3, _), (4, _)] rfl [(0, .int .i64 ii), (1, .string pp), (2, .agg (u8c r.x.s)), (3, .int .i64 nn), (4, .int .i64 0)] rfl z.cells.toArray BZ.out) su0 ?_
            try simp only [Act.put, List.setIfInBounds_toArray, List.set_cons_zero, List.set_cons_succ]
            refine wpAnyH_take (i := 15) (oi := { dst := some 69, op := Op.fieldAddr 25 (Operand.tmp 3) 1, type := 0, pos := "ref.go:173", after := #[], guard := none }) (v := ?vq13) rfl (by kernel_rfl) (by kernel_rfl) (by kernel_rfl) (fun _ _ _ h => h) (Or.inl ⟨by rfl, ?yq13⟩) su0 ?rq13
            case yq13 => (intro w hSw; go_simp; try with_reducible rfl)
            try simp only [Act.put, List.setIfInBounds_toArray, List.set_cons_zero, List.set_cons_succ]
            refine wpAnyH_take (i := 16) (oi := { dst := some 70, op := Op.load 3 (Operand.tmp 69), type := 3, pos := "ref.go:173", after := #[{ on := 15, ground := Ground.data }], guard := none }) (v := ?vq14) rfl (by kernel_rfl) (by kernel_rfl) (by kernel_rfl) (fun _ _ _ h => h) (Or.inl ⟨by rfl, ?yq14⟩) su0 ?rq14
            case yq14 => (intro w hSw; obtain ⟨q0, q1, q2, -, q4, -⟩ := rcC (blk_range (by have := hSw.2; rw [HCS.out] at this; exact this)) HRO.out; simp only [Nat.zero_add] at q0 q1 q2 q4; rw [← HII.out] at q1; rw [← HPP.out] at q2; rw [← HNN.out] at q4; go_simp; try with_reducible rfl)
            try simp only [Act.put, List.setIfInBounds_toArray, List.set_cons_zero, List.set_cons_succ]
            refine wpAnyH_take (i := 17) (oi := { dst := some 71, op := Op.binOp BinOp.add 3 (Operand.tmp 70) (Operand.const (Value.int IntKind.i64 1)) 3, type := 3, pos := "ref.go:173", after := #[{ on := 16, ground := Ground.data }], guard := none }) (v := .int .i64 (ii + 1)) rfl (by kernel_rfl) (by kernel_rfl) (by kernel_rfl) (fun _ _ _ h => h) (Or.inl ⟨by rfl, ?yq15⟩) su0 ?rq15
            case yq15 => (intro w hSw; go_simp; try with_reducible rfl)
            try simp only [Act.put, List.setIfInBounds_toArray, List.set_cons_zero, List.set_cons_succ]
            refine wpAnyH_ready (rs := [3, 13]) (by kernel_rfl) (by simp) ?_
            refine AllReadyH.cons (o := { dst := some 57, op := Op.call { callee := Callee.builtin Builtin.append, args := #[Operand.tmp 54, Operand.tmp 56], argTypes := #[44, 44] }, type := 44, pos := "ref.go:173", after := #[{ on := 0, ground := Ground.data }, { on := 2, ground := Ground.data }], guard := none }) rfl (fun KK hKK => ?_) ?_
            · refine wp_append_psq _ _ rfl W2.heap.size _ [] rfl (RPt.nil _ _ _) _ s.l rfl (HPS.out _ Tu0) (by have := HN.out; have := HI.out.ln; simp; omega) Tu0.size ?_
              intro v3 u16' r3 g3
              refine hKK.out _ _ (⟨(g3.block _ (blk_lt su0.1) (fun e => own_ne (RPt.nil 61 u0 W2.heap.size).1.1 su0.1 (by decide) e.symm)).trans su0.1, (g3.block _ (blk_lt su0.2) (fun e => own_ne (RPt.nil 61 u0 W2.heap.size).1.1 su0.2 (by decide) e.symm)).trans su0.2⟩) (fun _ => ?_)
              clear hKK KK
              try simp only [Act.put, List.setIfInBounds_toArray, List.set_cons_zero, List.set_cons_succ]
              refine wpAnyH_name (fun u16 hu16 => ?_)
              have su16 : (fun W : World => W.heap[w.heap.size]? = some (.cells #[.slice a j c, .int .i64 s.n] 46 (0, 0)) ∧ W.heap[W0.heap.size]? = some (.cells rcs.toArray 25 (0, 0))) u16 := by rw [hu16.out]; exact (⟨(g3.block _ (blk_lt su0.1) (fun e => own_ne (RPt.nil 61 u0 W2.heap.size).1.1 su0.1 (by decide) e.symm)).trans su0.1, (g3.block _ (blk_lt su0.2) (fun e => own_ne (RPt.nil 61 u0 W2.heap.size).1.1 su0.2 (by decide) e.symm)).trans su0.2⟩)
              have Tu16 : Below W2.heap.size W2 u16 := by rw [hu16.out]; exact Tu0.trans ((Below.refl _ u0).grown g3 Tu0.size (own_base (RPt.nil 61 u0 W2.heap.size).1.1))
              rw [List.nil_append] at r3
              rw [← hu16.out] at r3 g3
              have Ru16 := r3
              try have Ku16 : u16.heap[{u13}.heap.size]? = some (.cells z.cells.toArray 61 (0, 0)) := (g3.block _ (blk_lt Ku0) (fun e => by cases e)).trans Ku0
              refine wpAnyH_ready (rs := [13]) (by kernel_rfl) (by simp) ?_
              refine AllReadyH.cons (o := { dst := some 67, op := Op.buildSlice 44 1 #[(0, Operand.tmp 66)], type := 44, pos := "ref.go:173", after := #[{ on := 12, ground := Ground.data }], guard := none }) rfl (fun KK hKK => ?_) ?_
              · refine wp_bsPq _ rfl z HZO.out rfl ?_
                refine hKK.out _ _ (⟨blk_kept su16.1 (al_below _ _) (blk_lt su16.1), blk_kept su16.2 (al_below _ _) (blk_lt su16.2)⟩) (fun _ => ?_)
                clear hKK KK
                try simp only [Act.put, List.setIfInBounds_toArray, List.set_cons_zero, List.set_cons_succ]
                refine wpAnyH_name (fun u17 hu17 => ?_)
                have su17 : (fun W : World => W.heap[w.heap.size]? = some (.cells #[.slice a j c, .int .i64 s.n] 46 (0, 0)) ∧ W.heap[W0.heap.size]? = some (.cells rcs.toArray 25 (0, 0))) u17 := by rw [hu17.out]; exact (⟨blk_kept su16.1 (al_below _ _) (blk_lt su16.1), blk_kept su16.2 (al_below _ _) (blk_lt su16.2)⟩)
                have Tu17 : Below W2.heap.size W2 u17 := by rw [hu17.out]; exact Tu16.trans ((al_below _ _).mono Tu16.size)
                have Ku17 : u17.heap[u16.heap.size]? = some (.cells z.cells.toArray 61 (0, 0)) := by rw [hu17.out]; exact heap_alloc_new _ _
                try have Ru17 : RPq u17 W2.heap.size v3 s.l := by rw [hu17.out]; exact Ru16.below (al_below _ _)
                refine wpAnyH_ready (rs := [14]) (by kernel_rfl) (by simp) ?_
                refine AllReadyH.cons (o := { dst := some 68, op := Op.call { callee := Callee.builtin Builtin.append, args := #[Operand.tmp 57, Operand.tmp 67], argTypes := #[44, 44] }, type := 44, pos := "ref.go:173", after := #[{ on := 3, ground := Ground.data }, { on := 13, ground := Ground.data }, { on := 3, ground := Ground.chain }], guard := none }) rfl (fun KK hKK => ?_) ?_
                · refine wp_append_paq _ _ rfl W2.heap.size _ s.l rfl Ru17 u16.heap.size z 1 HZO.out rfl (blk_range Ku17) (by have := HN.out; have := HI.out.ln; omega) Tu17.size ?_
                  intro v9 u18' r9 g9
                  refine hKK.out _ _ (⟨(g9.block _ (blk_lt su17.1) (fun e => own_ne Ru17.1.1 su17.1 (by decide) e.symm)).trans su17.1, (g9.block _ (blk_lt su17.2) (fun e => own_ne Ru17.1.1 su17.2 (by decide) e.symm)).trans su17.2⟩) (fun _ => ?_)
                  clear hKK KK
                  try simp only [Act.put, List.setIfInBounds_toArray, List.set_cons_zero, List.set_cons_succ]
                  refine wpAnyH_name (fun u18 hu18 => ?_)
                  have su18 : (fun W : World => W.heap[w.heap.size]? = some (.cells #[.slice a j c, .int .i64 s.n] 46 (0, 0)) ∧ W.heap[W0.heap.size]? = some (.cells rcs.toArray 25 (0, 0))) u18 := by rw [hu18.out]; exact (⟨(g9.block _ (blk_lt su17.1) (fun e => own_ne Ru17.1.1 su17.1 (by decide) e.symm)).trans su17.1, (g9.block _ (blk_lt su17.2) (fun e => own_ne Ru17.1.1 su17.2 (by decide) e.symm)).trans su17.2⟩)
                  have Tu18 : Below W2.heap.size W2 u18 := by rw [hu18.out]; exact Tu17.trans ((Below.refl _ u17).grown g9 Tu17.size (own_base Ru17.1.1))
                  rw [← hu18.out] at r9 g9
                  obtain ⟨a9, c9, e9, -, -, -⟩ := r9.is.shape
                  rw [HLZ.out] at e9
                  subst e9
                  refine wpAnyH_take (i := 18) (oi := { dst := some 72, op := Op.build 46 #[(0, Operand.tmp 68), (1, Operand.tmp 71)], type := 46, pos := "ref.go:173", after := #[{ on := 14, ground := Ground.data }, { on := 17, ground := Ground.data }], guard := none }) (v := .agg #[.slice a9 (j + 1) c9, .int .i64 (ii + 1)]) rfl (by kernel_rfl) (by kernel_rfl) (by kernel_rfl) (fun _ _ _ h => h) (yields_built (by rfl) 46 [(0, _), (1, _)] rfl [(0, .slice a9 (j + 1) c9), (1, .int .i64 (ii + 1))] rfl #[.slice a9 (j + 1) c9, .int .i64 (ii + 1)] (bTq _ _ _ _)) su18 ?_
                  try simp only [Act.put, List.setIfInBounds_toArray, List.set_cons_zero, List.set_cons_succ]
                  refine wpAnyH_ready (rs := [19]) (by kernel_rfl) (by simp) ?_
                  refine AllReadyH.cons (o := { dst := none, op := Op.store 46 (Operand.tmp 4) (Operand.tmp 72), type := 0, pos := "ref.go:173", after := #[{ on := 18, ground := Ground.data }, { on := 14, ground := Ground.chain }, { on := 0, ground := Ground.phase }, { on := 1, ground := Ground.phase }, { on := 2, ground := Ground.phase }, { on := 3, ground := Ground.phase }, { on := 4, ground := Ground.phase }, { on := 5, ground := Ground.phase }, { on := 6, ground := Ground.phase }, { on := 7, ground := Ground.phase }, { on := 8, ground := Ground.phase }, { on := 9, ground := Ground.phase }, { on := 10, ground := Ground.phase }, { on := 11, ground := Ground.phase }, { on := 12, ground := Ground.phase }, { on := 13, ground := Ground.phase }, { on := 14, ground := Ground.phase }, { on := 15, ground := Ground.phase }, { on := 16, ground := Ground.phase }, { on := 17, ground := Ground.phase }, { on := 18, ground := Ground.phase }], guard := none }) rfl (fun KK hKK => ?_) ?_
                  · refine wp_store_row 46 _ _ rfl W1.heap.size #[.slice a9 (j + 1) c9, .int .i64 (ii + 1)] rfl rfl 46 #[.slice none 0 0, .int .i64 0] (FB.out _ Tu18).2.2.1 sizeTq rfl (st_ones _ _ _ _) ?_
                    refine hKK.out _ _ (⟨(setRow_other _ _ _ _ HSY.out.2.1).trans su18.1, (setRow_other _ _ _ _ HSY.out.2.2).trans su18.2⟩) (fun _ => ?_)
                    clear hKK KK
                    try simp only [Act.put]
                    refine wpAnyH_name (fun u20 hu20 => ?_)
                    have su20 : (fun W : World => W.heap[w.heap.size]? = some (.cells #[.slice a j c, .int .i64 s.n] 46 (0, 0)) ∧ W.heap[W0.heap.size]? = some (.cells rcs.toArray 25 (0, 0))) u20 := by rw [hu20.out]; exact (⟨(setRow_other _ _ _ _ HSY.out.2.1).trans su18.1, (setRow_other _ _ _ _ HSY.out.2.2).trans su18.2⟩)
                    have HZ : Hid (u20.heap[W1.heap.size]? = some (.cells #[.slice a9 (j + 1) c9, .int .i64 (ii + 1)] 46 (0, 0)) ∧ PS u20 (.slice a9 (j + 1) c9) (s.l ++ [z]) ∧ Below w.heap.size w u20 ∧ RPq u20 w.heap.size (.slice a9 (j + 1) c9) (s.l ++ [z])) := by rw [hu20.out]; exact ⟨setRow_heap _ _ _ _ _ _ (FB.out _ Tu18).2.2.1, (r9.setRow _ _ (FB.out _ Tu18).2.2.1).is, below_setRow (FB.out _ Tu18).2.2.2 HSZ.out _, (r9.setRow _ _ (FB.out _ Tu18).2.2.1).mono HSY.out.1⟩
                    refine wpAnyH_take (i := 20) (oi := { dst := some 5, op := Op.assign (Operand.const (Value.bool true)), type := 4, pos := "ref.go:173", after := #[{ on := 19, ground := Ground.chain }, { on := 0, ground := Ground.phase }, { on := 1, ground := Ground.phase }, { on := 2, ground := Ground.phase }, { on := 3, ground := Ground.phase }, { on := 4, ground := Ground.phase }, { on := 5, ground := Ground.phase }, { on := 6, ground := Ground.phase }, { on := 7, ground := Ground.phase }, { on := 8, ground := Ground.phase }, { on := 9, ground := Ground.phase }, { on := 10, ground := Ground.phase }, { on := 11, ground := Ground.phase }, { on := 12, ground := Ground.phase }, { on := 13, ground := Ground.phase }, { on := 14, ground := Ground.phase }, { on := 15, ground := Ground.phase }, { on := 16, ground := Ground.phase }, { on := 17, ground := Ground.phase }, { on := 18, ground := Ground.phase }, { on := 19, ground := Ground.phase }], guard := none }) (v := ?vq21) rfl (by kernel_rfl) (by kernel_rfl) (by kernel_rfl) (fun _ _ _ h => h) (Or.inl ⟨by rfl, ?yq21⟩) su20 ?rq21
                    case yq21 => (intro w hSw; go_simp; try with_reducible rfl)
                    try simp only [Act.put, List.setIfInBounds_toArray, List.set_cons_zero, List.set_cons_succ]
                    refine wpAnyH_done (by kernel_rfl) ?_ _
                    go_wp2_with fail
                    exact bodyPost_ret (v := .tuple #[.agg #[.slice a9 (j + 1) c9, .int .i64 (ii + 1)], .bool true]) (retSq rfl rfl HZ.out.1) rfl ⟨_, by rw [HR.out]; rfl, by rw [HR.out]; exact HZ.out.2.1, HZ.out.2.2.1, .inr (by rw [HR.out]; exact HZ.out.2.2.2)⟩
                  exact AllReadyH.nil
                exact AllReadyH.nil
              exact AllReadyH.nil
            refine AllReadyH.cons (o := { dst := some 67, op := Op.buildSlice 44 1 #[(0, Operand.tmp 66)], type := 44, pos := "ref.go:173", after := #[{ on := 12, ground := Ground.data }], guard := none }) rfl (fun KK hKK => ?_) ?_
            · refine wp_bsPq _ rfl z HZO.out rfl ?_
              refine hKK.out _ _ (⟨blk_kept su0.1 (al_below _ _) (blk_lt su0.1), blk_kept su0.2 (al_below _ _) (blk_lt su0.2)⟩) (fun _ => ?_)
              clear hKK KK
              try simp only [Act.put, List.setIfInBounds_toArray, List.set_cons_zero, List.set_cons_succ]
              refine wpAnyH_name (fun u22 hu22 => ?_)
              have su22 : (fun W : World => W.heap[w.heap.size]? = some (.cells #[.slice a j c, .int .i64 s.n] 46 (0, 0)) ∧ W.heap[W0.heap.size]? = some (.cells rcs.toArray 25 (0, 0))) u22 := by rw [hu22.out]; exact (⟨blk_kept su0.1 (al_below _ _) (blk_lt su0.1), blk_kept su0.2 (al_below _ _) (blk_lt su0.2)⟩)
              have Tu22 : Below W2.heap.size W2 u22 := by rw [hu22.out]; exact Tu0.trans ((al_below _ _).mono Tu0.size)
              have Ku22 : u22.heap[u0.heap.size]? = some (.cells z.cells.toArray 61 (0, 0)) := by rw [hu22.out]; exact heap_alloc_new _ _
              try have Ru22 : RPq u22 W2.heap.size v3 s.l := by rw [hu22.out]; exact Ru0.below (al_below _ _)
              refine wpAnyH_ready (rs := [3]) (by kernel_rfl) (by simp) ?_
              refine AllReadyH.cons (o := { dst := some 57, op := Op.call { callee := Callee.builtin Builtin.append, args := #[Operand.tmp 54, Operand.tmp 56], argTypes := #[44, 44] }, type := 44, pos := "ref.go:173", after := #[{ on := 0, ground := Ground.data }, { on := 2, ground := Ground.data }], guard := none }) rfl (fun KK hKK => ?_) ?_
              · refine wp_append_psq _ _ rfl W2.heap.size _ [] rfl (RPt.nil _ _ _) _ s.l rfl (HPS.out _ Tu22) (by have := HN.out; have := HI.out.ln; simp; omega) Tu22.size ?_
                intro v3 u23' r3 g3
                refine hKK.out _ _ (⟨(g3.block _ (blk_lt su22.1) (fun e => own_ne (RPt.nil 61 u22 W2.heap.size).1.1 su22.1 (by decide) e.symm)).trans su22.1, (g3.block _ (blk_lt su22.2) (fun e => own_ne (RPt.nil 61 u22 W2.heap.size).1.1 su22.2 (by decide) e.symm)).trans su22.2⟩) (fun _ => ?_)
                clear hKK KK
                try simp only [Act.put, List.setIfInBounds_toArray, List.set_cons_zero, List.set_cons_succ]
                refine wpAnyH_name (fun u23 hu23 => ?_)
                have su23 : (fun W : World => W.heap[w.heap.size]? = some (.cells #[.slice a j c, .int .i64 s.n] 46 (0, 0)) ∧ W.heap[W0.heap.size]? = some (.cells rcs.toArray 25 (0, 0))) u23 := by rw [hu23.out]; exact (⟨(g3.block _ (blk_lt su22.1) (fun e => own_ne (RPt.nil 61 u22 W2.heap.size).1.1 su22.1 (by decide) e.symm)).trans su22.1, (g3.block _ (blk_lt su22.2) (fun e => own_ne (RPt.nil 61 u22 W2.heap.size).1.1 su22.2 (by decide) e.symm)).trans su22.2⟩)
                have Tu23 : Below W2.heap.size W2 u23 := by rw [hu23.out]; exact Tu22.trans ((Below.refl _ u22).grown g3 Tu22.size (own_base (RPt.nil 61 u22 W2.heap.size).1.1))
                rw [List.nil_append] at r3
                rw [← hu23.out] at r3 g3
                have Ru23 := r3
                try have Ku23 : u23.heap[u0.heap.size]? = some (.cells z.cells.toArray 61 (0, 0)) := (g3.block _ (blk_lt Ku22) (fun e => by cases e)).trans Ku22
                refine wpAnyH_ready (rs := [14]) (by kernel_rfl) (by simp) ?_
                refine AllReadyH.cons (o := { dst := some 68, op := Op.call { callee := Callee.builtin Builtin.append, args := #[Operand.tmp 57, Operand.tmp 67], argTypes := #[44, 44] }, type := 44, pos := "ref.go:173", after := #[{ on := 3, ground := Ground.data }, { on := 13, ground := Ground.data }, { on := 3, ground := Ground.chain }], guard := none }) rfl (fun KK hKK => ?_) ?_
                · refine wp_append_paq _ _ rfl W2.heap.size _ s.l rfl Ru23 u0.heap.size z 1 HZO.out rfl (blk_range Ku23) (by have := HN.out; have := HI.out.ln; omega) Tu23.size ?_
                  intro v9 u24' r9 g9
                  refine hKK.out _ _ (⟨(g9.block _ (blk_lt su23.1) (fun e => own_ne Ru23.1.1 su23.1 (by decide) e.symm)).trans su23.1, (g9.block _ (blk_lt su23.2) (fun e => own_ne Ru23.1.1 su23.2 (by decide) e.symm)).trans su23.2⟩) (fun _ => ?_)
                  clear hKK KK
                  try simp only [Act.put, List.setIfInBounds_toArray, List.set_cons_zero, List.set_cons_succ]
                  refine wpAnyH_name (fun u24 hu24 => ?_)
                  have su24 : (fun W : World => W.heap[w.heap.size]? = some (.cells #[.slice a j c, .int .i64 s.n] 46 (0, 0)) ∧ W.heap[W0.heap.size]? = some (.cells rcs.toArray 25 (0, 0))) u24 := by rw [hu24.out]; exact (⟨(g9.block _ (blk_lt su23.1) (fun e => own_ne Ru23.1.1 su23.1 (by decide) e.symm)).trans su23.1, (g9.block _ (blk_lt su23.2) (fun e => own_ne Ru23.1.1 su23.2 (by decide) e.symm)).trans su23.2⟩)
                  have Tu24 : Below W2.heap.size W2 u24 := by rw [hu24.out]; exact Tu23.trans ((Below.refl _ u23).grown g9 Tu23.size (own_base Ru23.1.1))
                  rw [← hu24.out] at r9 g9
                  obtain ⟨a9, c9, e9, -, -, -⟩ := r9.is.shape
                  rw [HLZ.out] at e9
                  subst e9
                  refine wpAnyH_take (i := 18) (oi := { dst := some 72, op := Op.build 46 #[(0, Operand.tmp 68), (1, Operand.tmp 71)], type := 46, pos := "ref.go:173", after := #[{ on := 14, ground := Ground.data }, { on := 17, ground := Ground.data }], guard := none }) (v := .agg #[.slice a9 (j + 1) c9, .int .i64 (ii + 1)]) rfl (by kernel_rfl) (by kernel_rfl) (by kernel_rfl) (fun _ _ _ h => h) (yields_built (by rfl) 46 [(0, _), (1, _)] rfl [(0, .slice a9 (j + 1) c9), (1, .int .i64 (ii + 1))] rfl #[.slice a9 (j + 1) c9, .int .i64 (ii + 1)] (bTq _ _ _ _)) su24 ?_
                  try simp only [Act.put, List.setIfInBounds_toArray, List.set_cons_zero, List.set_cons_succ]
                  refine wpAnyH_ready (rs := [19]) (by kernel_rfl) (by simp) ?_
                  refine AllReadyH.cons (o := { dst := none, op := Op.store 46 (Operand.tmp 4) (Operand.tmp 72), type := 0, pos := "ref.go:173", after := #[{ on := 18, ground := Ground.data }, { on := 14, ground := Ground.chain }, { on := 0, ground := Ground.phase }, { on := 1, ground := Ground.phase }, { on := 2, ground := Ground.phase }, { on := 3, ground := Ground.phase }, { on := 4, ground := Ground.phase }, { on := 5, ground := Ground.phase }, { on := 6, ground := Ground.phase }, { on := 7, ground := Ground.phase }, { on := 8, ground := Ground.phase }, { on := 9, ground := Ground.phase }, { on := 10, ground := Ground.phase }, { on := 11, ground := Ground.phase }, { on := 12, ground := Ground.phase }, { on := 13, ground := Ground.phase }, { on := 14, ground := Ground.phase }, { on := 15, ground := Ground.phase }, { on := 16, ground := Ground.phase }, { on := 17, ground := Ground.phase }, { on := 18, ground := Ground.phase }], guard := none }) rfl (fun KK hKK => ?_) ?_
                  · refine wp_store_row 46 _ _ rfl W1.heap.size #[.slice a9 (j + 1) c9, .int .i64 (ii + 1)] rfl rfl 46 #[.slice none 0 0, .int .i64 0] (FB.out _ Tu24).2.2.1 sizeTq rfl (st_ones _ _ _ _) ?_
                    refine hKK.out _ _ (⟨(setRow_other _ _ _ _ HSY.out.2.1).trans su24.1, (setRow_other _ _ _ _ HSY.out.2.2).trans su24.2⟩) (fun _ => ?_)
                    clear hKK KK
                    try simp only [Act.put]
                    refine wpAnyH_name (fun u26 hu26 => ?_)
                    have su26 : (fun W : World => W.heap[w.heap.size]? = some (.cells #[.slice a j c, .int .i64 s.n] 46 (0, 0)) ∧ W.heap[W0.heap.size]? = some (.cells rcs.toArray 25 (0, 0))) u26 := by rw [hu26.out]; exact (⟨(setRow_other _ _ _ _ HSY.out.2.1).trans su24.1, (setRow_other _ _ _ _ HSY.out.2.2).trans su24.2⟩)
                    have HZ : Hid (u26.heap[W1.heap.size]? = some (.cells #[.slice a9 (j + 1) c9, .int .i64 (ii + 1)] 46 (0, 0)) ∧ PS u26 (.slice a9 (j + 1) c9) (s.l ++ [z]) ∧ Below w.heap.size w u26 ∧ RPq u26 w.heap.size (.slice a9 (j + 1) c9) (s.l ++ [z])) := by rw [hu26.out]; exact ⟨setRow_heap _ _ _ _ _ _ (FB.out _ Tu24).2.2.1, (r9.setRow _ _ (FB.out _ Tu24).2.2.1).is, below_setRow (FB.out _ Tu24).2.2.2 HSZ.out _, (r9.setRow _ _ (FB.out _ Tu24).2.2.1).mono HSY.out.1⟩
                    refine wpAnyH_take (i := 20) (oi := { dst := some 5, op := Op.assign (Operand.const (Value.bool true)), type := 4, pos := "ref.go:173", after := #[{ on := 19, ground := Ground.chain }, { on := 0, ground := Ground.phase }, { on := 1, ground := Ground.phase }, { on := 2, ground := Ground.phase }, { on := 3, ground := Ground.phase }, { on := 4, ground := Ground.phase }, { on := 5, ground := Ground.phase }, { on := 6, ground := Ground.phase }, { on := 7, ground := Ground.phase }, { on := 8, ground := Ground.phase }, { on := 9, ground := Ground.phase }, { on := 10, ground := Ground.phase }, { on := 11, ground := Ground.phase }, { on := 12, ground := Ground.phase }, { on := 13, ground := Ground.phase }, { on := 14, ground := Ground.phase }, { on := 15, ground := Ground.phase }, { on := 16, ground := Ground.phase }, { on := 17, ground := Ground.phase }, { on := 18, ground := Ground.phase }, { on := 19, ground := Ground.phase }], guard := none }) (v := ?vq27) rfl (by kernel_rfl) (by kernel_rfl) (by kernel_rfl) (fun _ _ _ h => h) (Or.inl ⟨by rfl, ?yq27⟩) su26 ?rq27
                    case yq27 => (intro w hSw; go_simp; try with_reducible rfl)
                    try simp only [Act.put, List.setIfInBounds_toArray, List.set_cons_zero, List.set_cons_succ]
                    refine wpAnyH_done (by kernel_rfl) ?_ _
                    go_wp2_with fail
                    exact bodyPost_ret (v := .tuple #[.agg #[.slice a9 (j + 1) c9, .int .i64 (ii + 1)], .bool true]) (retSq rfl rfl HZ.out.1) rfl ⟨_, by rw [HR.out]; rfl, by rw [HR.out]; exact HZ.out.2.1, HZ.out.2.2.1, .inr (by rw [HR.out]; exact HZ.out.2.2.2)⟩
                  exact AllReadyH.nil
                exact AllReadyH.nil
              exact AllReadyH.nil
            exact AllReadyH.nil
end Go.Proofs.YtcenchnmibdebaaDoor
