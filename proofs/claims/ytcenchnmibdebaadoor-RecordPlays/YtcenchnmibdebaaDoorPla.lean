/-
  What Play answers.
-/
import Derived.Test.YtcenchnmibdebaaDoorStp
namespace Go.Proofs.YtcenchnmibdebaaDoor
open Go.RowKit
set_option maxRecDepth 100000

theorem play_le (l : List Rc) : ∀ s, (play s l).2 ≤ l.length := by
  induction l with
  | nil => intro s; simp [play]
  | cons r l ih =>
    intro s
    unfold play
    cases step s r with
    | none => simp
    | some t => simp only [List.length_cons]; have := ih t; omega
theorem play_none {s : Ste} {r : Rc} (l : List Rc) (h : step s r = none) : play s (r :: l) = (s, 0) := by unfold play; rw [h]
theorem play_some {s t : Ste} {r : Rc} (l : List Rc) (h : step s r = some t) : play s (r :: l) = ((play t l).1, (play t l).2 + 1) := by
  conv => lhs; unfold play
  rw [h]
theorem play_app (a b : List Rc) : ∀ s, play s (a ++ b) = if (play s a).2 = a.length then ((play (play s a).1 b).1, a.length + (play (play s a).1 b).2) else play s a := by
  induction a with
  | nil => intro s; simp [play]
  | cons r a ih =>
    intro s
    rw [List.cons_append]
    cases hst : step s r with
    | none => rw [play_none _ hst, play_none _ hst]; simp
    | some t =>
      rw [play_some _ hst, play_some _ hst, ih t]
      simp only [List.length_cons]
      by_cases h : (play t a).2 = a.length
      · rw [if_pos h, if_pos (by omega)]
        exact Prod.ext rfl (by show a.length + _ + 1 = a.length + 1 + _; omega)
      · rw [if_neg h, if_neg (by omega)]
theorem take_succR (l : List Rc) (j : Nat) (h : j < l.length) : l.take (j + 1) = l.take j ++ [atR l j] := by
  rw [List.take_add_one, List.getElem?_eq_getElem h, atR_eq l j h]
  rfl
theorem splitR (l : List Rc) (j : Nat) (h : j < l.length) : l = l.take j ++ (atR l j :: l.drop (j + 1)) := by
  conv => lhs; rw [← List.take_append_drop j l, List.drop_eq_getElem_cons h]
  rw [atR_eq l j h]
/-- The state behind the first j records, all of them taken. -/
def PJ (L : List Rc) (j : Nat) (s : Ste) : Prop := play st0 (L.take j) = (s, j)
theorem PJ.go {L : List Rc} {j : Nat} {s t : Ste} (h : PJ L j s) (hj : j < L.length) (ht : step s (atR L j) = some t) : PJ L (j + 1) t := by
  unfold PJ at h ⊢
  rw [take_succR L j hj, play_app, h]
  have hl : (L.take j).length = j := by rw [List.length_take]; omega
  rw [hl, if_pos rfl]
  show ((play s [atR L j]).1, j + (play s [atR L j]).2) = (t, j + 1)
  rw [play_some [] ht]
  rfl
theorem PJ.stop {L : List Rc} {j : Nat} {s : Ste} (h : PJ L j s) (hj : j < L.length) (ht : step s (atR L j) = none) : play st0 L = (s, j) := by
  unfold PJ at h
  conv => lhs; rw [splitR L j hj]
  rw [play_app, h]
  have hl : (L.take j).length = j := by rw [List.length_take]; omega
  rw [hl, if_pos rfl]
  show ((play s (atR L j :: L.drop (j + 1))).1, j + (play s (atR L j :: L.drop (j + 1))).2) = (s, j)
  rw [play_none _ ht]
  rfl
theorem PJ.all {L : List Rc} {s : Ste} (h : PJ L L.length s) : play st0 L = (s, L.length) := by
  unfold PJ at h
  rwa [List.take_length] at h
theorem step_len {s t : Ste} {r : Rc} (h : step s r = some t) (hl : s.l.length ≤ 64) : t.l.length ≤ 64 := by
  unfold step at h
  repeat' split at h
  all_goals cases h
  · show (s.l ++ _).length ≤ 64
    rw [List.length_append, List.length_singleton]
    omega
  · show (s.l.set _ _).length ≤ 64
    rw [List.length_set]
    exact hl
  · have := List.length_eraseIdx_le s.l (plc s.l r.x.i)
    show (s.l.eraseIdx (plc s.l r.x.i)).length ≤ 64
    omega
  · exact hl
theorem retY {tmps : Array Value} {w : World} {g : Nat} {v : Value} {n m : Int} (hp : tmps.getD 2 undef = .pointer (some ⟨g, 0, none⟩)) (he : tmps.getD 3 undef = .int .i64 m)
    (hg : w.heap[g]? = some (.cells #[v, .int .i64 n] 43 (0, 0))) : (results Tryd.f14 tmps).run Tryd.prog w = .ok (.tuple #[.agg #[v, .int .i64 n], .int .i64 m]) w := by
  have hld : (loadVar 43 ⟨g, 0, none⟩).run Tryd.prog w = .ok (.agg #[v, .int .i64 n]) w := run_loadVar_row w g 43 43 #[v, .int .i64 n] (0, 0) _ hg Tryd.underlying43 rfl sizeT
  rw [results_cell_tmp rfl, hp, he]
  simp [asAddr, Result.andThen, hld]
set_option maxHeartbeats 2000000 in
theorem play_any (v : Value) (L : List Rc) (w : World) (h : RS w v L) (hl : L.length ≤ 100000) (hi : ∀ r ∈ L, r.x.i ≤ 4611686018427387904) :
    Calls Tryd.prog 14 #[v] w fun e w' => ∃ v', e = .returned (.tuple #[SVal v' (play st0 L).1, .int .i64 ((play st0 L).2 : Nat)]) ∧ RP w' w.heap.size v' (play st0 L).1.l ∧ Below w.heap.size w w' := by
  obtain ⟨a, c, rfl, h2, h3, h4⟩ := h.shape
  obtain ⟨W0, hW0⟩ : ∃ W0, W0 = w.alloc (.cells #[.slice none 0 0, .int .i64 0] 43) := ⟨_, rfl⟩
  have b0 : Below w.heap.size w W0 := by rw [hW0]; exact al_below _ _
  have z0 : W0.heap.size = w.heap.size + 1 := by rw [hW0]; simp
  have g0 : W0.heap[w.heap.size]? = some (.cells #[.slice none 0 0, .int .i64 0] 43 (0, 0)) := by rw [hW0]; exact new_st w
  obtain ⟨W1, hW1⟩ : ∃ W1, W1 = W0.alloc (.cells #[.slice none 0 0, .int .i64 0] 43) := ⟨_, rfl⟩
  have b1 : Below W0.heap.size W0 W1 := by rw [hW1]; exact al_below _ _
  have s1 : SV W1 W0.heap.size W0.heap.size (.slice none 0 0) st0 := ⟨by rw [hW1]; exact new_st W0, RPt.nil _ _ _⟩
  have b1' : Below w.heap.size w W1 := b0.trans (b1.mono b0.size)
  have HS : Hid (RS W1 (.slice a L.length c) L) := h.kept b1'
  have HOK : Hid (∀ x ∈ L, x.ok) := h.2
  have HIB : Hid (∀ j, (atR L j).x.i ≤ 4611686018427387904) := fun j => by
    by_cases hj : j < L.length
    · exact hi _ (atR_mem L j hj)
    · have e : atR L j = rc0 := by simp [atR, List.getD, List.getElem?_eq_none (show L.length ≤ j by omega)]
      rw [e]
      show (0 : Int) ≤ _
      omega
  have HG : Hid (∀ W, Below W0.heap.size W1 W → W.heap[w.heap.size]? = some (.cells #[.slice none 0 0, .int .i64 0] 43 (0, 0)) ∧ Below w.heap.size w W) := fun W hb => ⟨blk_kept (blk_kept g0 b1 (by omega)) hb (by omega), b1'.trans (hb.mono (by omega))⟩
  have HSZ : Hid (w.heap.size < W0.heap.size ∧ w.heap.size ≤ W0.heap.size ∧ W0.heap.size ≤ W1.heap.size) := ⟨by omega, by omega, b1.size⟩
  have P0 : Hid (PJ L 0 st0) := rfl
  have HS1 : Hid (SB W1 W0.heap.size W0.heap.size st0) := ⟨_, s1⟩
  have hn := hl
  obtain ⟨n, hn'⟩ : ∃ n, n = L.length := ⟨_, rfl⟩
  have HN : Hid (n = L.length) := hn'
  have HRS : Hid (∀ W, Below W0.heap.size W1 W → RS W (.slice a L.length c) L) := fun W hb => h.kept (b1'.trans (hb.mono (by omega)))
  rw [← hn'] at HS h2 hn HRS ⊢
  have hw0 := hW0.symm
  have hw1 := hW1.symm
  have HST : Hid (∀ j s, PJ L j s → j < L.length → step s (atR L j) = none → play st0 L = (s, j)) := fun j s h1 h2 h3 => h1.stop h2 h3
  have HAL : Hid (∀ s, PJ L L.length s → play st0 L = (s, L.length)) := fun s h1 => h1.all
  clear h hl h3 h4 hn' hW0 b0 z0 g0 hW1 b1 s1 b1' hi
  generalize play st0 L = R at *
  go_enter Tryd.func14, Tryd.ntmps14
  go_wp2_with fail
  try rw [hw0]
  try rw [hw1]
  clear hw0 hw1
  go_loopw [9] (fun z wr => ∃ j : Nat, j ≤ n ∧ z = .int .i64 j ∧ (∃ s, PJ L j s ∧ s.l.length ≤ 64 ∧ SB wr W0.heap.size W0.heap.size s) ∧ Below W0.heap.size W1 wr) (fun z _ => n - (intOf z).toNat)
  case atStart => exact ⟨0, by omega, rfl, ⟨st0, P0.out, by decide, HS1.out⟩, Below.refl _ _⟩
  case round =>
    obtain ⟨j, hj, rfl, ⟨s, pj, sl, v1, sb⟩, bel⟩ := hrel
    have HB : Hid (Below W0.heap.size W1 wr) := bel
    have PJJ : Hid (PJ L j s) := pj
    have SLL : Hid (s.l.length ≤ 64) := sl
    have HV : Hid (SV wr W0.heap.size W0.heap.size v1 s) := sb
    clear bel pj sl sb HS1 P0
    by_cases hlt : j < n
    · have lt2 : (j : Int) < (n : Int) := by omega
      obtain ⟨b, off, rfl, hr⟩ := (HRS.out wr HB.out).at j (by rw [← HN.out]; exact hlt)
      have hx : (atR L j).ok := Rc.at L HOK.out j
      have NX : Hid (∀ t, step s (atR L j) = some t → PJ L (j + 1) t ∧ t.l.length ≤ 64) := fun t ht => ⟨PJJ.out.go (by rw [← HN.out]; exact hlt) ht, step_len ht SLL.out⟩
      have ST : Hid (step s (atR L j) = none → R = (s, j)) := HST.out j s PJJ.out (by rw [← HN.out]; exact hlt)
      have hi := HIB.out j
      generalize atR L j = x at *
      have RN : Hid (wr.rangeAt b (off + j * 37) x.cells) := hr
      have HZ : Hid ((Tryd.prog.info? 33).map (·.size) = some x.cells.length) := Rc.infoL x hx
      have HI : Hid ((Tryd.prog.info? 33).map (·.size) = some x.cells.toArray.size) := Rc.infoA x hx
      have HE2 : Hid (rzc.size = x.cells.toArray.size) := rzc_size.trans (Rc.size x hx).symm
      have H1 : Hid (x.cells.toArray.all (·.oneCell') = true) := Rc.ones x
      obtain ⟨W2, hW2⟩ : ∃ W2, W2 = wr.alloc (.cells x.cells.toArray 33) := ⟨_, rfl⟩
      have b2 : Below wr.heap.size wr W2 := by rw [hW2]; exact al_below _ _
      have R2 : Hid (W2.rangeAt wr.heap.size 0 x.cells) := by unfold Hid; rw [hW2]; exact rc_new wr x
      have e1 := alloc_rc wr x
      rw [← hW2] at e1
      have HE1 : Hid ((wr.alloc (.cells #[.int .u8 0, .int .i64 0, .string ⟨#[]⟩, .int .u8 0, .int .u8 0, .int .u8 0, .int .u8 0, .int .u8 0, .int .u8 0, .int .u8 0, .int .u8 0, .int .u8 0, .int .u8 0, .int .u8 0, .int .u8 0, .int .u8 0, .int .u8 0, .int .u8 0, .int .u8 0, .int .u8 0, .int .u8 0, .int .u8 0, .int .u8 0, .int .u8 0, .int .u8 0, .int .u8 0, .int .u8 0, .int .u8 0, .int .u8 0, .int .u8 0, .int .u8 0, .int .u8 0, .int .u8 0, .int .u8 0, .int .u8 0, .int .i64 0, .int .i64 0] 33)).setRow wr.heap.size x.cells.toArray = W2) := e1
      have ct := take_any W0.heap.size W0.heap.size v1 s x W2 (HV.out.kept b2) (Nat.le_refl _) hx hi (by have := SLL.out; omega)
      have B2 : Hid (Below W0.heap.size W1 W2) := HB.out.trans (b2.mono (Nat.le_trans HSZ.out.2.2 HB.out.size))
      unfold Rc.val at ct
      clear b2 hr hx e1 hW2 hi
      generalize x.cells = cs at *
      go_wp2_with (refine wpList_load_mid rfl 33 _ rfl b (off + j * 37) rfl cs _ RN.out Tryd.underlying33 rfl HZ.out (Hid.out ?_))
      unfold Hid
      go_wp2_with (refine wpList_store_row rfl 33 _ _ rfl wr.heap.size cs.toArray rfl rfl 33 rzc (new_rc wr) HI.out HE2.out H1.out (Hid.out ?_))
      unfold Hid
      rw [HE1.out]
      go_wp2_with (refine wpList_load_mid rfl 33 _ rfl wr.heap.size 0 rfl cs _ R2.out Tryd.underlying33 rfl HZ.out ?_)
      refine ct.mono ?_
      rintro e w3 ⟨rfl, ⟨v3, s3⟩, b3⟩
      have B3 : Hid (Below W0.heap.size W1 w3) := B2.out.trans b3
      clear ct b3 RN R2 HE1 HZ HI HE2 H1
      cases hst : step s x with
      | some t =>
        obtain ⟨p4, l4⟩ := NX.out t hst
        have HR4 : Hid (∃ s, PJ L (j + 1) s ∧ s.l.length ≤ 64 ∧ SB w3 W0.heap.size W0.heap.size s) := ⟨t, p4, l4, v3, by have := s3; rw [hst] at this; exact this⟩
        clear NX ST s3 p4 l4 hst
        simp only [Option.isSome_some]
        go_wp2
        go_roundw
        case rel => exact ⟨j + 1, by omega, by go_num, HR4.out, B3.out⟩
        case measure => simp [intOf]; omega
      | none =>
        have HR : Hid (R = (s, j)) := ST.out hst
        rw [hst] at s3
        have H3 : Hid (SV w3 W0.heap.size W0.heap.size v3 s) := s3
        obtain ⟨k3, bw3⟩ := HG.out w3 B3.out
        have K3 : Hid (w3.heap[w.heap.size]? = some (.cells #[.slice none 0 0, .int .i64 0] 43 (0, 0))) := k3
        have BW3 : Hid (Below w.heap.size w w3) := bw3
        have R3 : Hid (w3.rangeAt W0.heap.size 0 [v3, .int .i64 s.n]) := blk_range s3.1
        clear NX ST s3 k3 bw3 hst
        obtain ⟨va, vc, rfl, -, -, -⟩ := H3.out.2.is.shape
        simp only [Option.isSome_none]
        generalize s.l.length = sn at *
        go_wp2_with (first
          | refine wpList_load_mid rfl 43 _ rfl W0.heap.size 0 rfl [.slice va sn vc, .int .i64 s.n] _ R3.out Tryd.underlying43 rfl sizeT ?_
          | refine wpList_store_row rfl 43 _ _ rfl w.heap.size #[.slice va sn vc, .int .i64 s.n] rfl rfl 43 #[.slice none 0 0, .int .i64 0] K3.out sizeT rfl (st_ones _ _ _ _) ?_)
        refine bodyPost_ret (v := .tuple #[.agg #[.slice va sn vc, .int .i64 s.n], .int .i64 (j : Nat)]) (retY rfl rfl (setRow_heap _ _ _ _ _ _ K3.out)) rfl ⟨.slice va sn vc, by rw [HR.out]; rfl, ?_, below_setRow BW3.out (Nat.le_refl _) _⟩
        rw [HR.out]
        exact (H3.out.2.setRow w.heap.size _ K3.out).mono HSZ.out.2.1
    · obtain rfl : j = n := by omega
      have HR : Hid (R = (s, j)) := by
        unfold Hid
        have h5 := HAL.out s (by rw [← HN.out]; exact PJJ.out)
        rw [h5, HN.out]
      obtain ⟨k3, bw3⟩ := HG.out wr HB.out
      have K3 : Hid (wr.heap[w.heap.size]? = some (.cells #[.slice none 0 0, .int .i64 0] 43 (0, 0))) := k3
      have BW3 : Hid (Below w.heap.size w wr) := bw3
      have R3 : Hid (wr.rangeAt W0.heap.size 0 [v1, .int .i64 s.n]) := blk_range HV.out.1
      obtain ⟨va, vc, rfl, -, -, -⟩ := HV.out.2.is.shape
      clear k3 bw3 HST HAL HRS
      generalize s.l.length = sn at *
      go_wp2_with (first
        | refine wpList_load_mid rfl 43 _ rfl W0.heap.size 0 rfl [.slice va sn vc, .int .i64 s.n] _ R3.out Tryd.underlying43 rfl sizeT ?_
        | refine wpList_store_row rfl 43 _ _ rfl w.heap.size #[.slice va sn vc, .int .i64 s.n] rfl rfl 43 #[.slice none 0 0, .int .i64 0] K3.out sizeT rfl (st_ones _ _ _ _) ?_)
      refine bodyPost_ret (v := .tuple #[.agg #[.slice va sn vc, .int .i64 s.n], .int .i64 (j : Nat)]) (retY rfl rfl (setRow_heap _ _ _ _ _ _ K3.out)) rfl ⟨.slice va sn vc, by rw [HR.out]; rfl, ?_, below_setRow BW3.out (Nat.le_refl _) _⟩
      rw [HR.out]
      exact (HV.out.2.setRow w.heap.size _ K3.out).mono HSZ.out.2.1
end Go.Proofs.YtcenchnmibdebaaDoor
