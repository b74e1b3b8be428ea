/-
  What Play answers.
  The closed case, plainly.
  What the statements of layer 15 share: the listed tables give the walks what they read; records that came in.
  What holds of every state that records which may be leave; its image plays it.
  What a step keeps: the next ID does not fall, paths are unlike, offsets do not fall.
  What slices.Equal answers at items; what manifest.Same answers.
  What own answers.
  Steps of a walk at operations that a guard opens.
-/
import Derived.Test.YtpkobpdiddjnpabDoorStp
import Derived.Test.YtpkobpdiddjnpabDoorSw
import Derived.Test.YtpkobpdiddjnpabDoorTie
import Derived.Test.YtpkobpdiddjnpabDoorCards
import Derived.Carry
import Derived.ChangeMaps5
import Derived.ChangeOld
import Derived.Deep.DeepHandedRow
import Derived.Deep.SlicePairs
import Derived.Deep.Slices
import Derived.Deep.Strs
import Derived.LaidLaws
import Derived.Lib.LaidTab
import Derived.Lib.SmallJoins
import Derived.OpenShut
import Derived.ProofKit
import Derived.Shelf.Vars
import Derived.SizedLaws
import Derived.Stop.LaidErr
import Derived.Test.YtpkobpdiddjnpabDoorCi
import Derived.Test.YtpkobpdiddjnpabDoorTg
import Derived.Test.YtpkobpdiddjnpabDoorCh
import Derived.Test.YtpkobpdiddjnpabDoorPs
namespace Go.Proofs.YtpkobpdiddjnpabDoor
open Go.RowKit
set_option maxRecDepth 100000

theorem play_le (l : List Rc) : ∀ s, (play s l).2 ≤ l.length := by
  induction l with
  | nil => intro s; simp [play]
  | cons r l ih =>
    intro s
    unfold play
    cases step s r with
    | none => simp
    | some t => simp only [List.length_cons]; have := ih t; omega
theorem play_none {s : Ste} {r : Rc} (l : List Rc) (h : step s r = none) : play s (r :: l) = (s, 0) := by unfold play; rw [h]
theorem play_some {s t : Ste} {r : Rc} (l : List Rc) (h : step s r = some t) : play s (r :: l) = ((play t l).1, (play t l).2 + 1) := by
  conv => lhs; unfold play
  rw [h]
theorem play_app (a b : List Rc) : ∀ s, play s (a ++ b) = if (play s a).2 = a.length then ((play (play s a).1 b).1, a.length + (play (play s a).1 b).2) else play s a := by
  induction a with
  | nil => intro s; simp [play]
  | cons r a ih =>
    intro s
    rw [List.cons_append]
    cases hst : step s r with
    | none => rw [play_none _ hst, play_none _ hst]; simp
    | some t =>
      rw [play_some _ hst, play_some _ hst, ih t]
      simp only [List.length_cons]
      by_cases h : (play t a).2 = a.length
      · rw [if_pos h, if_pos (by omega)]
        exact Prod.ext rfl (by show a.length + _ + 1 = a.length + 1 + _; omega)
      · rw [if_neg h, if_neg (by omega)]
theorem take_succR (l : List Rc) (j : Nat) (h : j < l.length) : l.take (j + 1) = l.take j ++ [atR l j] := by
  rw [List.take_add_one, List.getElem?_eq_getElem h, atR_eq l j h]
  rfl
theorem splitR (l : List Rc) (j : Nat) (h : j < l.length) : l = l.take j ++ (atR l j :: l.drop (j + 1)) := by
  conv => lhs; rw [← List.take_append_drop j l, List.drop_eq_getElem_cons h]
  rw [atR_eq l j h]
/-- The state behind the first j records, all of them taken. -/
def PJ (L : List Rc) (j : Nat) (s : Ste) : Prop := play st0 (L.take j) = (s, j)
theorem PJ.go {L : List Rc} {j : Nat} {s t : Ste} (h : PJ L j s) (hj : j < L.length) (ht : step s (atR L j) = some t) : PJ L (j + 1) t := by
  unfold PJ at h ⊢
  rw [take_succR L j hj, play_app, h]
  have hl : (L.take j).length = j := by rw [List.length_take]; omega
  rw [hl, if_pos rfl]
  show ((play s [atR L j]).1, j + (play s [atR L j]).2) = (t, j + 1)
  rw [play_some [] ht]
  rfl
theorem PJ.stop {L : List Rc} {j : Nat} {s : Ste} (h : PJ L j s) (hj : j < L.length) (ht : step s (atR L j) = none) : play st0 L = (s, j) := by
  unfold PJ at h
  conv => lhs; rw [splitR L j hj]
  rw [play_app, h]
  have hl : (L.take j).length = j := by rw [List.length_take]; omega
  rw [hl, if_pos rfl]
  show ((play s (atR L j :: L.drop (j + 1))).1, j + (play s (atR L j :: L.drop (j + 1))).2) = (s, j)
  rw [play_none _ ht]
  rfl
theorem PJ.all {L : List Rc} {s : Ste} (h : PJ L L.length s) : play st0 L = (s, L.length) := by
  unfold PJ at h
  rwa [List.take_length] at h
theorem step_len {s t : Ste} {r : Rc} (h : step s r = some t) (hl : s.l.length ≤ 64) : t.l.length ≤ 64 := by
  unfold step at h
  repeat' split at h
  all_goals cases h
  · show (s.l ++ _).length ≤ 64
    rw [List.length_append, List.length_singleton]
    omega
  · show (s.l.set _ _).length ≤ 64
    rw [List.length_set]
    exact hl
  · have := List.length_eraseIdx_le s.l (plc s.l r.x.i)
    show (s.l.eraseIdx (plc s.l r.x.i)).length ≤ 64
    omega
  · exact hl
theorem retY {tmps : Array Value} {w : World} {g : Nat} {v : Value} {n m : Int} (hp : tmps.getD 2 undef = .pointer (some ⟨g, 0, none⟩)) (he : tmps.getD 3 undef = .int .i64 m)
    (hg : w.heap[g]? = some (.cells #[v, .int .i64 n] 26 (0, 0))) : (results Tryd.f12 tmps).run Tryd.prog w = .ok (.tuple #[.agg #[v, .int .i64 n], .int .i64 m]) w := by
  have hld : (loadVar 26 ⟨g, 0, none⟩).run Tryd.prog w = .ok (.agg #[v, .int .i64 n]) w := run_loadVar_row w g 26 26 #[v, .int .i64 n] (0, 0) _ hg Tryd.underlying26 rfl sizeT
  rw [results_cell_tmp rfl, hp, he]
  simp [asAddr, Result.andThen, hld]
set_option maxHeartbeats 2000000 in
theorem play_any (v : Value) (L : List Rc) (w : World) (h : RS w v L) (hl : L.length ≤ 100000) (hi : ∀ r ∈ L, r.x.i ≤ 4611686018427387904) :
    Calls Tryd.prog 12 #[v] w fun e w' => ∃ v', e = .returned (.tuple #[SVal v' (play st0 L).1, .int .i64 ((play st0 L).2 : Nat)]) ∧ RP w' w.heap.size v' (play st0 L).1.l ∧ Below w.heap.size w w' := by
  obtain ⟨a, c, rfl, h2, h3, h4⟩ := h.shape
  obtain ⟨W0, hW0⟩ : ∃ W0, W0 = w.alloc (.cells #[.slice none 0 0, .int .i64 0] 26) := ⟨_, rfl⟩
  have b0 : Below w.heap.size w W0 := by rw [hW0]; exact al_below _ _
  have z0 : W0.heap.size = w.heap.size + 1 := by rw [hW0]; simp
  have g0 : W0.heap[w.heap.size]? = some (.cells #[.slice none 0 0, .int .i64 0] 26 (0, 0)) := by rw [hW0]; exact new_st w
  obtain ⟨W1, hW1⟩ : ∃ W1, W1 = W0.alloc (.cells #[.slice none 0 0, .int .i64 0] 26) := ⟨_, rfl⟩
  have b1 : Below W0.heap.size W0 W1 := by rw [hW1]; exact al_below _ _
  have s1 : SV W1 W0.heap.size W0.heap.size (.slice none 0 0) st0 := ⟨by rw [hW1]; exact new_st W0, RPt.nil _ _ _⟩
  have b1' : Below w.heap.size w W1 := b0.trans (b1.mono b0.size)
  have HS : Hid (RS W1 (.slice a L.length c) L) := h.kept b1'
  have HOK : Hid (∀ x ∈ L, x.ok) := h.2
  have HIB : Hid (∀ j, (atR L j).x.i ≤ 4611686018427387904) := fun j => by
    by_cases hj : j < L.length
    · exact hi _ (atR_mem L j hj)
    · have e : atR L j = rc0 := by simp [atR, List.getD, List.getElem?_eq_none (show L.length ≤ j by omega)]
      rw [e]
      show (0 : Int) ≤ _
      omega
  have HG : Hid (∀ W, Below W0.heap.size W1 W → W.heap[w.heap.size]? = some (.cells #[.slice none 0 0, .int .i64 0] 26 (0, 0)) ∧ Below w.heap.size w W) := fun W hb => ⟨blk_kept (blk_kept g0 b1 (by omega)) hb (by omega), b1'.trans (hb.mono (by omega))⟩
  have HSZ : Hid (w.heap.size < W0.heap.size ∧ w.heap.size ≤ W0.heap.size ∧ W0.heap.size ≤ W1.heap.size) := ⟨by omega, by omega, b1.size⟩
  have P0 : Hid (PJ L 0 st0) := rfl
  have HS1 : Hid (SB W1 W0.heap.size W0.heap.size st0) := ⟨_, s1⟩
  have hn := hl
  obtain ⟨n, hn'⟩ : ∃ n, n = L.length := ⟨_, rfl⟩
  have HN : Hid (n = L.length) := hn'
  have HRS : Hid (∀ W, Below W0.heap.size W1 W → RS W (.slice a L.length c) L) := fun W hb => h.kept (b1'.trans (hb.mono (by omega)))
  rw [← hn'] at HS h2 hn HRS ⊢
  have hw0 := hW0.symm
  have hw1 := hW1.symm
  have HST : Hid (∀ j s, PJ L j s → j < L.length → step s (atR L j) = none → play st0 L = (s, j)) := fun j s h1 h2 h3 => h1.stop h2 h3
  have HAL : Hid (∀ s, PJ L L.length s → play st0 L = (s, L.length)) := fun s h1 => h1.all
  clear h hl h3 h4 hn' hW0 b0 z0 g0 hW1 b1 s1 b1' hi
  generalize play st0 L = R at *
  go_enter Tryd.func12, Tryd.ntmps12
  go_wp2_with fail
  try rw [hw0]
  try rw [hw1]
  clear hw0 hw1
  go_loopw [9] (fun z wr => ∃ j : Nat, j ≤ n ∧ z = .int .i64 j ∧ (∃ s, PJ L j s ∧ s.l.length ≤ 64 ∧ SB wr W0.heap.size W0.heap.size s) ∧ Below W0.heap.size W1 wr) (fun z _ => n - (intOf z).toNat)
  case atStart => exact ⟨0, by omega, rfl, ⟨st0, P0.out, by decide, HS1.out⟩, Below.refl _ _⟩
  case round =>
    obtain ⟨j, hj, rfl, ⟨s, pj, sl, v1, sb⟩, bel⟩ := hrel
    have HB : Hid (Below W0.heap.size W1 wr) := bel
    have PJJ : Hid (PJ L j s) := pj
    have SLL : Hid (s.l.length ≤ 64) := sl
    have HV : Hid (SV wr W0.heap.size W0.heap.size v1 s) := sb
    clear bel pj sl sb HS1 P0
    by_cases hlt : j < n
    · have lt2 : (j : Int) < (n : Int) := by omega
      obtain ⟨b, off, rfl, hr⟩ := (HRS.out wr HB.out).at j (by rw [← HN.out]; exact hlt)
      have hx : (atR L j).ok := Rc.at L HOK.out j
      have NX : Hid (∀ t, step s (atR L j) = some t → PJ L (j + 1) t ∧ t.l.length ≤ 64) := fun t ht => ⟨PJJ.out.go (by rw [← HN.out]; exact hlt) ht, step_len ht SLL.out⟩
      have ST : Hid (step s (atR L j) = none → R = (s, j)) := HST.out j s PJJ.out (by rw [← HN.out]; exact hlt)
      have hi := HIB.out j
      generalize atR L j = x at *
      have RN : Hid (wr.rangeAt b (off + j * 37) x.cells) := hr
      have HZ : Hid ((Tryd.prog.info? 35).map (·.size) = some x.cells.length) := Rc.infoL x hx
      have HI : Hid ((Tryd.prog.info? 35).map (·.size) = some x.cells.toArray.size) := Rc.infoA x hx
      have HE2 : Hid (rzc.size = x.cells.toArray.size) := rzc_size.trans (Rc.size x hx).symm
      have H1 : Hid (x.cells.toArray.all (·.oneCell') = true) := Rc.ones x
      obtain ⟨W2, hW2⟩ : ∃ W2, W2 = wr.alloc (.cells x.cells.toArray 35) := ⟨_, rfl⟩
      have b2 : Below wr.heap.size wr W2 := by rw [hW2]; exact al_below _ _
      have R2 : Hid (W2.rangeAt wr.heap.size 0 x.cells) := by unfold Hid; rw [hW2]; exact rc_new wr x
      have e1 := alloc_rc wr x
      rw [← hW2] at e1
      have HE1 : Hid ((wr.alloc (.cells #[.int .u8 0, .int .i64 0, .string ⟨#[]⟩, .int .u8 0, .int .u8 0, .int .u8 0, .int .u8 0, .int .u8 0, .int .u8 0, .int .u8 0, .int .u8 0, .int .u8 0, .int .u8 0, .int .u8 0, .int .u8 0, .int .u8 0, .int .u8 0, .int .u8 0, .int .u8 0, .int .u8 0, .int .u8 0, .int .u8 0, .int .u8 0, .int .u8 0, .int .u8 0, .int .u8 0, .int .u8 0, .int .u8 0, .int .u8 0, .int .u8 0, .int .u8 0, .int .u8 0, .int .u8 0, .int .u8 0, .int .u8 0, .int .i64 0, .int .i64 0] 35)).setRow wr.heap.size x.cells.toArray = W2) := e1
      have ct := take_any W0.heap.size W0.heap.size v1 s x W2 (HV.out.kept b2) (Nat.le_refl _) hx hi (by have := SLL.out; omega)
      have B2 : Hid (Below W0.heap.size W1 W2) := HB.out.trans (b2.mono (Nat.le_trans HSZ.out.2.2 HB.out.size))
      unfold Rc.val at ct
      clear b2 hr hx e1 hW2 hi
      generalize x.cells = cs at *
      go_wp2_with (refine wpList_load_mid rfl 35 _ rfl b (off + j * 37) rfl cs _ RN.out Tryd.underlying35 rfl HZ.out (Hid.out ?_))
      unfold Hid
      go_wp2_with (refine wpList_store_row rfl 35 _ _ rfl wr.heap.size cs.toArray rfl rfl 35 rzc (new_rc wr) HI.out HE2.out H1.out (Hid.out ?_))
      unfold Hid
      rw [HE1.out]
      go_wp2_with (refine wpList_load_mid rfl 35 _ rfl wr.heap.size 0 rfl cs _ R2.out Tryd.underlying35 rfl HZ.out ?_)
      refine ct.mono ?_
      rintro e w3 ⟨rfl, ⟨v3, s3⟩, b3⟩
      have B3 : Hid (Below W0.heap.size W1 w3) := B2.out.trans b3
      clear ct b3 RN R2 HE1 HZ HI HE2 H1
      cases hst : step s x with
      | some t =>
        obtain ⟨p4, l4⟩ := NX.out t hst
        have HR4 : Hid (∃ s, PJ L (j + 1) s ∧ s.l.length ≤ 64 ∧ SB w3 W0.heap.size W0.heap.size s) := ⟨t, p4, l4, v3, by have := s3; rw [hst] at this; exact this⟩
        clear NX ST s3 p4 l4 hst
        simp only [Option.isSome_some]
        go_wp2
        go_roundw
        case rel => exact ⟨j + 1, by omega, by go_num, HR4.out, B3.out⟩
        case measure => simp [intOf]; omega
      | none =>
        have HR : Hid (R = (s, j)) := ST.out hst
        rw [hst] at s3
        have H3 : Hid (SV w3 W0.heap.size W0.heap.size v3 s) := s3
        obtain ⟨k3, bw3⟩ := HG.out w3 B3.out
        have K3 : Hid (w3.heap[w.heap.size]? = some (.cells #[.slice none 0 0, .int .i64 0] 26 (0, 0))) := k3
        have BW3 : Hid (Below w.heap.size w w3) := bw3
        have R3 : Hid (w3.rangeAt W0.heap.size 0 [v3, .int .i64 s.n]) := blk_range s3.1
        clear NX ST s3 k3 bw3 hst
        obtain ⟨va, vc, rfl, -, -, -⟩ := H3.out.2.is.shape
        simp only [Option.isSome_none]
        generalize s.l.length = sn at *
        go_wp2_with (first
          | refine wpList_load_mid rfl 26 _ rfl W0.heap.size 0 rfl [.slice va sn vc, .int .i64 s.n] _ R3.out Tryd.underlying26 rfl sizeT ?_
          | refine wpList_store_row rfl 26 _ _ rfl w.heap.size #[.slice va sn vc, .int .i64 s.n] rfl rfl 26 #[.slice none 0 0, .int .i64 0] K3.out sizeT rfl (st_ones _ _ _ _) ?_)
        refine bodyPost_ret (v := .tuple #[.agg #[.slice va sn vc, .int .i64 s.n], .int .i64 (j : Nat)]) (retY rfl rfl (setRow_heap _ _ _ _ _ _ K3.out)) rfl ⟨.slice va sn vc, by rw [HR.out]; rfl, ?_, below_setRow BW3.out (Nat.le_refl _) _⟩
        rw [HR.out]
        exact (H3.out.2.setRow w.heap.size _ K3.out).mono HSZ.out.2.1
    · obtain rfl : j = n := by omega
      have HR : Hid (R = (s, j)) := by
        unfold Hid
        have h5 := HAL.out s (by rw [← HN.out]; exact PJJ.out)
        rw [h5, HN.out]
      obtain ⟨k3, bw3⟩ := HG.out wr HB.out
      have K3 : Hid (wr.heap[w.heap.size]? = some (.cells #[.slice none 0 0, .int .i64 0] 26 (0, 0))) := k3
      have BW3 : Hid (Below w.heap.size w wr) := bw3
      have R3 : Hid (wr.rangeAt W0.heap.size 0 [v1, .int .i64 s.n]) := blk_range HV.out.1
      obtain ⟨va, vc, rfl, -, -, -⟩ := HV.out.2.is.shape
      clear k3 bw3 HST HAL HRS
      generalize s.l.length = sn at *
      go_wp2_with (first
        | refine wpList_load_mid rfl 26 _ rfl W0.heap.size 0 rfl [.slice va sn vc, .int .i64 s.n] _ R3.out Tryd.underlying26 rfl sizeT ?_
        | refine wpList_store_row rfl 26 _ _ rfl w.heap.size #[.slice va sn vc, .int .i64 s.n] rfl rfl 26 #[.slice none 0 0, .int .i64 0] K3.out sizeT rfl (st_ones _ _ _ _) ?_)
      refine bodyPost_ret (v := .tuple #[.agg #[.slice va sn vc, .int .i64 s.n], .int .i64 (j : Nat)]) (retY rfl rfl (setRow_heap _ _ _ _ _ _ K3.out)) rfl ⟨.slice va sn vc, by rw [HR.out]; rfl, ?_, below_setRow BW3.out (Nat.le_refl _) _⟩
      rw [HR.out]
      exact (HV.out.2.setRow w.heap.size _ K3.out).mono HSZ.out.2.1
end Go.Proofs.YtpkobpdiddjnpabDoor
namespace Go.Proofs.YtpkobpdiddjnpabDoor
open Go.RowKit
set_option maxRecDepth 100000

def r1 : Rc := ⟨1, ⟨5, ⟨#[]⟩, z32, 0, 9⟩⟩
theorem r1_ok : r1.ok := ⟨by show (0 : Int) ≤ 1; omega, by show (1 : Int) < 256; omega, z32_len, z32_bytes, by unfold i64; show _ ∧ _; simp [r1], i64_0, by unfold i64; simp [r1]⟩
theorem rck_r1 : rck r1 = 0 := by decide
def p1 : List Int := [7, 1, 5, 9, 196, 255, 40, 250]
theorem put_r1 : putB r1 = p1 := by decide
theorem p1_bts : Bts p1 := byteList p1 (by decide)
theorem ahE_p1 : ahE p1 = 0 := by decide
theorem ahU_p1 : ahU p1 = 8 := by decide
theorem ahR_p1 : ahR p1 = r1 := by kernel_rfl
theorem scn_p1 : scn p1 = ([r1], 8, 0) := by
  rw [scn_ok p1_bts (by decide) ahE_p1, ahU_p1, ahR_p1]
  rw [show p1.drop (8 : Int).toNat = [] from rfl, scn_nil]
  rfl
def q1 : Rc := ⟨0, ⟨0, ⟨#[97]⟩, z32, 9, 0⟩⟩
def q2 : Rc := ⟨1, ⟨0, ⟨#[]⟩, z32, 0, 3⟩⟩
def q3 : Rc := ⟨2, ⟨0, ⟨#[]⟩, z32, 0, 0⟩⟩
theorem q_play : play st0 [q1, q2, q3] = (⟨[], 1⟩, 3) := by kernel_rfl
theorem q_ok : ∀ r ∈ [q1, q2, q3], r.ok := fun r hr => by
  simp only [List.mem_cons, List.not_mem_nil, or_false] at hr
  rcases hr with rfl | rfl | rfl <;> exact ⟨by decide, by decide, z32_len, z32_bytes, by unfold i64; decide, by unfold i64; decide, by unfold i64; decide⟩
theorem q_i : ∀ r ∈ [q1, q2, q3], r.x.i ≤ 4611686018427387904 := fun r hr => by
  simp only [List.mem_cons, List.not_mem_nil, or_false] at hr
  rcases hr with rfl | rfl | rfl <;> decide
theorem b_q1 : Tryd.prog.built 35 [(2, .string ⟨#[97]⟩), (4, .int .i64 9)] = some q1.cells.toArray := by kernel_rfl
theorem b_q2 : Tryd.prog.built 35 [(0, .int .u8 1), (5, .int .i64 3)] = some q2.cells.toArray := by kernel_rfl
theorem b_q3 : Tryd.prog.built 35 [(0, .int .u8 2)] = some q3.cells.toArray := by kernel_rfl
theorem b_r1 : Tryd.prog.built 35 [(0, .int .u8 1), (1, .int .i64 5), (5, .int .i64 9)] = some r1.cells.toArray := by kernel_rfl
def q123 : List Value := ([q1, q2, q3].map Rc.cells).flatten
theorem bs_q : Tryd.prog.builtSlice 35 3 [(0, .agg q1.cells.toArray), (1, .agg q2.cells.toArray), (2, .agg q3.cells.toArray)] = some q123.toArray := by kernel_rfl
theorem rs_block {w : World} {g : Nat} {l : List Rc} (hg : w.heap[g]? = some (.cells (l.map Rc.cells).flatten.toArray 35 (0, 0))) (hok : ∀ r ∈ l, r.ok) (hm : l.length ≤ 1000) : RS w (.slice (some ⟨g, 0, none⟩) l.length l.length) l := by
  refine ⟨⟨_, l.length, by rw [List.length_map], by rw [List.length_map]; exact Nat.le_refl _, by unfold maxLen; omega, fun e => (by cases e), cl_rc hok, .inr ⟨g, 0, rfl, fun i hi j v hv => ?_⟩⟩, hok⟩
  have h1 := (cl_rc hok).get hi hv
  rw [Nat.zero_add]
  unfold World.cell?
  rw [hg]
  simpa using h1
theorem wpList_bs3 {w : World} {ops : Array Oper} {rest : List Oper} {o : Oper} {a : Act} {Q : Exit → Act → World → Prop} (hgd : o.guard = none) (x y z : Operand) (ho : o.op = .buildSlice 48 3 #[(0, x), (1, y), (2, z)])
    (c1 c2 c3 cs : Array Value) (hx : a.eval x = .agg c1) (hy : a.eval y = .agg c2) (hz : a.eval z = .agg c3) (hb : Tryd.prog.builtSlice 35 3 [(0, .agg c1), (1, .agg c2), (2, .agg c3)] = some cs)
    (h : wpList Tryd.prog ops Q rest (a.put o.dst (.slice (some ⟨w.heap.size, 0, none⟩) 3 3)) (w.alloc (.cells cs 35))) : wpList Tryd.prog ops Q (o :: rest) a w :=
  Great.wpList_buildSliceTo hgd 48 35 3 #[(0, x), (1, y), (2, z)] ho w.heap.size rfl o.dst rfl Tryd.underlying48 cs (by simpa [hx, hy, hz] using hb) h
set_option maxHeartbeats 4000000 in
theorem awake_any (w : World) (ht : Tb w) : Calls Tryd.prog 4 #[] w fun e w' => e = .returned (.bool true) ∧ Below w.heap.size w w' := by
  have C1 := put_any r1 w r1_ok ht (by show (⟨#[]⟩ : ByteArray).size ≤ 1000; decide)
  rw [rck_r1, put_r1] at C1
  have C2 : Hid (∀ W v, Below w.heap.size w W → Sl W v p1 → Calls Tryd.prog 11 #[v] W fun e w' => ∃ v', e = .returned (.tuple #[v', .int .i64 8, .int .i64 0]) ∧ RR w' W.heap.size v' [r1] ∧ Below W.heap.size W w') := fun W v hb hs => by
    have := scan_any v p1 W hs (ht.kept hb) (by decide)
    rw [scn_p1] at this
    exact this
  have C3 : Hid (∀ W, W.heap.size + 1 ≤ 1000000000000000000000 ∨ True → Calls Tryd.prog 12 #[.slice (some ⟨W.heap.size, 0, none⟩) 3 3] (W.alloc (.cells q123.toArray 35)) fun e w' => ∃ v', e = .returned (.tuple #[.agg #[v', .int .i64 1], .int .i64 3]) ∧ RP w' (W.heap.size + 1) v' [] ∧ Below W.heap.size W w') := fun W _ => by
    have b := al_below W (.cells q123.toArray 35)
    have := play_any _ [q1, q2, q3] (W.alloc (.cells q123.toArray 35)) (rs_block (heap_alloc_new W _) q_ok (by decide)) (by decide) q_i
    rw [q_play] at this
    refine this.mono ?_
    rintro e w' ⟨v', h1, h2, h3⟩
    refine ⟨v', h1, by have := h2; simp at this; exact this, b.trans (h3.mono b.size)⟩
  have HS1 : Hid (strB [7, 1, 5, 9] = ⟨#[7, 1, 5, 9]⟩) := rfl
  have BR1 : Hid (Tryd.prog.built 35 [(0, .int .u8 1), (1, .int .i64 5), (5, .int .i64 9)] = some r1.cells.toArray) := b_r1
  have BQ1 : Hid (Tryd.prog.built 35 [(2, .string ⟨#[97]⟩), (4, .int .i64 9)] = some q1.cells.toArray) := b_q1
  have BQ2 : Hid (Tryd.prog.built 35 [(0, .int .u8 1), (5, .int .i64 3)] = some q2.cells.toArray) := b_q2
  have BQ3 : Hid (Tryd.prog.built 35 [(0, .int .u8 2)] = some q3.cells.toArray) := b_q3
  have BSQ : Hid (Tryd.prog.builtSlice 35 3 [(0, .agg q1.cells.toArray), (1, .agg q2.cells.toArray), (2, .agg q3.cells.toArray)] = some q123.toArray) := bs_q
  have HO : Hid (r1.x.o = 9 ∧ r1.ok) := ⟨rfl, r1_ok⟩
  unfold Rc.val at C1
  clear ht
  have HP1 : Hid (p1.take 4 = [7, 1, 5, 9] ∧ p1.length = 8) := ⟨rfl, rfl⟩
  generalize p1 = pp at *
  generalize r1 = rr at *
  generalize q1.cells.toArray = c1 at *
  generalize q2.cells.toArray = c2 at *
  generalize q3.cells.toArray = c3 at *
  generalize q123.toArray = c123 at *
  go_enter Tryd.func4, Tryd.ntmps4
  go_wp2_with (refine wpList_built rfl 35 _ rfl [(0, .int .u8 1), (1, .int .i64 5), (5, .int .i64 9)] rfl rr.cells.toArray BR1.out ?_)
  refine C1.mono ?_
  rintro e w1 ⟨v1, rfl, s1, b1⟩
  have B1 : Hid (Below w.heap.size w w1) := b1
  have S1 : Hid (Sl w1 v1 pp) := s1
  have c2' := C2.out w1 v1 b1 s1
  obtain ⟨a1, k1, rfl, kc1, -⟩ := id s1
  rw [HP1.out.2] at kc1 c2' S1 ⊢
  clear C1 C2 b1 s1 BR1
  go_wp2_with fail
  refine c2'.mono ?_
  rintro e w2 ⟨v2, rfl, rr2, b2⟩
  have B2 : Hid (Below w.heap.size w w2) := B1.out.trans (b2.mono B1.out.size)
  have S2 : Hid (Sl w2 (.slice a1 8 k1) pp) := S1.out.kept b2
  have R2 : Hid (RR w2 w1.heap.size v2 [rr]) := rr2
  obtain ⟨a2, k2, rfl, -, -, -⟩ := rr2.is.shape
  clear c2' b2 B1 S1 rr2
  have c3' := C3.out w2 (.inr trivial)
  obtain ⟨W3, hW3⟩ : ∃ W3, W3 = w2.alloc (.cells c123 35) := ⟨_, rfl⟩
  have b3 : Below w2.heap.size w2 W3 := by rw [hW3]; exact al_below _ _
  rw [← hW3] at c3'
  simp only [List.length_cons, List.length_nil, Nat.zero_add] at R2 ⊢
  go_wp2_with (first
    | refine wpList_built rfl 35 _ rfl [(2, .string ⟨#[97]⟩), (4, .int .i64 9)] rfl c1 BQ1.out ?_
    | refine wpList_built rfl 35 _ rfl [(0, .int .u8 1), (5, .int .i64 3)] rfl c2 BQ2.out ?_
    | refine wpList_built rfl 35 _ rfl [(0, .int .u8 2)] rfl c3 BQ3.out ?_
    | refine wpList_bs3 rfl _ _ _ rfl c1 c2 c3 c123 rfl rfl rfl BSQ.out (Hid.out ?_))
  unfold Hid
  rw [← hW3]
  clear hW3
  go_wp2_with fail
  refine c3'.mono ?_
  rintro e w4 ⟨v4, rfl, p4, b4⟩
  have B4 : Hid (Below w.heap.size w w4) := B2.out.trans (b4.mono B2.out.size)
  have S4 : Hid (Sl w4 (.slice a1 8 k1) pp) := S2.out.kept b4
  have R4 : Hid (RR w4 w1.heap.size (.slice a2 1 k2) [rr]) := R2.out.below b4
  obtain ⟨a4, k4, e4, -, -, -⟩ := p4.is.shape
  subst e4
  clear c3' b4 B2 S2 R2 p4 b3
  simp only [List.length_nil]
  obtain ⟨W5, hW5⟩ : ∃ W5, W5 = w4.alloc (.cells #[.slice a4 0 k4, .int .i64 1] 26) := ⟨_, rfl⟩
  have b5 : Below w4.heap.size w4 W5 := by rw [hW5]; exact al_below _ _
  have g5 : W5.heap[w4.heap.size]? = some (.cells #[.slice a4 0 k4, .int .i64 1] 26 (0, 0)) := by rw [hW5]; exact heap_alloc_new _ _
  have x0 : W5.cell? ⟨w4.heap.size, 0, none⟩ = some (.slice a4 0 k4) := by simp [World.cell?, g5]
  have x1 : W5.cell? ⟨w4.heap.size, 1, none⟩ = some (.int .i64 1) := by simp [World.cell?, g5]
  have HE1 : Hid ((w4.alloc (.cells #[.slice none 0 0, .int .i64 0] 26)).setRow w4.heap.size #[.slice a4 0 k4, .int .i64 1] = W5) := by unfold Hid; rw [hW5]; exact World.setRow_alloc_new _ _ _ _
  have B5 : Hid (Below w.heap.size w W5) := B4.out.trans (b5.mono B4.out.size)
  have s5 := (S4.out.kept b5).take 4 (by omega)
  rw [HP1.out.1] at s5
  have cv := s5.conv
  rw [HS1.out] at cv
  obtain ⟨b6, o6, rfl, hr6⟩ := (R4.out.below b5).is.at 0 (by simp)
  have o9 := (rcC hr6 HO.out.2).2.2.2.2.2
  have e9 : (atR [rr] 0).x.o = 9 := HO.out.1
  rw [e9] at o9
  simp only [Nat.zero_mul, Nat.add_zero] at o9
  have q4 : (4 : Int) ≤ (k1 : Int) := by omega
  clear hW5 b5 g5 s5 hr6 e9 B4 S4 R4
  go_wp2_with (refine wpList_store_row rfl 26 _ _ rfl w4.heap.size #[.slice a4 0 k4, .int .i64 1] rfl rfl 26 #[.slice none 0 0, .int .i64 0] (new_st w4) sizeT rfl (st_ones _ _ _ _) (Hid.out ?_))
  unfold Hid
  rw [HE1.out]
  clear HE1
  go_wp2
  go_ret
  exact ⟨rfl, B5.out⟩
end Go.Proofs.YtpkobpdiddjnpabDoor
namespace Go.Proofs.YtpkobpdiddjnpabDoor
open Go.ChangeShapes Go.WideShapes Go.ChangeAt Go.RowKit Go.Deep
set_option maxRecDepth 100000

theorem own : ownKnob Tryd.prog.godebug = none := by kernel_rfl
theorem laidOut : laidOutB Tryd.prog = true := by kernel_rfl
theorem mx_of {W : World} (h : W.ShapedOpen Tryd.prog) : Mx W :=
  cell_of_shapedOpen_int (zero := #[.int .i64 0]) (t := 3) h (of_decide_eq_true (by kernel_rfl)) (by kernel_rfl) rfl (by kernel_rfl) (by kernel_rfl) Tryd.underlying3
/-- What Go's table of first bytes holds. -/
def firstCells : Array Value := (Go.Pinned.utf8FirstZ.map fun (n : Nat) => Value.int .u8 ((n : Nat) : Int)).toArray
def rangeCells : Array Value := #[.int .u8 128, .int .u8 191, .int .u8 160, .int .u8 191, .int .u8 128, .int .u8 159, .int .u8 144, .int .u8 191, .int .u8 128, .int .u8 143, .int .u8 0, .int .u8 0, .int .u8 0, .int .u8 0, .int .u8 0, .int .u8 0, .int .u8 0, .int .u8 0, .int .u8 0, .int .u8 0, .int .u8 0, .int .u8 0, .int .u8 0, .int .u8 0, .int .u8 0, .int .u8 0, .int .u8 0, .int .u8 0, .int .u8 0, .int .u8 0, .int .u8 0, .int .u8 0]
theorem cells3 : Tryd.prog.cellsOf 3 = 1 := by kernel_rfl
theorem cells5 : Tryd.prog.cellsOf 5 = 1 := by kernel_rfl
theorem cells9 : Tryd.prog.cellsOf 9 = 1 := by kernel_rfl
theorem gT2 : Tryd.prog.globalNamed "sumpter/varint.widths" = some 0 := by kernel_rfl
theorem tT2 : (Tryd.prog.globals[0]?).map (·.type) = some 101 := by kernel_rfl
theorem gT1 : Tryd.prog.globalNamed "sumpter/crc.halves" = some 1 := by kernel_rfl
theorem tT1 : (Tryd.prog.globals[1]?).map (·.type) = some 104 := by kernel_rfl
theorem cellsT2 : Tryd.prog.cellsOf 101 = 4 := by kernel_rfl
theorem cellsT1 : Tryd.prog.cellsOf 104 = 16 := by kernel_rfl
theorem cellsTE : Tryd.prog.cellsOf 69 = 1 := by kernel_rfl
theorem cellsH : Tryd.prog.cellsOf 28 = 32 := by kernel_rfl
theorem cellsQ : Tryd.prog.cellsOf 30 = 37 := by kernel_rfl
def halfZ : List Int := Cr.Reg.tab.map (fun n : Nat => (n : Int))
def halfCells : Array Value := (halfZ.map (Value.int .u32)).toArray
theorem tb_of {W : World} (h : laidMetH Tryd.prog Rows.recordRisesRow.laid W) (hs : W.ShapedOpen Tryd.prog) : Tb W := by
  have h1 := laidMet.tail h
  have t2 : Lib.TabIs Tryd.prog W "sumpter/varint.widths" .i64 [1, 2, 4, 8] := Lib.tabIs_of_head gT2 tT2 Tryd.underlying101 Tryd.underlying3 cells3 cellsT2 h1
  have t1 : Lib.TabIs Tryd.prog W "sumpter/crc.halves" .u32 halfZ := Lib.tabIs_of_head gT1 tT1 Tryd.underlying104 Tryd.underlying69 cellsTE cellsT1 (laidMet.tail h1)
  refine ⟨fun i hi => ?_, ⟨t2.cell gT2 0 (by decide), t2.cell gT2 1 (by decide), t2.cell gT2 2 (by decide), t2.cell gT2 3 (by decide)⟩, mx_of hs⟩
  rw [t1.cell gT1 i (show i < halfZ.length from hi)]
  have hi2 : i < Cr.Reg.tab.length := hi
  simp [halfZ, List.getD, List.getElem?_eq_getElem hi2]
theorem mapM_each {α β : Type} {f : α → Option β} : ∀ (L : List α) (ys : List β), L.mapM f = some ys → ∀ i ∈ L, ∃ y, f i = some y
  | [], _, _ => fun i hi => by cases hi
  | a :: L, ys, h => by
    rw [List.mapM_cons] at h
    simp only [bind, Option.bind_eq_some_iff, pure, Option.some.injEq] at h
    obtain ⟨y, hy, zs, hz, rfl⟩ := h
    intro i hi
    rcases List.mem_cons.1 hi with rfl | hi
    · exact ⟨y, hy⟩
    · exact mapM_each L zs hz i hi
/-- The cells of a sum that came in. -/
theorem hash_trod {H : Type} {enc : TypeId × Value → H} {W : World} {fuel : Nat} {cs : List Value} {x : DataW H × List MemPlace}
    (h : DataW.trod enc Tryd.prog W 0 (fun _ => true) true fuel 28 cs = some x) (hsz : cs.length = 32) : ∃ A : List Int, cs = A.map (Value.int .u8) ∧ A.length = 32 ∧ ∀ k, 0 ≤ A.getD k 0 ∧ A.getD k 0 < 256 := by
  cases fuel with
  | zero => simp [DataW.trod] at h
  | succ m =>
    rw [DataW.trod_step] at h
    unfold DataW.trodStep at h
    simp only [Tryd.underlying28] at h
    rw [if_pos (by rw [cellsH]; exact hsz)] at h
    simp only [Option.map_eq_some_iff] at h
    obtain ⟨ys, hy, _⟩ := h
    have cell : ∀ i, i < 32 → ∃ a : Int, cs[i]? = some (.int .u8 a) ∧ (Lit.int .u8 a).wf = true := fun i hi => by
      obtain ⟨y, hyi⟩ := mapM_each _ _ hy i (by simpa using hi)
      obtain ⟨a, ea, _, wa⟩ := DataW.trod_int Tryd.underlying5 hyi
      refine ⟨a, ?_, wa⟩
      rw [cells5, Nat.mul_one] at ea
      have h0 := congrArg (·[0]?) ea
      simpa [List.getElem?_take, List.getElem?_drop] using h0
    refine ⟨cs.map intOf, ?_, by simp [hsz], fun i => ?_⟩
    · rw [List.map_map]
      apply List.ext_getElem?
      intro i
      rcases Nat.lt_or_ge i 32 with hi | hi
      · obtain ⟨a, ha, _⟩ := cell i hi
        rw [List.getElem?_map, ha]
        simp [intOf]
      · rw [List.getElem?_eq_none (by simpa [hsz] using hi), List.getElem?_eq_none (by simpa [hsz] using hi)]
    · rcases Nat.lt_or_ge i 32 with hi | hi
      · obtain ⟨a, ha, wa⟩ := cell i hi
        have e : (cs.map intOf).getD i 0 = a := by simp [List.getD, ha, intOf]
        rw [e]
        have := bounds_u8 wa
        omega
      · rw [List.getD, List.getElem?_eq_none (by simpa [hsz] using hi)]; simp
theorem trod_struct6 {H : Type} {enc : TypeId × Value → H} {P : Program} {w : World} {base : Nat} {spare : Nat → Bool} {held : Bool} {t : TypeId} {f0 f1 f2 f3 f4 f5 : Field} {fuel : Nat} {cs : List Value} {x : DataW H × List MemPlace} (ht : P.underlying t = some (.struct #[f0, f1, f2, f3, f4, f5])) (h : DataW.trod enc P w base spare held fuel t cs = some x) :
    ∃ y0 y1 y2 y3 y4 y5 n, cs.length = P.cellsOf t ∧ DataW.trod enc P w base spare held n f0.type ((cs.drop f0.offset).take (P.cellsOf f0.type)) = some y0 ∧
      DataW.trod enc P w base spare held n f1.type ((cs.drop f1.offset).take (P.cellsOf f1.type)) = some y1 ∧ DataW.trod enc P w base spare held n f2.type ((cs.drop f2.offset).take (P.cellsOf f2.type)) = some y2 ∧
      DataW.trod enc P w base spare held n f3.type ((cs.drop f3.offset).take (P.cellsOf f3.type)) = some y3 ∧ DataW.trod enc P w base spare held n f4.type ((cs.drop f4.offset).take (P.cellsOf f4.type)) = some y4 ∧ DataW.trod enc P w base spare held n f5.type ((cs.drop f5.offset).take (P.cellsOf f5.type)) = some y5 := by
  obtain ⟨xs, n, _, rfl, hl, hlen, hf⟩ := DataW.trod_struct ht h
  match xs, hlen with
  | [y0, y1, y2, y3, y4, y5], _ => exact ⟨y0, y1, y2, y3, y4, y5, n, hl, by simpa using hf 0 f0 rfl, by simpa using hf 1 f1 rfl, by simpa using hf 2 f2 rfl, by simpa using hf 3 f3 rfl, by simpa using hf 4 f4 rfl, by simpa using hf 5 f5 rfl⟩
theorem seven (cs : List Value) (h : cs.length = 37) : ∃ v0 v1 v2 r v4 v5, cs = v0 :: v1 :: v2 :: (r ++ [v4, v5]) ∧ r.length = 32 := by
  match cs, h with
  | v0 :: v1 :: v2 :: rest, h =>
    have hr : rest.length = 34 := by simpa using h
    have h1 : (rest.drop 32).length = 2 := by rw [List.length_drop, hr]
    match hd : rest.drop 32, h1 with
    | [v4, v5], _ =>
      refine ⟨v0, v1, v2, rest.take 32, v4, v5, ?_, by rw [List.length_take, hr]; rfl⟩
      rw [← hd, List.take_append_drop]
theorem i64b {n : Int} (h1 : -9223372036854775808 ≤ n) (h2 : n ≤ 9223372036854775807) : i64 n := ⟨h1, h2⟩
/-- The cells of a record that came in. -/
theorem rc_trod {H : Type} {enc : TypeId × Value → H} {W : World} {fuel : Nat} {cs : List Value} {x : DataW H × List MemPlace}
    (h : DataW.trod enc Tryd.prog W 0 (fun _ => true) true fuel 30 cs = some x) : ∃ y : Rc, cs = y.cells ∧ y.ok := by
  obtain ⟨y0, y1, y2, y3, y4, y5, n, hl, h0, h1, h2, h3, h4, h5⟩ := trod_struct6 Tryd.underlying30 h
  rw [cellsQ] at hl
  obtain ⟨v0, v1, v2, r, v4, v5, rfl, hr⟩ := seven cs hl
  simp only [cells9, cells5, cells3, cellsH] at h0 h1 h2 h3 h4 h5
  obtain ⟨k, e0, _, wk⟩ := DataW.trod_int Tryd.underlying5 h0
  obtain ⟨i, e1, _, wi⟩ := DataW.trod_int Tryd.underlying3 h1
  obtain ⟨p, e2, _, hp⟩ := DataW.trod_string Tryd.underlying9 h2
  have e3 : ((v0 :: v1 :: v2 :: (r ++ [v4, v5])).drop 3).take 32 = r := by
    show (r ++ [v4, v5]).take 32 = r
    exact List.take_left' hr
  rw [e3] at h3
  obtain ⟨A, rfl, hA, hb⟩ := hash_trod h3 hr
  have e4 : ((v0 :: v1 :: v2 :: (A.map (Value.int .u8) ++ [v4, v5])).drop 35).take 1 = [v4] := by
    show ((A.map (Value.int .u8) ++ [v4, v5]).drop 32).take 1 = [v4]
    rw [List.drop_left' hr]
    rfl
  have e5 : ((v0 :: v1 :: v2 :: (A.map (Value.int .u8) ++ [v4, v5])).drop 36).take 1 = [v5] := by
    show ((A.map (Value.int .u8) ++ [v4, v5]).drop 33).take 1 = [v5]
    rw [show 33 = 32 + 1 from rfl, ← List.drop_drop, List.drop_left' hr]
    rfl
  rw [e4] at h4
  rw [e5] at h5
  obtain ⟨n', e6, _, wn⟩ := DataW.trod_int Tryd.underlying3 h4
  obtain ⟨o, e7, _, wo⟩ := DataW.trod_int Tryd.underlying3 h5
  simp at e0 e1 e2 e6 e7
  subst e0 e1 e2 e6 e7
  have bk := bounds_u8 wk
  have bi := bounds_i64 wi
  have bn := bounds_i64 wn
  have bo := bounds_i64 wo
  exact ⟨⟨k, ⟨i, p, A, n', o⟩⟩, rfl, by show (0 : Int) ≤ k; omega, by show k < (256 : Int); omega, hA, hb, i64b (n := i) (by omega) (by omega), i64b (n := n') (by omega) (by omega), i64b (n := o) (by omega) (by omega)⟩
/-- Records that came in. -/
theorem recs_in {H : Type} {enc : TypeId × Value → H} {W : World} {base : Nat} {v : Value} {d : DataW H} {p : List MemPlace}
    (hval : Value.okWide Tryd.prog W .any base 22 v) (h : DataW.Trod enc Tryd.prog W 0 (fun _ => true) true 22 v d p) : ∃ l, RS W v l := by
  obtain ⟨a0, len0, cap0, rfl⟩ := okWide_slice Tryd.underlying22 hval
  obtain ⟨fuel, hf⟩ := h
  rcases open_slice Tryd.underlying22 hf with ⟨hcs, _⟩ | ⟨x, l, c, m, n, D, Pl, hcs, _, hl, hm, hmm, _, hall⟩
  · simp [Value.cells] at hcs
    obtain ⟨rfl, rfl, rfl⟩ := hcs
    exact ⟨[], RS.nil W⟩
  · simp [Value.cells] at hcs
    obtain ⟨rfl, rfl, rfl⟩ := hcs
    simp only [if_true] at hmm
    have each : ∀ i, i < len0 → ∃ q : Rc, (∀ j v, q.cells[j]? = some v → W.cell? (x.add (i * 37 + j)) = some v) ∧ q.ok := by
      intro i hi
      obtain ⟨cs', h1, h2⟩ := hall i (by omega)
      rw [cellsQ] at h1
      obtain ⟨_, hlen, hcell⟩ := World.cells?_some h1
      obtain ⟨y, rfl, hy⟩ := rc_trod h2
      refine ⟨y, fun j v hv => ?_, hy⟩
      have hj : j < 37 := by have := (List.getElem?_eq_some_iff.1 hv).1; rw [Rc.len hy] at this; exact this
      have c0 := hcell j (by omega)
      rw [add_add] at c0
      rw [c0]
      simpa using hv
    have : Inhabited Rc := ⟨rc0⟩
    obtain ⟨q, hq⟩ := choose_lt each
    have hlen : ((List.range len0).map q).length = len0 := by simp
    have hat : ∀ i, i < len0 → atR ((List.range len0).map q) i = q i := fun i hi => by simp [atR, List.getD, hi]
    have hok : ∀ y ∈ (List.range len0).map q, y.ok := fun y hy => by
      obtain ⟨i, hi, rfl⟩ := List.mem_map.1 hy
      exact (hq i (List.mem_range.1 hi)).2
    refine ⟨(List.range len0).map q, ⟨some x, cap0, by rw [List.length_map, hlen], by rw [List.length_map, hlen]; exact hl, hm, (fun e => by cases e), cl_rc hok, ?_⟩, hok⟩
    rcases Nat.eq_zero_or_pos len0 with h0 | h0
    · subst h0; exact .inl rfl
    · obtain ⟨b, off, spot⟩ := x
      have hspot : spot = none := by simpa [Addr.add] using World.cell?_spot ((hq 0 h0).1 0 _ rfl)
      subst hspot
      refine .inr ⟨b, off, rfl, fun i hi => ?_⟩
      rw [List.length_map, hlen] at hi
      rw [atC_rc _ i (by rw [hlen]; exact hi), hat i hi]
      intro j v hv
      have := (hq i hi).1 j v hv
      rw [Addr.add_lit, ← Nat.add_assoc] at this
      exact this
/-- A record that came in, by value. -/
theorem rec_in {H : Type} {enc : TypeId × Value → H} {W : World} {base : Nat} {v : Value} {d : DataW H} {p : List MemPlace}
    (hval : Value.okWide Tryd.prog W .any base 30 v) (h : DataW.Trod enc Tryd.prog W 0 (fun _ => true) true 30 v d p) : ∃ r : Rc, v = r.val ∧ r.ok := by
  obtain ⟨cs, rfl, hsz⟩ := okWide_struct Tryd.underlying30 hval
  obtain ⟨fuel, hf⟩ := h
  obtain ⟨y, hy, ho⟩ := rc_trod hf
  refine ⟨y, ?_, ho⟩
  unfold Rc.val
  congr 1
  apply Array.ext'
  exact hy
end Go.Proofs.YtpkobpdiddjnpabDoor
namespace Go.Proofs.YtpkobpdiddjnpabDoor
open Go.RowKit
set_option maxRecDepth 100000

/-- A part that may be. -/
def PO (x : Pa) : Prop := chk (dl x.p) = 0 ∧ res (dl x.p) = false ∧ 0 ≤ x.n ∧ x.n ≤ 65536 ∧ 0 ≤ x.o ∧ x.o ≤ x.n ∧ 0 ≤ x.i
structure Inv (s : Ste) : Prop where
  ok : ∀ x ∈ s.l, x.ok
  po : ∀ x ∈ s.l, PO x
  lt : ∀ x ∈ s.l, x.i < s.n
  up : s.l.Pairwise (fun x y => x.i < y.i)
  un : s.l.Pairwise (fun x y => x.p ≠ y.p)
  ln : s.l.length ≤ 64
  n0 : 0 ≤ s.n
  n1 : s.n ≤ 1099511627777
theorem inv0 : Inv st0 := ⟨fun x h => by simp [st0] at h, fun x h => by simp [st0] at h, fun x h => by simp [st0] at h, List.Pairwise.nil, List.Pairwise.nil, by simp [st0], by simp [st0], by simp [st0]⟩
theorem inF_iff {n : Int} : inF n = true ↔ 0 ≤ n ∧ n ≤ 65536 := by unfold inF; simp
/-- What Check's OK says. -/
theorem rck_ok {r : Rc} (h : rck r = 0) : r.k ≤ 4 ∧ 0 ≤ r.x.i ∧ r.x.i ≤ 1099511627776 ∧ ckf r = 0 ∧ 0 ≤ r.x.o ∧ r.x.o ≤ 65536 := by
  unfold rck at h
  split at h
  · cases h
  · rename_i h1
    split at h
    · rename_i h2; exact absurd h h2
    · rename_i h2
      split at h
      · cases h
      · rename_i h3
        have h3' : inF r.x.o = true := by cases hq : inF r.x.o <;> simp_all
        have := inF_iff.1 h3'
        exact ⟨by omega, by omega, by omega, by omega, this.1, this.2⟩
theorem ckf_beg {r : Rc} (h : ckf r = 0) (hk : r.k = 0) : chk (dl r.x.p) = 0 ∧ res (dl r.x.p) = false ∧ 0 ≤ r.x.n ∧ r.x.n ≤ 65536 := by
  unfold ckf at h
  rw [if_pos hk] at h
  split at h
  · rename_i h1; exact absurd h h1
  · rename_i h1
    split at h
    · cases h
    · rename_i h2
      split at h
      · rename_i h3
        have := inF_iff.1 h3
        exact ⟨by omega, by cases hq : res (dl r.x.p) <;> simp_all, this.1, this.2⟩
      · cases h
theorem fnd_no {l : List Pa} {q : ByteArray} (h : (fnd l q).isSome = false) : ∀ x ∈ l, x.p ≠ q := fun x hx e => by
  have h1 : fnd l q = none := by cases hf : fnd l q <;> simp_all
  unfold fnd at h1
  rw [List.find?_eq_none] at h1
  have := h1 x hx
  simp [e] at this
theorem plc_at {l : List Pa} {i : Int} (h : plc l i < l.length) : (atP l (plc l i)).i = i := by
  unfold plc at h ⊢
  rw [atP_eq l _ h]
  have := List.findIdx_getElem (w := h)
  simpa using this
theorem pw_set {R : Pa → Pa → Prop} {l : List Pa} {k : Nat} {y : Pa} (h : l.Pairwise R) (hk : k < l.length) (h1 : ∀ z, R z (atP l k) → R z y) (h2 : ∀ z, R (atP l k) z → R y z) : (l.set k y).Pairwise R := by
  rw [List.pairwise_iff_getElem] at h ⊢
  intro i j hi hj hij
  rw [List.length_set] at hi hj
  have hb := h i j hi hj hij
  rw [atP_eq l k hk] at h1 h2
  rw [List.getElem_set, List.getElem_set]
  split
  · rename_i e
    subst e
    rw [if_neg (by omega)]
    exact h2 _ hb
  · split
    · rename_i e
      subst e
      exact h1 _ hb
    · exact hb
theorem inv_step {s t : Ste} {r : Rc} (h : Inv s) (hr : r.ok) (hc : rck r = 0) (ht : step s r = some t) : Inv t := by
  obtain ⟨c1, c2, c3, c4, c5, c6⟩ := rck_ok hc
  unfold step at ht
  split at ht
  · rename_i hk
    split at ht
    · cases ht
    · rename_i hn
      cases ht
      have hf : (fnd s.l r.x.p).isSome = false := by cases hq : (fnd s.l r.x.p).isSome <;> simp_all
      have hu := fnd_no hf
      obtain ⟨d1, d2, d3, d4⟩ := ckf_beg c4 hk
      have hlt : ¬ r.x.i < s.n := fun q => hn (.inr (.inr q))
      have h64 : ¬ 64 ≤ s.l.length := fun q => hn (.inr (.inl q))
      have mem : ∀ x ∈ s.l ++ [({ r.x with o := 0 } : Pa)], x ∈ s.l ∨ x = { r.x with o := 0 } := fun x hx => by
        rcases List.mem_append.1 hx with q | q
        · exact .inl q
        · exact .inr (by simpa using q)
      refine ⟨fun x hx => ?_, fun x hx => ?_, fun x hx => ?_, ?_, ?_, ?_, ?_, ?_⟩
      · rcases mem x hx with q | rfl
        · exact h.ok x q
        · exact ⟨hr.2.2.1, hr.2.2.2.1, hr.2.2.2.2.1, hr.2.2.2.2.2.1, i64_0⟩
      · rcases mem x hx with q | rfl
        · exact h.po x q
        · exact ⟨d1, d2, d3, d4, Int.le_refl 0, d3, c2⟩
      · rcases mem x hx with q | rfl
        · have := h.lt x q
          show x.i < r.x.i + 1
          omega
        · show r.x.i < r.x.i + 1
          omega
      · show (s.l ++ [_]).Pairwise _
        rw [List.pairwise_append]
        refine ⟨h.up, List.pairwise_singleton _ _, fun x hx y hy => ?_⟩
        simp at hy
        subst hy
        have := h.lt x hx
        show x.i < r.x.i
        omega
      · show (s.l ++ [_]).Pairwise _
        rw [List.pairwise_append]
        refine ⟨h.un, List.pairwise_singleton _ _, fun x hx y hy => ?_⟩
        simp at hy
        subst hy
        exact hu x hx
      · show (s.l ++ [_]).length ≤ 64
        rw [List.length_append, List.length_singleton]
        omega
      · show 0 ≤ r.x.i + 1
        omega
      · show r.x.i + 1 ≤ _
        omega
  · split at ht
    · split at ht
      · rename_i h3
        cases ht
        obtain ⟨a1, a2, a3⟩ := h3
        have hm := atP_mem s.l _ a1
        have pk := h.po _ hm
        have ok := h.ok _ hm
        have mem : ∀ x ∈ s.l.set (plc s.l r.x.i) { atP s.l (plc s.l r.x.i) with o := r.x.o }, x ∈ s.l ∨ x = { atP s.l (plc s.l r.x.i) with o := r.x.o } := fun x hx => List.mem_or_eq_of_mem_set hx
        refine ⟨fun x hx => ?_, fun x hx => ?_, fun x hx => ?_, ?_, ?_, ?_, h.n0, h.n1⟩
        · rcases mem x hx with q | rfl
          · exact h.ok x q
          · exact ⟨ok.1, ok.2.1, ok.2.2.1, ok.2.2.2.1, hr.2.2.2.2.2.2⟩
        · rcases mem x hx with q | rfl
          · exact h.po x q
          · exact ⟨pk.1, pk.2.1, pk.2.2.1, pk.2.2.2.1, c5, a3, pk.2.2.2.2.2.2⟩
        · rcases mem x hx with q | rfl
          · exact h.lt x q
          · exact h.lt (atP s.l (plc s.l r.x.i)) hm
        · exact pw_set h.up a1 (fun z q => q) (fun z q => q)
        · exact pw_set h.un a1 (fun z q => q) (fun z q => q)
        · show (s.l.set _ _).length ≤ 64
          rw [List.length_set]
          exact h.ln
      · cases ht
    · split at ht
      · split at ht
        · cases ht
          have hs : (s.l.eraseIdx (plc s.l r.x.i)).Sublist s.l := List.eraseIdx_sublist _ _
          refine ⟨fun x hx => h.ok x (hs.subset hx), fun x hx => h.po x (hs.subset hx), fun x hx => h.lt x (hs.subset hx), h.up.sublist hs, h.un.sublist hs, Nat.le_trans hs.length_le h.ln, h.n0, h.n1⟩
        · cases ht
      · split at ht
        · split at ht
          · cases ht
          · rename_i hn
            cases ht
            refine ⟨h.ok, h.po, fun x hx => ?_, h.up, h.un, h.ln, ?_, ?_⟩
            · have := h.lt x hx
              show x.i < r.x.i + 1
              omega
            · show 0 ≤ r.x.i + 1
              omega
            · show r.x.i + 1 ≤ _
              omega
        · cases ht
end Go.Proofs.YtpkobpdiddjnpabDoor
namespace Go.Proofs.YtpkobpdiddjnpabDoor
open Go.RowKit
set_option maxRecDepth 100000

theorem step_n {s t : Ste} {r : Rc} (ht : step s r = some t) : s.n ≤ t.n := by
  unfold step at ht
  split at ht
  · split at ht
    · cases ht
    · rename_i hn
      cases ht
      have hlt : ¬ r.x.i < s.n := fun q => hn (.inr (.inr q))
      show s.n ≤ r.x.i + 1
      omega
  · split at ht
    · split at ht
      · cases ht; exact Int.le_refl _
      · cases ht
    · split at ht
      · split at ht
        · cases ht; exact Int.le_refl _
        · cases ht
      · split at ht
        · split at ht
          · cases ht
          · rename_i hn
            cases ht
            show s.n ≤ r.x.i + 1
            omega
        · cases ht
theorem fnd_self {l : List Pa} (h : l.Pairwise (fun x y => x.p ≠ y.p)) (k : Nat) (hk : k < l.length) : fnd l (atP l k).p = some (atP l k) := by
  refine fnd_hit l _ k hk (fun j hj => ?_) rfl
  have := List.pairwise_iff_getElem.1 h j k (by omega) hk hj
  rw [atP_eq l j (by omega), atP_eq l k hk]
  exact this
theorem fnd_mem {l : List Pa} (h : l.Pairwise (fun x y => x.p ≠ y.p)) {x : Pa} (hx : x ∈ l) : fnd l x.p = some x := by
  obtain ⟨k, hk, e⟩ := List.getElem_of_mem hx
  have := fnd_self h k hk
  rw [atP_eq l k hk, e] at this
  exact this
theorem step_o {s t : Ste} {r : Rc} (h : Inv s) (ht : step s r = some t) : ∀ p ∈ t.l, ∀ q, fnd s.l p.p = some q → q.o ≤ p.o := by
  have same : ∀ p ∈ s.l, ∀ q, fnd s.l p.p = some q → q.o ≤ p.o := fun p hp q hq => by
    rw [fnd_mem h.un hp] at hq
    cases hq
    exact Int.le_refl _
  unfold step at ht
  split at ht
  · split at ht
    · cases ht
    · rename_i hn
      cases ht
      intro p hp q hq
      rcases List.mem_append.1 hp with m | m
      · exact same p m q hq
      · simp at m
        subst m
        have hf : (fnd s.l r.x.p).isSome = false := by cases hz : (fnd s.l r.x.p).isSome <;> simp_all
        have hq' : fnd s.l r.x.p = some q := hq
        rw [hq'] at hf
        cases hf
  · split at ht
    · split at ht
      · rename_i h3
        cases ht
        obtain ⟨a1, a2, a3⟩ := h3
        intro p hp q hq
        rcases List.mem_or_eq_of_mem_set hp with m | m
        · exact same p m q hq
        · subst m
          have hq' : fnd s.l (atP s.l (plc s.l r.x.i)).p = some q := hq
          rw [fnd_self h.un _ a1] at hq'
          cases hq'
          exact a2
      · cases ht
    · split at ht
      · split at ht
        · cases ht
          intro p hp q hq
          exact same p ((List.eraseIdx_sublist _ _).subset hp) q hq
        · cases ht
      · split at ht
        · split at ht
          · cases ht
          · cases ht
            exact same
        · cases ht
/-- What the statement asks of a state and the next. -/
structure Nxt (s t : Ste) : Prop where
  inv : Inv t
  n : s.n ≤ t.n
  fnd : ∀ k, k < t.l.length → fnd t.l (atP t.l k).p = some (atP t.l k)
  up : ∀ k, k < t.l.length → 0 < k → (atP t.l (k - 1)).i < (atP t.l k).i
  old : ∀ k, k < t.l.length → ∀ q, Go.Proofs.YtpkobpdiddjnpabDoor.fnd s.l (atP t.l k).p = some q → q.o ≤ (atP t.l k).o
theorem up_at {l : List Pa} (h : l.Pairwise (fun x y => x.i < y.i)) (k : Nat) (hk : k < l.length) (h0 : 0 < k) : (atP l (k - 1)).i < (atP l k).i := by
  have := List.pairwise_iff_getElem.1 h (k - 1) k (by omega) hk (by omega)
  rw [atP_eq l (k - 1) (by omega), atP_eq l k hk]
  exact this
theorem nxt_of {s : Ste} {r : Rc} (h : Inv s) (hr : r.ok) (hc : rck r = 0) : Nxt s ((step s r).getD s) := by
  cases hst : step s r with
  | none =>
    refine ⟨h, Int.le_refl _, fun k hk => fnd_self h.un k hk, fun k hk h0 => up_at h.up k hk h0, fun k hk q hq => ?_⟩
    rw [show ((none : Option Ste).getD s) = s from rfl] at hk hq ⊢
    rw [fnd_self h.un k hk] at hq
    cases hq
    exact Int.le_refl _
  | some t =>
    have it := inv_step h hr hc hst
    exact ⟨it, step_n hst, fun k hk => fnd_self it.un k hk, fun k hk h0 => up_at it.up k hk h0, fun k hk q hq => step_o h hst _ (atP_mem t.l k hk) q hq⟩
end Go.Proofs.YtpkobpdiddjnpabDoor
namespace Go.Proofs.YtpkobpdiddjnpabDoor
open Go.RowKit
set_option maxRecDepth 100000

/-- '==' or '!=' of two items in a region that draws its order. -/
theorem yields_eqi {S : World → Prop} {ops : Array Oper} {o : Oper} {a : Act} (hw : Region.wanted o (yielded ops a.tmps) = true) (op : BinOp) (x y : Operand) (t : TypeId) (ho : o.op = .binOp op 41 x y t)
    (U V : Value) (b : Bool) (hx : a.eval x = U) (hy : a.eval y = V) (hG : ∀ w, (eqGuard op 41 x y U V).run Tryd.prog w = .ok () w) (hE : ∀ w, (binOp op 41 U V).run Tryd.prog w = .ok (.bool b) w) : YieldsIf Tryd.prog ops S o (.bool b) a :=
  .inl ⟨hw, fun w _ => by
    unfold execOp
    simp only [ho, hx, hy, Sem.run_bind, hG, hE, Result.andThen_ok, Sem.run_pure]⟩
theorem neq_run (x y : Pa) (hx : x.ok) (hy : y.ok) (w : World) : (binOp .neq 41 x.val y.val).run Tryd.prog w = .ok (.bool (!sPa x y)) w := by
  have h := eqP x y hx hy w
  unfold Pa.val at h ⊢
  rw [run_neq_struct, h]
  rfl
theorem eqg_run (o : BinOp) (x y : Pa) (a b : Operand) (w : World) : (eqGuard o 41 a b x.val y.val).run Tryd.prog w = .ok () w := run_eqGuard_agg _ _ _ _ _ _ _ guardP
/-- Whether two lists are one. -/
def saP (l m : List Pa) : Bool := decide (l.length = m.length) && (List.range l.length).all fun i => sPa (atP l i) (atP m i)
theorem saP_iff (l m : List Pa) : saP l m = true ↔ l = m := by
  unfold saP
  rw [Bool.and_eq_true, decide_eq_true_eq, List.all_eq_true]
  constructor
  · rintro ⟨h1, h2⟩
    refine List.ext_getElem h1 fun i a b => ?_
    have := (sPa_iff _ _).1 (h2 i (List.mem_range.2 a))
    rwa [atP_eq l i a, atP_eq m i b] at this
  · rintro rfl
    exact ⟨rfl, fun i _ => (sPa_iff _ _).2 rfl⟩
set_option maxHeartbeats 2000000 in
theorem equalP_any (v u : Value) (l m : List Pa) (w : World) (h1 : PS w v l) (h2 : PS w u m) (hl : l.length ≤ 100000) (hm : m.length ≤ 100000) :
    Calls Tryd.prog 17 #[v, u] w fun e w' => e = .returned (.bool (saP l m)) ∧ Below w.heap.size w w' := by
  obtain ⟨a, c, rfl, _, _, _⟩ := h1.shape
  obtain ⟨a', c', rfl, _, _, _⟩ := h2.shape
  have HNE : Hid (l.length ≠ m.length → saP l m = false) := fun h => by unfold saP; simp [h]
  have HOK2 : Hid (l.length = m.length → (∀ k, k < l.length → sPa (atP l k) (atP m k) = true) → saP l m = true) := fun h k => by
    unfold saP
    rw [Bool.and_eq_true, decide_eq_true_eq, List.all_eq_true]
    exact ⟨h, fun i hi => k i (List.mem_range.1 hi)⟩
  have HHIT : Hid (∀ j, j < l.length → sPa (atP l j) (atP m j) = false → saP l m = false) := fun j hj h => by
    unfold saP
    rw [Bool.and_eq_false_iff]
    right
    rw [List.all_eq_false]
    exact ⟨j, List.mem_range.2 hj, by rw [h]; simp⟩
  have H1 : Hid (PS w (.slice a l.length c) l) := h1
  have H2 : Hid (PS w (.slice a' m.length c') m) := h2
  have K1 : Hid (∀ x ∈ l, x.ok) := h1.2
  have K2 : Hid (∀ x ∈ m, x.ok) := h2.2
  obtain ⟨n, hn'⟩ : ∃ n, n = l.length := ⟨_, rfl⟩
  obtain ⟨k, hk'⟩ : ∃ k, k = m.length := ⟨_, rfl⟩
  have HN : Hid (n = l.length) := hn'
  have HK : Hid (k = m.length) := hk'
  rw [← hn'] at H1 hl HNE HOK2 HHIT ⊢
  rw [← hk'] at H2 hm HNE HOK2 ⊢
  clear h1 h2 hn' hk'
  generalize saP l m = r at *
  by_cases hnk : n = k
  · subst hnk
    have t0 : ((n : Int) != (n : Int)) = false := by simp
    clear HNE
    go_enter Tryd.func17, Tryd.ntmps17
    go_wp2
    go_loopw [13] (fun q wr => ∃ j : Nat, j ≤ n ∧ q = .int .i64 j ∧ (∀ k, k < j → sPa (atP l k) (atP m k) = true) ∧ Below w.heap.size w wr) (fun q _ => n - (intOf q).toNat)
    case atStart => exact ⟨0, by omega, rfl, fun k hk => by omega, Below.refl _ _⟩
    case round =>
      obtain ⟨j, hj, rfl, ok, bel⟩ := hrel
      have HB : Hid (Below w.heap.size w wr) := bel
      have OK : Hid (∀ k, k < j → sPa (atP l k) (atP m k) = true) := ok
      clear ok
      by_cases hlt : j < n
      · have lt2 : (j : Int) < (n : Int) := by omega
        have lt3 : (0 : Int) ≤ (j : Int) := by omega
        obtain ⟨b, off, rfl, r1⟩ := (H1.out.kept HB.out).at j (by rw [← HN.out]; exact hlt)
        obtain ⟨b', off', rfl, r2⟩ := (H2.out.kept HB.out).at j (by rw [← HK.out]; exact hlt)
        have hx := Pa.at l K1.out j
        have hy := Pa.at m K2.out j
        have HF : Hid (sPa (atP l j) (atP m j) = false → r = false) := HHIT.out j hlt
        have NX : Hid (sPa (atP l j) (atP m j) = true → ∀ k, k < j + 1 → sPa (atP l k) (atP m k) = true) := fun h k hk => by
          rcases Nat.lt_or_ge k j with h' | h'
          · exact OK.out k h'
          · rw [show k = j by omega]; exact h
        clear OK HHIT
        generalize atP l j = x at *
        generalize atP m j = y at *
        have FX : Hid (∀ W, From wr W → W.rangeAt b (off + j * 36) x.cells) := fun W h => range_kept r1 h
        have FY : Hid (∀ W, From wr W → W.rangeAt b' (off' + j * 36) y.cells) := fun W h => range_kept r2 h
        have FB : Hid (∀ W, From wr W → Below w.heap.size w W) := fun W h => bel.trans (Below.mono h bel.size)
        have ZX : Hid ((Tryd.prog.info? 41).map (·.size) = some x.cells.length) := Pa.infoL x hx
        have ZY : Hid ((Tryd.prog.info? 41).map (·.size) = some y.cells.length) := Pa.infoL y hy
        have E1 : Hid (∀ W, (binOp .neq 41 (.agg x.cells.toArray) (.agg y.cells.toArray)).run Tryd.prog W = .ok (.bool (!sPa x y)) W) := fun W => neq_run x y hx hy W
        have E2 : Hid (∀ (a b : Operand) W, (eqGuard .neq 41 a b (.agg x.cells.toArray) (.agg y.cells.toArray)).run Tryd.prog W = .ok () W) := fun a b W => eqg_run .neq x y a b W
        clear bel r1 r2 hx hy
        generalize x.cells = cs at *
        generalize y.cells = ds at *
        generalize sPa x y = sb at *
        cases sb with
        | true =>
          have NX2 : Hid (∀ k, k < j + 1 → sPa (atP l k) (atP m k) = true) := NX.out rfl
          clear NX HF
          go_wp2_with fail
          refine wp_region_held_drew (S := From wr) (by kernel_rfl) ((Below.refl _ _).drew) (fun _ => ?_)
          refine wpAnyH_on ((Below.refl _ _).drew) (fun u0 hu0 bu0 => ?_)
          replace FX := on FX bu0
          replace FY := on FY bu0
          replace FB := on FB bu0
          refine wpAnyH_take (i := 0) (oi := { dst := some 16, op := Op.move (Operand.tmp 0), type := 24, pos := "slices.go:25", after := #[], guard := none }) (v := ?vr1) rfl (by kernel_rfl) (by kernel_rfl) (by kernel_rfl) (fun _ _ _ h => h) (Or.inl ⟨by rfl, ?yr1⟩) (Below.refl _ _) ?rr1
          case yr1 => (intro w hSw; go_simp; try with_reducible rfl)
          try simp only [Act.put, List.setIfInBounds_toArray, List.set_cons_zero, List.set_cons_succ]
          refine wpAnyH_take (i := 1) (oi := { dst := some 17, op := Op.move (Operand.tmp 5), type := 3, pos := "slices.go:25", after := #[], guard := none }) (v := ?vr2) rfl (by kernel_rfl) (by kernel_rfl) (by kernel_rfl) (fun _ _ _ h => h) (Or.inl ⟨by rfl, ?yr2⟩) (Below.refl _ _) ?rr2
          case yr2 => (intro w hSw; go_simp; try with_reducible rfl)
          try simp only [Act.put, List.setIfInBounds_toArray, List.set_cons_zero, List.set_cons_succ]
          refine wpAnyH_take (i := 2) (oi := { dst := some 18, op := Op.indexAddr 24 (Operand.tmp 16) (Operand.tmp 17), type := 0, pos := "slices.go:25", after := #[{ on := 0, ground := Ground.data }, { on := 1, ground := Ground.data }], guard := none }) (v := ?vr3) rfl (by kernel_rfl) (by kernel_rfl) (by kernel_rfl) (fun _ _ _ h => h) (Or.inl ⟨by rfl, ?yr3⟩) (Below.refl _ _) ?rr3
          case yr3 => (intro w hSw; go_simp; try with_reducible rfl)
          try simp only [Act.put, List.setIfInBounds_toArray, List.set_cons_zero, List.set_cons_succ]
          refine wpAnyH_take (i := 3) (oi := { dst := some 19, op := Op.load 41 (Operand.tmp 18), type := 41, pos := "slices.go:25", after := #[{ on := 2, ground := Ground.data }], guard := none }) (v := .agg cs.toArray) rfl (by kernel_rfl) (by kernel_rfl) (by kernel_rfl) (fun _ _ _ h => h) (yieldsIf_load_mid (by rfl) 41 _ rfl b (off + j * 36) rfl cs _ (fun w hw => FX.out w hw) Tryd.underlying41 rfl ZX.out) (Below.refl _ _) ?_
          try simp only [Act.put, List.setIfInBounds_toArray, List.set_cons_zero, List.set_cons_succ]
          refine wpAnyH_take (i := 4) (oi := { dst := some 20, op := Op.move (Operand.tmp 1), type := 24, pos := "slices.go:25", after := #[], guard := none }) (v := ?vr5) rfl (by kernel_rfl) (by kernel_rfl) (by kernel_rfl) (fun _ _ _ h => h) (Or.inl ⟨by rfl, ?yr5⟩) (Below.refl _ _) ?rr5
          case yr5 => (intro w hSw; go_simp; try with_reducible rfl)
          try simp only [Act.put, List.setIfInBounds_toArray, List.set_cons_zero, List.set_cons_succ]
          refine wpAnyH_take (i := 5) (oi := { dst := some 21, op := Op.move (Operand.tmp 5), type := 3, pos := "slices.go:25", after := #[], guard := none }) (v := ?vr6) rfl (by kernel_rfl) (by kernel_rfl) (by kernel_rfl) (fun _ _ _ h => h) (Or.inl ⟨by rfl, ?yr6⟩) (Below.refl _ _) ?rr6
          case yr6 => (intro w hSw; go_simp; try with_reducible rfl)
          try simp only [Act.put, List.setIfInBounds_toArray, List.set_cons_zero, List.set_cons_succ]
          refine wpAnyH_take (i := 6) (oi := { dst := some 22, op := Op.indexAddr 24 (Operand.tmp 20) (Operand.tmp 21), type := 0, pos := "slices.go:25", after := #[{ on := 4, ground := Ground.data }, { on := 5, ground := Ground.data }], guard := none }) (v := ?vr7) rfl (by kernel_rfl) (by kernel_rfl) (by kernel_rfl) (fun _ _ _ h => h) (Or.inl ⟨by rfl, ?yr7⟩) (Below.refl _ _) ?rr7
          case yr7 => (intro w hSw; go_simp; try with_reducible rfl)
          try simp only [Act.put, List.setIfInBounds_toArray, List.set_cons_zero, List.set_cons_succ]
          refine wpAnyH_take (i := 7) (oi := { dst := some 23, op := Op.load 41 (Operand.tmp 22), type := 41, pos := "slices.go:25", after := #[{ on := 6, ground := Ground.data }], guard := none }) (v := .agg ds.toArray) rfl (by kernel_rfl) (by kernel_rfl) (by kernel_rfl) (fun _ _ _ h => h) (yieldsIf_load_mid (by rfl) 41 _ rfl b' (off' + j * 36) rfl ds _ (fun w hw => FY.out w hw) Tryd.underlying41 rfl ZY.out) (Below.refl _ _) ?_
          try simp only [Act.put, List.setIfInBounds_toArray, List.set_cons_zero, List.set_cons_succ]
          refine wpAnyH_take (i := 8) (oi := { dst := some 24, op := Op.binOp BinOp.neq 41 (Operand.tmp 19) (Operand.tmp 23) 41, type := 4, pos := "slices.go:25", after := #[{ on := 3, ground := Ground.data }, { on := 7, ground := Ground.data }], guard := none }) (v := .bool (!true)) rfl (by kernel_rfl) (by kernel_rfl) (by kernel_rfl) (fun _ _ _ h => h) (yields_eqi (by rfl) .neq _ _ _ rfl (.agg cs.toArray) (.agg ds.toArray) (!true) rfl rfl (fun w => E2.out _ _ w) (fun w => E1.out w)) (Below.refl _ _) ?_
          try simp only [Act.put, List.setIfInBounds_toArray, List.set_cons_zero, List.set_cons_succ]
          refine wpAnyH_done (by kernel_rfl) ?_ _
          have BZ : Hid (Below w.heap.size w u0) := FB.out _ (Below.refl _ _)
          clear FX FY FB E1 E2 ZX ZY
          go_wp2
          go_roundw
          case rel => exact ⟨j + 1, by omega, by go_num, NX2.out, BZ.out⟩
          case measure => simp [intOf]; omega
        | false =>
          have HF2 : Hid (r = false) := HF.out rfl
          clear NX HF
          go_wp2_with fail
          refine wp_region_held_drew (S := From wr) (by kernel_rfl) ((Below.refl _ _).drew) (fun _ => ?_)
          refine wpAnyH_on ((Below.refl _ _).drew) (fun u0 hu0 bu0 => ?_)
          replace FX := on FX bu0
          replace FY := on FY bu0
          replace FB := on FB bu0
          refine wpAnyH_take (i := 0) (oi := { dst := some 16, op := Op.move (Operand.tmp 0), type := 24, pos := "slices.go:25", after := #[], guard := none }) (v := ?vs1) rfl (by kernel_rfl) (by kernel_rfl) (by kernel_rfl) (fun _ _ _ h => h) (Or.inl ⟨by rfl, ?ys1⟩) (Below.refl _ _) ?rs1
          case ys1 => (intro w hSw; go_simp; try with_reducible rfl)
          try simp only [Act.put, List.setIfInBounds_toArray, List.set_cons_zero, List.set_cons_succ]
          refine wpAnyH_take (i := 1) (oi := { dst := some 17, op := Op.move (Operand.tmp 5), type := 3, pos := "slices.go:25", after := #[], guard := none }) (v := ?vs2) rfl (by kernel_rfl) (by kernel_rfl) (by kernel_rfl) (fun _ _ _ h => h) (Or.inl ⟨by rfl, ?ys2⟩) (Below.refl _ _) ?rs2
          case ys2 => (intro w hSw; go_simp; try with_reducible rfl)
          try simp only [Act.put, List.setIfInBounds_toArray, List.set_cons_zero, List.set_cons_succ]
          refine wpAnyH_take (i := 2) (oi := { dst := some 18, op := Op.indexAddr 24 (Operand.tmp 16) (Operand.tmp 17), type := 0, pos := "slices.go:25", after := #[{ on := 0, ground := Ground.data }, { on := 1, ground := Ground.data }], guard := none }) (v := ?vs3) rfl (by kernel_rfl) (by kernel_rfl) (by kernel_rfl) (fun _ _ _ h => h) (Or.inl ⟨by rfl, ?ys3⟩) (Below.refl _ _) ?rs3
          case ys3 => (intro w hSw; go_simp; try with_reducible rfl)
          try simp only [Act.put, List.setIfInBounds_toArray, List.set_cons_zero, List.set_cons_succ]
          refine wpAnyH_take (i := 3) (oi := { dst := some 19, op := Op.load 41 (Operand.tmp 18), type := 41, pos := "slices.go:25", after := #[{ on := 2, ground := Ground.data }], guard := none }) (v := .agg cs.toArray) rfl (by kernel_rfl) (by kernel_rfl) (by kernel_rfl) (fun _ _ _ h => h) (yieldsIf_load_mid (by rfl) 41 _ rfl b (off + j * 36) rfl cs _ (fun w hw => FX.out w hw) Tryd.underlying41 rfl ZX.out) (Below.refl _ _) ?_
          try simp only [Act.put, List.setIfInBounds_toArray, List.set_cons_zero, List.set_cons_succ]
          refine wpAnyH_take (i := 4) (oi := { dst := some 20, op := Op.move (Operand.tmp 1), type := 24, pos := "slices.go:25", after := #[], guard := none }) (v := ?vs5) rfl (by kernel_rfl) (by kernel_rfl) (by kernel_rfl) (fun _ _ _ h => h) (Or.inl ⟨by rfl, ?ys5⟩) (Below.refl _ _) ?rs5
          case ys5 => (intro w hSw; go_simp; try with_reducible rfl)
          try simp only [Act.put, List.setIfInBounds_toArray, List.set_cons_zero, List.set_cons_succ]
          refine wpAnyH_take (i := 5) (oi := { dst := some 21, op := Op.move (Operand.tmp 5), type := 3, pos := "slices.go:25", after := #[], guard := none }) (v := ?vs6) rfl (by kernel_rfl) (by kernel_rfl) (by kernel_rfl) (fun _ _ _ h => h) (Or.inl ⟨by rfl, ?ys6⟩) (Below.refl _ _) ?rs6
          case ys6 => (intro w hSw; go_simp; try with_reducible rfl)
          try simp only [Act.put, List.setIfInBounds_toArray, List.set_cons_zero, List.set_cons_succ]
          refine wpAnyH_take (i := 6) (oi := { dst := some 22, op := Op.indexAddr 24 (Operand.tmp 20) (Operand.tmp 21), type := 0, pos := "slices.go:25", after := #[{ on := 4, ground := Ground.data }, { on := 5, ground := Ground.data }], guard := none }) (v := ?vs7) rfl (by kernel_rfl) (by kernel_rfl) (by kernel_rfl) (fun _ _ _ h => h) (Or.inl ⟨by rfl, ?ys7⟩) (Below.refl _ _) ?rs7
          case ys7 => (intro w hSw; go_simp; try with_reducible rfl)
          try simp only [Act.put, List.setIfInBounds_toArray, List.set_cons_zero, List.set_cons_succ]
          refine wpAnyH_take (i := 7) (oi := { dst := some 23, op := Op.load 41 (Operand.tmp 22), type := 41, pos := "slices.go:25", after := #[{ on := 6, ground := Ground.data }], guard := none }) (v := .agg ds.toArray) rfl (by kernel_rfl) (by kernel_rfl) (by kernel_rfl) (fun _ _ _ h => h) (yieldsIf_load_mid (by rfl) 41 _ rfl b' (off' + j * 36) rfl ds _ (fun w hw => FY.out w hw) Tryd.underlying41 rfl ZY.out) (Below.refl _ _) ?_
          try simp only [Act.put, List.setIfInBounds_toArray, List.set_cons_zero, List.set_cons_succ]
          refine wpAnyH_take (i := 8) (oi := { dst := some 24, op := Op.binOp BinOp.neq 41 (Operand.tmp 19) (Operand.tmp 23) 41, type := 4, pos := "slices.go:25", after := #[{ on := 3, ground := Ground.data }, { on := 7, ground := Ground.data }], guard := none }) (v := .bool (!false)) rfl (by kernel_rfl) (by kernel_rfl) (by kernel_rfl) (fun _ _ _ h => h) (yields_eqi (by rfl) .neq _ _ _ rfl (.agg cs.toArray) (.agg ds.toArray) (!false) rfl rfl (fun w => E2.out _ _ w) (fun w => E1.out w)) (Below.refl _ _) ?_
          try simp only [Act.put, List.setIfInBounds_toArray, List.set_cons_zero, List.set_cons_succ]
          refine wpAnyH_done (by kernel_rfl) ?_ _
          have BZ : Hid (Below w.heap.size w u0) := FB.out _ (Below.refl _ _)
          clear FX FY FB E1 E2 ZX ZY
          go_wp2
          go_ret
          exact ⟨by rw [HF2.out]; rfl, BZ.out⟩
      · obtain rfl : j = n := by omega
        have HR : Hid (r = true) := HOK2.out (by trivial) OK.out
        clear HOK2 HHIT OK
        go_wp2
        go_ret
        exact ⟨by rw [HR.out]; rfl, HB.out⟩
  · have HR : Hid (r = false) := HNE.out hnk
    have t0 : ((n : Int) != (k : Int)) = true := by simp; omega
    clear HNE HOK2 HHIT
    go_enter Tryd.func17, Tryd.ntmps17
    go_wp2
    go_ret
    exact ⟨by rw [HR.out]; rfl, Below.refl _ _⟩
/-- Whether two states are one. -/
def saS (s t : Ste) : Bool := decide (s.n = t.n) && saP s.l t.l
theorem saS_self (s : Ste) : saS s s = true := by unfold saS; rw [(saP_iff _ _).2 rfl]; simp
set_option maxHeartbeats 1000000 in
theorem same_any (v u : Value) (s t : Ste) (w : World) (h1 : PS w v s.l) (h2 : PS w u t.l) (hl : s.l.length ≤ 100000) (hm : t.l.length ≤ 100000) :
    Calls Tryd.prog 8 #[.agg #[v, .int .i64 s.n], .agg #[u, .int .i64 t.n]] w fun e w' => e = .returned (.bool (saS s t)) ∧ Below w.heap.size w w' := by
  obtain ⟨a, c, rfl, -, -, -⟩ := h1.shape
  obtain ⟨a', c', rfl, -, -, -⟩ := h2.shape
  obtain ⟨W0, hW0⟩ : ∃ W0, W0 = w.alloc (.cells #[.slice a s.l.length c, .int .i64 s.n] 26) := ⟨_, rfl⟩
  have b0 : Below w.heap.size w W0 := by rw [hW0]; exact al_below _ _
  have z0 : W0.heap.size = w.heap.size + 1 := by rw [hW0]; simp
  have g0 : W0.heap[w.heap.size]? = some (.cells #[.slice a s.l.length c, .int .i64 s.n] 26 (0, 0)) := by rw [hW0]; exact heap_alloc_new _ _
  obtain ⟨W1, hW1⟩ : ∃ W1, W1 = W0.alloc (.cells #[.slice a' t.l.length c', .int .i64 t.n] 26) := ⟨_, rfl⟩
  have b1 : Below W0.heap.size W0 W1 := by rw [hW1]; exact al_below _ _
  have g1 : W1.heap[W0.heap.size]? = some (.cells #[.slice a' t.l.length c', .int .i64 t.n] 26 (0, 0)) := by rw [hW1]; exact heap_alloc_new _ _
  have g0' := blk_kept g0 b1 (by omega)
  have x0 : W1.cell? ⟨w.heap.size, 0, none⟩ = some (.slice a s.l.length c) := by simp [World.cell?, g0']
  have x1 : W1.cell? ⟨w.heap.size, 1, none⟩ = some (.int .i64 s.n) := by simp [World.cell?, g0']
  have y0 : W1.cell? ⟨W0.heap.size, 0, none⟩ = some (.slice a' t.l.length c') := by simp [World.cell?, g1]
  have y1 : W1.cell? ⟨W0.heap.size, 1, none⟩ = some (.int .i64 t.n) := by simp [World.cell?, g1]
  have b01 : Below w.heap.size w W1 := b0.trans (b1.mono b0.size)
  have ce := equalP_any _ _ s.l t.l W1 (h1.kept b01) (h2.kept b01) hl hm
  have HS : Hid (saS s t = (decide (s.n = t.n) && saP s.l t.l)) := rfl
  have BB : Hid (Below w.heap.size w W1) := b01
  have hw0 := hW0.symm
  have hw1 := hW1.symm
  clear h1 h2 hl hm hW0 b0 z0 g0 hW1 b1 g1 g0' b01
  generalize saS s t = R at *
  generalize saP s.l t.l = q at *
  generalize s.l.length = n at *
  generalize t.l.length = m at *
  by_cases hn : s.n = t.n
  · have d1 : (s.n == t.n) = true := by simpa using hn
    have HR : Hid (R = q) := by unfold Hid; rw [HS.out, decide_eq_true hn, Bool.true_and]
    clear hn
    go_enter Tryd.func8, Tryd.ntmps8
    go_wp2_with fail
    refine ce.mono ?_
    rintro e w2 ⟨rfl, b2⟩
    have B2 : Hid (Below w.heap.size w w2) := BB.out.trans (b2.mono BB.out.size)
    clear ce b2
    go_wp2
    go_ret
    exact ⟨by rw [HR.out]; rfl, B2.out⟩
  · have d1 : (s.n == t.n) = false := by simpa using hn
    have HR : Hid (R = false) := by unfold Hid; rw [HS.out, decide_eq_false hn, Bool.false_and]
    clear ce
    go_enter Tryd.func8, Tryd.ntmps8
    go_wp2
    go_ret
    exact ⟨by rw [HR.out]; rfl, BB.out⟩
end Go.Proofs.YtpkobpdiddjnpabDoor
namespace Go.Proofs.YtpkobpdiddjnpabDoor
open Go.RowKit
set_option maxRecDepth 100000

set_option maxHeartbeats 2000000 in
theorem own_any (r : Rc) (w : World) (hr : r.ok) :
    Calls Tryd.prog 6 #[r.val] w fun e w' => e = .returned r.val ∧ Below w.heap.size w w' := by
  obtain ⟨W0, hW0⟩ : ∃ W0, W0 = w.alloc (.cells r.cells.toArray 30) := ⟨_, rfl⟩
  have b0 : Below w.heap.size w W0 := by rw [hW0]; exact al_below _ _
  have z0 : W0.heap.size = w.heap.size + 1 := by rw [hW0]; simp
  have r0 : W0.rangeAt w.heap.size 0 r.cells := by rw [hW0]; exact blk_range (heap_alloc_new _ _)
  obtain ⟨W1, hW1⟩ : ∃ W1, W1 = W0.alloc (.cells rzc 35) := ⟨_, rfl⟩
  have b1 : Below W0.heap.size W0 W1 := by rw [hW1]; exact al_below _ _
  have g1 : W1.heap[W0.heap.size]? = some (.cells rzc 35 (0, 0)) := by rw [hW1]; exact heap_alloc_new _ _
  have hw0 := hW0.symm
  have hw1 : W0.alloc (.cells #[.int .u8 0, .int .i64 0, .string ⟨#[]⟩, .int .u8 0, .int .u8 0, .int .u8 0, .int .u8 0, .int .u8 0, .int .u8 0, .int .u8 0, .int .u8 0, .int .u8 0, .int .u8 0, .int .u8 0, .int .u8 0, .int .u8 0, .int .u8 0, .int .u8 0, .int .u8 0, .int .u8 0, .int .u8 0, .int .u8 0, .int .u8 0, .int .u8 0, .int .u8 0, .int .u8 0, .int .u8 0, .int .u8 0, .int .u8 0, .int .u8 0, .int .u8 0, .int .u8 0, .int .u8 0, .int .u8 0, .int .u8 0, .int .i64 0, .int .i64 0] 35) = W1 := hW1.symm
  have r1 := range_kept r0 b1
  obtain ⟨k0, k1, k2, k3, k4, k5⟩ := rcC r1 hr
  simp only [Nat.zero_add] at k0 k1 k2 k3 k4 k5
  have K3 : Hid (W1.rangeAt w.heap.size 3 (r.x.s.map (Value.int .u8))) := k3
  have HZ : Hid ((Tryd.prog.info? 28).map (·.size) = some (r.x.s.map (Value.int .u8)).length) := by unfold Hid; rw [sizeHs, List.length_map, hr.2.2.1]
  have BB : Hid (Tryd.prog.built 35 [(0, .int .u8 r.k), (1, .int .i64 r.x.i), (2, .string r.x.p), (3, .agg (u8c r.x.s)), (4, .int .i64 r.x.n), (5, .int .i64 r.x.o)] = some r.cells.toArray) := bR r hr
  have B1 : Hid (Below w.heap.size w W1) := b0.trans (b1.mono b0.size)
  have G1 : Hid (W1.heap[W0.heap.size]? = some (.cells rzc 35 (0, 0))) := g1
  have HOK : Hid r.ok := hr
  have HSZ : Hid (w.heap.size ≤ W0.heap.size) := by unfold Hid; omega
  unfold u8c at BB
  unfold Rc.val
  clear hW0 b0 z0 r0 hW1 b1 g1 r1 k3 hr
  go_enter Tryd.func6, Tryd.ntmps6
  go_wp2_with (first
    | refine wpList_load_mid rfl 28 _ rfl w.heap.size 3 rfl (r.x.s.map (Value.int .u8)) _ K3.out Tryd.underlying28 rfl HZ.out ?_
    | refine wpList_built rfl 35 _ rfl [(0, .int .u8 r.k), (1, .int .i64 r.x.i), (2, .string r.x.p), (3, .agg (r.x.s.map (Value.int .u8)).toArray), (4, .int .i64 r.x.n), (5, .int .i64 r.x.o)] rfl r.cells.toArray BB.out ?_
    | refine wpList_store_row rfl 35 _ _ rfl W0.heap.size r.cells.toArray rfl rfl 35 rzc G1.out (Rc.infoA r HOK.out) (rzc_size.trans (Rc.size r HOK.out).symm) (Rc.ones r) ?_)
  exact bodyPost_ret (v := .agg r.cells.toArray) (results_cell_row rfl _ _ W0.heap.size 35 r.cells.toArray (0, 0) _ rfl (setRow_heap _ _ _ _ _ _ G1.out) Tryd.underlying35 rfl (Rc.infoA r HOK.out)) rfl ⟨rfl, below_setRow B1.out HSZ.out _⟩
end Go.Proofs.YtpkobpdiddjnpabDoor
namespace Go.Proofs.YtpkobpdiddjnpabDoor
open Go.RowKit
set_option maxRecDepth 100000

theorem wpList_wt {P : Program} {ops : Array Oper} {rest : List Oper} {o : Oper} {a : Act} {w : World} {Q : Exit → Act → World → Prop} (hw : Region.wanted o (yielded ops a.tmps) = true) (h : o.wp P a w (wpList P ops Q rest) Q) : wpList P ops Q (o :: rest) a w := by
  unfold wpList
  rw [if_pos hw]
  exact .inl h
theorem wpList_load_midG {P : Program} {ops : Array Oper} {rest : List Oper} {op : Oper} {a : Act} {w : World} {Q : Exit → Act → World → Prop} (hw : Region.wanted op (yielded ops a.tmps) = true) (ty : TypeId) (x : Operand) (ho : op.op = .load ty x)
    (b o : Nat) (hx : a.eval x = .pointer (some ⟨b, o, none⟩)) (cs : List Value) (d : TypeDesc) (hc : w.rangeAt b o cs)
    (hu : P.underlying ty = some d) (hd : d.isRow = true) (hi : (P.info? ty).map (·.size) = some cs.length)
    (h : wpList P ops Q rest (a.put op.dst (.agg cs.toArray)) w) : wpList P ops Q (op :: rest) a w :=
  wpList_wt hw (wp_load_mid ty x ho b o hx cs d hc hu hd hi h)
theorem wpList_eqiG {w : World} {ops : Array Oper} {rest : List Oper} {o : Oper} {a : Act} {Q : Exit → Act → World → Prop} (hw : Region.wanted o (yielded ops a.tmps) = true) (T : TypeId) (x y : Operand) (t : TypeId) (ho : o.op = .binOp .neq T x y t)
    (u v : Array Value) (b : Bool) (hG : Tryd.prog.eqGuardType Tryd.prog.depth T = false) (hE : (Op.equalIn 10000 T (.agg u) (.agg v)).run Tryd.prog w = .ok b w) (hx : a.eval x = .agg u) (hy : a.eval y = .agg v)
    (h : wpList Tryd.prog ops Q rest (a.put o.dst (.bool (!b))) w) : wpList Tryd.prog ops Q (o :: rest) a w := by
  refine wpList_wt hw ?_
  unfold Oper.wp
  simp only [execOp, ho, hx, hy, Sem.run_bind, run_eqGuard_agg _ _ _ _ _ _ _ hG, run_neq_struct, hE, Result.andThen_ok, Sem.run_pure, Oper.upon]
  exact h
end Go.Proofs.YtpkobpdiddjnpabDoor
