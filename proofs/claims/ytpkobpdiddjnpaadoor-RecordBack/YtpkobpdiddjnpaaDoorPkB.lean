/-
  What Play answers.
  The closed case, plainly.
  What the statements of layer 15 share: the listed tables give the walks what they read; records that came in.
  What Image answers.
  What holds of every state that records which may be leave; its image plays it.
  The image of a state plays it; its records may be.
  What own answers.
  What is put is scanned as it was; what is cut off is told.
  What as and same answer.
  What the statement of RecordBack needs besides: rows that grow, what is whole.
-/
import Derived.Test.YtpkobpdiddjnpaaDoorStp
import Derived.Test.YtpkobpdiddjnpaaDoorSw
import Derived.Test.YtpkobpdiddjnpaaDoorTie
import Derived.Test.YtpkobpdiddjnpaaDoorCards
import Derived.Carry
import Derived.ChangeMaps5
import Derived.ChangeOld
import Derived.Deep.DeepHandedRow
import Derived.Deep.SlicePairs
import Derived.Deep.Slices
import Derived.Deep.Strs
import Derived.LaidLaws
import Derived.Lib.LaidTab
import Derived.Lib.SmallJoins
import Derived.OpenShut
import Derived.ProofKit
import Derived.Shelf.Vars
import Derived.SizedLaws
import Derived.Stop.LaidErr
import Derived.Test.YtpkobpdiddjnpaaDoorCi
import Derived.Test.YtpkobpdiddjnpaaDoorCh
import Derived.Test.YtpkobpdiddjnpaaDoorSn
import Derived.Test.YtpkobpdiddjnpaaDoorTg
namespace Go.Proofs.YtpkobpdiddjnpaaDoor
open Go.RowKit
set_option maxRecDepth 100000

theorem play_le (l : List Rc) : ∀ s, (play s l).2 ≤ l.length := by
  induction l with
  | nil => intro s; simp [play]
  | cons r l ih =>
    intro s
    unfold play
    cases step s r with
    | none => simp
    | some t => simp only [List.length_cons]; have := ih t; omega
theorem play_none {s : Ste} {r : Rc} (l : List Rc) (h : step s r = none) : play s (r :: l) = (s, 0) := by unfold play; rw [h]
theorem play_some {s t : Ste} {r : Rc} (l : List Rc) (h : step s r = some t) : play s (r :: l) = ((play t l).1, (play t l).2 + 1) := by
  conv => lhs; unfold play
  rw [h]
theorem play_app (a b : List Rc) : ∀ s, play s (a ++ b) = if (play s a).2 = a.length then ((play (play s a).1 b).1, a.length + (play (play s a).1 b).2) else play s a := by
  induction a with
  | nil => intro s; simp [play]
  | cons r a ih =>
    intro s
    rw [List.cons_append]
    cases hst : step s r with
    | none => rw [play_none _ hst, play_none _ hst]; simp
    | some t =>
      rw [play_some _ hst, play_some _ hst, ih t]
      simp only [List.length_cons]
      by_cases h : (play t a).2 = a.length
      · rw [if_pos h, if_pos (by omega)]
        exact Prod.ext rfl (by show a.length + _ + 1 = a.length + 1 + _; omega)
      · rw [if_neg h, if_neg (by omega)]
theorem take_succR (l : List Rc) (j : Nat) (h : j < l.length) : l.take (j + 1) = l.take j ++ [atR l j] := by
  rw [List.take_add_one, List.getElem?_eq_getElem h, atR_eq l j h]
  rfl
theorem splitR (l : List Rc) (j : Nat) (h : j < l.length) : l = l.take j ++ (atR l j :: l.drop (j + 1)) := by
  conv => lhs; rw [← List.take_append_drop j l, List.drop_eq_getElem_cons h]
  rw [atR_eq l j h]
/-- The state behind the first j records, all of them taken. -/
def PJ (L : List Rc) (j : Nat) (s : Ste) : Prop := play st0 (L.take j) = (s, j)
theorem PJ.go {L : List Rc} {j : Nat} {s t : Ste} (h : PJ L j s) (hj : j < L.length) (ht : step s (atR L j) = some t) : PJ L (j + 1) t := by
  unfold PJ at h ⊢
  rw [take_succR L j hj, play_app, h]
  have hl : (L.take j).length = j := by rw [List.length_take]; omega
  rw [hl, if_pos rfl]
  show ((play s [atR L j]).1, j + (play s [atR L j]).2) = (t, j + 1)
  rw [play_some [] ht]
  rfl
theorem PJ.stop {L : List Rc} {j : Nat} {s : Ste} (h : PJ L j s) (hj : j < L.length) (ht : step s (atR L j) = none) : play st0 L = (s, j) := by
  unfold PJ at h
  conv => lhs; rw [splitR L j hj]
  rw [play_app, h]
  have hl : (L.take j).length = j := by rw [List.length_take]; omega
  rw [hl, if_pos rfl]
  show ((play s (atR L j :: L.drop (j + 1))).1, j + (play s (atR L j :: L.drop (j + 1))).2) = (s, j)
  rw [play_none _ ht]
  rfl
theorem PJ.all {L : List Rc} {s : Ste} (h : PJ L L.length s) : play st0 L = (s, L.length) := by
  unfold PJ at h
  rwa [List.take_length] at h
theorem step_len {s t : Ste} {r : Rc} (h : step s r = some t) (hl : s.l.length ≤ 64) : t.l.length ≤ 64 := by
  unfold step at h
  repeat' split at h
  all_goals cases h
  · show (s.l ++ _).length ≤ 64
    rw [List.length_append, List.length_singleton]
    omega
  · show (s.l.set _ _).length ≤ 64
    rw [List.length_set]
    exact hl
  · have := List.length_eraseIdx_le s.l (plc s.l r.x.i)
    show (s.l.eraseIdx (plc s.l r.x.i)).length ≤ 64
    omega
  · exact hl
theorem retY {tmps : Array Value} {w : World} {g : Nat} {v : Value} {n m : Int} (hp : tmps.getD 2 undef = .pointer (some ⟨g, 0, none⟩)) (he : tmps.getD 3 undef = .int .i64 m)
    (hg : w.heap[g]? = some (.cells #[v, .int .i64 n] 43 (0, 0))) : (results Tryd.f16 tmps).run Tryd.prog w = .ok (.tuple #[.agg #[v, .int .i64 n], .int .i64 m]) w := by
  have hld : (loadVar 43 ⟨g, 0, none⟩).run Tryd.prog w = .ok (.agg #[v, .int .i64 n]) w := run_loadVar_row w g 43 43 #[v, .int .i64 n] (0, 0) _ hg Tryd.underlying43 rfl sizeT
  rw [results_cell_tmp rfl, hp, he]
  simp [asAddr, Result.andThen, hld]
set_option maxHeartbeats 2000000 in
theorem play_any (v : Value) (L : List Rc) (w : World) (h : RS w v L) (hl : L.length ≤ 100000) (hi : ∀ r ∈ L, r.x.i ≤ 4611686018427387904) :
    Calls Tryd.prog 16 #[v] w fun e w' => ∃ v', e = .returned (.tuple #[SVal v' (play st0 L).1, .int .i64 ((play st0 L).2 : Nat)]) ∧ RP w' w.heap.size v' (play st0 L).1.l ∧ Below w.heap.size w w' := by
  obtain ⟨a, c, rfl, h2, h3, h4⟩ := h.shape
  obtain ⟨W0, hW0⟩ : ∃ W0, W0 = w.alloc (.cells #[.slice none 0 0, .int .i64 0] 43) := ⟨_, rfl⟩
  have b0 : Below w.heap.size w W0 := by rw [hW0]; exact al_below _ _
  have z0 : W0.heap.size = w.heap.size + 1 := by rw [hW0]; simp
  have g0 : W0.heap[w.heap.size]? = some (.cells #[.slice none 0 0, .int .i64 0] 43 (0, 0)) := by rw [hW0]; exact new_st w
  obtain ⟨W1, hW1⟩ : ∃ W1, W1 = W0.alloc (.cells #[.slice none 0 0, .int .i64 0] 43) := ⟨_, rfl⟩
  have b1 : Below W0.heap.size W0 W1 := by rw [hW1]; exact al_below _ _
  have s1 : SV W1 W0.heap.size W0.heap.size (.slice none 0 0) st0 := ⟨by rw [hW1]; exact new_st W0, RPt.nil _ _ _⟩
  have b1' : Below w.heap.size w W1 := b0.trans (b1.mono b0.size)
  have HS : Hid (RS W1 (.slice a L.length c) L) := h.kept b1'
  have HOK : Hid (∀ x ∈ L, x.ok) := h.2
  have HIB : Hid (∀ j, (atR L j).x.i ≤ 4611686018427387904) := fun j => by
    by_cases hj : j < L.length
    · exact hi _ (atR_mem L j hj)
    · have e : atR L j = rc0 := by simp [atR, List.getD, List.getElem?_eq_none (show L.length ≤ j by omega)]
      rw [e]
      show (0 : Int) ≤ _
      omega
  have HG : Hid (∀ W, Below W0.heap.size W1 W → W.heap[w.heap.size]? = some (.cells #[.slice none 0 0, .int .i64 0] 43 (0, 0)) ∧ Below w.heap.size w W) := fun W hb => ⟨blk_kept (blk_kept g0 b1 (by omega)) hb (by omega), b1'.trans (hb.mono (by omega))⟩
  have HSZ : Hid (w.heap.size < W0.heap.size ∧ w.heap.size ≤ W0.heap.size ∧ W0.heap.size ≤ W1.heap.size) := ⟨by omega, by omega, b1.size⟩
  have P0 : Hid (PJ L 0 st0) := rfl
  have HS1 : Hid (SB W1 W0.heap.size W0.heap.size st0) := ⟨_, s1⟩
  have hn := hl
  obtain ⟨n, hn'⟩ : ∃ n, n = L.length := ⟨_, rfl⟩
  have HN : Hid (n = L.length) := hn'
  have HRS : Hid (∀ W, Below W0.heap.size W1 W → RS W (.slice a L.length c) L) := fun W hb => h.kept (b1'.trans (hb.mono (by omega)))
  rw [← hn'] at HS h2 hn HRS ⊢
  have hw0 := hW0.symm
  have hw1 := hW1.symm
  have HST : Hid (∀ j s, PJ L j s → j < L.length → step s (atR L j) = none → play st0 L = (s, j)) := fun j s h1 h2 h3 => h1.stop h2 h3
  have HAL : Hid (∀ s, PJ L L.length s → play st0 L = (s, L.length)) := fun s h1 => h1.all
  clear h hl h3 h4 hn' hW0 b0 z0 g0 hW1 b1 s1 b1' hi
  generalize play st0 L = R at *
  go_enter Tryd.func16, Tryd.ntmps16
  go_wp2_with fail
  try rw [hw0]
  try rw [hw1]
  clear hw0 hw1
  go_loopw [9] (fun z wr => ∃ j : Nat, j ≤ n ∧ z = .int .i64 j ∧ (∃ s, PJ L j s ∧ s.l.length ≤ 64 ∧ SB wr W0.heap.size W0.heap.size s) ∧ Below W0.heap.size W1 wr) (fun z _ => n - (intOf z).toNat)
  case atStart => exact ⟨0, by omega, rfl, ⟨st0, P0.out, by decide, HS1.out⟩, Below.refl _ _⟩
  case round =>
    obtain ⟨j, hj, rfl, ⟨s, pj, sl, v1, sb⟩, bel⟩ := hrel
    have HB : Hid (Below W0.heap.size W1 wr) := bel
    have PJJ : Hid (PJ L j s) := pj
    have SLL : Hid (s.l.length ≤ 64) := sl
    have HV : Hid (SV wr W0.heap.size W0.heap.size v1 s) := sb
    clear bel pj sl sb HS1 P0
    by_cases hlt : j < n
    · have lt2 : (j : Int) < (n : Int) := by omega
      obtain ⟨b, off, rfl, hr⟩ := (HRS.out wr HB.out).at j (by rw [← HN.out]; exact hlt)
      have hx : (atR L j).ok := Rc.at L HOK.out j
      have NX : Hid (∀ t, step s (atR L j) = some t → PJ L (j + 1) t ∧ t.l.length ≤ 64) := fun t ht => ⟨PJJ.out.go (by rw [← HN.out]; exact hlt) ht, step_len ht SLL.out⟩
      have ST : Hid (step s (atR L j) = none → R = (s, j)) := HST.out j s PJJ.out (by rw [← HN.out]; exact hlt)
      have hi := HIB.out j
      generalize atR L j = x at *
      have RN : Hid (wr.rangeAt b (off + j * 37) x.cells) := hr
      have HZ : Hid ((Tryd.prog.info? 33).map (·.size) = some x.cells.length) := Rc.infoL x hx
      have HI : Hid ((Tryd.prog.info? 33).map (·.size) = some x.cells.toArray.size) := Rc.infoA x hx
      have HE2 : Hid (rzc.size = x.cells.toArray.size) := rzc_size.trans (Rc.size x hx).symm
      have H1 : Hid (x.cells.toArray.all (·.oneCell') = true) := Rc.ones x
      obtain ⟨W2, hW2⟩ : ∃ W2, W2 = wr.alloc (.cells x.cells.toArray 33) := ⟨_, rfl⟩
      have b2 : Below wr.heap.size wr W2 := by rw [hW2]; exact al_below _ _
      have R2 : Hid (W2.rangeAt wr.heap.size 0 x.cells) := by unfold Hid; rw [hW2]; exact rc_new wr x
      have e1 := alloc_rc wr x
      rw [← hW2] at e1
      have HE1 : Hid ((wr.alloc (.cells #[.int .u8 0, .int .i64 0, .string ⟨#[]⟩, .int .u8 0, .int .u8 0, .int .u8 0, .int .u8 0, .int .u8 0, .int .u8 0, .int .u8 0, .int .u8 0, .int .u8 0, .int .u8 0, .int .u8 0, .int .u8 0, .int .u8 0, .int .u8 0, .int .u8 0, .int .u8 0, .int .u8 0, .int .u8 0, .int .u8 0, .int .u8 0, .int .u8 0, .int .u8 0, .int .u8 0, .int .u8 0, .int .u8 0, .int .u8 0, .int .u8 0, .int .u8 0, .int .u8 0, .int .u8 0, .int .u8 0, .int .u8 0, .int .i64 0, .int .i64 0] 33)).setRow wr.heap.size x.cells.toArray = W2) := e1
      have ct := take_any W0.heap.size W0.heap.size v1 s x W2 (HV.out.kept b2) (Nat.le_refl _) hx hi (by have := SLL.out; omega)
      have B2 : Hid (Below W0.heap.size W1 W2) := HB.out.trans (b2.mono (Nat.le_trans HSZ.out.2.2 HB.out.size))
      unfold Rc.val at ct
      clear b2 hr hx e1 hW2 hi
      generalize x.cells = cs at *
      go_wp2_with (refine wpList_load_mid rfl 33 _ rfl b (off + j * 37) rfl cs _ RN.out Tryd.underlying33 rfl HZ.out (Hid.out ?_))
      unfold Hid
      go_wp2_with (refine wpList_store_row rfl 33 _ _ rfl wr.heap.size cs.toArray rfl rfl 33 rzc (new_rc wr) HI.out HE2.out H1.out (Hid.out ?_))
      unfold Hid
      rw [HE1.out]
      go_wp2_with (refine wpList_load_mid rfl 33 _ rfl wr.heap.size 0 rfl cs _ R2.out Tryd.underlying33 rfl HZ.out ?_)
      refine ct.mono ?_
      rintro e w3 ⟨rfl, ⟨v3, s3⟩, b3⟩
      have B3 : Hid (Below W0.heap.size W1 w3) := B2.out.trans b3
      clear ct b3 RN R2 HE1 HZ HI HE2 H1
      cases hst : step s x with
      | some t =>
        obtain ⟨p4, l4⟩ := NX.out t hst
        have HR4 : Hid (∃ s, PJ L (j + 1) s ∧ s.l.length ≤ 64 ∧ SB w3 W0.heap.size W0.heap.size s) := ⟨t, p4, l4, v3, by have := s3; rw [hst] at this; exact this⟩
        clear NX ST s3 p4 l4 hst
        simp only [Option.isSome_some]
        go_wp2
        go_roundw
        case rel => exact ⟨j + 1, by omega, by go_num, HR4.out, B3.out⟩
        case measure => simp [intOf]; omega
      | none =>
        have HR : Hid (R = (s, j)) := ST.out hst
        rw [hst] at s3
        have H3 : Hid (SV w3 W0.heap.size W0.heap.size v3 s) := s3
        obtain ⟨k3, bw3⟩ := HG.out w3 B3.out
        have K3 : Hid (w3.heap[w.heap.size]? = some (.cells #[.slice none 0 0, .int .i64 0] 43 (0, 0))) := k3
        have BW3 : Hid (Below w.heap.size w w3) := bw3
        have R3 : Hid (w3.rangeAt W0.heap.size 0 [v3, .int .i64 s.n]) := blk_range s3.1
        clear NX ST s3 k3 bw3 hst
        obtain ⟨va, vc, rfl, -, -, -⟩ := H3.out.2.is.shape
        simp only [Option.isSome_none]
        generalize s.l.length = sn at *
        go_wp2_with (first
          | refine wpList_load_mid rfl 43 _ rfl W0.heap.size 0 rfl [.slice va sn vc, .int .i64 s.n] _ R3.out Tryd.underlying43 rfl sizeT ?_
          | refine wpList_store_row rfl 43 _ _ rfl w.heap.size #[.slice va sn vc, .int .i64 s.n] rfl rfl 43 #[.slice none 0 0, .int .i64 0] K3.out sizeT rfl (st_ones _ _ _ _) ?_)
        refine bodyPost_ret (v := .tuple #[.agg #[.slice va sn vc, .int .i64 s.n], .int .i64 (j : Nat)]) (retY rfl rfl (setRow_heap _ _ _ _ _ _ K3.out)) rfl ⟨.slice va sn vc, by rw [HR.out]; rfl, ?_, below_setRow BW3.out (Nat.le_refl _) _⟩
        rw [HR.out]
        exact (H3.out.2.setRow w.heap.size _ K3.out).mono HSZ.out.2.1
    · obtain rfl : j = n := by omega
      have HR : Hid (R = (s, j)) := by
        unfold Hid
        have h5 := HAL.out s (by rw [← HN.out]; exact PJJ.out)
        rw [h5, HN.out]
      obtain ⟨k3, bw3⟩ := HG.out wr HB.out
      have K3 : Hid (wr.heap[w.heap.size]? = some (.cells #[.slice none 0 0, .int .i64 0] 43 (0, 0))) := k3
      have BW3 : Hid (Below w.heap.size w wr) := bw3
      have R3 : Hid (wr.rangeAt W0.heap.size 0 [v1, .int .i64 s.n]) := blk_range HV.out.1
      obtain ⟨va, vc, rfl, -, -, -⟩ := HV.out.2.is.shape
      clear k3 bw3 HST HAL HRS
      generalize s.l.length = sn at *
      go_wp2_with (first
        | refine wpList_load_mid rfl 43 _ rfl W0.heap.size 0 rfl [.slice va sn vc, .int .i64 s.n] _ R3.out Tryd.underlying43 rfl sizeT ?_
        | refine wpList_store_row rfl 43 _ _ rfl w.heap.size #[.slice va sn vc, .int .i64 s.n] rfl rfl 43 #[.slice none 0 0, .int .i64 0] K3.out sizeT rfl (st_ones _ _ _ _) ?_)
      refine bodyPost_ret (v := .tuple #[.agg #[.slice va sn vc, .int .i64 s.n], .int .i64 (j : Nat)]) (retY rfl rfl (setRow_heap _ _ _ _ _ _ K3.out)) rfl ⟨.slice va sn vc, by rw [HR.out]; rfl, ?_, below_setRow BW3.out (Nat.le_refl _) _⟩
      rw [HR.out]
      exact (HV.out.2.setRow w.heap.size _ K3.out).mono HSZ.out.2.1
end Go.Proofs.YtpkobpdiddjnpaaDoor
namespace Go.Proofs.YtpkobpdiddjnpaaDoor
open Go.RowKit
set_option maxRecDepth 100000

def r1 : Rc := ⟨1, ⟨5, ⟨#[]⟩, z32, 0, 9⟩⟩
theorem r1_ok : r1.ok := ⟨by show (0 : Int) ≤ 1; omega, by show (1 : Int) < 256; omega, z32_len, z32_bytes, by unfold i64; show _ ∧ _; simp [r1], i64_0, by unfold i64; simp [r1]⟩
theorem rck_r1 : rck r1 = 0 := by decide
def p1 : List Int := [7, 1, 5, 9, 196, 255, 40, 250]
theorem put_r1 : putB r1 = p1 := by decide
theorem p1_bts : Bts p1 := byteList p1 (by decide)
theorem ahE_p1 : ahE p1 = 0 := by decide
theorem ahU_p1 : ahU p1 = 8 := by decide
theorem ahR_p1 : ahR p1 = r1 := by kernel_rfl
theorem scn_p1 : scn p1 = ([r1], 8, 0) := by
  rw [scn_ok p1_bts (by decide) ahE_p1, ahU_p1, ahR_p1]
  rw [show p1.drop (8 : Int).toNat = [] from rfl, scn_nil]
  rfl
def q1 : Rc := ⟨0, ⟨0, ⟨#[97]⟩, z32, 9, 0⟩⟩
def q2 : Rc := ⟨1, ⟨0, ⟨#[]⟩, z32, 0, 3⟩⟩
def q3 : Rc := ⟨2, ⟨0, ⟨#[]⟩, z32, 0, 0⟩⟩
theorem q_play : play st0 [q1, q2, q3] = (⟨[], 1⟩, 3) := by kernel_rfl
theorem q_ok : ∀ r ∈ [q1, q2, q3], r.ok := fun r hr => by
  simp only [List.mem_cons, List.not_mem_nil, or_false] at hr
  rcases hr with rfl | rfl | rfl <;> exact ⟨by decide, by decide, z32_len, z32_bytes, by unfold i64; decide, by unfold i64; decide, by unfold i64; decide⟩
theorem q_i : ∀ r ∈ [q1, q2, q3], r.x.i ≤ 4611686018427387904 := fun r hr => by
  simp only [List.mem_cons, List.not_mem_nil, or_false] at hr
  rcases hr with rfl | rfl | rfl <;> decide
theorem b_q1 : Tryd.prog.built 33 [(2, .string ⟨#[97]⟩), (4, .int .i64 9)] = some q1.cells.toArray := by kernel_rfl
theorem b_q2 : Tryd.prog.built 33 [(0, .int .u8 1), (5, .int .i64 3)] = some q2.cells.toArray := by kernel_rfl
theorem b_q3 : Tryd.prog.built 33 [(0, .int .u8 2)] = some q3.cells.toArray := by kernel_rfl
theorem b_r1 : Tryd.prog.built 33 [(0, .int .u8 1), (1, .int .i64 5), (5, .int .i64 9)] = some r1.cells.toArray := by kernel_rfl
def q123 : List Value := ([q1, q2, q3].map Rc.cells).flatten
theorem bs_q : Tryd.prog.builtSlice 33 3 [(0, .agg q1.cells.toArray), (1, .agg q2.cells.toArray), (2, .agg q3.cells.toArray)] = some q123.toArray := by kernel_rfl
theorem rs_block {w : World} {g : Nat} {l : List Rc} (hg : w.heap[g]? = some (.cells (l.map Rc.cells).flatten.toArray 33 (0, 0))) (hok : ∀ r ∈ l, r.ok) (hm : l.length ≤ 1000) : RS w (.slice (some ⟨g, 0, none⟩) l.length l.length) l := by
  refine ⟨⟨_, l.length, by rw [List.length_map], by rw [List.length_map]; exact Nat.le_refl _, by unfold maxLen; omega, fun e => (by cases e), cl_rc hok, .inr ⟨g, 0, rfl, fun i hi j v hv => ?_⟩⟩, hok⟩
  have h1 := (cl_rc hok).get hi hv
  rw [Nat.zero_add]
  unfold World.cell?
  rw [hg]
  simpa using h1
theorem wpList_bs3 {w : World} {ops : Array Oper} {rest : List Oper} {o : Oper} {a : Act} {Q : Exit → Act → World → Prop} (hgd : o.guard = none) (x y z : Operand) (ho : o.op = .buildSlice 40 3 #[(0, x), (1, y), (2, z)])
    (c1 c2 c3 cs : Array Value) (hx : a.eval x = .agg c1) (hy : a.eval y = .agg c2) (hz : a.eval z = .agg c3) (hb : Tryd.prog.builtSlice 33 3 [(0, .agg c1), (1, .agg c2), (2, .agg c3)] = some cs)
    (h : wpList Tryd.prog ops Q rest (a.put o.dst (.slice (some ⟨w.heap.size, 0, none⟩) 3 3)) (w.alloc (.cells cs 33))) : wpList Tryd.prog ops Q (o :: rest) a w :=
  Great.wpList_buildSliceTo hgd 40 33 3 #[(0, x), (1, y), (2, z)] ho w.heap.size rfl o.dst rfl Tryd.underlying40 cs (by simpa [hx, hy, hz] using hb) h
set_option maxHeartbeats 4000000 in
theorem awake_any (w : World) (ht : Tb w) : Calls Tryd.prog 7 #[] w fun e w' => e = .returned (.bool true) ∧ Below w.heap.size w w' := by
  have C1 := put_any r1 w r1_ok ht (by show (⟨#[]⟩ : ByteArray).size ≤ 1000; decide)
  rw [rck_r1, put_r1] at C1
  have C2 : Hid (∀ W v, Below w.heap.size w W → Sl W v p1 → Calls Tryd.prog 20 #[v] W fun e w' => ∃ v', e = .returned (.tuple #[v', .int .i64 8, .int .i64 0]) ∧ RR w' W.heap.size v' [r1] ∧ Below W.heap.size W w') := fun W v hb hs => by
    have := scan_any v p1 W hs (ht.kept hb) (by decide)
    rw [scn_p1] at this
    exact this
  have C3 : Hid (∀ W, W.heap.size + 1 ≤ 1000000000000000000000 ∨ True → Calls Tryd.prog 16 #[.slice (some ⟨W.heap.size, 0, none⟩) 3 3] (W.alloc (.cells q123.toArray 33)) fun e w' => ∃ v', e = .returned (.tuple #[.agg #[v', .int .i64 1], .int .i64 3]) ∧ RP w' (W.heap.size + 1) v' [] ∧ Below W.heap.size W w') := fun W _ => by
    have b := al_below W (.cells q123.toArray 33)
    have := play_any _ [q1, q2, q3] (W.alloc (.cells q123.toArray 33)) (rs_block (heap_alloc_new W _) q_ok (by decide)) (by decide) q_i
    rw [q_play] at this
    refine this.mono ?_
    rintro e w' ⟨v', h1, h2, h3⟩
    refine ⟨v', h1, by have := h2; simp at this; exact this, b.trans (h3.mono b.size)⟩
  have HS1 : Hid (strB [7, 1, 5, 9] = ⟨#[7, 1, 5, 9]⟩) := rfl
  have BR1 : Hid (Tryd.prog.built 33 [(0, .int .u8 1), (1, .int .i64 5), (5, .int .i64 9)] = some r1.cells.toArray) := b_r1
  have BQ1 : Hid (Tryd.prog.built 33 [(2, .string ⟨#[97]⟩), (4, .int .i64 9)] = some q1.cells.toArray) := b_q1
  have BQ2 : Hid (Tryd.prog.built 33 [(0, .int .u8 1), (5, .int .i64 3)] = some q2.cells.toArray) := b_q2
  have BQ3 : Hid (Tryd.prog.built 33 [(0, .int .u8 2)] = some q3.cells.toArray) := b_q3
  have BSQ : Hid (Tryd.prog.builtSlice 33 3 [(0, .agg q1.cells.toArray), (1, .agg q2.cells.toArray), (2, .agg q3.cells.toArray)] = some q123.toArray) := bs_q
  have HO : Hid (r1.x.o = 9 ∧ r1.ok) := ⟨rfl, r1_ok⟩
  unfold Rc.val at C1
  clear ht
  have HP1 : Hid (p1.take 4 = [7, 1, 5, 9] ∧ p1.length = 8) := ⟨rfl, rfl⟩
  generalize p1 = pp at *
  generalize r1 = rr at *
  generalize q1.cells.toArray = c1 at *
  generalize q2.cells.toArray = c2 at *
  generalize q3.cells.toArray = c3 at *
  generalize q123.toArray = c123 at *
  go_enter Tryd.func7, Tryd.ntmps7
  go_wp2_with (refine wpList_built rfl 33 _ rfl [(0, .int .u8 1), (1, .int .i64 5), (5, .int .i64 9)] rfl rr.cells.toArray BR1.out ?_)
  refine C1.mono ?_
  rintro e w1 ⟨v1, rfl, s1, b1⟩
  have B1 : Hid (Below w.heap.size w w1) := b1
  have S1 : Hid (Sl w1 v1 pp) := s1
  have c2' := C2.out w1 v1 b1 s1
  obtain ⟨a1, k1, rfl, kc1, -⟩ := id s1
  rw [HP1.out.2] at kc1 c2' S1 ⊢
  clear C1 C2 b1 s1 BR1
  go_wp2_with fail
  refine c2'.mono ?_
  rintro e w2 ⟨v2, rfl, rr2, b2⟩
  have B2 : Hid (Below w.heap.size w w2) := B1.out.trans (b2.mono B1.out.size)
  have S2 : Hid (Sl w2 (.slice a1 8 k1) pp) := S1.out.kept b2
  have R2 : Hid (RR w2 w1.heap.size v2 [rr]) := rr2
  obtain ⟨a2, k2, rfl, -, -, -⟩ := rr2.is.shape
  clear c2' b2 B1 S1 rr2
  have c3' := C3.out w2 (.inr trivial)
  obtain ⟨W3, hW3⟩ : ∃ W3, W3 = w2.alloc (.cells c123 33) := ⟨_, rfl⟩
  have b3 : Below w2.heap.size w2 W3 := by rw [hW3]; exact al_below _ _
  rw [← hW3] at c3'
  simp only [List.length_cons, List.length_nil, Nat.zero_add] at R2 ⊢
  go_wp2_with (first
    | refine wpList_built rfl 33 _ rfl [(2, .string ⟨#[97]⟩), (4, .int .i64 9)] rfl c1 BQ1.out ?_
    | refine wpList_built rfl 33 _ rfl [(0, .int .u8 1), (5, .int .i64 3)] rfl c2 BQ2.out ?_
    | refine wpList_built rfl 33 _ rfl [(0, .int .u8 2)] rfl c3 BQ3.out ?_
    | refine wpList_bs3 rfl _ _ _ rfl c1 c2 c3 c123 rfl rfl rfl BSQ.out (Hid.out ?_))
  unfold Hid
  rw [← hW3]
  clear hW3
  go_wp2_with fail
  refine c3'.mono ?_
  rintro e w4 ⟨v4, rfl, p4, b4⟩
  have B4 : Hid (Below w.heap.size w w4) := B2.out.trans (b4.mono B2.out.size)
  have S4 : Hid (Sl w4 (.slice a1 8 k1) pp) := S2.out.kept b4
  have R4 : Hid (RR w4 w1.heap.size (.slice a2 1 k2) [rr]) := R2.out.below b4
  obtain ⟨a4, k4, e4, -, -, -⟩ := p4.is.shape
  subst e4
  clear c3' b4 B2 S2 R2 p4 b3
  simp only [List.length_nil]
  obtain ⟨W5, hW5⟩ : ∃ W5, W5 = w4.alloc (.cells #[.slice a4 0 k4, .int .i64 1] 43) := ⟨_, rfl⟩
  have b5 : Below w4.heap.size w4 W5 := by rw [hW5]; exact al_below _ _
  have g5 : W5.heap[w4.heap.size]? = some (.cells #[.slice a4 0 k4, .int .i64 1] 43 (0, 0)) := by rw [hW5]; exact heap_alloc_new _ _
  have x0 : W5.cell? ⟨w4.heap.size, 0, none⟩ = some (.slice a4 0 k4) := by simp [World.cell?, g5]
  have x1 : W5.cell? ⟨w4.heap.size, 1, none⟩ = some (.int .i64 1) := by simp [World.cell?, g5]
  have HE1 : Hid ((w4.alloc (.cells #[.slice none 0 0, .int .i64 0] 43)).setRow w4.heap.size #[.slice a4 0 k4, .int .i64 1] = W5) := by unfold Hid; rw [hW5]; exact World.setRow_alloc_new _ _ _ _
  have B5 : Hid (Below w.heap.size w W5) := B4.out.trans (b5.mono B4.out.size)
  have s5 := (S4.out.kept b5).take 4 (by omega)
  rw [HP1.out.1] at s5
  have cv := s5.conv
  rw [HS1.out] at cv
  obtain ⟨b6, o6, rfl, hr6⟩ := (R4.out.below b5).is.at 0 (by simp)
  have o9 := (rcC hr6 HO.out.2).2.2.2.2.2
  have e9 : (atR [rr] 0).x.o = 9 := HO.out.1
  rw [e9] at o9
  simp only [Nat.zero_mul, Nat.add_zero] at o9
  have q4 : (4 : Int) ≤ (k1 : Int) := by omega
  clear hW5 b5 g5 s5 hr6 e9 B4 S4 R4
  go_wp2_with (refine wpList_store_row rfl 43 _ _ rfl w4.heap.size #[.slice a4 0 k4, .int .i64 1] rfl rfl 43 #[.slice none 0 0, .int .i64 0] (new_st w4) sizeT rfl (st_ones _ _ _ _) (Hid.out ?_))
  unfold Hid
  rw [HE1.out]
  clear HE1
  go_wp2
  go_ret
  exact ⟨rfl, B5.out⟩
end Go.Proofs.YtpkobpdiddjnpaaDoor
namespace Go.Proofs.YtpkobpdiddjnpaaDoor
open Go.ChangeShapes Go.WideShapes Go.ChangeAt Go.RowKit Go.Deep
set_option maxRecDepth 100000

theorem own : ownKnob Tryd.prog.godebug = none := by kernel_rfl
theorem laidOut : laidOutB Tryd.prog = true := by kernel_rfl
theorem mx_of {W : World} (h : W.ShapedOpen Tryd.prog) : Mx W :=
  cell_of_shapedOpen_int (zero := #[.int .i64 0]) (t := 3) h (of_decide_eq_true (by kernel_rfl)) (by kernel_rfl) rfl (by kernel_rfl) (by kernel_rfl) Tryd.underlying3
/-- What Go's table of first bytes holds. -/
def firstCells : Array Value := (Go.Pinned.utf8FirstZ.map fun (n : Nat) => Value.int .u8 ((n : Nat) : Int)).toArray
def rangeCells : Array Value := #[.int .u8 128, .int .u8 191, .int .u8 160, .int .u8 191, .int .u8 128, .int .u8 159, .int .u8 144, .int .u8 191, .int .u8 128, .int .u8 143, .int .u8 0, .int .u8 0, .int .u8 0, .int .u8 0, .int .u8 0, .int .u8 0, .int .u8 0, .int .u8 0, .int .u8 0, .int .u8 0, .int .u8 0, .int .u8 0, .int .u8 0, .int .u8 0, .int .u8 0, .int .u8 0, .int .u8 0, .int .u8 0, .int .u8 0, .int .u8 0, .int .u8 0, .int .u8 0]
theorem cells3 : Tryd.prog.cellsOf 3 = 1 := by kernel_rfl
theorem cells5 : Tryd.prog.cellsOf 5 = 1 := by kernel_rfl
theorem cells9 : Tryd.prog.cellsOf 9 = 1 := by kernel_rfl
theorem gT2 : Tryd.prog.globalNamed "sumpter/varint.widths" = some 0 := by kernel_rfl
theorem tT2 : (Tryd.prog.globals[0]?).map (·.type) = some 127 := by kernel_rfl
theorem gT1 : Tryd.prog.globalNamed "sumpter/crc.halves" = some 1 := by kernel_rfl
theorem tT1 : (Tryd.prog.globals[1]?).map (·.type) = some 130 := by kernel_rfl
theorem cellsT2 : Tryd.prog.cellsOf 127 = 4 := by kernel_rfl
theorem cellsT1 : Tryd.prog.cellsOf 130 = 16 := by kernel_rfl
theorem cellsTE : Tryd.prog.cellsOf 88 = 1 := by kernel_rfl
theorem cellsH : Tryd.prog.cellsOf 23 = 32 := by kernel_rfl
theorem cellsQ : Tryd.prog.cellsOf 25 = 37 := by kernel_rfl
def halfZ : List Int := Cr.Reg.tab.map (fun n : Nat => (n : Int))
def halfCells : Array Value := (halfZ.map (Value.int .u32)).toArray
theorem tb_of {W : World} (h : laidMetH Tryd.prog Rows.recordImagedRow.laid W) (hs : W.ShapedOpen Tryd.prog) : Tb W := by
  have h1 := laidMet.tail h
  have t2 : Lib.TabIs Tryd.prog W "sumpter/varint.widths" .i64 [1, 2, 4, 8] := Lib.tabIs_of_head gT2 tT2 Tryd.underlying127 Tryd.underlying3 cells3 cellsT2 h1
  have t1 : Lib.TabIs Tryd.prog W "sumpter/crc.halves" .u32 halfZ := Lib.tabIs_of_head gT1 tT1 Tryd.underlying130 Tryd.underlying88 cellsTE cellsT1 (laidMet.tail h1)
  refine ⟨fun i hi => ?_, ⟨t2.cell gT2 0 (by decide), t2.cell gT2 1 (by decide), t2.cell gT2 2 (by decide), t2.cell gT2 3 (by decide)⟩, mx_of hs⟩
  rw [t1.cell gT1 i (show i < halfZ.length from hi)]
  have hi2 : i < Cr.Reg.tab.length := hi
  simp [halfZ, List.getD, List.getElem?_eq_getElem hi2]
theorem mapM_each {α β : Type} {f : α → Option β} : ∀ (L : List α) (ys : List β), L.mapM f = some ys → ∀ i ∈ L, ∃ y, f i = some y
  | [], _, _ => fun i hi => by cases hi
  | a :: L, ys, h => by
    rw [List.mapM_cons] at h
    simp only [bind, Option.bind_eq_some_iff, pure, Option.some.injEq] at h
    obtain ⟨y, hy, zs, hz, rfl⟩ := h
    intro i hi
    rcases List.mem_cons.1 hi with rfl | hi
    · exact ⟨y, hy⟩
    · exact mapM_each L zs hz i hi
/-- The cells of a sum that came in. -/
theorem hash_trod {H : Type} {enc : TypeId × Value → H} {W : World} {fuel : Nat} {cs : List Value} {x : DataW H × List MemPlace}
    (h : DataW.trod enc Tryd.prog W 0 (fun _ => true) true fuel 23 cs = some x) (hsz : cs.length = 32) : ∃ A : List Int, cs = A.map (Value.int .u8) ∧ A.length = 32 ∧ ∀ k, 0 ≤ A.getD k 0 ∧ A.getD k 0 < 256 := by
  cases fuel with
  | zero => simp [DataW.trod] at h
  | succ m =>
    rw [DataW.trod_step] at h
    unfold DataW.trodStep at h
    simp only [Tryd.underlying23] at h
    rw [if_pos (by rw [cellsH]; exact hsz)] at h
    simp only [Option.map_eq_some_iff] at h
    obtain ⟨ys, hy, _⟩ := h
    have cell : ∀ i, i < 32 → ∃ a : Int, cs[i]? = some (.int .u8 a) ∧ (Lit.int .u8 a).wf = true := fun i hi => by
      obtain ⟨y, hyi⟩ := mapM_each _ _ hy i (by simpa using hi)
      obtain ⟨a, ea, _, wa⟩ := DataW.trod_int Tryd.underlying5 hyi
      refine ⟨a, ?_, wa⟩
      rw [cells5, Nat.mul_one] at ea
      have h0 := congrArg (·[0]?) ea
      simpa [List.getElem?_take, List.getElem?_drop] using h0
    refine ⟨cs.map intOf, ?_, by simp [hsz], fun i => ?_⟩
    · rw [List.map_map]
      apply List.ext_getElem?
      intro i
      rcases Nat.lt_or_ge i 32 with hi | hi
      · obtain ⟨a, ha, _⟩ := cell i hi
        rw [List.getElem?_map, ha]
        simp [intOf]
      · rw [List.getElem?_eq_none (by simpa [hsz] using hi), List.getElem?_eq_none (by simpa [hsz] using hi)]
    · rcases Nat.lt_or_ge i 32 with hi | hi
      · obtain ⟨a, ha, wa⟩ := cell i hi
        have e : (cs.map intOf).getD i 0 = a := by simp [List.getD, ha, intOf]
        rw [e]
        have := bounds_u8 wa
        omega
      · rw [List.getD, List.getElem?_eq_none (by simpa [hsz] using hi)]; simp
theorem trod_struct6 {H : Type} {enc : TypeId × Value → H} {P : Program} {w : World} {base : Nat} {spare : Nat → Bool} {held : Bool} {t : TypeId} {f0 f1 f2 f3 f4 f5 : Field} {fuel : Nat} {cs : List Value} {x : DataW H × List MemPlace} (ht : P.underlying t = some (.struct #[f0, f1, f2, f3, f4, f5])) (h : DataW.trod enc P w base spare held fuel t cs = some x) :
    ∃ y0 y1 y2 y3 y4 y5 n, cs.length = P.cellsOf t ∧ DataW.trod enc P w base spare held n f0.type ((cs.drop f0.offset).take (P.cellsOf f0.type)) = some y0 ∧
      DataW.trod enc P w base spare held n f1.type ((cs.drop f1.offset).take (P.cellsOf f1.type)) = some y1 ∧ DataW.trod enc P w base spare held n f2.type ((cs.drop f2.offset).take (P.cellsOf f2.type)) = some y2 ∧
      DataW.trod enc P w base spare held n f3.type ((cs.drop f3.offset).take (P.cellsOf f3.type)) = some y3 ∧ DataW.trod enc P w base spare held n f4.type ((cs.drop f4.offset).take (P.cellsOf f4.type)) = some y4 ∧ DataW.trod enc P w base spare held n f5.type ((cs.drop f5.offset).take (P.cellsOf f5.type)) = some y5 := by
  obtain ⟨xs, n, _, rfl, hl, hlen, hf⟩ := DataW.trod_struct ht h
  match xs, hlen with
  | [y0, y1, y2, y3, y4, y5], _ => exact ⟨y0, y1, y2, y3, y4, y5, n, hl, by simpa using hf 0 f0 rfl, by simpa using hf 1 f1 rfl, by simpa using hf 2 f2 rfl, by simpa using hf 3 f3 rfl, by simpa using hf 4 f4 rfl, by simpa using hf 5 f5 rfl⟩
theorem seven (cs : List Value) (h : cs.length = 37) : ∃ v0 v1 v2 r v4 v5, cs = v0 :: v1 :: v2 :: (r ++ [v4, v5]) ∧ r.length = 32 := by
  match cs, h with
  | v0 :: v1 :: v2 :: rest, h =>
    have hr : rest.length = 34 := by simpa using h
    have h1 : (rest.drop 32).length = 2 := by rw [List.length_drop, hr]
    match hd : rest.drop 32, h1 with
    | [v4, v5], _ =>
      refine ⟨v0, v1, v2, rest.take 32, v4, v5, ?_, by rw [List.length_take, hr]; rfl⟩
      rw [← hd, List.take_append_drop]
theorem i64b {n : Int} (h1 : -9223372036854775808 ≤ n) (h2 : n ≤ 9223372036854775807) : i64 n := ⟨h1, h2⟩
/-- The cells of a record that came in. -/
theorem rc_trod {H : Type} {enc : TypeId × Value → H} {W : World} {fuel : Nat} {cs : List Value} {x : DataW H × List MemPlace}
    (h : DataW.trod enc Tryd.prog W 0 (fun _ => true) true fuel 25 cs = some x) : ∃ y : Rc, cs = y.cells ∧ y.ok := by
  obtain ⟨y0, y1, y2, y3, y4, y5, n, hl, h0, h1, h2, h3, h4, h5⟩ := trod_struct6 Tryd.underlying25 h
  rw [cellsQ] at hl
  obtain ⟨v0, v1, v2, r, v4, v5, rfl, hr⟩ := seven cs hl
  simp only [cells9, cells5, cells3, cellsH] at h0 h1 h2 h3 h4 h5
  obtain ⟨k, e0, _, wk⟩ := DataW.trod_int Tryd.underlying5 h0
  obtain ⟨i, e1, _, wi⟩ := DataW.trod_int Tryd.underlying3 h1
  obtain ⟨p, e2, _, hp⟩ := DataW.trod_string Tryd.underlying9 h2
  have e3 : ((v0 :: v1 :: v2 :: (r ++ [v4, v5])).drop 3).take 32 = r := by
    show (r ++ [v4, v5]).take 32 = r
    exact List.take_left' hr
  rw [e3] at h3
  obtain ⟨A, rfl, hA, hb⟩ := hash_trod h3 hr
  have e4 : ((v0 :: v1 :: v2 :: (A.map (Value.int .u8) ++ [v4, v5])).drop 35).take 1 = [v4] := by
    show ((A.map (Value.int .u8) ++ [v4, v5]).drop 32).take 1 = [v4]
    rw [List.drop_left' hr]
    rfl
  have e5 : ((v0 :: v1 :: v2 :: (A.map (Value.int .u8) ++ [v4, v5])).drop 36).take 1 = [v5] := by
    show ((A.map (Value.int .u8) ++ [v4, v5]).drop 33).take 1 = [v5]
    rw [show 33 = 32 + 1 from rfl, ← List.drop_drop, List.drop_left' hr]
    rfl
  rw [e4] at h4
  rw [e5] at h5
  obtain ⟨n', e6, _, wn⟩ := DataW.trod_int Tryd.underlying3 h4
  obtain ⟨o, e7, _, wo⟩ := DataW.trod_int Tryd.underlying3 h5
  simp at e0 e1 e2 e6 e7
  subst e0 e1 e2 e6 e7
  have bk := bounds_u8 wk
  have bi := bounds_i64 wi
  have bn := bounds_i64 wn
  have bo := bounds_i64 wo
  exact ⟨⟨k, ⟨i, p, A, n', o⟩⟩, rfl, by show (0 : Int) ≤ k; omega, by show k < (256 : Int); omega, hA, hb, i64b (n := i) (by omega) (by omega), i64b (n := n') (by omega) (by omega), i64b (n := o) (by omega) (by omega)⟩
/-- Records that came in. -/
theorem recs_in {H : Type} {enc : TypeId × Value → H} {W : World} {base : Nat} {v : Value} {d : DataW H} {p : List MemPlace}
    (hval : Value.okWide Tryd.prog W .any base 39 v) (h : DataW.Trod enc Tryd.prog W 0 (fun _ => true) true 39 v d p) : ∃ l, RS W v l := by
  obtain ⟨a0, len0, cap0, rfl⟩ := okWide_slice Tryd.underlying39 hval
  obtain ⟨fuel, hf⟩ := h
  rcases open_slice Tryd.underlying39 hf with ⟨hcs, _⟩ | ⟨x, l, c, m, n, D, Pl, hcs, _, hl, hm, hmm, _, hall⟩
  · simp [Value.cells] at hcs
    obtain ⟨rfl, rfl, rfl⟩ := hcs
    exact ⟨[], RS.nil W⟩
  · simp [Value.cells] at hcs
    obtain ⟨rfl, rfl, rfl⟩ := hcs
    simp only [if_true] at hmm
    have each : ∀ i, i < len0 → ∃ q : Rc, (∀ j v, q.cells[j]? = some v → W.cell? (x.add (i * 37 + j)) = some v) ∧ q.ok := by
      intro i hi
      obtain ⟨cs', h1, h2⟩ := hall i (by omega)
      rw [cellsQ] at h1
      obtain ⟨_, hlen, hcell⟩ := World.cells?_some h1
      obtain ⟨y, rfl, hy⟩ := rc_trod h2
      refine ⟨y, fun j v hv => ?_, hy⟩
      have hj : j < 37 := by have := (List.getElem?_eq_some_iff.1 hv).1; rw [Rc.len hy] at this; exact this
      have c0 := hcell j (by omega)
      rw [add_add] at c0
      rw [c0]
      simpa using hv
    have : Inhabited Rc := ⟨rc0⟩
    obtain ⟨q, hq⟩ := choose_lt each
    have hlen : ((List.range len0).map q).length = len0 := by simp
    have hat : ∀ i, i < len0 → atR ((List.range len0).map q) i = q i := fun i hi => by simp [atR, List.getD, hi]
    have hok : ∀ y ∈ (List.range len0).map q, y.ok := fun y hy => by
      obtain ⟨i, hi, rfl⟩ := List.mem_map.1 hy
      exact (hq i (List.mem_range.1 hi)).2
    refine ⟨(List.range len0).map q, ⟨some x, cap0, by rw [List.length_map, hlen], by rw [List.length_map, hlen]; exact hl, hm, (fun e => by cases e), cl_rc hok, ?_⟩, hok⟩
    rcases Nat.eq_zero_or_pos len0 with h0 | h0
    · subst h0; exact .inl rfl
    · obtain ⟨b, off, spot⟩ := x
      have hspot : spot = none := by simpa [Addr.add] using World.cell?_spot ((hq 0 h0).1 0 _ rfl)
      subst hspot
      refine .inr ⟨b, off, rfl, fun i hi => ?_⟩
      rw [List.length_map, hlen] at hi
      rw [atC_rc _ i (by rw [hlen]; exact hi), hat i hi]
      intro j v hv
      have := (hq i hi).1 j v hv
      rw [Addr.add_lit, ← Nat.add_assoc] at this
      exact this
/-- A record that came in, by value. -/
theorem rec_in {H : Type} {enc : TypeId × Value → H} {W : World} {base : Nat} {v : Value} {d : DataW H} {p : List MemPlace}
    (hval : Value.okWide Tryd.prog W .any base 25 v) (h : DataW.Trod enc Tryd.prog W 0 (fun _ => true) true 25 v d p) : ∃ r : Rc, v = r.val ∧ r.ok := by
  obtain ⟨cs, rfl, hsz⟩ := okWide_struct Tryd.underlying25 hval
  obtain ⟨fuel, hf⟩ := h
  obtain ⟨y, hy, ho⟩ := rc_trod hf
  refine ⟨y, ?_, ho⟩
  unfold Rc.val
  congr 1
  apply Array.ext'
  exact hy
end Go.Proofs.YtpkobpdiddjnpaaDoor
namespace Go.Proofs.YtpkobpdiddjnpaaDoor
open Go.RowKit
set_option maxRecDepth 100000

theorem imgL_app (l m : List Pa) : imgL (l ++ m) = imgL l ++ imgL m := by simp [imgL]
theorem imgL_one (x : Pa) : imgL [x] = imgP x := by simp [imgL]
theorem take_succP (l : List Pa) (j : Nat) (h : j < l.length) : l.take (j + 1) = l.take j ++ [atP l j] := by
  rw [List.take_add_one, List.getElem?_eq_getElem h, atP_eq l j h]
  rfl
theorem imgP_len (x : Pa) : (imgP x).length ≤ 2 := by unfold imgP; split <;> simp
theorem imgL_len : ∀ (l : List Pa), (imgL l).length ≤ 2 * l.length
  | [] => by simp [imgL]
  | x :: l => by
    have e : imgL (x :: l) = imgP x ++ imgL l := by simp [imgL]
    rw [e, List.length_append, List.length_cons]
    have := imgP_len x
    have := imgL_len l
    omega
theorem beg_ok {x : Pa} (h : x.ok) : Rc.ok ⟨0, { x with o := 0 }⟩ := ⟨by show (0 : Int) ≤ 0; omega, by show (0 : Int) < 256; omega, h.1, h.2.1, h.2.2.1, h.2.2.2.1, i64_0⟩
theorem mrk_ok (k i o : Int) (hk : 0 ≤ k ∧ k < 256) (hi : i64 i) (ho : i64 o) : Rc.ok ⟨k, ⟨i, ⟨#[]⟩, z32, 0, o⟩⟩ := ⟨hk.1, hk.2, z32_len, z32_bytes, hi, i64_0, ho⟩
theorem img_i {l : List Pa} (h : ∀ x ∈ l, x.i ≤ 4611686018427387904) : ∀ r ∈ imgL l, r.x.i ≤ 4611686018427387904 := fun r hr => by
  unfold imgL at hr
  rw [List.mem_flatten] at hr
  obtain ⟨c, hc, hr⟩ := hr
  obtain ⟨x, hx, rfl⟩ := List.mem_map.1 hc
  have := h x hx
  unfold imgP at hr
  split at hr
  · simp only [List.mem_cons, List.not_mem_nil, or_false] at hr
    rcases hr with rfl | rfl <;> exact this
  · simp only [List.mem_cons, List.not_mem_nil, or_false] at hr
    subst hr
    exact this
set_option maxHeartbeats 4000000 in
theorem image_any (v : Value) (s : Ste) (w : World) (h : PS w v s.l) (hl : s.l.length ≤ 1000) (hi : ∀ x ∈ s.l, x.i ≤ 4611686018427387904) (hn : -4611686018427387904 ≤ s.n ∧ s.n ≤ 4611686018427387904) :
    Calls Tryd.prog 22 #[.agg #[v, .int .i64 s.n]] w fun e w' => ∃ v', e = .returned v' ∧ RR w' w.heap.size v' (img s) ∧ Below w.heap.size w w' := by
  obtain ⟨a, c, rfl, h2, h3, h4⟩ := h.shape
  obtain ⟨W0, hW0⟩ : ∃ W0, W0 = w.alloc (.cells #[.slice a s.l.length c, .int .i64 s.n] 43) := ⟨_, rfl⟩
  have b0 : Below w.heap.size w W0 := by rw [hW0]; exact al_below _ _
  have z0 : W0.heap.size = w.heap.size + 1 := by rw [hW0]; simp
  have g0 : W0.heap[w.heap.size]? = some (.cells #[.slice a s.l.length c, .int .i64 s.n] 43 (0, 0)) := by rw [hW0]; exact heap_alloc_new _ _
  have G0 : Hid (∀ W, Below W0.heap.size W0 W → W.cell? ⟨w.heap.size, 0, none⟩ = some (.slice a s.l.length c) ∧ W.cell? ⟨w.heap.size, 1, none⟩ = some (.int .i64 s.n) ∧ Below w.heap.size w W ∧ PS W (.slice a s.l.length c) s.l) := fun W hb => by
    have g := blk_kept g0 hb (by omega)
    have bw := b0.trans (hb.mono b0.size)
    exact ⟨by simp [World.cell?, g], by simp [World.cell?, g], bw, h.kept bw⟩
  have HOK : Hid (∀ x ∈ s.l, x.ok) := h.2
  have HIM : Hid (img s = imgL s.l ++ (if (play st0 (imgL s.l)).1.n < s.n then [⟨4, ⟨s.n - 1, ⟨#[]⟩, z32, 0, 0⟩⟩] else [])) := rfl
  have CP : Hid (∀ W v', RR W W0.heap.size v' (imgL s.l) → Calls Tryd.prog 16 #[v'] W fun e w' => ∃ v2, e = .returned (.tuple #[.agg #[v2, .int .i64 (play st0 (imgL s.l)).1.n], .int .i64 ((play st0 (imgL s.l)).2 : Nat)]) ∧ RP w' W.heap.size v2 (play st0 (imgL s.l)).1.l ∧ Below W.heap.size W w') := fun W v' hr => by
    have := imgL_len s.l
    exact play_any v' (imgL s.l) W hr.is (by omega) (img_i hi)
  have HSN : Hid (i64 (s.n - 1)) := by unfold Hid i64; omega
  have yw : wrap64 (s.n - 1) = s.n - 1 := by unfold wrap64; omega
  have yp : IntKind.i64.wrap (s.n - 1) = s.n - 1 := by rw [IntKind.wrap_i64]; omega
  obtain ⟨x0, x1, -, -⟩ := G0.out W0 (Below.refl _ _)
  have hlen := hl
  obtain ⟨n, hn'⟩ : ∃ n, n = s.l.length := ⟨_, rfl⟩
  have HN : Hid (n = s.l.length) := hn'
  have HSZ : Hid (w.heap.size ≤ W0.heap.size) := by unfold Hid; omega
  have hw0 := hW0.symm
  rw [← hn'] at h2 hlen G0 hw0 x0 ⊢
  clear h hl h3 h4 hn' hW0 b0 z0 g0 hi hn
  generalize img s = R at *
  generalize play st0 (imgL s.l) = PR at *
  go_enter Tryd.func22, Tryd.ntmps22
  go_wp2_with fail
  clear hw0 x0 x1
  go_loopw [3, 11] (fun s3 z wr => ∃ j : Nat, j ≤ n ∧ z = .int .i64 j ∧ RR wr W0.heap.size s3 (imgL (s.l.take j)) ∧ Below W0.heap.size W0 wr) (fun _ z _ => n - (intOf z).toNat)
  case atStart => exact ⟨0, by omega, rfl, RRt.nil _ _ _, Below.refl _ _⟩
  case round =>
    obtain ⟨j, hj, rfl, rr, bel⟩ := hrel
    have HB : Hid (Below W0.heap.size W0 wr) := bel
    have HR : Hid (RR wr W0.heap.size u3 (imgL (s.l.take j))) := rr
    obtain ⟨ra, rc, e3, -, -, -⟩ := rr.is.shape
    obtain ⟨-, -, bw, ps⟩ := G0.out wr bel
    clear bel rr
    by_cases hlt : j < n
    · have lt2 : (j : Int) < (n : Int) := by omega
      obtain ⟨b, off, rfl, hr⟩ := ps.at j (by rw [← HN.out]; exact hlt)
      have hx : (atP s.l j).ok := Pa.at s.l HOK.out j
      have HT : Hid (imgL (s.l.take (j + 1)) = imgL (s.l.take j) ++ imgP (atP s.l j)) := by unfold Hid; rw [take_succP s.l j (by rw [← HN.out]; exact hlt), imgL_app, imgL_one]
      have HLL : Hid ((imgL (s.l.take j)).length ≤ 2000) := by
        unfold Hid
        have h1 := imgL_len (s.l.take j)
        rw [List.length_take] at h1
        omega
      generalize imgL (s.l.take j) = LL at *
      generalize atP s.l j = x at *
      have RN : Hid (wr.rangeAt b (off + j * 36) x.cells) := hr
      have ZP : Hid ((Tryd.prog.info? 58).map (·.size) = some x.cells.length) := Pa.infoL x hx
      have HI : Hid ((Tryd.prog.info? 58).map (·.size) = some x.cells.toArray.size) := Pa.infoA x hx
      have HE2 : Hid (pzc.size = x.cells.toArray.size) := pzc_size.trans (Pa.size x hx).symm
      have H1 : Hid (x.cells.toArray.all (·.oneCell') = true) := Pa.ones x
      obtain ⟨W2, hW2⟩ : ∃ W2, W2 = wr.alloc (.cells x.cells.toArray 58) := ⟨_, rfl⟩
      have b2 : Below wr.heap.size wr W2 := by rw [hW2]; exact al_below _ _
      have r2 : W2.rangeAt wr.heap.size 0 x.cells := by rw [hW2]; exact pa_new wr x
      have g2 : W2.heap[wr.heap.size]? = some (.cells x.cells.toArray 58 (0, 0)) := by rw [hW2]; exact heap_alloc_new _ _
      have e1 := alloc_pa wr x
      rw [← hW2] at e1
      have HE1 : Hid ((wr.alloc (.cells #[.int .i64 0, .string ⟨#[]⟩, .int .u8 0, .int .u8 0, .int .u8 0, .int .u8 0, .int .u8 0, .int .u8 0, .int .u8 0, .int .u8 0, .int .u8 0, .int .u8 0, .int .u8 0, .int .u8 0, .int .u8 0, .int .u8 0, .int .u8 0, .int .u8 0, .int .u8 0, .int .u8 0, .int .u8 0, .int .u8 0, .int .u8 0, .int .u8 0, .int .u8 0, .int .u8 0, .int .u8 0, .int .u8 0, .int .u8 0, .int .u8 0, .int .u8 0, .int .u8 0, .int .u8 0, .int .u8 0, .int .i64 0, .int .i64 0] 58)).setRow wr.heap.size x.cells.toArray = W2) := e1
      obtain ⟨k0, k1, k3, k4, k5⟩ := paC r2 hx
      simp only [Nat.zero_add] at k0 k1 k3 k4 k5
      have K3 : Hid (W2.rangeAt wr.heap.size 2 (x.s.map (Value.int .u8))) := k3
      have HZH : Hid ((Tryd.prog.info? 23).map (·.size) = some (x.s.map (Value.int .u8)).length) := by unfold Hid; rw [sizeHs, List.length_map, hx.1]
      obtain ⟨y, hy⟩ : ∃ y : Rc, y = ⟨0, { x with o := 0 }⟩ := ⟨_, rfl⟩
      have HYO : Hid y.ok := by unfold Hid; rw [hy]; exact beg_ok hx
      have BY : Hid (Tryd.prog.built 33 [(0, .int .u8 0), (1, .int .i64 x.i), (2, .string x.p), (3, .agg (x.s.map (Value.int .u8)).toArray), (4, .int .i64 x.n)] = some y.cells.toArray) := by unfold Hid; rw [hy]; exact bRB 0 x.i x.n x.p x.s hx.1
      have HIP : Hid (imgP x = y :: (if 0 < x.o then [⟨1, ⟨x.i, ⟨#[]⟩, z32, 0, x.o⟩⟩] else [])) := by unfold Hid; rw [hy]; rfl
      have B2 : Hid (Below W0.heap.size W0 W2) := HB.out.trans (b2.mono HB.out.size)
      have R2 : Hid (RR W2 W0.heap.size u3 LL) := HR.out.below b2
      have HXO : Hid (i64 x.i ∧ i64 x.o) := ⟨hx.2.2.1, hx.2.2.2.2⟩
      obtain ⟨W3, hW3⟩ : ∃ W3, W3 = W2.alloc (.cells y.cells.toArray 33) := ⟨_, rfl⟩
      have b3 : Below W2.heap.size W2 W3 := by rw [hW3]; exact al_below _ _
      have K3b : Hid (W3.rangeAt W2.heap.size 0 y.cells) := by unfold Hid; rw [hW3]; exact rc_new W2 y
      have B3 : Hid (Below W0.heap.size W0 W3) := B2.out.trans (b3.mono B2.out.size)
      have R3 : Hid (RR W3 W0.heap.size u3 LL) := R2.out.below b3
      have GX : Hid (∀ W, Below W0.heap.size W3 W → (W.heap[wr.heap.size]? = W3.heap[wr.heap.size]?) → W.cell? ⟨wr.heap.size, 35, none⟩ = some (.int .i64 x.o) ∧ W.cell? ⟨wr.heap.size, 0, none⟩ = some (.int .i64 x.i)) := fun W _ he => by
        have g3 : W.heap[wr.heap.size]? = some (.cells x.cells.toArray 58 (0, 0)) := he.trans (blk_kept g2 b3 (blk_lt g2))
        obtain ⟨q0, -, -, -, q5⟩ := paC (blk_range g3) hx
        simp only [Nat.zero_add] at q0 q5
        exact ⟨q5, q0⟩
      have HLTW : Hid (wr.heap.size < W3.heap.size ∧ W3.heap[wr.heap.size]? = some (.cells x.cells.toArray 58 (0, 0))) := ⟨Nat.lt_of_lt_of_le (blk_lt g2) b3.size, blk_kept g2 b3 (blk_lt g2)⟩
      subst e3
      obtain ⟨ln, hln⟩ : ∃ ln, ln = LL.length := ⟨_, rfl⟩
      rw [← hln] at HR R2 R3 ⊢
      clear hr hx e1 hW2 b2 r2 g2 b3 bw ps hln hy k3
      go_wp2_with (refine wpList_load_mid rfl 58 _ rfl b (off + j * 36) rfl x.cells _ RN.out Tryd.underlying58 rfl ZP.out (Hid.out ?_))
      unfold Hid
      go_wp2_with (refine wpList_store_row rfl 58 _ _ rfl wr.heap.size x.cells.toArray rfl rfl 58 pzc (new_pa wr) HI.out HE2.out H1.out (Hid.out ?_))
      unfold Hid
      rw [HE1.out]
      clear HE1 RN
      go_wp2_with (first
        | refine wpList_load_mid rfl 23 _ rfl wr.heap.size 2 rfl (x.s.map (Value.int .u8)) _ K3.out Tryd.underlying23 rfl HZH.out ?_
        | refine wpList_built rfl 33 _ rfl [(0, .int .u8 0), (1, .int .i64 x.i), (2, .string x.p), (3, .agg (x.s.map (Value.int .u8)).toArray), (4, .int .i64 x.n)] rfl y.cells.toArray BY.out ?_
        | refine wpList_bsR rfl _ rfl y HYO.out rfl (Hid.out ?_))
      unfold Hid
      rw [← hW3]
      clear hW3 k0 k1 k4 k5
      go_wp2_with (at_builtin; refine wpList_append_it rfl _ _ 40 33 37 80 rc0.val rfl Tryd.underlying40 infoR (by simp [Rc.val, Value.cells, Rc.len rc0_ok]) (by decide) (by decide) W0.heap.size _ (LL.map Rc.cells) rfl R3.out.1 W2.heap.size y.cells 1 (Rc.len HYO.out) y.one rfl K3b.out (by rw [List.length_map]; have := HLL.out; omega) B3.out.size (Hid.out ?_))
      unfold Hid
      intro v4 w4 r4 g4
      have r4' : RR w4 W0.heap.size v4 (LL ++ [y]) := R3.out.one HYO.out r4
      have b34 : Below W0.heap.size W3 w4 := (Below.refl W0.heap.size W3).grown g4 B3.out.size (own_base R3.out.1.1)
      have e4 : w4.heap[wr.heap.size]? = W3.heap[wr.heap.size]? := g4.block _ HLTW.out.1 (fun e => own_ne R3.out.1.1 HLTW.out.2 (by decide) e.symm)
      obtain ⟨q5, q0⟩ := GX.out w4 b34 e4
      have B4 : Hid (Below W0.heap.size W0 w4) := B3.out.trans b34
      have R4 : Hid (RR w4 W0.heap.size v4 (LL ++ [y])) := r4'
      have HL4 : Hid ((LL ++ [y]).length ≤ 2001) := by unfold Hid; rw [List.length_append, List.length_singleton]; have := HLL.out; omega
      obtain ⟨a4, c4, e4', -, -, -⟩ := r4'.is.shape
      subst e4'
      clear r4 g4 r4' b34 e4 K3b B3 R3 GX HLTW R2 B2 HR HB
      obtain ⟨z, hz⟩ : ∃ z : Rc, z = ⟨1, ⟨x.i, ⟨#[]⟩, z32, 0, x.o⟩⟩ := ⟨_, rfl⟩
      have HZO : Hid z.ok := by unfold Hid; rw [hz]; exact mrk_ok 1 x.i x.o (by omega) HXO.out.1 HXO.out.2
      have BZ : Hid (Tryd.prog.built 33 [(0, .int .u8 1), (1, .int .i64 x.i), (5, .int .i64 x.o)] = some z.cells.toArray) := by unfold Hid; rw [hz]; exact bRM 1 x.i x.o
      have HTa : Hid (0 < x.o → imgL (s.l.take (j + 1)) = (LL ++ [y]) ++ [z]) := fun h => by rw [HT.out, HIP.out, if_pos h, hz]; simp
      have HTb : Hid (¬ 0 < x.o → imgL (s.l.take (j + 1)) = LL ++ [y]) := fun h => by rw [HT.out, HIP.out, if_neg h]
      clear hz HT HIP
      generalize LL ++ [y] = L4 at *
      obtain ⟨l4, hl4⟩ : ∃ l4, l4 = L4.length := ⟨_, rfl⟩
      rw [← hl4] at R4 ⊢
      clear hl4
      by_cases hxo : 0 < x.o
      · have dxo : decide (0 < x.o) = true := by simpa using hxo
        have HT5 : Hid (imgL (s.l.take (j + 1)) = L4 ++ [z]) := HTa.out hxo
        obtain ⟨W5, hW5⟩ : ∃ W5, W5 = w4.alloc (.cells z.cells.toArray 33) := ⟨_, rfl⟩
        have b5 : Below w4.heap.size w4 W5 := by rw [hW5]; exact al_below _ _
        have K5 : Hid (W5.rangeAt w4.heap.size 0 z.cells) := by unfold Hid; rw [hW5]; exact rc_new w4 z
        have B5 : Hid (Below W0.heap.size W0 W5) := B4.out.trans (b5.mono B4.out.size)
        have R5 : Hid (RR W5 W0.heap.size (.slice a4 l4 c4) L4) := R4.out.below b5
        clear b5 B4 R4 HTa HTb
        go_wp2_with (first
          | refine wpList_built rfl 33 _ rfl [(0, .int .u8 1), (1, .int .i64 x.i), (5, .int .i64 x.o)] rfl z.cells.toArray BZ.out ?_
          | refine wpList_bsR rfl _ rfl z HZO.out rfl (Hid.out ?_))
        unfold Hid
        rw [← hW5]
        clear hW5
        go_wp2_with (at_builtin; refine wpList_append_it rfl _ _ 40 33 37 80 rc0.val rfl Tryd.underlying40 infoR (by simp [Rc.val, Value.cells, Rc.len rc0_ok]) (by decide) (by decide) W0.heap.size _ (L4.map Rc.cells) rfl R5.out.1 w4.heap.size z.cells 1 (Rc.len HZO.out) z.one rfl K5.out (by rw [List.length_map]; have := HL4.out; omega) B5.out.size (Hid.out ?_))
        unfold Hid
        intro v6 w6 r6 g6
        have B6 : Hid (Below W0.heap.size W0 w6) := B5.out.grown g6 B5.out.size (own_base R5.out.1.1)
        have R6 : Hid (RR w6 W0.heap.size v6 (imgL (s.l.take (j + 1)))) := by unfold Hid; rw [HT5.out]; exact R5.out.one HZO.out r6
        obtain ⟨a6, c6, e6, -, -, -⟩ := R6.out.is.shape
        subst e6
        clear r6 g6 B5 R5 K5 HT5
        obtain ⟨n6, hn6⟩ : ∃ n6, n6 = (imgL (s.l.take (j + 1))).length := ⟨_, rfl⟩
        rw [← hn6] at R6 ⊢
        clear hn6
        go_wp2
        go_roundw
        case rel => exact ⟨j + 1, by omega, by go_num, R6.out, B6.out⟩
        case measure => simp [intOf]; omega
      · have dxo : decide (0 < x.o) = false := by simpa using hxo
        have R6 : Hid (RR w4 W0.heap.size (.slice a4 l4 c4) (imgL (s.l.take (j + 1)))) := by unfold Hid; rw [HTb.out hxo]; exact R4.out
        clear HTa HTb R4
        go_wp2
        go_roundw
        case rel => exact ⟨j + 1, by omega, by go_num, R6.out, B4.out⟩
        case measure => simp [intOf]; omega
    · obtain rfl : j = n := by omega
      have hall : s.l.take j = s.l := by rw [HN.out, List.take_length]
      have HR2 : Hid (RR wr W0.heap.size u3 (imgL s.l)) := by have := HR.out; rw [hall] at this; exact this
      have cp := CP.out wr u3 HR2.out
      have HLL : Hid ((imgL s.l).length ≤ 2000) := by
        unfold Hid
        have h1 := imgL_len s.l
        have := HN.out
        omega
      have r3 := HR2.out.is.shape
      obtain ⟨ra', rc', e3', -, -, -⟩ := r3
      subst e3'
      clear HR e3 ps hall
      generalize imgL s.l = LL at *
      obtain ⟨ln, hln⟩ : ∃ ln, ln = LL.length := ⟨_, rfl⟩
      rw [← hln] at HR2 cp ⊢
      clear hln CP
      go_wp2_with fail
      refine cp.mono ?_
      rintro e w2 ⟨v2, rfl, p2, b2⟩
      have B2 : Hid (Below W0.heap.size W0 w2) := HB.out.trans (b2.mono HB.out.size)
      have R2 : Hid (RR w2 W0.heap.size (.slice ra' ln rc') LL) := HR2.out.below b2
      obtain ⟨va, vc, rfl, -, -, -⟩ := p2.is.shape
      clear cp p2 b2 HR2 HB bw
      generalize PR.1.l.length = pn at *
      obtain ⟨W3, hW3⟩ : ∃ W3, W3 = w2.alloc (.cells #[.slice va pn vc, .int .i64 PR.1.n] 43) := ⟨_, rfl⟩
      have b3 : Below w2.heap.size w2 W3 := by rw [hW3]; exact al_below _ _
      have g3 : W3.heap[w2.heap.size]? = some (.cells #[.slice va pn vc, .int .i64 PR.1.n] 43 (0, 0)) := by rw [hW3]; exact heap_alloc_new _ _
      have m1 : W3.cell? ⟨w2.heap.size, 1, none⟩ = some (.int .i64 PR.1.n) := by simp [World.cell?, g3]
      have HE1 : Hid ((w2.alloc (.cells #[.slice none 0 0, .int .i64 0] 43)).setRow w2.heap.size #[.slice va pn vc, .int .i64 PR.1.n] = W3) := by unfold Hid; rw [hW3]; exact World.setRow_alloc_new _ _ _ _
      have B3 : Hid (Below W0.heap.size W0 W3) := B2.out.trans (b3.mono B2.out.size)
      have R3 : Hid (RR W3 W0.heap.size (.slice ra' ln rc') LL) := R2.out.below b3
      obtain ⟨-, x1, bw3, -⟩ := G0.out W3 B3.out
      have BW3 : Hid (Below w.heap.size w W3) := bw3
      clear hW3 b3 g3 B2 R2 bw3
      generalize PR.1.n = pq at *
      go_wp2_with (refine wpList_store_row rfl 43 _ _ rfl w2.heap.size #[.slice va pn vc, .int .i64 pq] rfl rfl 43 #[.slice none 0 0, .int .i64 0] (new_st w2) sizeT rfl (st_ones _ _ _ _) (Hid.out ?_))
      unfold Hid
      rw [HE1.out]
      clear HE1
      by_cases hlt2 : pq < s.n
      · have d2 : decide (pq < s.n) = true := by simpa using hlt2
        obtain ⟨z, hz⟩ : ∃ z : Rc, z = ⟨4, ⟨s.n - 1, ⟨#[]⟩, z32, 0, 0⟩⟩ := ⟨_, rfl⟩
        have HZO : Hid z.ok := by unfold Hid; rw [hz]; exact mrk_ok 4 _ 0 (by omega) HSN.out i64_0
        have BZ : Hid (Tryd.prog.built 33 [(0, .int .u8 4), (1, .int .i64 (s.n - 1))] = some z.cells.toArray) := by unfold Hid; rw [hz]; exact bRS 4 (s.n - 1)
        have HRR : Hid (R = LL ++ [z]) := by unfold Hid; rw [HIM.out, if_pos hlt2, hz]
        obtain ⟨W5, hW5⟩ : ∃ W5, W5 = W3.alloc (.cells z.cells.toArray 33) := ⟨_, rfl⟩
        have b5 : Below W3.heap.size W3 W5 := by rw [hW5]; exact al_below _ _
        have K5 : Hid (W5.rangeAt W3.heap.size 0 z.cells) := by unfold Hid; rw [hW5]; exact rc_new W3 z
        have B5 : Hid (Below W0.heap.size W0 W5) := B3.out.trans (b5.mono B3.out.size)
        have R5 : Hid (RR W5 W0.heap.size (.slice ra' ln rc') LL) := R3.out.below b5
        clear b5 B3 R3 hz HIM
        go_wp2_with (first
          | refine wpList_built rfl 33 _ rfl [(0, .int .u8 4), (1, .int .i64 (s.n - 1))] rfl z.cells.toArray BZ.out ?_
          | refine wpList_bsR rfl _ rfl z HZO.out rfl (Hid.out ?_))
        unfold Hid
        rw [← hW5]
        clear hW5
        go_wp2_with (at_builtin; refine wpList_append_it rfl _ _ 40 33 37 80 rc0.val rfl Tryd.underlying40 infoR (by simp [Rc.val, Value.cells, Rc.len rc0_ok]) (by decide) (by decide) W0.heap.size _ (LL.map Rc.cells) rfl R5.out.1 W3.heap.size z.cells 1 (Rc.len HZO.out) z.one rfl K5.out (by rw [List.length_map]; have := HLL.out; omega) B5.out.size (Hid.out ?_))
        unfold Hid
        intro v6 w6 r6 g6
        have b6 : Below W0.heap.size W0 w6 := B5.out.grown g6 B5.out.size (own_base R5.out.1.1)
        have B6 : Hid (Below w.heap.size w w6) := (G0.out w6 b6).2.2.1
        have R6 : Hid (RR w6 w.heap.size v6 R) := by unfold Hid; rw [HRR.out]; exact (R5.out.one HZO.out r6).mono HSZ.out
        obtain ⟨a6, c6, e6, -, -, -⟩ := R6.out.is.shape
        subst e6
        clear r6 g6 B5 R5 K5 b6
        generalize R.length = rl at *
        go_wp2
        go_ret
        exact ⟨_, rfl, R6.out, B6.out⟩
      · have d2 : decide (pq < s.n) = false := by simpa using hlt2
        have R6 : Hid (RR W3 w.heap.size (.slice ra' ln rc') R) := by unfold Hid; rw [HIM.out, if_neg hlt2, List.append_nil]; exact R3.out.mono HSZ.out
        clear HIM R3
        go_wp2
        go_ret
        exact ⟨_, rfl, R6.out, BW3.out⟩
end Go.Proofs.YtpkobpdiddjnpaaDoor
namespace Go.Proofs.YtpkobpdiddjnpaaDoor
open Go.RowKit
set_option maxRecDepth 100000

/-- A part that may be. -/
def PO (x : Pa) : Prop := chk (dl x.p) = 0 ∧ res (dl x.p) = false ∧ 0 ≤ x.n ∧ x.n ≤ 65536 ∧ 0 ≤ x.o ∧ x.o ≤ x.n ∧ 0 ≤ x.i
structure Inv (s : Ste) : Prop where
  ok : ∀ x ∈ s.l, x.ok
  po : ∀ x ∈ s.l, PO x
  lt : ∀ x ∈ s.l, x.i < s.n
  up : s.l.Pairwise (fun x y => x.i < y.i)
  un : s.l.Pairwise (fun x y => x.p ≠ y.p)
  ln : s.l.length ≤ 64
  n0 : 0 ≤ s.n
  n1 : s.n ≤ 1099511627777
theorem inv0 : Inv st0 := ⟨fun x h => by simp [st0] at h, fun x h => by simp [st0] at h, fun x h => by simp [st0] at h, List.Pairwise.nil, List.Pairwise.nil, by simp [st0], by simp [st0], by simp [st0]⟩
theorem inF_iff {n : Int} : inF n = true ↔ 0 ≤ n ∧ n ≤ 65536 := by unfold inF; simp
/-- What Check's OK says. -/
theorem rck_ok {r : Rc} (h : rck r = 0) : r.k ≤ 4 ∧ 0 ≤ r.x.i ∧ r.x.i ≤ 1099511627776 ∧ ckf r = 0 ∧ 0 ≤ r.x.o ∧ r.x.o ≤ 65536 := by
  unfold rck at h
  split at h
  · cases h
  · rename_i h1
    split at h
    · rename_i h2; exact absurd h h2
    · rename_i h2
      split at h
      · cases h
      · rename_i h3
        have h3' : inF r.x.o = true := by cases hq : inF r.x.o <;> simp_all
        have := inF_iff.1 h3'
        exact ⟨by omega, by omega, by omega, by omega, this.1, this.2⟩
theorem ckf_beg {r : Rc} (h : ckf r = 0) (hk : r.k = 0) : chk (dl r.x.p) = 0 ∧ res (dl r.x.p) = false ∧ 0 ≤ r.x.n ∧ r.x.n ≤ 65536 := by
  unfold ckf at h
  rw [if_pos hk] at h
  split at h
  · rename_i h1; exact absurd h h1
  · rename_i h1
    split at h
    · cases h
    · rename_i h2
      split at h
      · rename_i h3
        have := inF_iff.1 h3
        exact ⟨by omega, by cases hq : res (dl r.x.p) <;> simp_all, this.1, this.2⟩
      · cases h
theorem fnd_no {l : List Pa} {q : ByteArray} (h : (fnd l q).isSome = false) : ∀ x ∈ l, x.p ≠ q := fun x hx e => by
  have h1 : fnd l q = none := by cases hf : fnd l q <;> simp_all
  unfold fnd at h1
  rw [List.find?_eq_none] at h1
  have := h1 x hx
  simp [e] at this
theorem plc_at {l : List Pa} {i : Int} (h : plc l i < l.length) : (atP l (plc l i)).i = i := by
  unfold plc at h ⊢
  rw [atP_eq l _ h]
  have := List.findIdx_getElem (w := h)
  simpa using this
theorem pw_set {R : Pa → Pa → Prop} {l : List Pa} {k : Nat} {y : Pa} (h : l.Pairwise R) (hk : k < l.length) (h1 : ∀ z, R z (atP l k) → R z y) (h2 : ∀ z, R (atP l k) z → R y z) : (l.set k y).Pairwise R := by
  rw [List.pairwise_iff_getElem] at h ⊢
  intro i j hi hj hij
  rw [List.length_set] at hi hj
  have hb := h i j hi hj hij
  rw [atP_eq l k hk] at h1 h2
  rw [List.getElem_set, List.getElem_set]
  split
  · rename_i e
    subst e
    rw [if_neg (by omega)]
    exact h2 _ hb
  · split
    · rename_i e
      subst e
      exact h1 _ hb
    · exact hb
theorem inv_step {s t : Ste} {r : Rc} (h : Inv s) (hr : r.ok) (hc : rck r = 0) (ht : step s r = some t) : Inv t := by
  obtain ⟨c1, c2, c3, c4, c5, c6⟩ := rck_ok hc
  unfold step at ht
  split at ht
  · rename_i hk
    split at ht
    · cases ht
    · rename_i hn
      cases ht
      have hf : (fnd s.l r.x.p).isSome = false := by cases hq : (fnd s.l r.x.p).isSome <;> simp_all
      have hu := fnd_no hf
      obtain ⟨d1, d2, d3, d4⟩ := ckf_beg c4 hk
      have hlt : ¬ r.x.i < s.n := fun q => hn (.inr (.inr q))
      have h64 : ¬ 64 ≤ s.l.length := fun q => hn (.inr (.inl q))
      have mem : ∀ x ∈ s.l ++ [({ r.x with o := 0 } : Pa)], x ∈ s.l ∨ x = { r.x with o := 0 } := fun x hx => by
        rcases List.mem_append.1 hx with q | q
        · exact .inl q
        · exact .inr (by simpa using q)
      refine ⟨fun x hx => ?_, fun x hx => ?_, fun x hx => ?_, ?_, ?_, ?_, ?_, ?_⟩
      · rcases mem x hx with q | rfl
        · exact h.ok x q
        · exact ⟨hr.2.2.1, hr.2.2.2.1, hr.2.2.2.2.1, hr.2.2.2.2.2.1, i64_0⟩
      · rcases mem x hx with q | rfl
        · exact h.po x q
        · exact ⟨d1, d2, d3, d4, Int.le_refl 0, d3, c2⟩
      · rcases mem x hx with q | rfl
        · have := h.lt x q
          show x.i < r.x.i + 1
          omega
        · show r.x.i < r.x.i + 1
          omega
      · show (s.l ++ [_]).Pairwise _
        rw [List.pairwise_append]
        refine ⟨h.up, List.pairwise_singleton _ _, fun x hx y hy => ?_⟩
        simp at hy
        subst hy
        have := h.lt x hx
        show x.i < r.x.i
        omega
      · show (s.l ++ [_]).Pairwise _
        rw [List.pairwise_append]
        refine ⟨h.un, List.pairwise_singleton _ _, fun x hx y hy => ?_⟩
        simp at hy
        subst hy
        exact hu x hx
      · show (s.l ++ [_]).length ≤ 64
        rw [List.length_append, List.length_singleton]
        omega
      · show 0 ≤ r.x.i + 1
        omega
      · show r.x.i + 1 ≤ _
        omega
  · split at ht
    · split at ht
      · rename_i h3
        cases ht
        obtain ⟨a1, a2, a3⟩ := h3
        have hm := atP_mem s.l _ a1
        have pk := h.po _ hm
        have ok := h.ok _ hm
        have mem : ∀ x ∈ s.l.set (plc s.l r.x.i) { atP s.l (plc s.l r.x.i) with o := r.x.o }, x ∈ s.l ∨ x = { atP s.l (plc s.l r.x.i) with o := r.x.o } := fun x hx => List.mem_or_eq_of_mem_set hx
        refine ⟨fun x hx => ?_, fun x hx => ?_, fun x hx => ?_, ?_, ?_, ?_, h.n0, h.n1⟩
        · rcases mem x hx with q | rfl
          · exact h.ok x q
          · exact ⟨ok.1, ok.2.1, ok.2.2.1, ok.2.2.2.1, hr.2.2.2.2.2.2⟩
        · rcases mem x hx with q | rfl
          · exact h.po x q
          · exact ⟨pk.1, pk.2.1, pk.2.2.1, pk.2.2.2.1, c5, a3, pk.2.2.2.2.2.2⟩
        · rcases mem x hx with q | rfl
          · exact h.lt x q
          · exact h.lt (atP s.l (plc s.l r.x.i)) hm
        · exact pw_set h.up a1 (fun z q => q) (fun z q => q)
        · exact pw_set h.un a1 (fun z q => q) (fun z q => q)
        · show (s.l.set _ _).length ≤ 64
          rw [List.length_set]
          exact h.ln
      · cases ht
    · split at ht
      · split at ht
        · cases ht
          have hs : (s.l.eraseIdx (plc s.l r.x.i)).Sublist s.l := List.eraseIdx_sublist _ _
          refine ⟨fun x hx => h.ok x (hs.subset hx), fun x hx => h.po x (hs.subset hx), fun x hx => h.lt x (hs.subset hx), h.up.sublist hs, h.un.sublist hs, Nat.le_trans hs.length_le h.ln, h.n0, h.n1⟩
        · cases ht
      · split at ht
        · split at ht
          · cases ht
          · rename_i hn
            cases ht
            refine ⟨h.ok, h.po, fun x hx => ?_, h.up, h.un, h.ln, ?_, ?_⟩
            · have := h.lt x hx
              show x.i < r.x.i + 1
              omega
            · show 0 ≤ r.x.i + 1
              omega
            · show r.x.i + 1 ≤ _
              omega
        · cases ht
end Go.Proofs.YtpkobpdiddjnpaaDoor
namespace Go.Proofs.YtpkobpdiddjnpaaDoor
open Go.RowKit
set_option maxRecDepth 100000

def nx (m : Int) : List Pa → Int
  | [] => m
  | x :: l => nx (x.i + 1) l
theorem nx_le {m n : Int} : ∀ (l : List Pa), m ≤ n → (∀ x ∈ l, x.i < n) → nx m l ≤ n
  | [], h, _ => h
  | x :: l, _, h => nx_le (m := x.i + 1) l (by have := h x (by simp); omega) (fun y hy => h y (by simp [hy]))
theorem nx_ge : ∀ (l : List Pa) (m : Int), 0 ≤ m → (∀ x ∈ l, 0 ≤ x.i) → 0 ≤ nx m l
  | [], _, h, _ => h
  | x :: l, _, _, h => nx_ge l (x.i + 1) (by have := h x (by simp); omega) (fun y hy => h y (by simp [hy]))
theorem step_beg {l1 : List Pa} {m : Int} {x : Pa} (h1 : ∀ y ∈ l1, y.p ≠ x.p) (h2 : l1.length < 64) (h3 : m ≤ x.i) : step ⟨l1, m⟩ ⟨0, { x with o := 0 }⟩ = some ⟨l1 ++ [{ x with o := 0 }], x.i + 1⟩ := by
  have hf : fnd l1 x.p = none := by
    unfold fnd
    rw [List.find?_eq_none]
    intro y hy
    simpa using h1 y hy
  unfold step
  rw [if_pos rfl, if_neg]
  show ¬ ((fnd l1 x.p).isSome = true ∨ 64 ≤ l1.length ∨ x.i < m)
  rw [hf]
  simp
  omega
theorem plc_last {l1 : List Pa} {y : Pa} {i : Int} (h : ∀ z ∈ l1, z.i ≠ i) (hy : y.i = i) : plc (l1 ++ [y]) i = l1.length := by
  refine plc_hit _ _ _ (by simp) (fun k hk => ?_) ?_
  · have : atP (l1 ++ [y]) k = l1[k] := by simp [atP, List.getD, List.getElem?_append_left hk, List.getElem?_eq_getElem hk]
    rw [this]
    exact h _ (List.getElem_mem hk)
  · have : atP (l1 ++ [y]) l1.length = y := by simp [atP, List.getD]
    rw [this]
    exact hy
theorem step_mrk {l1 : List Pa} {m : Int} {x : Pa} (h1 : ∀ z ∈ l1, z.i ≠ x.i) (h2 : 0 ≤ x.o) (h3 : x.o ≤ x.n) : step ⟨l1 ++ [{ x with o := 0 }], m⟩ ⟨1, ⟨x.i, ⟨#[]⟩, z32, 0, x.o⟩⟩ = some ⟨l1 ++ [x], m⟩ := by
  have hp : plc (l1 ++ [({ x with o := 0 } : Pa)]) x.i = l1.length := plc_last h1 rfl
  have ha : atP (l1 ++ [({ x with o := 0 } : Pa)]) l1.length = { x with o := 0 } := by simp [atP, List.getD]
  unfold step
  rw [if_neg (by show ¬ (1 : Int) = 0; omega), if_pos rfl]
  show (if plc (l1 ++ [({ x with o := 0 } : Pa)]) x.i < (l1 ++ [({ x with o := 0 } : Pa)]).length ∧ (atP (l1 ++ [({ x with o := 0 } : Pa)]) (plc (l1 ++ [({ x with o := 0 } : Pa)]) x.i)).o ≤ x.o ∧ x.o ≤ (atP (l1 ++ [({ x with o := 0 } : Pa)]) (plc (l1 ++ [({ x with o := 0 } : Pa)]) x.i)).n then some (⟨(l1 ++ [({ x with o := 0 } : Pa)]).set (plc (l1 ++ [({ x with o := 0 } : Pa)]) x.i) { atP (l1 ++ [({ x with o := 0 } : Pa)]) (plc (l1 ++ [({ x with o := 0 } : Pa)]) x.i) with o := x.o }, m⟩ : Ste) else none) = _
  rw [hp, ha, if_pos ⟨by simp, h2, h3⟩, List.set_append_right _ _ (Nat.le_refl _), Nat.sub_self, List.set_cons_zero]
theorem play_one {l1 : List Pa} {m : Int} {x : Pa} (h1 : ∀ y ∈ l1, y.p ≠ x.p) (h2 : l1.length < 64) (h3 : m ≤ x.i) (h4 : ∀ z ∈ l1, z.i ≠ x.i) (h5 : 0 ≤ x.o) (h6 : x.o ≤ x.n) : play ⟨l1, m⟩ (imgP x) = (⟨l1 ++ [x], x.i + 1⟩, (imgP x).length) := by
  unfold imgP
  rw [play_some _ (step_beg h1 h2 h3)]
  split
  · rw [play_some _ (step_mrk h4 h5 h6)]
    rfl
  · rename_i h
    have e : x.o = 0 := by omega
    have ex : ({ x with o := 0 } : Pa) = x := by obtain ⟨a, b, c, d, f⟩ := x; simp only at e; subst e; rfl
    rw [ex]
    rfl
theorem play_img : ∀ (l2 l1 : List Pa) (m : Int), (l1 ++ l2).Pairwise (fun x y => x.i < y.i) → (l1 ++ l2).Pairwise (fun x y => x.p ≠ y.p) → (l1 ++ l2).length ≤ 64 → (∀ x ∈ l2, m ≤ x.i ∧ 0 ≤ x.o ∧ x.o ≤ x.n) →
    play ⟨l1, m⟩ (imgL l2) = (⟨l1 ++ l2, nx m l2⟩, (imgL l2).length)
  | [], l1, m, _, _, _, _ => by simp [imgL, play, nx]
  | x :: l2, l1, m, h1, h2, h3, h4 => by
    have e : imgL (x :: l2) = imgP x ++ imgL l2 := by simp [imgL]
    obtain ⟨a1, a2, a3⟩ := h4 x (by simp)
    have u1 := (List.pairwise_append.1 h1).2.2
    have u2 := (List.pairwise_append.1 h2).2.2
    have p1 := play_one (l1 := l1) (m := m) (x := x) (fun y hy => u2 y hy x (by simp)) (by simp at h3; omega) a1 (fun z hz => by have := u1 z hz x (by simp); omega) a2 a3
    have hx := (List.pairwise_cons.1 (List.pairwise_append.1 h1).2.1).1
    have ap : l1 ++ x :: l2 = (l1 ++ [x]) ++ l2 := by simp
    have p2 := play_img l2 (l1 ++ [x]) (x.i + 1) (by rw [← ap]; exact h1) (by rw [← ap]; exact h2) (by rw [← ap]; exact h3) (fun y hy => ⟨by have := hx y hy; omega, (h4 y (by simp [hy])).2⟩)
    rw [e, play_app, p1, if_pos rfl, ap]
    show ((play ⟨l1 ++ [x], x.i + 1⟩ (imgL l2)).1, (imgP x).length + (play ⟨l1 ++ [x], x.i + 1⟩ (imgL l2)).2) = _
    rw [p2, List.length_append]
    rfl
theorem img_spec {s : Ste} (h : Inv s) : play st0 (img s) = (s, (img s).length) := by
  have p := play_img s.l [] 0 (by simpa using h.up) (by simpa using h.un) (by simpa using h.ln) (fun x hx => ⟨(h.po x hx).2.2.2.2.2.2, (h.po x hx).2.2.2.2.1, (h.po x hx).2.2.2.2.2.1⟩)
  rw [List.nil_append] at p
  have p' : play st0 (imgL s.l) = (⟨s.l, nx 0 s.l⟩, (imgL s.l).length) := p
  have hle := nx_le (m := 0) (n := s.n) s.l h.n0 h.lt
  unfold img
  rw [p']
  show play st0 (imgL s.l ++ (if nx 0 s.l < s.n then _ else [])) = _
  by_cases hq : nx 0 s.l < s.n
  · rw [if_pos hq, play_app, p', if_pos rfl]
    have st : step ⟨s.l, nx 0 s.l⟩ ⟨4, ⟨s.n - 1, ⟨#[]⟩, z32, 0, 0⟩⟩ = some ⟨s.l, s.n⟩ := by
      unfold step
      rw [if_neg (by show ¬ (4 : Int) = 0; omega), if_neg (by show ¬ (4 : Int) = 1; omega), if_neg (by show ¬ ((4 : Int) = 2 ∨ (4 : Int) = 3); omega), if_pos rfl, if_neg (by show ¬ s.n - 1 < nx 0 s.l; omega)]
      show some (⟨s.l, s.n - 1 + 1⟩ : Ste) = some ⟨s.l, s.n⟩
      rw [Int.sub_add_cancel]
    rw [play_some _ st, List.length_append]
    rfl
  · rw [if_neg hq, List.append_nil, p']
    have : nx 0 s.l = s.n := by omega
    rw [this]
theorem rck_bare (k i o : Int) (hk : 1 ≤ k ∧ k ≤ 4) (hi : 0 ≤ i ∧ i ≤ 1099511627776) (ho : 0 ≤ o ∧ o ≤ 65536) (hz : o = 0 ∨ k = 1) : rck ⟨k, ⟨i, ⟨#[]⟩, z32, 0, o⟩⟩ = 0 := by
  have hs : sRc ⟨k, ⟨i, ⟨#[]⟩, z32, 0, o⟩⟩ (bareR ⟨k, ⟨i, ⟨#[]⟩, z32, 0, o⟩⟩) = true := (sRc_iff _ _).2 rfl
  have hc : ckf ⟨k, ⟨i, ⟨#[]⟩, z32, 0, o⟩⟩ = 0 := by
    unfold ckf
    rw [if_neg (by show ¬ k = 0; omega), if_pos hs]
  unfold rck
  rw [if_neg (by show ¬ (4 < k ∨ i < 0 ∨ 1099511627776 < i); omega), if_neg (by rw [hc]; simp), if_neg (by rw [show inF o = true from inF_iff.2 ho]; simp), if_neg (by show ¬ (o ≠ 0 ∧ k ≠ 1); omega)]
theorem rck_begin {x : Pa} (h : PO x) (hi : x.i ≤ 1099511627776) : rck ⟨0, { x with o := 0 }⟩ = 0 := by
  have hc : ckf ⟨0, { x with o := 0 }⟩ = 0 := by
    unfold ckf
    rw [if_pos rfl]
    show (if chk (dl x.p) ≠ 0 then chk (dl x.p) else if res (dl x.p) = true then 6 else if inF x.n = true then 0 else 13) = 0
    rw [if_neg (by rw [h.1]; simp), if_neg (by rw [h.2.1]; simp), if_pos (inF_iff.2 ⟨h.2.2.1, h.2.2.2.1⟩)]
  unfold rck
  rw [if_neg (by show ¬ ((4 : Int) < 0 ∨ x.i < 0 ∨ 1099511627776 < x.i); have := h.2.2.2.2.2.2; omega), if_neg (by rw [hc]; simp), if_neg (by show ¬ inF 0 = false; decide), if_neg (by show ¬ ((0 : Int) ≠ 0 ∧ (0 : Int) ≠ 1); omega)]
theorem img_ck {s : Ste} (h : Inv s) : ∀ r ∈ img s, rck r = 0 := fun r hr => by
  unfold img at hr
  rcases List.mem_append.1 hr with q | q
  · unfold imgL at q
    rw [List.mem_flatten] at q
    obtain ⟨c, hc, hr⟩ := q
    obtain ⟨x, hx, rfl⟩ := List.mem_map.1 hc
    have po := h.po x hx
    have lt := h.lt x hx
    have n1 := h.n1
    unfold imgP at hr
    split at hr
    · simp only [List.mem_cons, List.not_mem_nil, or_false] at hr
      rcases hr with rfl | rfl
      · exact rck_begin po (by omega)
      · obtain ⟨-, -, p3, p4, p5, p6, p7⟩ := po
        exact rck_bare 1 x.i x.o (by omega) (by omega) (by omega) (.inr rfl)
    · simp only [List.mem_cons, List.not_mem_nil, or_false] at hr
      subst hr
      exact rck_begin po (by omega)
  · have p := play_img s.l [] 0 (by simpa using h.up) (by simpa using h.un) (by simpa using h.ln) (fun x hx => ⟨(h.po x hx).2.2.2.2.2.2, (h.po x hx).2.2.2.2.1, (h.po x hx).2.2.2.2.2.1⟩)
    rw [List.nil_append] at p
    have p' : play st0 (imgL s.l) = (⟨s.l, nx 0 s.l⟩, (imgL s.l).length) := p
    rw [p'] at q
    have hge := nx_ge s.l 0 (Int.le_refl 0) (fun x hx => (h.po x hx).2.2.2.2.2.2)
    split at q
    · rename_i hq
      have hq' : nx 0 s.l < s.n := hq
      simp only [List.mem_cons, List.not_mem_nil, or_false] at q
      subst q
      have n1 := h.n1
      exact rck_bare 4 (s.n - 1) 0 (by omega) (by omega) (by omega) (.inl rfl)
    · cases q
theorem po_size {x : Pa} (h : PO x) : x.p.size ≤ 128 := by
  rcases Nat.lt_or_ge 128 x.p.size with q | q
  · have := chk_long (dl x.p) q
    rw [h.1] at this
    cases this
  · exact q
theorem img_ps {s : Ste} (h : Inv s) : ∀ r ∈ img s, r.x.p.size ≤ 1000 := fun r hr => by
  have z : (⟨#[]⟩ : ByteArray).size ≤ 1000 := by decide
  unfold img at hr
  rcases List.mem_append.1 hr with q | q
  · unfold imgL at q
    rw [List.mem_flatten] at q
    obtain ⟨c, hc, hr⟩ := q
    obtain ⟨x, hx, rfl⟩ := List.mem_map.1 hc
    have ps := po_size (h.po x hx)
    unfold imgP at hr
    split at hr
    · simp only [List.mem_cons, List.not_mem_nil, or_false] at hr
      rcases hr with rfl | rfl
      · show x.p.size ≤ 1000
        omega
      · exact z
    · simp only [List.mem_cons, List.not_mem_nil, or_false] at hr
      subst hr
      show x.p.size ≤ 1000
      omega
  · split at q
    · simp only [List.mem_cons, List.not_mem_nil, or_false] at q
      subst q
      exact z
    · cases q
theorem img_ok {s : Ste} (h : Inv s) : (img s).length ≤ 130 := by
  have h1 := imgL_len s.l
  have h2 := h.ln
  unfold img
  rw [List.length_append]
  split <;> simp <;> omega
end Go.Proofs.YtpkobpdiddjnpaaDoor
namespace Go.Proofs.YtpkobpdiddjnpaaDoor
open Go.RowKit
set_option maxRecDepth 100000

set_option maxHeartbeats 2000000 in
theorem own_any (r : Rc) (w : World) (hr : r.ok) :
    Calls Tryd.prog 9 #[r.val] w fun e w' => e = .returned r.val ∧ Below w.heap.size w w' := by
  obtain ⟨W0, hW0⟩ : ∃ W0, W0 = w.alloc (.cells r.cells.toArray 25) := ⟨_, rfl⟩
  have b0 : Below w.heap.size w W0 := by rw [hW0]; exact al_below _ _
  have z0 : W0.heap.size = w.heap.size + 1 := by rw [hW0]; simp
  have r0 : W0.rangeAt w.heap.size 0 r.cells := by rw [hW0]; exact blk_range (heap_alloc_new _ _)
  obtain ⟨W1, hW1⟩ : ∃ W1, W1 = W0.alloc (.cells rzc 33) := ⟨_, rfl⟩
  have b1 : Below W0.heap.size W0 W1 := by rw [hW1]; exact al_below _ _
  have g1 : W1.heap[W0.heap.size]? = some (.cells rzc 33 (0, 0)) := by rw [hW1]; exact heap_alloc_new _ _
  have hw0 := hW0.symm
  have hw1 : W0.alloc (.cells #[.int .u8 0, .int .i64 0, .string ⟨#[]⟩, .int .u8 0, .int .u8 0, .int .u8 0, .int .u8 0, .int .u8 0, .int .u8 0, .int .u8 0, .int .u8 0, .int .u8 0, .int .u8 0, .int .u8 0, .int .u8 0, .int .u8 0, .int .u8 0, .int .u8 0, .int .u8 0, .int .u8 0, .int .u8 0, .int .u8 0, .int .u8 0, .int .u8 0, .int .u8 0, .int .u8 0, .int .u8 0, .int .u8 0, .int .u8 0, .int .u8 0, .int .u8 0, .int .u8 0, .int .u8 0, .int .u8 0, .int .u8 0, .int .i64 0, .int .i64 0] 33) = W1 := hW1.symm
  have r1 := range_kept r0 b1
  obtain ⟨k0, k1, k2, k3, k4, k5⟩ := rcC r1 hr
  simp only [Nat.zero_add] at k0 k1 k2 k3 k4 k5
  have K3 : Hid (W1.rangeAt w.heap.size 3 (r.x.s.map (Value.int .u8))) := k3
  have HZ : Hid ((Tryd.prog.info? 23).map (·.size) = some (r.x.s.map (Value.int .u8)).length) := by unfold Hid; rw [sizeHs, List.length_map, hr.2.2.1]
  have BB : Hid (Tryd.prog.built 33 [(0, .int .u8 r.k), (1, .int .i64 r.x.i), (2, .string r.x.p), (3, .agg (u8c r.x.s)), (4, .int .i64 r.x.n), (5, .int .i64 r.x.o)] = some r.cells.toArray) := bR r hr
  have B1 : Hid (Below w.heap.size w W1) := b0.trans (b1.mono b0.size)
  have G1 : Hid (W1.heap[W0.heap.size]? = some (.cells rzc 33 (0, 0))) := g1
  have HOK : Hid r.ok := hr
  have HSZ : Hid (w.heap.size ≤ W0.heap.size) := by unfold Hid; omega
  unfold u8c at BB
  unfold Rc.val
  clear hW0 b0 z0 r0 hW1 b1 g1 r1 k3 hr
  go_enter Tryd.func9, Tryd.ntmps9
  go_wp2_with (first
    | refine wpList_load_mid rfl 23 _ rfl w.heap.size 3 rfl (r.x.s.map (Value.int .u8)) _ K3.out Tryd.underlying23 rfl HZ.out ?_
    | refine wpList_built rfl 33 _ rfl [(0, .int .u8 r.k), (1, .int .i64 r.x.i), (2, .string r.x.p), (3, .agg (r.x.s.map (Value.int .u8)).toArray), (4, .int .i64 r.x.n), (5, .int .i64 r.x.o)] rfl r.cells.toArray BB.out ?_
    | refine wpList_store_row rfl 33 _ _ rfl W0.heap.size r.cells.toArray rfl rfl 33 rzc G1.out (Rc.infoA r HOK.out) (rzc_size.trans (Rc.size r HOK.out).symm) (Rc.ones r) ?_)
  exact bodyPost_ret (v := .agg r.cells.toArray) (results_cell_row rfl _ _ W0.heap.size 33 r.cells.toArray (0, 0) _ rfl (setRow_heap _ _ _ _ _ _ G1.out) Tryd.underlying33 rfl (Rc.infoA r HOK.out)) rfl ⟨rfl, below_setRow B1.out HSZ.out _⟩
end Go.Proofs.YtpkobpdiddjnpaaDoor
namespace Go.Proofs.YtpkobpdiddjnpaaDoor
open Go.RowKit
set_option maxRecDepth 100000

theorem len_ne {n : Int} (h0 : 0 ≤ n) (h1 : n < 4611686018427387904) : Fi.lenOf n ≠ 0 := by
  rcases Fi.lenOf_cases n with h | h | h | h | h | h <;> omega
theorem rB_put (k : Int) (ys : List Int) : rB (k :: ys) 0 = (k, ys, 0) := by
  unfold rB
  rw [if_pos rfl]
  have e : Fi.raE (k :: ys) 1 = 0 := by
    unfold Fi.raE
    rw [if_neg (by omega), if_neg (by simp; omega)]
  have n : Fi.raN (k :: ys) 1 = 1 := by unfold Fi.raN; rw [e]; rfl
  rw [e, n]
  rfl
theorem rN_put {n m : Int} (ys : List Int) (h0 : 0 ≤ n) (h1 : n ≤ m) (h2 : m < 4611686018427387904) : rN (Fi.numB n ++ ys) 0 m = (n, ys, 0) := by
  obtain ⟨e1, e2, e3⟩ := Fi.na_num n m ys (len_ne h0 (by omega)) h1
  unfold rN
  rw [if_pos rfl, e1, e2, e3, ← Fi.numB_len, Int.toNat_natCast, List.drop_left]
theorem rT_put (s : ByteArray) (ys : List Int) (h : s.size ≤ 128) : rT (Fi.textB s ++ ys) 0 128 = (Fi.sb s, ys, 0) := by
  obtain ⟨e1, e2, e3⟩ := Fi.tx_text s 128 ys (by omega) (by omega)
  unfold rT
  rw [if_pos rfl, e1, e2, e3]
theorem rR_put (S ys : List Int) (h : S.length = 32) : rR (S ++ ys) 0 32 = (S, ys, 0) := by
  unfold rR
  rw [if_pos rfl]
  have e : Fi.raE (S ++ ys) 32 = 0 := by
    unfold Fi.raE
    rw [if_neg (by omega), if_neg (by rw [List.length_append]; omega)]
  have n : Fi.raN (S ++ ys) 32 = 32 := by unfold Fi.raN; rw [e]; rfl
  rw [e, n, ← h, List.take_left, List.drop_left]
theorem ov32_self (S : List Int) (h : S.length = 32) : ov32 S = S := by
  unfold ov32
  rw [h, List.drop_of_length_le (by rw [z32_len]; exact Nat.le_refl _), List.append_nil]
/-- What Check's OK says of the fields. -/
theorem rck_form {r : Rc} (h : rck r = 0) : (r.k ≠ 1 → r.x.o = 0) ∧ (r.k ≠ 0 → r = bareR r) := by
  obtain ⟨c1, c2, c3, c4, c5, c6⟩ := rck_ok h
  constructor
  · intro hk
    unfold rck at h
    rw [if_neg (by omega), if_neg (by omega)] at h
    split at h
    · cases h
    · split at h
      · cases h
      · rename_i h2
        by_cases ho : r.x.o = 0
        · exact ho
        · exact absurd ⟨ho, hk⟩ h2
  · intro hk
    unfold ckf at c4
    rw [if_neg hk] at c4
    split at c4
    · rename_i hs
      exact (sRc_iff _ _).1 hs
    · cases c4
theorem rdR_seal {r : Rc} (hr : r.ok) (h : rck r = 0) : rdR (sealB r) = r := by
  obtain ⟨c1, c2, c3, c4, c5, c6⟩ := rck_ok h
  obtain ⟨f1, f2⟩ := rck_form h
  unfold sealB
  generalize Cr.leB (Cr.sumOf (bodyB r)) = Z
  unfold bodyB
  by_cases hk : r.k = 0
  · obtain ⟨d1, d2, d3, d4⟩ := ckf_beg c4 hk
    have hps : r.x.p.size ≤ 128 := by
      rcases Nat.lt_or_ge 128 r.x.p.size with q | q
      · have := chk_long (dl r.x.p) q
        rw [d1] at this
        cases this
      · exact q
    rw [if_pos hk]
    have e : ([r.k] ++ Fi.numB r.x.i) ++ (Fi.textB r.x.p ++ (r.x.s ++ Fi.numB r.x.n)) ++ Z = r.k :: (Fi.numB r.x.i ++ (Fi.textB r.x.p ++ (r.x.s ++ (Fi.numB r.x.n ++ Z)))) := by simp
    rw [e]
    unfold rdR
    simp only [rB_put, rN_put (m := 1099511627776) _ c2 c3 (by omega)]
    rw [if_pos hk]
    simp only [rT_put r.x.p _ hps, rR_put r.x.s _ hr.2.2.1, rN_put (m := 65536) _ d3 d4 (by omega)]
    rw [ov32_self _ hr.2.2.1, Fi.strB_sb]
    have ho := f1 (by omega)
    obtain ⟨k, ⟨i, p, s, n, o⟩⟩ := r
    simp only at ho
    subst ho
    rfl
  · rw [if_neg hk]
    have hb := f2 hk
    by_cases hk1 : r.k = 1
    · rw [if_pos hk1]
      have e : ([r.k] ++ Fi.numB r.x.i) ++ Fi.numB r.x.o ++ Z = r.k :: (Fi.numB r.x.i ++ (Fi.numB r.x.o ++ Z)) := by simp
      rw [e]
      unfold rdR
      simp only [rB_put, rN_put (m := 1099511627776) _ c2 c3 (by omega)]
      rw [if_neg hk, if_pos hk1]
      simp only [rN_put (m := 65536) _ c5 c6 (by omega)]
      exact hb.symm
    · rw [if_neg hk1]
      have e : ([r.k] ++ Fi.numB r.x.i) ++ Z = r.k :: (Fi.numB r.x.i ++ Z) := by simp
      rw [e]
      unfold rdR
      simp only [rB_put, rN_put (m := 1099511627776) _ c2 c3 (by omega)]
      rw [if_neg hk, if_neg hk1]
      have ho := f1 hk1
      rw [hb]
      unfold bareR
      rw [ho]
theorem seal_len {r : Rc} (hr : r.ok) (h : rck r = 0) : 5 ≤ (sealB r).length ∧ (sealB r).length ≤ 199 := by
  have li := numB_len8 r.x.i
  have ln := numB_len8 r.x.n
  have lo := numB_len8 r.x.o
  have ls := hr.2.2.1
  unfold sealB
  rw [List.length_append, show (Cr.leB (Cr.sumOf (bodyB r))).length = 4 from rfl]
  unfold bodyB
  split
  · rename_i hk
    obtain ⟨d1, d2, d3, d4⟩ := ckf_beg (rck_ok h).2.2.2.1 hk
    have hps : r.x.p.size ≤ 128 := by
      rcases Nat.lt_or_ge 128 r.x.p.size with q | q
      · have := chk_long (dl r.x.p) q
        rw [d1] at this
        cases this
      · exact q
    have lt := textB_len9 r.x.p
    simp
    omega
  · split
    · simp
      omega
    · simp
      omega
theorem body_bts {r : Rc} (hr : r.ok) (h : rck r = 0) : Bts (bodyB r) := by
  obtain ⟨c1, c2, c3, c4, c5, c6⟩ := rck_ok h
  have nb : ∀ n : Int, Bts (Fi.numB n) := fun n => by
    unfold Fi.numB
    split
    · intro i; simp
    · rename_i h0
      obtain ⟨W, hW, _, hI, h1, h2, hn⟩ := Fi.pos_lim n h0
      rw [hW, Int.toNat_natCast]
      exact Fi.pb_bytes n W hI h1 h2
  have tb : ∀ s : ByteArray, Bts (Fi.textB s) := fun s => by unfold Fi.textB; exact bytes_app (nb _) (Fi.sb_bytes s)
  have kb : Bts [r.k] := fun i => by
    cases i with
    | zero => exact ⟨hr.1, hr.2.1⟩
    | succ i => simp
  unfold bodyB
  split
  · exact bytes_app (bytes_app kb (nb _)) (bytes_app (tb _) (bytes_app hr.2.2.2.1 (nb _)))
  · split
    · exact bytes_app (bytes_app kb (nb _)) (nb _)
    · exact bytes_app kb (nb _)
theorem sb_strB {X : List Int} (h : Bts X) : Fi.sb (Fi.strB X) = X := by
  refine strB_inj (Fi.sb_bytes _) h ?_
  show (strB (Fi.sb (Fi.strB X))).toList = (strB X).toList
  have : strB (Fi.sb (Fi.strB X)) = Fi.strB X := Fi.strB_sb (Fi.strB X)
  rw [this]
  rfl
/-- The bytes of a record: how many it has, then the sealed body. -/
theorem put_eq {r : Rc} (hr : r.ok) (h : rck r = 0) : putB r = Fi.numB (sealB r).length ++ sealB r ∧ Bts (putB r) := by
  have hs : Bts (sealB r) := by unfold sealB; exact bytes_app (body_bts hr h) (Cr.leB_bytes _)
  have e : putB r = Fi.numB (sealB r).length ++ sealB r := by
    unfold putB
    rw [if_pos h]
    unfold Fi.textB
    have e1 : (strB (sealB r)).size = (sealB r).length := Fi.strB_size _
    rw [e1]
    congr 1
    exact sb_strB hs
  refine ⟨e, ?_⟩
  rw [e]
  refine bytes_app ?_ hs
  obtain ⟨W, hW, _, hI, h1, h2, hn⟩ := Fi.pos_lim ((sealB r).length : Int) (len_ne (by omega) (by have := seal_len hr h; omega))
  rw [hn]
  exact Fi.pb_bytes _ W hI h1 h2
theorem num_small : ∀ S : Nat, S < 200 → Fi.numB (S : Int) = if S < 64 then [(S : Int)] else [64, (S : Int)] := by decide
/-- The number ahead. -/
theorem la_num {S : Nat} (hS : S < 200) (ys : List Int) : laE (Fi.numB S ++ ys) = 0 ∧ laN (Fi.numB S ++ ys) = S ∧ laU (Fi.numB S ++ ys) = (Fi.numB (S : Int)).length := by
  have hl := numB_len8 (S : Int)
  have hne := len_ne (n := (S : Int)) (by omega) (by omega)
  have hf : fil (Fi.numB S ++ ys) = Fi.numB S ++ (ys.take (8 - (Fi.numB (S : Int)).length) ++ List.replicate 8 255) := by
    unfold fil
    rw [List.take_append, List.take_of_length_le hl, List.append_assoc]
  obtain ⟨e1, e2, e3⟩ := Fi.sh_num (S : Int) (ys.take (8 - (Fi.numB (S : Int)).length) ++ List.replicate 8 255) hne
  rw [← hf] at e1 e2 e3
  have hnl := Fi.numB_len (S : Int)
  have hE : laE (Fi.numB S ++ ys) = 0 := by
    unfold laE
    rw [show fE (Fi.numB S ++ ys) = 0 from e3, if_neg (by simp), if_neg, if_neg]
    · rw [show fN (Fi.numB S ++ ys) = S from e1]; omega
    · rw [show fU (Fi.numB S ++ ys) = Fi.lenOf S from e2, ← hnl, List.length_append]; omega
  refine ⟨hE, ?_, ?_⟩
  · unfold laN
    rw [if_pos hE]
    exact e1
  · unfold laU
    rw [if_pos hE, show fU (Fi.numB S ++ ys) = Fi.lenOf S from e2, hnl]
theorem ah_put {r : Rc} (hr : r.ok) (h : rck r = 0) (ys : List Int) : ahE (putB r ++ ys) = 0 ∧ ahU (putB r ++ ys) = (putB r).length ∧ ahR (putB r ++ ys) = r := by
  obtain ⟨e, -⟩ := put_eq hr h
  obtain ⟨l1, l2⟩ := seal_len hr h
  have ea : putB r ++ ys = Fi.numB (sealB r).length ++ (sealB r ++ ys) := by rw [e, List.append_assoc]
  obtain ⟨a1, a2, a3⟩ := la_num (S := (sealB r).length) (by omega) (sealB r ++ ys)
  rw [← ea] at a1 a2 a3
  have hw : whl (putB r ++ ys) = putB r := by
    unfold whl
    rw [a2, a3, Int.toNat_natCast, Int.toNat_natCast, ← List.length_append, ← e, List.take_left]
  have hx : ahX (putB r ++ ys) = r := by
    unfold ahX
    rw [hw, a3, Int.toNat_natCast, e, List.drop_left]
    exact rdR_seal hr h
  have hE : ahE (putB r ++ ys) = 0 := by
    unfold ahE
    rw [if_neg (by omega), if_neg, if_neg]
    · rw [hx, hw]; simp [h]
    · rw [a2, a3, List.length_append, e, List.length_append]; omega
  refine ⟨hE, ?_, ?_⟩
  · unfold ahU
    rw [if_pos hE, hw]
  · unfold ahR
    rw [if_pos hE, hx]
theorem la_one : laE [64] = 3 := by decide
theorem ah_cut {r : Rc} (hr : r.ok) (h : rck r = 0) (m : Nat) (h0 : 0 < m) (hm : m < (putB r).length) : ahE ((putB r).take m) = 3 := by
  obtain ⟨e, -⟩ := put_eq hr h
  obtain ⟨l1, l2⟩ := seal_len hr h
  have hs := num_small (sealB r).length (by omega)
  rw [e, List.length_append] at hm
  rw [e]
  generalize hS : sealB r = Z at *
  by_cases hw : (Fi.numB (Z.length : Int)).length ≤ m
  · rw [List.take_append, List.take_of_length_le hw]
    obtain ⟨a1, a2, a3⟩ := la_num (S := Z.length) (by omega) (Z.take (m - (Fi.numB (Z.length : Int)).length))
    unfold ahE
    rw [if_neg (by omega), if_pos]
    rw [a2, a3, List.length_append, List.length_take]
    omega
  · have h64 : ¬ Z.length < 64 := fun q => by rw [hs, if_pos q] at hw; simp at hw; omega
    rw [if_neg h64] at hs
    have hm1 : m = 1 := by rw [hs] at hw; simp at hw; omega
    subst hm1
    rw [hs]
    have : ([64, (Z.length : Int)] ++ Z).take 1 = [64] := rfl
    rw [this]
    unfold ahE
    rw [la_one, if_pos (by decide)]
/-- Records put one behind the other. -/
def puts (l : List Rc) : List Int := (l.map putB).flatten
theorem puts_cons (r : Rc) (l : List Rc) : puts (r :: l) = putB r ++ puts l := by simp [puts]
theorem puts_app (l m : List Rc) : puts (l ++ m) = puts l ++ puts m := by simp [puts]
def Ok2 (l : List Rc) : Prop := ∀ r ∈ l, r.ok ∧ rck r = 0
theorem puts_bts {l : List Rc} (h : Ok2 l) : Bts (puts l) := bytes_flat _ fun X hX => by
  obtain ⟨r, hr, rfl⟩ := List.mem_map.1 hX
  exact (put_eq (h r hr).1 (h r hr).2).2
theorem put_pos {r : Rc} (hr : r.ok) (h : rck r = 0) : 5 ≤ (putB r).length ∧ (putB r).length ≤ 210 := by
  obtain ⟨e, -⟩ := put_eq hr h
  have := seal_len hr h
  have := numB_len8 ((sealB r).length : Int)
  rw [e, List.length_append]
  omega
theorem scn_puts_go : ∀ (l : List Rc) (ys : List Int), Ok2 l → Bts ys → scn (puts l ++ ys) = (l ++ (scn ys).1, (puts l).length + (scn ys).2.1, (scn ys).2.2)
  | [], ys, _, _ => by simp [puts]
  | r :: l, ys, h, hy => by
    obtain ⟨hr, hc⟩ := h r (by simp)
    have hl : Ok2 l := fun x hx => h x (by simp [hx])
    obtain ⟨a1, a2, a3⟩ := ah_put hr hc (puts l ++ ys)
    have hp := put_pos hr hc
    have hb : Bts (putB r ++ (puts l ++ ys)) := bytes_app (put_eq hr hc).2 (bytes_app (puts_bts hl) hy)
    have hne : putB r ++ (puts l ++ ys) ≠ [] := fun q => by have := congrArg List.length q; simp at this; rw [this.1] at hp; simp at hp
    rw [puts_cons, List.append_assoc, scn_ok hb hne a1, a2, a3, Int.toNat_natCast, List.drop_left, scn_puts_go l ys hl hy, List.length_append]
    simp only [List.cons_append, Prod.mk.injEq, true_and, and_true]
    omega
theorem scn_puts {l : List Rc} (h : Ok2 l) : scn (puts l) = (l, (puts l).length, 0) := by
  have := scn_puts_go l [] h (fun i => by simp)
  rw [List.append_nil, scn_nil, List.append_nil] at this
  exact this
/-- Cut off behind k bytes: those that are whole. -/
def whole (l : List Rc) (k : Nat) : Nat := match l with
  | [] => 0
  | r :: l => if (putB r).length ≤ k then whole l (k - (putB r).length) + 1 else 0
theorem scn_cut : ∀ (l : List Rc) (k : Nat), Ok2 l → k ≤ (puts l).length → scn ((puts l).take k) = (l.take (whole l k), (puts (l.take (whole l k))).length, if (puts (l.take (whole l k))).length = k then 0 else 3)
  | [], k, _, hk => by
    simp [puts] at hk
    subst hk
    simp [puts, whole, scn_nil]
  | r :: l, k, h, hk => by
    obtain ⟨hr, hc⟩ := h r (by simp)
    have hl : Ok2 l := fun x hx => h x (by simp [hx])
    have hp := put_pos hr hc
    rw [puts_cons] at hk ⊢
    unfold whole
    by_cases hle : (putB r).length ≤ k
    · rw [if_pos hle]
      rw [List.length_append] at hk
      have ih := scn_cut l (k - (putB r).length) hl (by omega)
      have e1 : (putB r ++ puts l).take k = puts [r] ++ (puts l).take (k - (putB r).length) := by
        rw [List.take_append, List.take_of_length_le hle]
        simp [puts]
      rw [e1, scn_puts_go [r] _ (fun x hx => by simp at hx; subst hx; exact ⟨hr, hc⟩) (bts_take (puts_bts hl) _), ih, show (puts [r]).length = (putB r).length by simp [puts], List.take_succ_cons, puts_cons, List.length_append]
      refine Prod.ext rfl (Prod.ext rfl ?_)
      show (if (puts (l.take (whole l (k - (putB r).length)))).length = k - (putB r).length then (0 : Int) else 3) = if (putB r).length + (puts (l.take (whole l (k - (putB r).length)))).length = k then 0 else 3
      by_cases q : (puts (l.take (whole l (k - (putB r).length)))).length = k - (putB r).length
      · rw [if_pos q, if_pos (by omega)]
      · rw [if_neg q, if_neg (by omega)]
    · rw [if_neg hle, List.take_zero]
      have e1 : (putB r ++ puts l).take k = (putB r).take k := by rw [List.take_append_of_le_length (by omega)]
      rw [e1]
      by_cases h0 : k = 0
      · subst h0
        rw [List.take_zero, scn_nil]
        rfl
      · have he := ah_cut hr hc k (by omega) (by omega)
        have hne : (putB r).take k ≠ [] := fun q => by have := congrArg List.length q; rw [List.length_take, List.length_nil] at this; omega
        rw [scn_err hne (by omega), he]
        show ([], 0, (3 : Int)) = ([], (puts []).length, if (puts []).length = k then 0 else 3)
        rw [show (puts []).length = 0 from rfl, if_neg (by omega)]
end Go.Proofs.YtpkobpdiddjnpaaDoor
namespace Go.Proofs.YtpkobpdiddjnpaaDoor
open Go.RowKit
set_option maxRecDepth 100000

theorem fieldsQ : (Tryd.prog.fieldsOf 25).toList.map (fun f => (decide (f.name ≠ "_"), f.type, f.offset)) = [(true, 5, 0), (true, 3, 1), (true, 9, 2), (true, 23, 3), (true, 3, 35), (true, 3, 36)] := by kernel_rfl
theorem structQ : Tryd.prog.underlying 25 = some (.struct (Tryd.prog.fieldsOf 25)) := by kernel_rfl
theorem standsQ : Tryd.prog.stoodInHeld 25 = false := by kernel_rfl
theorem guardQ : Tryd.prog.eqGuardType Tryd.prog.depth 25 = false := by kernel_rfl
theorem eqdQ (d : Nat) (x y : Rc) (hx : x.ok) (hy : y.ok) (w : World) : (Op.equalIn (d + 3) 25 x.val y.val).run Tryd.prog w = .ok (sRc x y) w := by
  unfold Rc.val
  rw [run_equalIn_struct w (d + 2) 25 _ _ structQ standsQ]
  have hf := fieldsQ
  generalize (Tryd.prog.fieldsOf 25).toList = fs at hf
  have hlen : fs.length = 6 := by have := congrArg List.length hf; simpa using this
  match fs, hlen, hf with
  | [f0, f1, f2, f3, f4, f5], _, hf =>
    simp only [List.map_cons, List.map_nil, List.cons.injEq, Prod.mk.injEq, and_true, decide_eq_true_eq] at hf
    obtain ⟨⟨n0, t0, o0⟩, ⟨n1, t1, o1⟩, ⟨n2, t2, o2⟩, ⟨n3, t3, o3⟩, ⟨n4, t4, o4⟩, n5, t5, o5⟩ := hf
    have a9 : (isAgg 9).run Tryd.prog w = .ok false w := by simp [isAgg, run_underlying Tryd.underlying9]
    have ak : (isAgg 5).run Tryd.prog w = .ok false w := by simp [isAgg, run_underlying Tryd.underlying5]
    have a3 : (isAgg 3).run Tryd.prog w = .ok false w := by simp [isAgg, run_underlying Tryd.underlying3]
    have aH : (isAgg 23).run Tryd.prog w = .ok true w := by simp [isAgg, run_underlying Tryd.underlying23]
    have p0 : ∀ z : Rc, z.ok → (part 5 z.cells.toArray 0).run Tryd.prog w = .ok (.int .u8 z.k) w := fun z hz => part_one ak (rcG z hz).1
    have p1 : ∀ z : Rc, z.ok → (part 3 z.cells.toArray 1).run Tryd.prog w = .ok (.int .i64 z.x.i) w := fun z hz => part_one a3 (rcG z hz).2.1
    have p2 : ∀ z : Rc, z.ok → (part 9 z.cells.toArray 2).run Tryd.prog w = .ok (.string z.x.p) w := fun z hz => part_one a9 (rcG z hz).2.2.1
    have p3 : ∀ z : Rc, z.ok → (part 23 z.cells.toArray 3).run Tryd.prog w = .ok (.agg (u8c z.x.s)) w := fun z hz => by
      simp only [part, Sem.run_bind, aH, Result.andThen_ok, if_true, sizeOfH, Sem.run_pure, cutR z hz]
    have p4 : ∀ z : Rc, z.ok → (part 3 z.cells.toArray 35).run Tryd.prog w = .ok (.int .i64 z.x.n) w := fun z hz => part_one a3 (rcG z hz).2.2.2.1
    have p5 : ∀ z : Rc, z.ok → (part 3 z.cells.toArray 36).run Tryd.prog w = .ok (.int .i64 z.x.o) w := fun z hz => part_one a3 (rcG z hz).2.2.2.2
    have e0 : (Op.equalIn (d + 2) 5 (.int .u8 x.k) (.int .u8 y.k)).run Tryd.prog w = .ok (x.k == y.k) w := run_equalIn_int w (d + 1) 5 .u8 .u8 _ _ Tryd.underlying5
    have e2 : (Op.equalIn (d + 2) 9 (.string x.x.p) (.string y.x.p)).run Tryd.prog w = .ok (x.x.p.toList == y.x.p.toList) w := run_equalIn_string w (d + 1) 9 _ _ Tryd.underlying9
    have ei : ∀ a b : Int, (Op.equalIn (d + 2) 3 (.int .i64 a) (.int .i64 b)).run Tryd.prog w = .ok (a == b) w := fun a b => run_equalIn_int w (d + 1) 3 .i64 .i64 _ _ Tryd.underlying3
    have e3 : (Op.equalIn (d + 2) 23 (.agg (u8c x.x.s)) (.agg (u8c y.x.s))).run Tryd.prog w = .ok (x.x.s == y.x.s) w := eq_u8c d _ _ hx.2.2.1 hy.2.2.1 w
    rw [eqf_cons n0 t0 o0 (p0 x hx) (p0 y hy) e0, eqf_cons n1 t1 o1 (p1 x hx) (p1 y hy) (ei _ _), eqf_cons n2 t2 o2 (p2 x hx) (p2 y hy) e2, eqf_cons n3 t3 o3 (p3 x hx) (p3 y hy) e3, eqf_cons n4 t4 o4 (p4 x hx) (p4 y hy) (ei _ _), eqf_cons n5 t5 o5 (p5 x hx) (p5 y hy) (ei _ _), eqf_nil, six, tl_beq]
    unfold sRc
    rw [bed x.k, bed x.x.i, bed x.x.s, bed x.x.n, bed x.x.o]
theorem eqQ (x y : Rc) (hx : x.ok) (hy : y.ok) (w : World) : (Op.equalIn 10000 25 x.val y.val).run Tryd.prog w = .ok (sRc x y) w := eqdQ 9997 x y hx hy w
theorem sizeQ : (Tryd.prog.info? 25).map (·.size) = some 37 := by kernel_rfl
theorem infoQA (x : Rc) (h : x.ok) : (Tryd.prog.info? 25).map (·.size) = some x.cells.toArray.size := by rw [sizeQ]; simp [Rc.len h]
theorem infoQL (x : Rc) (h : x.ok) : (Tryd.prog.info? 25).map (·.size) = some x.cells.length := by rw [sizeQ, Rc.len h]
theorem bQ' (k i n o : Int) (p : ByteArray) (f : Nat → Int) : Tryd.prog.built 25 [(0, .int .u8 k), (1, .int .i64 i), (2, .string p), (3, .agg (u8c ((List.range 32).map f))), (4, .int .i64 n), (5, .int .i64 o)] = some (Rc.cells ⟨k, ⟨i, p, (List.range 32).map f, n, o⟩⟩).toArray := by kernel_rfl
theorem bQ (r : Rc) (h : r.ok) : Tryd.prog.built 25 [(0, .int .u8 r.k), (1, .int .i64 r.x.i), (2, .string r.x.p), (3, .agg (u8c r.x.s)), (4, .int .i64 r.x.n), (5, .int .i64 r.x.o)] = some r.cells.toArray := by
  have := bQ' r.k r.x.i r.x.n r.x.o r.x.p (fun i => r.x.s.getD i 0)
  rwa [map_range r.x.s 32 h.2.2.1] at this
set_option maxHeartbeats 2000000 in
theorem as_any (r : Rc) (w : World) (hr : r.ok) :
    Calls Tryd.prog 36 #[r.val] w fun e w' => e = .returned r.val ∧ Below w.heap.size w w' := by
  obtain ⟨W0, hW0⟩ : ∃ W0, W0 = w.alloc (.cells r.cells.toArray 33) := ⟨_, rfl⟩
  have b0 : Below w.heap.size w W0 := by rw [hW0]; exact al_below _ _
  have z0 : W0.heap.size = w.heap.size + 1 := by rw [hW0]; simp
  have r0 : W0.rangeAt w.heap.size 0 r.cells := by rw [hW0]; exact blk_range (heap_alloc_new _ _)
  obtain ⟨W1, hW1⟩ : ∃ W1, W1 = W0.alloc (.cells rzc 25) := ⟨_, rfl⟩
  have b1 : Below W0.heap.size W0 W1 := by rw [hW1]; exact al_below _ _
  have g1 : W1.heap[W0.heap.size]? = some (.cells rzc 25 (0, 0)) := by rw [hW1]; exact heap_alloc_new _ _
  have hw0 := hW0.symm
  have hw1 : W0.alloc (.cells #[.int .u8 0, .int .i64 0, .string ⟨#[]⟩, .int .u8 0, .int .u8 0, .int .u8 0, .int .u8 0, .int .u8 0, .int .u8 0, .int .u8 0, .int .u8 0, .int .u8 0, .int .u8 0, .int .u8 0, .int .u8 0, .int .u8 0, .int .u8 0, .int .u8 0, .int .u8 0, .int .u8 0, .int .u8 0, .int .u8 0, .int .u8 0, .int .u8 0, .int .u8 0, .int .u8 0, .int .u8 0, .int .u8 0, .int .u8 0, .int .u8 0, .int .u8 0, .int .u8 0, .int .u8 0, .int .u8 0, .int .u8 0, .int .i64 0, .int .i64 0] 25) = W1 := hW1.symm
  have r1 := range_kept r0 b1
  obtain ⟨k0, k1, k2, k3, k4, k5⟩ := rcC r1 hr
  simp only [Nat.zero_add] at k0 k1 k2 k3 k4 k5
  have K3 : Hid (W1.rangeAt w.heap.size 3 (r.x.s.map (Value.int .u8))) := k3
  have HZ : Hid ((Tryd.prog.info? 23).map (·.size) = some (r.x.s.map (Value.int .u8)).length) := by unfold Hid; rw [sizeHs, List.length_map, hr.2.2.1]
  have BB : Hid (Tryd.prog.built 25 [(0, .int .u8 r.k), (1, .int .i64 r.x.i), (2, .string r.x.p), (3, .agg (u8c r.x.s)), (4, .int .i64 r.x.n), (5, .int .i64 r.x.o)] = some r.cells.toArray) := bQ r hr
  have B1 : Hid (Below w.heap.size w W1) := b0.trans (b1.mono b0.size)
  have G1 : Hid (W1.heap[W0.heap.size]? = some (.cells rzc 25 (0, 0))) := g1
  have HOK : Hid r.ok := hr
  have HSZ : Hid (w.heap.size ≤ W0.heap.size) := by unfold Hid; omega
  unfold u8c at BB
  unfold Rc.val
  clear hW0 b0 z0 r0 hW1 b1 g1 r1 k3 hr
  go_enter Tryd.func36, Tryd.ntmps36
  go_wp2_with (first
    | refine wpList_load_mid rfl 23 _ rfl w.heap.size 3 rfl (r.x.s.map (Value.int .u8)) _ K3.out Tryd.underlying23 rfl HZ.out ?_
    | refine wpList_built rfl 25 _ rfl [(0, .int .u8 r.k), (1, .int .i64 r.x.i), (2, .string r.x.p), (3, .agg (r.x.s.map (Value.int .u8)).toArray), (4, .int .i64 r.x.n), (5, .int .i64 r.x.o)] rfl r.cells.toArray BB.out ?_
    | refine wpList_store_row rfl 25 _ _ rfl W0.heap.size r.cells.toArray rfl rfl 25 rzc G1.out (infoQA r HOK.out) (rzc_size.trans (Rc.size r HOK.out).symm) (Rc.ones r) ?_)
  exact bodyPost_ret (v := .agg r.cells.toArray) (results_cell_row rfl _ _ W0.heap.size 25 r.cells.toArray (0, 0) _ rfl (setRow_heap _ _ _ _ _ _ G1.out) Tryd.underlying25 rfl (infoQA r HOK.out)) rfl ⟨rfl, below_setRow B1.out HSZ.out _⟩
theorem yields_eqQ {S : World → Prop} {ops : Array Oper} {o : Oper} {a : Act} (hw : Region.wanted o (yielded ops a.tmps) = true) (x y : Operand) (t : TypeId) (ho : o.op = .binOp .neq 25 x y t)
    (U V : Value) (b : Bool) (hx : a.eval x = U) (hy : a.eval y = V) (hG : ∀ w, (eqGuard .neq 25 x y U V).run Tryd.prog w = .ok () w) (hE : ∀ w, (binOp .neq 25 U V).run Tryd.prog w = .ok (.bool b) w) : YieldsIf Tryd.prog ops S o (.bool b) a :=
  .inl ⟨hw, fun w _ => by
    unfold execOp
    simp only [ho, hx, hy, Sem.run_bind, hG, hE, Result.andThen_ok, Sem.run_pure]⟩
theorem neqQ (x : Rc) (hx : x.ok) (w : World) : (binOp .neq 25 x.val x.val).run Tryd.prog w = .ok (.bool false) w := by
  have h := eqQ x x hx hx w
  rw [(sRc_iff x x).2 rfl] at h
  unfold Rc.val at h ⊢
  rw [run_neq_struct, h]
  rfl
theorem eqgQ (x y : Rc) (a b : Operand) (w : World) : (eqGuard .neq 25 a b x.val y.val).run Tryd.prog w = .ok () w := run_eqGuard_agg _ _ _ _ _ _ _ guardQ
set_option maxHeartbeats 2000000 in
theorem sameR_any (v u : Value) (l : List Rc) (w : World) (h1 : RS w v l) (h2 : RS w u l) (hl : l.length ≤ 100000) :
    Calls Tryd.prog 21 #[v, u] w fun e w' => e = .returned (.bool true) ∧ Below w.heap.size w w' := by
  obtain ⟨a, c, rfl, _, _, _⟩ := h1.shape
  obtain ⟨a', c', rfl, _, _, _⟩ := h2.shape
  have H1 : Hid (RS w (.slice a l.length c) l) := h1
  have H2 : Hid (RS w (.slice a' l.length c') l) := h2
  have K1 : Hid (∀ x ∈ l, x.ok) := h1.2
  obtain ⟨n, hn'⟩ : ∃ n, n = l.length := ⟨_, rfl⟩
  have HN : Hid (n = l.length) := hn'
  rw [← hn'] at H1 H2 hl ⊢
  clear h1 h2 hn'
  have t0 : ((n : Int) != (n : Int)) = false := by simp
  go_enter Tryd.func21, Tryd.ntmps21
  go_wp2
  go_loopw [5] (fun q wr => ∃ j : Nat, j ≤ n ∧ q = .int .i64 j ∧ Below w.heap.size w wr) (fun q _ => n - (intOf q).toNat)
  case atStart => exact ⟨0, by omega, rfl, Below.refl _ _⟩
  case round =>
    obtain ⟨j, hj, rfl, bel⟩ := hrel
    have HB : Hid (Below w.heap.size w wr) := bel
    by_cases hlt : j < n
    · have lt2 : (j : Int) < (n : Int) := by omega
      have lt3 : (0 : Int) ≤ (j : Int) := by omega
      obtain ⟨b, off, rfl, r1⟩ := (H1.out.kept HB.out).at j (by rw [← HN.out]; exact hlt)
      obtain ⟨b', off', rfl, r2⟩ := (H2.out.kept HB.out).at j (by rw [← HN.out]; exact hlt)
      have hx := Rc.at l K1.out j
      generalize atR l j = x at *
      have FX : Hid (∀ W, From wr W → W.rangeAt b (off + j * 37) x.cells) := fun W h => range_kept r1 h
      have FY : Hid (∀ W, From wr W → W.rangeAt b' (off' + j * 37) x.cells) := fun W h => range_kept r2 h
      have FB : Hid (∀ W, From wr W → Below w.heap.size w W) := fun W h => bel.trans (Below.mono h bel.size)
      have ZX : Hid ((Tryd.prog.info? 33).map (·.size) = some x.cells.length) := Rc.infoL x hx
      have ZY : Hid ((Tryd.prog.info? 25).map (·.size) = some x.cells.length) := infoQL x hx
      have E1 : Hid (∀ W, (binOp .neq 25 (.agg x.cells.toArray) (.agg x.cells.toArray)).run Tryd.prog W = .ok (.bool false) W) := fun W => neqQ x hx W
      have E2 : Hid (∀ (a b : Operand) W, (eqGuard .neq 25 a b (.agg x.cells.toArray) (.agg x.cells.toArray)).run Tryd.prog W = .ok () W) := fun a b W => eqgQ x x a b W
      have CA : Hid (∀ W, Calls Tryd.prog 36 #[.agg x.cells.toArray] W fun e w' => e = .returned (.agg x.cells.toArray) ∧ Below W.heap.size W w') := fun W => as_any x W hx
      clear bel r1 r2 hx
      generalize x.cells = cs at *
      go_wp2_with fail
      refine wp_region_held_drew (S := From wr) (by kernel_rfl) ((Below.refl _ _).drew) (fun _ => ?_)
      refine wpAnyH_on ((Below.refl _ _).drew) (fun u0 hu0 bu0 => ?_)
      replace FX := on FX bu0
      replace FY := on FY bu0
      replace FB := on FB bu0
      refine wpAnyH_take (i := 0) (oi := { dst := some 17, op := Op.move (Operand.tmp 0), type := 40, pos := "law.go:52", after := #[], guard := none }) (v := ?vr1) rfl (by kernel_rfl) (by kernel_rfl) (by kernel_rfl) (fun _ _ _ h => h) (Or.inl ⟨by rfl, ?yr1⟩) (Below.refl _ _) ?rr1
      case yr1 => (intro w hSw; go_simp; try with_reducible rfl)
      try simp only [Act.put, List.setIfInBounds_toArray, List.set_cons_zero, List.set_cons_succ]
      refine wpAnyH_take (i := 1) (oi := { dst := some 18, op := Op.move (Operand.tmp 5), type := 3, pos := "law.go:52", after := #[], guard := none }) (v := ?vr2) rfl (by kernel_rfl) (by kernel_rfl) (by kernel_rfl) (fun _ _ _ h => h) (Or.inl ⟨by rfl, ?yr2⟩) (Below.refl _ _) ?rr2
      case yr2 => (intro w hSw; go_simp; try with_reducible rfl)
      try simp only [Act.put, List.setIfInBounds_toArray, List.set_cons_zero, List.set_cons_succ]
      refine wpAnyH_take (i := 2) (oi := { dst := some 19, op := Op.indexAddr 40 (Operand.tmp 17) (Operand.tmp 18), type := 0, pos := "law.go:52", after := #[{ on := 0, ground := Ground.data }, { on := 1, ground := Ground.data }], guard := none }) (v := ?vr3) rfl (by kernel_rfl) (by kernel_rfl) (by kernel_rfl) (fun _ _ _ h => h) (Or.inl ⟨by rfl, ?yr3⟩) (Below.refl _ _) ?rr3
      case yr3 => (intro w hSw; go_simp; try with_reducible rfl)
      try simp only [Act.put, List.setIfInBounds_toArray, List.set_cons_zero, List.set_cons_succ]
      refine wpAnyH_take (i := 3) (oi := { dst := some 20, op := Op.load 33 (Operand.tmp 19), type := 33, pos := "law.go:52", after := #[{ on := 2, ground := Ground.data }], guard := none }) (v := .agg cs.toArray) rfl (by kernel_rfl) (by kernel_rfl) (by kernel_rfl) (fun _ _ _ h => h) (yieldsIf_load_mid (by rfl) 33 _ rfl b (off + j * 37) rfl cs _ (fun w hw => FX.out w hw) Tryd.underlying33 rfl ZX.out) (Below.refl _ _) ?_
      try simp only [Act.put, List.setIfInBounds_toArray, List.set_cons_zero, List.set_cons_succ]
      refine wpAnyH_take (i := 5) (oi := { dst := some 22, op := Op.move (Operand.tmp 1), type := 39, pos := "law.go:52", after := #[], guard := none }) (v := ?vr5) rfl (by kernel_rfl) (by kernel_rfl) (by kernel_rfl) (fun _ _ _ h => h) (Or.inl ⟨by rfl, ?yr5⟩) (Below.refl _ _) ?rr5
      case yr5 => (intro w hSw; go_simp; try with_reducible rfl)
      try simp only [Act.put, List.setIfInBounds_toArray, List.set_cons_zero, List.set_cons_succ]
      refine wpAnyH_take (i := 6) (oi := { dst := some 23, op := Op.move (Operand.tmp 5), type := 3, pos := "law.go:52", after := #[], guard := none }) (v := ?vr6) rfl (by kernel_rfl) (by kernel_rfl) (by kernel_rfl) (fun _ _ _ h => h) (Or.inl ⟨by rfl, ?yr6⟩) (Below.refl _ _) ?rr6
      case yr6 => (intro w hSw; go_simp; try with_reducible rfl)
      try simp only [Act.put, List.setIfInBounds_toArray, List.set_cons_zero, List.set_cons_succ]
      refine wpAnyH_take (i := 7) (oi := { dst := some 24, op := Op.indexAddr 39 (Operand.tmp 22) (Operand.tmp 23), type := 0, pos := "law.go:52", after := #[{ on := 5, ground := Ground.data }, { on := 6, ground := Ground.data }], guard := none }) (v := ?vr7) rfl (by kernel_rfl) (by kernel_rfl) (by kernel_rfl) (fun _ _ _ h => h) (Or.inl ⟨by rfl, ?yr7⟩) (Below.refl _ _) ?rr7
      case yr7 => (intro w hSw; go_simp; try with_reducible rfl)
      try simp only [Act.put, List.setIfInBounds_toArray, List.set_cons_zero, List.set_cons_succ]
      refine wpAnyH_take (i := 8) (oi := { dst := some 25, op := Op.load 25 (Operand.tmp 24), type := 25, pos := "law.go:52", after := #[{ on := 7, ground := Ground.data }], guard := none }) (v := .agg cs.toArray) rfl (by kernel_rfl) (by kernel_rfl) (by kernel_rfl) (fun _ _ _ h => h) (yieldsIf_load_mid (by rfl) 25 _ rfl b' (off' + j * 37) rfl cs _ (fun w hw => FY.out w hw) Tryd.underlying25 rfl ZY.out) (Below.refl _ _) ?_
      try simp only [Act.put, List.setIfInBounds_toArray, List.set_cons_zero, List.set_cons_succ]
      refine wpAnyH_ready (rs := [4]) (by kernel_rfl) (by simp) ?_
      refine AllReadyH.cons (o := { dst := some 21, op := Op.call { callee := Callee.value (Operand.func 36), args := #[Operand.tmp 20], argTypes := #[33] }, type := 25, pos := "law.go:52", after := #[{ on := 3, ground := Ground.data }], guard := none }) rfl (fun KK hKK => ?_) ?_
      · go_simp
        refine (CA.out _).mono ?_
        rintro e u9' ⟨rfl, bu9'⟩
        (try go_wp2_with fail)
        refine hKK.out _ _ (bu9') (fun _ => ?_)
        clear hKK KK
        try simp only [Act.put, List.setIfInBounds_toArray, List.set_cons_zero, List.set_cons_succ]
        refine wpAnyH_on (bu9') (fun u9 hu9 bu9 => ?_)
        replace FX := on FX bu9
        replace FY := on FY bu9
        replace FB := on FB bu9
        refine wpAnyH_take (i := 9) (oi := { dst := some 26, op := Op.binOp BinOp.neq 25 (Operand.tmp 21) (Operand.tmp 25) 25, type := 4, pos := "law.go:52", after := #[{ on := 4, ground := Ground.data }, { on := 8, ground := Ground.data }], guard := none }) (v := .bool false) rfl (by kernel_rfl) (by kernel_rfl) (by kernel_rfl) (fun _ _ _ h => h) (yields_eqQ (by rfl) _ _ _ rfl (.agg cs.toArray) (.agg cs.toArray) false rfl rfl (fun w => E2.out _ _ w) (fun w => E1.out w)) (Below.refl _ _) ?_
        try simp only [Act.put, List.setIfInBounds_toArray, List.set_cons_zero, List.set_cons_succ]
        refine wpAnyH_done (by kernel_rfl) ?_ _
        have BZ : Hid (Below w.heap.size w u9) := FB.out _ (Below.refl _ _)
        clear FX FY FB E1 E2 ZX ZY CA
        go_wp2
        go_roundw
        case rel => exact ⟨j + 1, by omega, by go_num, BZ.out⟩
        case measure => simp [intOf]; omega
      exact AllReadyH.nil
    · obtain rfl : j = n := by omega
      clear bel
      go_wp2
      go_ret
      exact ⟨rfl, HB.out⟩
end Go.Proofs.YtpkobpdiddjnpaaDoor
namespace Go.Proofs.YtpkobpdiddjnpaaDoor
open Go.RowKit
set_option maxRecDepth 100000

abbrev RQ := RRt 25
theorem infoQ : (Tryd.prog.info? 25).map (fun i => (i.zero, i.size, i.bytes)) = some (some rc0.val, 37, 80) := by kernel_rfl
theorem infoN3 : (Tryd.prog.info? 3).map (fun i => (i.zero, i.size, i.bytes)) = some (some (.int .i64 0), 1, 8) := by kernel_rfl
theorem fillQ' (k i n o : Int) (p : ByteArray) (f : Nat → Int) : Instr.fill (fun i => some (i * 37, 37)) ((Array.range (1 * 37)).map (rc0.val.cells[· % rc0.val.cells.size]!)) [(0, .agg (Rc.cells ⟨k, ⟨i, p, (List.range 32).map f, n, o⟩⟩).toArray)] = some (Rc.cells ⟨k, ⟨i, p, (List.range 32).map f, n, o⟩⟩).toArray := by kernel_rfl
theorem wp_bsQ {o : Oper} {a : Act} {w : World} {K : Act → World → Prop} {Q : Exit → Act → World → Prop} (x : Operand) (ho : o.op = .buildSlice 39 1 #[(0, x)]) (y : Rc) (hy : y.ok) (hx : a.eval x = .agg y.cells.toArray)
    (h : K (a.put o.dst (.slice (some ⟨w.heap.size, 0, none⟩) 1 1)) (w.alloc (.cells y.cells.toArray 25))) : o.wp Tryd.prog a w K Q := by
  obtain ⟨ie, hi, hz0, hz1, hz2⟩ := info_parts infoQ
  refine wp_buildSlice 39 25 1 #[(0, x)] ho y.cells.toArray ie rc0.val Tryd.underlying39 hi hz0 (by rw [hz1]; decide) (by rw [hz1]; decide) ?_ h
  have e : ((#[(0, x)] : Array (Nat × Operand)).map fun (i, x) => (i, a.eval x)).toList = [(0, .agg y.cells.toArray)] := by simp [hx]
  rw [e, hz1]
  have := fillQ' y.k y.x.i y.x.n y.x.o y.x.p (fun i => y.x.s.getD i 0)
  rwa [map_range y.x.s 32 hy.2.2.1] at this
theorem wp_append_q {o : Oper} {a : Act} {w : World} {K : Act → World → Prop} {Q : Exit → Act → World → Prop} (s x : Operand) (ho : o.op = .call { callee := .builtin .append, args := #[s, x], argTypes := #[39, 39] })
    (B : Nat) (v : Value) (l : List Rc) (hs : a.eval s = v) (hown : RQ w B v l) (g : Nat) (y : Rc) (cap : Nat) (hy : y.ok)
    (hx : a.eval x = .slice (some ⟨g, 0, none⟩) 1 cap) (hc : w.rangeAt g 0 y.cells) (hbig : l.length ≤ 100000) (hbase : B ≤ w.heap.size)
    (h : ∀ v' w', RQ w' B v' (l ++ [y]) → w.grownBy w' v.ownBlock → K (a.put o.dst v') w') : o.wp Tryd.prog a w K Q := by
  obtain ⟨i0, hi, hz0, hz1, hz2⟩ := info_parts infoQ
  refine wp_append_own_wide w s x 39 ho B 25 i0 rc0.val 37 80 Tryd.underlying39 hi hz0 hz1 hz2 (by simp [Rc.val, Value.cells, Rc.len rc0_ok]) (by decide) v l.length (l.map Rc.cells).flatten hs hown.own ⟨g, 0, none⟩ 1 cap y.cells hx (by rw [Rc.len hy]) ?_ y.one (by unfold maxLen; omega) (by omega) hbase ?_
  · intro j u hj
    rw [Addr.add_lit]
    exact hc j u hj
  · intro v' w' ho' hg _
    refine h v' w' (hown.one hy ⟨?_, hown.1.2.app (CL.one (Rc.len hy) y.one)⟩) hg
    rw [List.length_append, List.flatten_append, List.flatten_cons, List.flatten_nil, List.append_nil, List.length_map]
    exact ho'
/-- Numbers in a row of the call's own. -/
def IO (w : World) (B : Nat) (v : Value) (N : List Int) : Prop := w.ownsRow B 3 1 v N.length (N.map (Value.int .i64))
theorem wp_append_i {o : Oper} {a : Act} {w : World} {K : Act → World → Prop} {Q : Exit → Act → World → Prop} (s x : Operand) (ho : o.op = .call { callee := .builtin .append, args := #[s, x], argTypes := #[66, 66] })
    (B : Nat) (v : Value) (N : List Int) (hs : a.eval s = v) (hown : IO w B v N) (g : Nat) (z : Int) (cap : Nat)
    (hx : a.eval x = .slice (some ⟨g, 0, none⟩) 1 cap) (hc : w.cell? ⟨g, 0, none⟩ = some (.int .i64 z)) (hbig : N.length ≤ 100000) (hbase : B ≤ w.heap.size)
    (h : ∀ v' w', IO w' B v' (N ++ [z]) → w.grownBy w' v.ownBlock → K (a.put o.dst v') w') : o.wp Tryd.prog a w K Q := by
  obtain ⟨i0, hi, hz0, hz1, hz2⟩ := info_parts infoN3
  refine wp_append_own_wide w s x 66 ho B 3 i0 (.int .i64 0) 1 8 Tryd.underlying66 hi hz0 hz1 hz2 rfl (by decide) v N.length (N.map (Value.int .i64)) hs hown ⟨g, 0, none⟩ 1 cap [.int .i64 z] hx rfl ?_ ?_ (by unfold maxLen; omega) (by omega) hbase ?_
  · intro j u hj
    rw [Addr.add_lit]
    cases j with
    | zero => simp at hj; subst hj; exact hc
    | succ j => simp at hj
  · intro u hu
    simp at hu
    subst hu
    rfl
  · intro v' w' ho' hg _
    refine h v' w' ?_ hg
    unfold IO
    rw [List.length_append, List.map_append]
    exact ho'
theorem IO.at {w : World} {B : Nat} {a : Option Addr} {n c : Nat} {N : List Int} (h : IO w B (.slice a n c) N) (i : Nat) (hi : i < N.length) : ∃ g, a = some ⟨g, 0, none⟩ ∧ w.cell? ⟨g, i, none⟩ = some (.int .i64 (N.getD i 0)) := by
  have h' := h
  rcases h.2 with ⟨_, h0⟩ | ⟨g, cap, cur, e, _⟩
  · omega
  · cases e
    refine ⟨g, rfl, ?_⟩
    have := h'.cells (g := g) rfl i (.int .i64 (N.getD i 0)) (by rw [List.getElem?_map, List.getElem?_eq_getElem hi]; simp [List.getD, List.getElem?_eq_getElem hi])
    rwa [Addr.add_lit, Nat.zero_add] at this
/-- Those of the first j that may be. -/
def md (L : List Rc) (j : Nat) : List Rc := (L.take j).filter fun r => decide (rck r = 0)
theorem md_next (L : List Rc) (j : Nat) (hj : j < L.length) : md L (j + 1) = if rck (atR L j) = 0 then md L j ++ [atR L j] else md L j := by
  unfold md
  rw [take_succR L j hj, List.filter_append]
  generalize atR L j = x
  split
  · rename_i h; simp [h]
  · rename_i h; simp [h]
theorem md_len (L : List Rc) (j : Nat) : (md L j).length ≤ j := by
  unfold md
  exact Nat.le_trans (List.length_filter_le _ _) (by rw [List.length_take]; omega)
theorem md_ok {L : List Rc} (h : ∀ x ∈ L, x.ok) (j : Nat) : Ok2 (md L j) := fun r hr => by
  unfold md at hr
  obtain ⟨h1, h2⟩ := List.mem_filter.1 hr
  exact ⟨h r (List.mem_of_mem_take h1), by simpa using h2⟩
theorem puts_len {l : List Rc} (h : Ok2 l) : (puts l).length ≤ 210 * l.length := by
  induction l with
  | nil => simp [puts]
  | cons r l ih =>
    have h1 := put_pos (h r (by simp)).1 (h r (by simp)).2
    have h2 := ih (fun x hx => h x (by simp [hx]))
    rw [puts_cons, List.length_append, List.length_cons]
    omega
/-- Where each record ends. -/
def ends (l : List Rc) : List Int := (List.range l.length).map fun i => ((puts (l.take (i + 1))).length : Int)
theorem ends_len (l : List Rc) : (ends l).length = l.length := by simp [ends]
theorem ends_app (l : List Rc) (r : Rc) : ends (l ++ [r]) = ends l ++ [((puts (l ++ [r])).length : Int)] := by
  unfold ends
  rw [List.length_append, List.length_singleton, List.range_succ, List.map_append]
  congr 1
  · apply List.map_congr_left
    intro i hi
    rw [List.mem_range] at hi
    rw [List.take_append_of_le_length (by omega)]
  · simp [List.take_of_length_le (show (l ++ [r]).length ≤ l.length + 1 by simp)]
theorem ends_at (l : List Rc) (i : Nat) (h : i < l.length) : (ends l).getD i 0 = ((puts (l.take (i + 1))).length : Int) := by
  simp [ends, List.getD, h]
theorem whole_le : ∀ (l : List Rc) (k : Nat), whole l k ≤ l.length
  | [], _ => by simp [whole]
  | r :: l, k => by
    unfold whole
    split
    · have := whole_le l (k - (putB r).length)
      rw [List.length_cons]
      omega
    · omega
theorem whole_iff : ∀ (l : List Rc) (k i : Nat), i < l.length → ((puts (l.take (i + 1))).length ≤ k ↔ i + 1 ≤ whole l k)
  | [], _, i, h => by simp at h
  | r :: l, k, 0, _ => by
    unfold whole
    have e : (puts ((r :: l).take (0 + 1))).length = (putB r).length := by simp [puts]
    rw [e]
    split
    · rename_i q; constructor <;> intro _ <;> omega
    · rename_i q; constructor <;> intro _ <;> omega
  | r :: l, k, i + 1, h => by
    unfold whole
    rw [List.take_succ_cons, puts_cons, List.length_append]
    have ih := whole_iff l (k - (putB r).length) i (by simpa using h)
    split
    · rename_i q
      constructor
      · intro z
        have := ih.1 (by omega)
        omega
      · intro z
        have := ih.2 (by omega)
        omega
    · rename_i q
      constructor <;> intro _ <;> omega
end Go.Proofs.YtpkobpdiddjnpaaDoor
