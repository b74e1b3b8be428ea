/-
  What Scan answers: the walk.
-/
import Derived.Test.YtcenchnmibdebaaDoorSn
import Derived.Test.YtcenchnmibdebaaDoorTk
namespace Go.Proofs.YtcenchnmibdebaaDoor
open Go.RowKit
set_option maxRecDepth 100000

set_option maxHeartbeats 4000000 in
theorem scan_any (v : Value) (X : List Int) (w : World) (h : Sl w v X) (ht : Tb w) (hl : X.length ≤ 100000) :
    Calls Tryd.prog 18 #[v] w fun e w' => ∃ v', e = .returned (.tuple #[v', .int .i64 ((scn X).2.1 : Nat), .int .i64 (scn X).2.2]) ∧ RR w' w.heap.size v' (scn X).1 ∧ Below w.heap.size w w' := by
  obtain ⟨a, c, rfl, hc1, hc2, hc3, hrow⟩ := id h
  have HX : Hid (Sl w (.slice a X.length c) X) := h
  have HBT : Hid (Bts X) := h.bytes
  have HTB : Hid (Tb w) := ht
  have HST : Hid (∀ p l, SJ X p l → p < X.length → ahE (X.drop p) ≠ 0 → scn X = (l, p, ahE (X.drop p))) := fun p l h1 h2 h3 => h1.stop h2 h3
  have HAL : Hid (∀ l, SJ X X.length l → scn X = (l, X.length, 0)) := fun l h1 => h1.all
  have HGO : Hid (∀ p l, SJ X p l → p < X.length → ahE (X.drop p) = 0 → SJ X (p + (ahU (X.drop p)).toNat) (l ++ [ahR (X.drop p)])) := fun p l h1 h2 h3 => h1.go h.bytes h2 h3
  have HNA : Hid (a = none → X.length = 0) := fun e => by have := hc3 e; omega
  have hn := hl
  obtain ⟨n, hn'⟩ : ∃ n, n = X.length := ⟨_, rfl⟩
  have HN : Hid (n = X.length) := hn'
  rw [← hn'] at HX hc1 hn HNA ⊢
  have P0 : Hid (SJ X 0 []) := SJ.zero X
  clear h ht hl hrow hc3 hn'
  generalize scn X = R at *
  go_enter Tryd.func18, Tryd.ntmps18
  go_wp2
  go_loopw [5, 6] (fun s5 s6 wr => ∃ (p : Nat) (l : List Rc), p ≤ n ∧ l.length ≤ p ∧ s6 = .int .i64 p ∧ RR wr w.heap.size s5 l ∧ SJ X p l ∧ Below w.heap.size w wr) (fun _ s6 _ => n - (intOf s6).toNat)
  case atStart => exact ⟨0, [], by omega, by simp, rfl, RRt.nil _ _ _, P0.out, Below.refl _ _⟩
  case round =>
    obtain ⟨p, l, hp, hlp, rfl, rr, sj, bel⟩ := hrel
    have HB : Hid (Below w.heap.size w wr) := bel
    have HR : Hid (RR wr w.heap.size u5 l) := rr
    have HS : Hid (SJ X p l) := sj
    have HLL : Hid (l.length ≤ p) := hlp
    obtain ⟨ra, rc, rfl, -, -, -⟩ := rr.is.shape
    clear bel rr sj hlp P0
    by_cases hlt : p < n
    · have lt2 : (p : Int) < (n : Int) := by omega
      have hpl : p < X.length := by rw [← HN.out]; exact hlt
      obtain ⟨b, off, rfl⟩ : ∃ b off, a = some ⟨b, off, none⟩ := by
        obtain ⟨a', c', e, _, _, h3', hr⟩ := HX.out
        cases e
        rcases hr with h0 | ⟨_, b, off, e, _⟩
        · have := HN.out; omega
        · exact ⟨b, off, e⟩
      have hcp : ¬ c = p := by omega
      have q1 : (p : Int) ≤ (n : Int) := by omega
      have q0 : (0 : Int) ≤ (p : Int) := by omega
      have sd := (HX.out.kept HB.out).drop p (by omega)
      have ca := ahead_any _ _ wr sd (HTB.out.kept HB.out) (by rw [List.length_drop]; have := HN.out; omega)
      have bd := bts_drop HBT.out p
      have ST := HST.out p l HS.out hpl
      have GO := HGO.out p l HS.out hpl
      have UP : ahE (X.drop p) = 0 → 1 ≤ (ahU (X.drop p)).toNat ∧ p + (ahU (X.drop p)).toNat ≤ n ∧ 0 ≤ ahU (X.drop p) := fun he => by
        obtain ⟨h1, h2, h3, -, -⟩ := ahU_pos bd he
        rw [List.length_drop] at h2
        have := HN.out
        exact ⟨h1, by omega, h3⟩
      have RO : (ahR (X.drop p)).ok := by
        by_cases he : ahE (X.drop p) = 0
        · exact (ahU_pos bd he).2.2.2.1
        · unfold ahR; rw [if_neg he]; exact rc0_ok
      clear sd bd HST HGO HAL
      generalize X.drop p = Y at *
      generalize ahE Y = E at *
      generalize ahU Y = U at *
      generalize ahR Y = x at *
      have HST2 : Hid (E ≠ 0 → R = (l, p, E)) := ST
      have HGO2 : Hid (E = 0 → SJ X (p + U.toNat) (l ++ [x])) := GO
      have HUP : Hid (E = 0 → 1 ≤ U.toNat ∧ p + U.toNat ≤ n ∧ 0 ≤ U) := UP
      have HRO : Hid x.ok := RO
      have HI : Hid ((Tryd.prog.info? 33).map (·.size) = some x.cells.toArray.size) := Rc.infoA x RO
      have HE2 : Hid (rzc.size = x.cells.toArray.size) := rzc_size.trans (Rc.size x RO).symm
      have H1 : Hid (x.cells.toArray.all (·.oneCell') = true) := Rc.ones x
      have ZR : Hid ((Tryd.prog.info? 33).map (·.size) = some x.cells.length) := Rc.infoL x RO
      unfold Rc.val at ca
      clear ST GO UP RO
      obtain ⟨ln, hln⟩ : ∃ ln, ln = l.length := ⟨_, rfl⟩
      rw [← hln] at HR ⊢
      clear hln
      go_wp2_with fail
      refine ca.mono ?_
      rintro e w2 ⟨rfl, b2⟩
      have B2 : Hid (Below w.heap.size w w2) := HB.out.trans (b2.mono HB.out.size)
      have R2 : Hid (RR w2 w.heap.size (.slice ra ln rc) l) := HR.out.below b2
      clear ca b2 HR HB
      obtain ⟨W3, hW3⟩ : ∃ W3, W3 = w2.alloc (.cells x.cells.toArray 33) := ⟨_, rfl⟩
      have b3 : Below w2.heap.size w2 W3 := by rw [hW3]; exact al_below _ _
      have e1 := alloc_rc w2 x
      rw [← hW3] at e1
      have HE1 : Hid ((w2.alloc (.cells #[.int .u8 0, .int .i64 0, .string ⟨#[]⟩, .int .u8 0, .int .u8 0, .int .u8 0, .int .u8 0, .int .u8 0, .int .u8 0, .int .u8 0, .int .u8 0, .int .u8 0, .int .u8 0, .int .u8 0, .int .u8 0, .int .u8 0, .int .u8 0, .int .u8 0, .int .u8 0, .int .u8 0, .int .u8 0, .int .u8 0, .int .u8 0, .int .u8 0, .int .u8 0, .int .u8 0, .int .u8 0, .int .u8 0, .int .u8 0, .int .u8 0, .int .u8 0, .int .u8 0, .int .u8 0, .int .u8 0, .int .u8 0, .int .i64 0, .int .i64 0] 33)).setRow w2.heap.size x.cells.toArray = W3) := e1
      have RN3 : Hid (W3.rangeAt w2.heap.size 0 x.cells) := by unfold Hid; rw [hW3]; exact rc_new w2 x
      have B3 : Hid (Below w.heap.size w W3) := B2.out.trans (b3.mono B2.out.size)
      have R3 : Hid (RR W3 w.heap.size (.slice ra ln rc) l) := R2.out.below b3
      clear e1 hW3 b3 B2 R2
      go_wp2_with (refine wpList_store_row rfl 33 _ _ rfl w2.heap.size x.cells.toArray rfl rfl 33 rzc (new_rc w2) HI.out HE2.out H1.out (Hid.out ?_))
      unfold Hid
      rw [HE1.out]
      by_cases hE : E = 0
      · subst hE
        obtain ⟨u1, u2, u3⟩ := HUP.out rfl
        have HG3 : Hid (SJ X (p + U.toNat) (l ++ [x])) := HGO2.out rfl
        have xw : wrap64 ((p : Int) + U) = ((p + U.toNat : Nat) : Int) := by unfold wrap64; omega
        have xp : IntKind.i64.wrap ((p : Int) + U) = ((p + U.toNat : Nat) : Int) := by rw [IntKind.wrap_i64]; omega
        obtain ⟨W4, hW4⟩ : ∃ W4, W4 = W3.alloc (.cells x.cells.toArray 33) := ⟨_, rfl⟩
        have b4 : Below W3.heap.size W3 W4 := by rw [hW4]; exact al_below _ _
        have K4 : Hid (W4.rangeAt W3.heap.size 0 x.cells) := by unfold Hid; rw [hW4]; exact rc_new W3 x
        have B4 : Hid (Below w.heap.size w W4) := B3.out.trans (b4.mono B3.out.size)
        have R4 : Hid (RR W4 w.heap.size (.slice ra ln rc) l) := R3.out.below b4
        clear b4 HST2 HGO2 HUP B3 R3
        go_wp2_with (first
          | refine wpList_load_mid rfl 33 _ rfl w2.heap.size 0 rfl x.cells _ RN3.out Tryd.underlying33 rfl ZR.out ?_
          | refine wpList_bsR rfl _ rfl x HRO.out rfl (Hid.out ?_))
        unfold Hid
        rw [← hW4]
        clear hW4 RN3
        go_wp2_with (at_builtin; refine wpList_append_it rfl _ _ 40 33 37 80 rc0.val rfl Tryd.underlying40 infoR (by simp [Rc.val, Value.cells, Rc.len rc0_ok]) (by decide) (by decide) w.heap.size _ (l.map Rc.cells) rfl R4.out.1 W3.heap.size x.cells 1 (Rc.len HRO.out) x.one rfl K4.out (by rw [List.length_map]; have := HLL.out; omega) B4.out.size (Hid.out ?_))
        unfold Hid
        intro v5 w5 r5 g5
        have r5' : RR w5 w.heap.size v5 (l ++ [x]) := R4.out.one HRO.out r5
        have B5 : Hid (Below w.heap.size w w5) := B4.out.grown g5 B4.out.size (own_base R4.out.1.1)
        have R5 : Hid (RR w5 w.heap.size v5 (l ++ [x])) := r5'
        have HL5 : Hid ((l ++ [x]).length ≤ p + U.toNat) := by
          unfold Hid
          rw [List.length_append, List.length_singleton]
          have := HLL.out
          omega
        obtain ⟨a5, c5, e5, -, -, -⟩ := r5'.is.shape
        clear r5 g5 r5' B4 R4 K4
        subst e5
        generalize l ++ [x] = l2 at *
        go_wp2
        go_roundw
        case rel => exact ⟨p + U.toNat, l2, by omega, HL5.out, by first | rfl | go_num, R5.out, HG3.out, B5.out⟩
        case measure => simp [intOf]; omega
      · have HR : Hid (R = (l, p, E)) := HST2.out hE
        have dE : (E != 0) = true := by simpa using hE
        clear HST2 HGO2 HUP
        go_wp2
        go_ret3
        exact ⟨_, by rw [HR.out]; rfl, by rw [HR.out]; exact R3.out, B3.out⟩
    · obtain rfl : p = n := by omega
      have HR2 : Hid (R = (l, p, 0)) := by
        unfold Hid
        have h5 := HAL.out l (by rw [← HN.out]; exact HS.out)
        rw [h5, HN.out]
      clear HST HGO HAL HS
      go_wp2
      go_ret3
      exact ⟨_, by rw [HR2.out]; rfl, by rw [HR2.out]; exact HR.out, HB.out⟩
end Go.Proofs.YtcenchnmibdebaaDoor
