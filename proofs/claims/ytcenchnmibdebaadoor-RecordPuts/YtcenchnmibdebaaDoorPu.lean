/-
  What Put answers.
-/
import Derived.Test.YtcenchnmibdebaaDoorBy
namespace Go.Proofs.YtcenchnmibdebaaDoor
open Go.RowKit
set_option maxRecDepth 100000

/-- A record's body, sealed; its bytes. -/
def sealB (r : Rc) : List Int := bodyB r ++ Cr.leB (Cr.sumOf (bodyB r))
def putB (r : Rc) : List Int := if rck r = 0 then Fi.textB (strB (sealB r)) else []
theorem bodyB_len (r : Rc) (hr : r.ok) : (bodyB r).length ≤ 1100 + r.x.p.size := by
  have li := numB_len8 r.x.i
  have ln := numB_len8 r.x.n
  have lo := numB_len8 r.x.o
  have lt := textB_len9 r.x.p
  have ls := hr.2.2.1
  unfold bodyB
  split
  · simp; omega
  · split
    · simp; omega
    · simp; omega
theorem sealB_len (r : Rc) (hr : r.ok) : (sealB r).length ≤ 1104 + r.x.p.size := by
  have := bodyB_len r hr
  unfold sealB
  rw [List.length_append, show (Cr.leB (Cr.sumOf (bodyB r))).length = 4 from rfl]
  omega
theorem bytes_app {X Y : List Int} (hX : ∀ i, 0 ≤ X.getD i 0 ∧ X.getD i 0 < 256) (hY : ∀ i, 0 ≤ Y.getD i 0 ∧ Y.getD i 0 < 256) : ∀ i, 0 ≤ (X ++ Y).getD i 0 ∧ (X ++ Y).getD i 0 < 256 := fun i => by
  have := bytes_flat [X, Y] (fun Z hZ => by
    simp only [List.mem_cons, List.not_mem_nil, or_false] at hZ
    rcases hZ with rfl | rfl
    · exact hX
    · exact hY) i
  simpa using this
set_option maxHeartbeats 1000000 in
theorem put_any (r : Rc) (w : World) (hr : r.ok) (ht : Tb w) (hp : r.x.p.size ≤ 1000) :
    Calls Tryd.prog 6 #[r.val] w fun e w' => ∃ v, e = .returned (.tuple #[v, .int .i64 (rck r)]) ∧ Sl w' v (putB r) ∧ Below w.heap.size w w' := by
  obtain ⟨W1, hW1⟩ : ∃ W1, W1 = w.alloc (.cells r.cells.toArray 33) := ⟨_, rfl⟩
  have b1 : Below w.heap.size w W1 := by rw [hW1]; exact al_below _ _
  have r1 : W1.rangeAt w.heap.size 0 r.cells := by rw [hW1]; exact rc_new w r
  have hml : r.x.p.size ≤ maxLen := by unfold maxLen; omega
  have B1 : Hid (Below w.heap.size w W1) := b1
  have hW1' : w.alloc (.cells r.cells.toArray 33) = W1 := hW1.symm
  have C1 : Hid (Calls Tryd.prog 9 #[.agg r.cells.toArray] W1 fun e w' => e = .returned (.int .i64 (rck r)) ∧ Below W1.heap.size W1 w') := rcheck_any r W1 hr (ht.kept b1).2.2 hml
  have C2 : Hid (∀ W, Below W1.heap.size W1 W → Calls Tryd.prog 21 #[.agg r.cells.toArray] W fun e w' => ∃ u, e = .returned u ∧ Sl w' u (bodyB r) ∧ Below W.heap.size W w') := fun W hb => body_any r W hr ((ht.kept b1).kept hb) hp
  have C3 : Hid (∀ W u, Below W1.heap.size W1 W → Sl W u (bodyB r) → Calls Tryd.prog 20 #[u] W fun e w' => ∃ v, e = .returned v ∧ Sl w' v (sealB r) ∧ Below W.heap.size W w') := fun W u hb hs => (Cr.seal_any u (bodyB r) W ((ht.kept b1).kept hb).1 hs (by have := bodyB_len r hr; omega)).mono fun e w' ⟨v, e1, o, b⟩ => ⟨v, e1, sl_owned o (bytes_app hs.bytes (Cr.leB_bytes _)), b⟩
  have C4 : Hid (∀ W, Below W1.heap.size W1 W → Calls Tryd.prog 19 #[.string (strB (sealB r))] W fun e w' => ∃ v, e = .returned v ∧ Sl w' v (Fi.textB (strB (sealB r))) ∧ Below W.heap.size W w') := fun W hb => Fi.ftext_any (strB (sealB r)) W ((ht.kept b1).kept hb).2.1 (by
    have := sealB_len r hr
    have e : (strB (sealB r)).size = (sealB r).length := Fi.strB_size _
    omega)
  have RN : Hid (∀ W, Below W1.heap.size W1 W → W.rangeAt w.heap.size 0 r.cells) := fun W hb => range_kept r1 hb
  have ZR : Hid ((Tryd.prog.info? 33).map (·.size) = some r.cells.length) := Rc.infoL r hr
  have HP : Hid (putB r = if rck r = 0 then Fi.textB (strB (sealB r)) else []) := rfl
  unfold Rc.val
  clear hr ht hp b1 r1 hW1 hml
  generalize putB r = R at *
  generalize rck r = c at *
  generalize bodyB r = Y at *
  generalize sealB r = Z at *
  generalize r.cells = cs at *
  have c1 := C1.out
  clear C1
  go_enter Tryd.func6, Tryd.ntmps6
  go_wp2_with (refine wpList_load_mid rfl 33 _ rfl w.heap.size 0 rfl cs _ (RN.out W1 (Below.refl _ _)) Tryd.underlying33 rfl ZR.out ?_)
  refine c1.mono ?_
  rintro e w2 ⟨rfl, b2⟩
  have B2 : Hid (Below W1.heap.size W1 w2) := b2
  clear c1 b2 hW1'
  by_cases hc : c = 0
  · subst hc
    have HR : Hid (R = Fi.textB (strB Z)) := by unfold Hid; have := HP.out; simpa using this
    clear HP
    have c2 := C2.out w2 B2.out
    go_wp2_with (refine wpList_load_mid rfl 33 _ rfl w.heap.size 0 rfl cs _ (RN.out w2 B2.out) Tryd.underlying33 rfl ZR.out ?_)
    refine c2.mono ?_
    rintro e w3 ⟨u3, rfl, s3, b3⟩
    have B3 : Hid (Below W1.heap.size W1 w3) := B2.out.trans (b3.mono B2.out.size)
    have c3 := C3.out w3 u3 B3.out s3
    obtain ⟨a3, n3, rfl, _⟩ := id s3
    clear c2 C2 C3 s3 b3 B2
    go_wp2_with fail
    refine c3.mono ?_
    rintro e w4 ⟨u4, rfl, s4, b4⟩
    have B4 : Hid (Below W1.heap.size W1 w4) := B3.out.trans (b4.mono B3.out.size)
    have c4 := C4.out w4 B4.out
    obtain ⟨a4, n4, rfl, _⟩ := id s4
    have cv := s4.conv
    clear c3 C4 s4 b4 B3
    generalize Z.length = zl at *
    generalize strB Z = SZ at *
    go_wp2_with fail
    refine c4.mono ?_
    rintro e w5 ⟨u5, rfl, s5, b5⟩
    have B5 : Hid (Below w.heap.size w w5) := B1.out.trans ((B4.out.trans (b5.mono B4.out.size)).mono B1.out.size)
    have S5 : Hid (Sl w5 u5 R) := by unfold Hid; rw [HR.out]; exact s5
    obtain ⟨a5, n5, rfl, _⟩ := id s5
    clear c4 cv s5 b5 B4 HR
    go_wp2
    exact bodyPost_ret (results_tmp2 rfl _ _ _) rfl ⟨_, rfl, S5.out, B5.out⟩
  · have HR : Hid (R = []) := by unfold Hid; have := HP.out; rwa [if_neg hc] at this
    have hc2 : (c != 0) = true := by simpa using hc
    have B3 : Hid (Below w.heap.size w w2) := B1.out.trans (B2.out.mono B1.out.size)
    clear HP C2 C3 C4 B2 B1
    go_wp2
    exact bodyPost_ret (results_tmp2 rfl _ _ _) rfl ⟨_, rfl, by rw [HR.out]; exact Sl.none _, B3.out⟩
end Go.Proofs.YtcenchnmibdebaaDoor
