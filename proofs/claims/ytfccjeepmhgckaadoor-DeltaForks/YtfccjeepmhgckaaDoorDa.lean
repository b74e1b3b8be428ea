/-
  What Apply answers.
-/
import Derived.Test.YtfccjeepmhgckaaDoorLf
import Derived.Test.YtfccjeepmhgckaaDoorDk
namespace Go.Proofs.YtfccjeepmhgckaaDoor
open Go.RowKit
set_option maxRecDepth 100000

theorem makeX_take (old : List Int) (l : List Xp) (h : ∀ x ∈ l, mayX x old.length = true) (ht : totX l ≤ 65536) (j : Nat) : (makeX old (l.take j)).length ≤ 65536 := by
  have h1 := makeX_len old (l.take j) fun x hx => h x (List.mem_of_mem_take hx)
  have h2 := totX_take l j
  omega
/-- A copy of bytes, as Go cuts it. -/
theorem sl_copy {w : World} {a : Option Addr} {L c : Nat} {old : List Int} (h : SlX w (.slice a L c) old) (p m : Nat) (hm : 1 ≤ m) (hp : p + m ≤ L) : ∃ b off, a = some ⟨b, off, none⟩ ∧ Sl w (.slice (some ⟨b, off + p, none⟩) m (c - p)) (cut old p m) := by
  obtain ⟨h1, h2⟩ := h
  obtain ⟨a', c', e, k1, k2, k3, k4⟩ := id h1
  cases e
  cases a with
  | none => have := k3 rfl; omega
  | some x =>
    obtain ⟨b, off, sp⟩ := x
    obtain rfl : sp = none := h2 _ _ _ rfl (by omega)
    exact ⟨b, off, rfl, sl_cut h1 p m hp⟩
set_option maxHeartbeats 2000000 in
theorem apply_any (v u : Value) (old : List Int) (l : List Xp) (w : World) (h0 : SlX w v old) (h : XS w u l) (hm : l.length ≤ 1000000) :
    Calls Tryd.prog 13 #[v, u] w fun e w' => ∃ v', e = .returned (.tuple #[v', .int .i64 (appX old l).2]) ∧ Ow w' w.heap.size v' (appX old l).1 ∧ Below w.heap.size w w' := by
  obtain ⟨a, c, rfl, h2, h3, h4⟩ := h.shape
  obtain ⟨a0, c0, rfl, g2, g3, g4, -⟩ := id h0.1
  have CK := check_any (.slice a l.length c) l old.length w h hm (by unfold maxLen at g3; omega)
  have HS0 : Hid (SlX w (.slice a0 old.length c0) old) := h0
  have HS : Hid (XS w (.slice a l.length c) l) := h
  have HR : Hid (appX old l = if chkX l old.length = 0 then (makeX old l, 0) else ([], chkX l old.length)) := rfl
  have HOK : Hid (chkX l old.length = 0 → (∀ x ∈ l, mayX x old.length = true) ∧ totX l ≤ 65536) := fun e => (chkX_ok e).2
  obtain ⟨L, hn'⟩ : ∃ L, L = l.length := ⟨_, rfl⟩
  have HN : Hid (L = l.length) := hn'
  obtain ⟨L0, hn0⟩ : ∃ L0, L0 = old.length := ⟨_, rfl⟩
  have HN0 : Hid (L0 = old.length) := hn0
  rw [← hn'] at HS h2 hm CK ⊢
  rw [← hn0] at HS0 g2 CK HR HOK ⊢
  unfold maxLen at g3
  clear h h3 h4 hn' hn0 h0 g4
  generalize appX old l = R at *
  generalize chkX l (L0 : Int) = k at *
  go_enter Tryd.func13, Tryd.ntmps13
  go_wp2_with fail
  refine CK.mono ?_
  rintro e w1 ⟨rfl, b1⟩
  clear CK
  have B1 : Hid (Below w.heap.size w w1) := b1
  clear b1
  by_cases hk : k = 0
  · obtain rfl : R = (makeX old l, 0) := by have := HR.out; rwa [if_pos hk] at this
    obtain ⟨hmay, htot⟩ := HOK.out hk
    subst hk
    have HM : Hid (∀ j, j < L → mayX (atX l j) L0 = true) := fun j hj => hmay _ (atX_mem l j (by rw [← HN.out]; exact hj))
    have HT : Hid (∀ j, (makeX old (l.take j)).length ≤ 65536) := makeX_take old l (by rw [← HN0.out]; exact hmay) htot
    have HU : Hid (∀ j, j < L → makeX old (l.take (j + 1)) = makeX old (l.take j) ++ pieX old (atX l j)) := fun j hj => makeX_step old l j (by rw [← HN.out]; exact hj)
    clear HOK HR hmay htot
    go_wp2_with fail
    go_loopw [7, 19] (fun s q wr => ∃ j : Nat, j ≤ L ∧ q = .int .i64 j ∧ Ow wr w.heap.size s (makeX old (l.take j)) ∧ Below w.heap.size w wr) (fun _ q _ => L - (intOf q).toNat)
    case atStart => exact ⟨0, by omega, rfl, Ow.nil _ _, B1.out⟩
    case round =>
      clear B1
      obtain ⟨j, hj, rfl, oe, bel⟩ := hrel
      have HB : Hid (Below w.heap.size w wr) := bel
      obtain ⟨va, vc, rfl⟩ := oe.shape
      have HO : Hid (Ow wr w.heap.size (.slice va (makeX old (l.take j)).length vc) (makeX old (l.take j))) := oe
      clear bel oe
      by_cases hlt : j < L
      · have lt2 : (j : Int) < (L : Int) := by omega
        obtain ⟨b, off, ua, un, uc, rfl, k0, k1, k2, k3, hun, sd⟩ := (HS.out.kept HB.out).at j (by rw [← HN.out]; exact hlt)
        have hmj := HM.out j hlt
        have hlen := HT.out (j + 1)
        have hu := HU.out j hlt
        rw [hu, List.length_append] at hlen
        have HUJ : Hid (makeX old (l.take (j + 1)) = makeX old (l.take j) ++ pieX old (atX l j)) := hu
        clear hu
        generalize atX l j = x at *
        generalize makeX old (l.take j) = M at *
        obtain ⟨W1, hW1⟩ : ∃ W1, W1 = wr.alloc (.cells #[.bool x.c, .int .i64 x.a, .int .i64 x.n, .slice ua un uc] 46) := ⟨_, rfl⟩
        have b1 : Below wr.heap.size wr W1 := by rw [hW1]; exact al_below _ _
        have B1 : Hid (Below w.heap.size w W1) := HB.out.trans (b1.mono HB.out.size)
        have O1 : Hid (Ow W1 w.heap.size (.slice va M.length vc) M) := HO.out.below b1
        have SD : Hid (Sl W1 (.slice ua un uc) x.d) := sd.kept b1
        have HLEN : Hid (M.length + (pieX old x).length ≤ 65536) := hlen
        have HMN : Hid (M.length ≤ 65536) := by unfold Hid; omega
        obtain ⟨mn, hmn⟩ : ∃ mn, mn = M.length := ⟨_, rfl⟩
        have HML : Hid (mn = M.length) := hmn
        rw [← hmn] at O1 ⊢
        clear HO b1 hlen hmn
        cases hxc : x.c with
        | true =>
          obtain ⟨-, q1, q2, q3, q4⟩ := (mayX_copy hxc).1 hmj
          obtain ⟨p, hp⟩ : ∃ p : Nat, x.a = p := ⟨x.a.toNat, by omega⟩
          obtain ⟨m, hmm⟩ : ∃ m : Nat, x.n = m := ⟨x.n.toNat, by omega⟩
          rw [hp] at q1 q3 q4
          rw [hmm] at q2 q4
          obtain ⟨b0, off0, rfl, sc⟩ := sl_copy (HS0.out.kept B1.out) p m (by omega) (by omega)
          have HP : Hid (pieX old x = cut old p m) := by unfold Hid pieX; rw [if_pos hxc, hp, hmm, Int.toNat_natCast, Int.toNat_natCast]
          have SC : Hid (Sl W1 (.slice (some ⟨b0, off0 + p, none⟩) m (c0 - p)) (cut old p m)) := sc
          rw [HP.out] at HUJ HLEN
          rw [hxc, hp, hmm] at hW1
          rw [hxc] at k0
          rw [hp] at k1
          rw [hmm] at k2
          clear hmj hun sd SD HP sc hxc hp hmm
          generalize cut old p m = Z at *
          have e1 : ¬ c0 = p := by omega
          have e2 : (p : Int) + (m : Int) ≤ (c0 : Int) := by omega
          have e3 : (p : Int) ≤ (p : Int) + (m : Int) := by omega
          have e4 : ((p : Int) + (m : Int)).toNat - p = m := by omega
          have e5 : wrap64 ((p : Int) + (m : Int)) = (p : Int) + (m : Int) := by unfold wrap64; omega
          go_wp2_with (at_builtin; rw [← hW1]; refine wpList_append_ow rfl _ _ rfl w.heap.size _ M rfl O1.out _ Z rfl SC.out (by have := HLEN.out; omega) B1.out.size (Hid.out ?_))
          unfold Hid
          intro v4 w4 r4 g4
          rw [← hW1] at g4
          have B4 : Hid (Below w.heap.size w w4) := B1.out.trans g4
          have O4 : Hid (Ow w4 w.heap.size v4 (makeX old (l.take (j + 1)))) := by unfold Hid; rw [HUJ.out]; exact r4
          clear r4 g4 hW1
          go_wp2
          go_roundw
          case rel => exact ⟨j + 1, by omega, by go_num, O4.out, B4.out⟩
          case measure => simp [intOf]; omega
        | false =>
          have HP : Hid (pieX old x = x.d) := by unfold Hid pieX; rw [if_neg (by rw [hxc]; simp)]
          rw [HP.out] at HUJ HLEN
          rw [hxc] at hW1 k0
          clear hmj hun sd HP hxc
          generalize x.d = Z at *
          go_wp2_with (at_builtin; rw [← hW1]; refine wpList_append_ow rfl _ _ rfl w.heap.size _ M rfl O1.out _ Z rfl SD.out (by have := HLEN.out; omega) B1.out.size (Hid.out ?_))
          unfold Hid
          intro v4 w4 r4 g4
          rw [← hW1] at g4
          have B4 : Hid (Below w.heap.size w w4) := B1.out.trans g4
          have O4 : Hid (Ow w4 w.heap.size v4 (makeX old (l.take (j + 1)))) := by unfold Hid; rw [HUJ.out]; exact r4
          clear r4 g4 hW1
          go_wp2
          go_roundw
          case rel => exact ⟨j + 1, by omega, by go_num, O4.out, B4.out⟩
          case measure => simp [intOf]; omega
      · obtain rfl : j = L := by omega
        have h2 : l.take j = l := by rw [HN.out, List.take_length]
        rw [h2] at HO
        rw [h2]
        clear h2
        obtain ⟨mn, hmn⟩ : ∃ mn, mn = (makeX old l).length := ⟨_, rfl⟩
        rw [← hmn] at HO ⊢
        clear hmn
        go_wp2
        go_ret2
        exact ⟨_, rfl, HO.out, HB.out⟩
  · obtain rfl : R = ([], k) := by have := HR.out; rwa [if_neg hk] at this
    have hk2 : (k != 0) = true := by simpa using hk
    clear HR HOK
    go_wp2
    go_ret2
    exact ⟨_, rfl, Ow.nil _ _, B1.out⟩
end Go.Proofs.YtfccjeepmhgckaaDoor
