/-
  Items that are put are read as they were; bytes that are read are those that are put; a byte more, or less, is none: for every list of items and every bytes; nothing that came in is changed.
-/
import Derived.Test.YtdnbiibijoggoaaDoorFr
import Derived.Test.YtdnbiibijoggoaaDoorLi
namespace Go.Proofs.YtdnbiibijoggoaaDoor.manifestBack
open Go.ChangeShapes Go.WideShapes Go.ChangeAt Go.RowKit Go.Deep Go.ChangeMaps
set_option maxRecDepth 100000

theorem own_none (w : World) : (w.alloc (.cells #[] 5)).ownsRow w.heap.size 5 1 (.slice (some ⟨w.heap.size, 0, none⟩) 0 0) 0 [] :=
  World.ownsRow_made (base := w.heap.size) (e := 5) (size := 1) w #[] 0 (Nat.le_refl _) (by unfold maxLen; omega) rfl
theorem mget_cases (b : List Int) : (mget b = (rdA b, 0) ∧ mput (rdA b) = (b, 0)) ∨ mget b = ([], 4) := by
  unfold mget
  by_cases h : (mput (rdA b)).2 = 0 ∧ (mput (rdA b)).1 = b
  · rw [if_pos h]
    left
    refine ⟨rfl, ?_⟩
    obtain ⟨h1, h2⟩ := h
    generalize mput (rdA b) = P at *
    obtain ⟨x, y⟩ := P
    simp only at h1 h2
    rw [h1, h2]
  · rw [if_neg h]; exact .inr rfl
theorem rdA_len (b : List Int) (h : Bt b) : (rdA b).length ≤ 64 := by
  unfold rdA
  rw [rds_len]
  have h1 := rN_bd b 0 64 h
  have h2 : (rN b 0 64).1 ≤ 64 := by unfold rN; rw [if_pos rfl]; exact naN_le b 64 (by omega)
  omega
theorem rdA_path (b : List Int) : ∀ x ∈ rdA b, x.p.size ≤ 1000 := rds_path _ _ _
set_option maxHeartbeats 8000000 in
theorem walk (v0 : Value) (l : List It) (v1 : Value) (raw : List Int) (w : World) (hw : Wd w) (h0 : IS w v0 l) (h1 : Sl w v1 raw) :
    Calls Tryd.prog 3 #[v0, v1] w fun e w' => e = .returned (.bool true) ∧ Below w.heap.size w w' := by
  have CL := lightI_any v0 l w h0 (by obtain ⟨a, c, rfl, h2, h3, _⟩ := h0.shape; unfold maxLen at h3; omega)
  have CA : Hid (∀ W, Below w.heap.size w W → Calls Tryd.prog 6 #[] W fun e w' => e = .returned (.bool true) ∧ Below W.heap.size W w') := fun W hb => awake_any W (hw.kept hb)
  have CP : Hid (∀ W v (m : List It), Below w.heap.size w W → IS W v m → m.length ≤ 100 → (∀ x ∈ m, x.p.size ≤ 1000) → Calls Tryd.prog 7 #[v] W fun e w' => ∃ v', e = .returned (.tuple #[v', .int .i64 (mput m).2]) ∧ Ow w' W.heap.size v' (mput m).1 ∧ Below W.heap.size W w') := fun W v m hb hi hl hp => put_any v m W hi hl hp (hw.kept hb)
  have CG : Hid (∀ W v (b : List Int), Below w.heap.size w W → Sl W v b → b.length ≤ 1000000 → Calls Tryd.prog 8 #[v] W fun e w' => ∃ v', e = .returned (.tuple #[v', .int .i64 (mget b).2]) ∧ RI w' W.heap.size v' (mget b).1 ∧ Below W.heap.size W w') := fun W v b hb hi hl => get_any v b W hi hl (hw.kept hb)
  have H0 : Hid (IS w v0 l) := h0
  have H1 : Hid (Sl w v1 raw) := h1
  have HOK : Hid (∀ x ∈ l, x.ok) := h0.ok
  obtain ⟨a0, c0, rfl, _, _, _⟩ := h0.shape
  obtain ⟨a1, c1, rfl, _, h1m, _⟩ := id h1
  have h1c : (raw.length : Int) ≤ 9223372036854775807 := by unfold maxLen at h1m; omega
  have HBT : Hid (Bt raw) := h1.bytes
  obtain ⟨n0, hn0⟩ : ∃ n0, n0 = l.length := ⟨_, rfl⟩
  obtain ⟨n1, hn1⟩ : ∃ n1, n1 = raw.length := ⟨_, rfl⟩
  have HN0 : Hid (n0 = l.length) := hn0
  have HN1 : Hid (n1 = raw.length) := hn1
  rw [← hn0] at CL H0 ⊢
  rw [← hn1] at H1 h1c ⊢
  clear h0 h1 hw hn0 hn1 h1m
  go_enter Tryd.func3, Tryd.ntmps3
  go_wp2_with fail
  refine CL.mono ?_
  rintro e w' ⟨r, rfl, hww, hr⟩
  replace hww := hww.symm
  subst hww
  clear CL
  have HR : Hid (r = true → LtI l) := hr
  clear hr
  cases r
  · go_wp2_with fail
    refine (CA.out w (Below.refl _ _)).mono ?_
    rintro e w2 ⟨rfl, b2⟩
    have B2 : Hid (Below w.heap.size w w2) := b2
    clear b2
    go_wp2
    go_ret
    exact ⟨rfl, B2.out⟩
  by_cases hlong : 5000 < n1
  · have hl2 : (5000 : Int) < (n1 : Int) := by omega
    go_wp2_with fail
    refine (CA.out w (Below.refl _ _)).mono ?_
    rintro e w2 ⟨rfl, b2⟩
    have B2 : Hid (Below w.heap.size w w2) := b2
    clear b2
    go_wp2
    go_ret
    exact ⟨rfl, B2.out⟩
  have hl2 : ¬ (5000 : Int) < (n1 : Int) := by omega
  have HLT : Hid (LtI l) := HR.out rfl
  clear HR
  have cp := CP.out w _ l (Below.refl _ _) H0.out (by have := HLT.out.1; omega) HLT.out.2
  have HM : Hid (mput l = if mck l ≠ 0 then ([], mck l) else (layL l, 0)) := rfl
  go_wp2_with fail
  refine cp.mono ?_
  rintro e w3 ⟨v3, rfl, o3, b3⟩
  clear cp
  have B3 : Hid (Below w.heap.size w w3) := b3
  clear b3
  by_cases hk : mck l = 0
  · have hm : mput l = (layL l, 0) := mput_ok l hk
    rw [hm] at o3 ⊢
    clear hm
    have MG1 : Hid (mget (layL l) = (l, 0)) := mget_lay l HOK.out hk
    have MG2 : Hid (mget (layL l ++ [0]) = ([], 4)) := mget_more l 0 HOK.out hk
    have hpos := layL_pos l hk HOK.out
    have MG3 : Hid (mget ((layL l).take ((layL l).length - 1)) = ([], 4)) := mget_less l HOK.out hk (take_bytes _ _ o3.2) hpos
    have hbig : (layL l).length ≤ 200000 := by
      have h1 := lays_len l HOK.out HLT.out.2
      have h2 := numB_len8 (l.length : Int)
      have h3 := HLT.out.1
      unfold layL
      rw [List.length_append]
      omega
    clear HM hk
    generalize layL l = B at *
    have S3 : Hid (Sl w3 v3 B) := o3.sl
    obtain ⟨a3, c3, rfl, hlc, _⟩ := o3.sl
    obtain ⟨nb, hnb⟩ : ∃ nb, nb = B.length := ⟨_, rfl⟩
    have HNB : Hid (nb = B.length) := hnb
    rw [← hnb] at S3 hbig hpos hlc MG3 ⊢
    have cg := CG.out w3 _ B B3.out S3.out (by rw [← hnb]; omega)
    rw [MG1.out] at cg
    clear hnb MG1 o3
    simp only at cg
    have k0 : ((nb : Int) == 0) = false := by simp; omega
    go_wp2_with fail
    refine cg.mono ?_
    rintro e w4 ⟨v4, rfl, o4, b4⟩
    clear cg
    have B4 : Hid (Below w.heap.size w w4) := B3.out.trans (b4.mono B3.out.size)
    have S4 : Hid (Sl w4 (.slice a3 nb c3) B) := S3.out.kept b4
    have I4 : Hid (IS w4 v4 l) := o4.is
    obtain ⟨a4, c4, rfl, _, _, _⟩ := o4.is.shape
    rw [← HN0.out] at I4 ⊢
    clear o4 b4 B3 S3
    have o5 : Hid ((w4.alloc (.cells #[] 5)).ownsRow w4.heap.size 5 1 (.slice (some ⟨w4.heap.size, 0, none⟩) 0 0) 0 []) := own_none w4
    have S5 : Hid (Sl (w4.alloc (.cells #[] 5)) (.slice a3 nb c3) B) := S4.out.kept (al_below _ _)
    have L5 : Hid (w4.heap.size ≤ (w4.alloc (.cells #[] 5)).heap.size) := by unfold Hid; simp
    go_wp2_with (at_builtin; refine wpList_append_sl rfl _ _ rfl w4.heap.size _ 0 [] rfl o5.out _ B rfl S5.out (by have := HNB.out; omega) L5.out (Hid.out ?_))
    unfold Hid
    intro v6 w6 r6 g6
    have b6 : Below w4.heap.size w4 w6 := (al_below w4 (.cells #[] 5)).trans (((Below.refl w4.heap.size _).grown g6 L5.out (own_base o5.out)))
    try rw [Nat.zero_add, List.nil_append] at r6
    have O6 : Hid (w6.ownsRow w4.heap.size 5 1 v6 nb (B.map (Value.int .u8))) := by unfold Hid; rw [HNB.out]; exact r6
    have B6 : Hid (Below w.heap.size w w6) := B4.out.trans (b6.mono B4.out.size)
    have S6 : Hid (Sl w6 (.slice a3 nb c3) B) := S4.out.kept b6
    have I6 : Hid (IS w6 (.slice a4 n0 c4) l) := I4.out.kept b6
    have L6 : Hid (w4.heap.size ≤ w6.heap.size) := b6.size
    have BK : Hid (Below w4.heap.size w4 w6) := b6
    have LW : Hid (w.heap.size ≤ w4.heap.size) := B4.out.size
    obtain ⟨a6, c6, rfl⟩ := own_shape O6.out
    clear r6 g6 b6 o5 S5 L5 B4
    have O7 : Hid ((w6.alloc (.cells #[.int .u8 0] 5)).ownsRow w4.heap.size 5 1 (.slice a6 nb c6) nb (B.map (Value.int .u8))) := own_below O6.out (al_below _ _)
    have S7 : Hid (Sl (w6.alloc (.cells #[.int .u8 0] 5)) (.slice (some ⟨w6.heap.size, 0, none⟩) 1 1) [0]) := sl_lit 0 (by omega) (by omega)
    have L7 : Hid (w4.heap.size ≤ (w6.alloc (.cells #[.int .u8 0] 5)).heap.size) := by unfold Hid; have := L6.out; simp; omega
    go_wp2_with (at_builtin; refine wpList_append_sl rfl _ _ rfl w4.heap.size _ nb (B.map (Value.int .u8)) rfl O7.out _ [0] rfl S7.out (by show nb + 1 ≤ _; omega) L7.out (Hid.out ?_))
    unfold Hid
    intro v8 w8 r8 g8
    have b8 : Below w4.heap.size w6 w8 := ((al_below w6 (.cells #[.int .u8 0] 5)).mono L6.out).trans ((Below.refl w4.heap.size _).grown g8 L7.out (own_base O7.out))
    have hB : ∀ i, 0 ≤ (B ++ [0]).getD i 0 ∧ (B ++ [0]).getD i 0 < 256 := by
      refine byteList _ ?_
      rw [List.all_append, Bool.and_eq_true]
      refine ⟨?_, by decide⟩
      rw [List.all_eq_true]
      intro z hz
      obtain ⟨i, hi, rfl⟩ := List.getElem_of_mem hz
      have := S6.out.bytes i
      simp [List.getD, List.getElem?_eq_getElem hi] at this
      simpa using this
    have s8 : Sl w8 v8 (B ++ [0]) := sl_owned (n := nb + 1) (base := w4.heap.size) (by rw [List.map_append]; exact r8) hB
    obtain ⟨W, hW⟩ : ∃ W : World, W = w8 := ⟨_, rfl⟩
    clear hW W
    have B8 : Hid (Below w.heap.size w w8) := B6.out.trans (b8.mono LW.out)
    have S8 : Hid (Sl w8 (.slice a3 nb c3) B) := S4.out.kept (BK.out.trans b8)
    have I8 : Hid (IS w8 (.slice a4 n0 c4) l) := I4.out.kept (BK.out.trans b8)
    clear r8 g8 b8 O7 S7 L7 O6 S4 I4 BK LW S6 I6
    have cg := CG.out w8 _ (B ++ [0]) B8.out s8 (by rw [List.length_append, ← HNB.out]; show nb + 1 ≤ _; omega)
    rw [MG2.out] at cg
    simp only at cg
    obtain ⟨a8, c8, e8, -⟩ := s8
    have e8' : v8 = .slice a8 (nb + 1) c8 := by rw [e8, List.length_append, ← HNB.out]; rfl
    subst e8'
    clear e8 hB
    go_wp2_with fail
    refine cg.mono ?_
    rintro e w9 ⟨v9, rfl, o9, b9⟩
    clear cg
    have B9 : Hid (Below w.heap.size w w9) := B8.out.trans (b9.mono B8.out.size)
    have S9 : Hid (Sl w9 (.slice a3 nb c3) B) := S8.out.kept b9
    have cs := msame_any (.slice a0 n0 c0) (.slice a4 n0 c4) l l w9 (H0.out.kept B9.out) (I8.out.kept b9) (by have := HLT.out.1; omega) (by have := HLT.out.1; omega)
    rw [show saI l l = true from (saI_iff _ _).2 rfl] at cs
    obtain ⟨a9, c9, rfl, _, _, _⟩ := o9.is.shape
    clear o9 b9 B8 S8 I8
    go_wp2_with fail
    refine cs.mono ?_
    rintro e w10 ⟨rfl, b10⟩
    clear cs
    have B10 : Hid (Below w.heap.size w w10) := B9.out.trans (b10.mono B9.out.size)
    have S10 : Hid (Sl w10 (.slice a3 nb c3) B) := S9.out.kept b10
    clear b10 B9 S9
    have s11 := Sl.take9 S10.out (nb - 1) (by omega)
    have cg := CG.out w10 _ (B.take (nb - 1)) B10.out s11 (by rw [List.length_take, ← HNB.out]; omega)
    rw [MG3.out] at cg
    simp only at cg
    have q1 : (nb : Int) - 1 = ((nb - 1 : Nat) : Int) := by omega
    have q2 : IntKind.i64.wrap ((nb : Int) - 1) = ((nb - 1 : Nat) : Int) := by simp [IntKind.wrap, IntKind.bits, IntKind.signed]; omega
    have q3 : ((nb - 1 : Nat) : Int) ≤ (c3 : Int) := by omega
    have q4 : nb - 1 ≤ c3 := by omega
    clear s11
    go_wp2_with fail
    refine cg.mono ?_
    rintro e w11 ⟨v11, rfl, o11, b11⟩
    clear cg
    have B11 : Hid (Below w.heap.size w w11) := B10.out.trans (b11.mono B10.out.size)
    obtain ⟨a11, c11, rfl, _, _, _⟩ := o11.is.shape
    clear o11 b11 B10 S10 q1 q2 q3 q4 k0 hpos hlc
    have cg := CG.out w11 _ raw B11.out (H1.out.kept B11.out) (by rw [← HN1.out]; omega)
    rcases mget_cases raw with ⟨hg, hp⟩ | hg
    · rw [hg] at cg
      simp only at cg
      go_wp2_with fail
      refine cg.mono ?_
      rintro e x1 ⟨u1, rfl, p1, d1⟩
      clear cg
      have D1 : Hid (Below w.heap.size w x1) := B11.out.trans (d1.mono B11.out.size)
      have cq := CP.out x1 _ (rdA raw) D1.out p1.is (by have := rdA_len raw HBT.out; omega) (rdA_path raw)
      rw [hp] at cq
      simp only at cq
      obtain ⟨ua, uc, rfl, _, _, _⟩ := p1.is.shape
      generalize (rdA raw).length = nr at *
      clear p1 d1 hg hp B11
      go_wp2_with fail
      refine cq.mono ?_
      rintro e x2 ⟨u2, rfl, p2, d2⟩
      clear cq
      have D2 : Hid (Below w.heap.size w x2) := D1.out.trans (d2.mono D1.out.size)
      have s2 := p2.sl
      obtain ⟨ya, yc, rfl⟩ := p2.shape
      rw [← HN1.out] at s2 ⊢
      have t1 := s2.conv
      have t2 := (H1.out.kept D2.out).conv
      have t3 : ((strB raw).toList == (strB raw).toList) = true := by simp
      generalize strB raw = SR at *
      clear p2 d2 s2 D1
      go_wp2_with fail
      refine (CA.out x2 D2.out).mono ?_
      rintro e x3 ⟨rfl, d3⟩
      have D3 : Hid (Below w.heap.size w x3) := D2.out.trans (d3.mono D2.out.size)
      clear d3 D2 t1 t2 t3
      go_wp2
      go_ret
      exact ⟨rfl, D3.out⟩
    · rw [hg] at cg
      simp only at cg
      go_wp2_with fail
      refine cg.mono ?_
      rintro e x1 ⟨u1, rfl, p1, d1⟩
      clear cg
      have D1 : Hid (Below w.heap.size w x1) := B11.out.trans (d1.mono B11.out.size)
      have cq := CP.out x1 _ [] D1.out p1.is (by simp) (fun x hx => by simp at hx)
      obtain ⟨ua, uc, rfl, _, _, _⟩ := p1.is.shape
      clear p1 d1 hg B11
      rw [show ([] : List It).length = 0 from rfl] at cq ⊢
      generalize mput [] = P at *
      obtain ⟨pb, pe⟩ := P
      simp only at cq
      go_wp2_with fail
      refine cq.mono ?_
      rintro e x2 ⟨u2, rfl, p2, d2⟩
      clear cq
      have D2 : Hid (Below w.heap.size w x2) := D1.out.trans (d2.mono D1.out.size)
      obtain ⟨ya, yc, rfl⟩ := p2.shape
      clear p2 d2 D1
      go_wp2_with fail
      refine (CA.out x2 D2.out).mono ?_
      rintro e x3 ⟨rfl, d3⟩
      have D3 : Hid (Below w.heap.size w x3) := D2.out.trans (d3.mono D2.out.size)
      clear d3 D2
      go_wp2
      go_ret
      exact ⟨rfl, D3.out⟩
  · have hm : mput l = ([], mck l) := by have := HM.out; rwa [if_pos hk] at this
    rw [hm] at o3 ⊢
    obtain ⟨a3, c3, rfl⟩ := o3.shape
    have k1 : (mck l == 0) = false := by simpa using hk
    clear hm HM o3 hk
    generalize mck l = k at *
    have cg := CG.out w3 _ raw B3.out (H1.out.kept B3.out) (by rw [← HN1.out]; omega)
    rcases mget_cases raw with ⟨hg, hp⟩ | hg
    · rw [hg] at cg
      simp only at cg
      go_wp2_with fail
      refine cg.mono ?_
      rintro e x1 ⟨u1, rfl, p1, d1⟩
      clear cg
      have D1 : Hid (Below w.heap.size w x1) := B3.out.trans (d1.mono B3.out.size)
      have cq := CP.out x1 _ (rdA raw) D1.out p1.is (by have := rdA_len raw HBT.out; omega) (rdA_path raw)
      rw [hp] at cq
      simp only at cq
      obtain ⟨ua, uc, rfl, _, _, _⟩ := p1.is.shape
      generalize (rdA raw).length = nr at *
      clear p1 d1 hg hp B3
      go_wp2_with fail
      refine cq.mono ?_
      rintro e x2 ⟨u2, rfl, p2, d2⟩
      clear cq
      have D2 : Hid (Below w.heap.size w x2) := D1.out.trans (d2.mono D1.out.size)
      have s2 := p2.sl
      obtain ⟨ya, yc, rfl⟩ := p2.shape
      rw [← HN1.out] at s2 ⊢
      have t1 := s2.conv
      have t2 := (H1.out.kept D2.out).conv
      have t3 : ((strB raw).toList == (strB raw).toList) = true := by simp
      generalize strB raw = SR at *
      clear p2 d2 s2 D1
      go_wp2_with fail
      refine (CA.out x2 D2.out).mono ?_
      rintro e x3 ⟨rfl, d3⟩
      have D3 : Hid (Below w.heap.size w x3) := D2.out.trans (d3.mono D2.out.size)
      clear d3 D2 t1 t2 t3
      go_wp2
      go_ret
      exact ⟨rfl, D3.out⟩
    · rw [hg] at cg
      simp only at cg
      go_wp2_with fail
      refine cg.mono ?_
      rintro e x1 ⟨u1, rfl, p1, d1⟩
      clear cg
      have D1 : Hid (Below w.heap.size w x1) := B3.out.trans (d1.mono B3.out.size)
      have cq := CP.out x1 _ [] D1.out p1.is (by simp) (fun x hx => by simp at hx)
      obtain ⟨ua, uc, rfl, _, _, _⟩ := p1.is.shape
      clear p1 d1 hg B3
      rw [show ([] : List It).length = 0 from rfl] at cq ⊢
      generalize mput [] = P at *
      obtain ⟨pb, pe⟩ := P
      simp only at cq
      go_wp2_with fail
      refine cq.mono ?_
      rintro e x2 ⟨u2, rfl, p2, d2⟩
      clear cq
      have D2 : Hid (Below w.heap.size w x2) := D1.out.trans (d2.mono D1.out.size)
      obtain ⟨ya, yc, rfl⟩ := p2.shape
      clear p2 d2 D1
      go_wp2_with fail
      refine (CA.out x2 D2.out).mono ?_
      rintro e x3 ⟨rfl, d3⟩
      have D3 : Hid (Below w.heap.size w x3) := D2.out.trans (d3.mono D2.out.size)
      clear d3 D2
      go_wp2
      go_ret
      exact ⟨rfl, D3.out⟩

theorem contract (H : Type) (enc : TypeId × Value → H) (W : World) (base : Nat) (args : Array Value) (ds gs : List (DataW H)) (before : List MemPlace)
    (hval : ∀ (j : Nat) t v, Tryd.f3.params[j]? = some t → args[j]? = some v → Value.okWide Tryd.prog W .any base t v)
    (hW : DataW.Whole enc Tryd.prog Tryd.f3.params.toList Rows.manifestBackSpec.vars false W args.toList ds gs before) (hL : laidMetH Tryd.prog Rows.manifestBackRow.laid W) (hsh : W.ShapedOpen Tryd.prog)
    (hsz0 : (DataW.weightsEach Tryd.prog (Tryd.f3.params.toList ++ Rows.manifestBackSpec.plain.varTypes Tryd.prog) (ds ++ gs)).all (· ≤ reachBytes) = true) :
    Calls Tryd.prog 3 args W fun e W' => ∃ v, e = .returned v ∧ Rows.manifestBackSpec.post enc Tryd.prog Tryd.f3 false true false false W args v W' := by
  have hW' := hW
  obtain ⟨p, q, hA0, hV, rfl, hfz, hnd⟩ := hW
  have hA : DataW.TrodAll enc Tryd.prog W 0 (fun _ => true) true Tryd.f3.params.toList args.toList ds p := hA0
  rw [Tryd.params3] at hA hval hsz0
  obtain ⟨v0, vs0, d0, ds0, p0, q0, hargs, rfl, rfl, h0, r0⟩ := trodAll_cons hA
  obtain ⟨v1, vs1, d1, ds1, p1, q1, rfl, rfl, rfl, h1, r1⟩ := trodAll_cons r0
  obtain ⟨rfl, rfl, rfl⟩ := trodAll_nil r1
  obtain rfl : args = #[v0, v1] := by cases args; simp_all
  obtain ⟨rfl, rfl⟩ := trodVars_none hV
  have k0 := h0
  have lt0 : ∀ x ∈ p0, x.block < W.heap.size := by obtain ⟨m, hm⟩ := k0; exact DataW.trod_lt m _ _ _ hm
  obtain ⟨L0, w0⟩ := items_in (hval 0 22 v0 rfl rfl) h0
  have k1 := h1
  have lt1 : ∀ x ∈ p1, x.block < W.heap.size := by obtain ⟨m, hm⟩ := k1; exact DataW.trod_lt m _ _ _ hm
  obtain ⟨L1, w1⟩ := sl_in (hval 1 23 v1 rfl rfl) h1
  clear hA0
  refine (walk v0 L0 v1 L1 W (wd_of hL hsh) w0 w1).mono fun e W' ⟨he, bel⟩ => ?_
  subst he
  exact ⟨_, rfl, _, _, _, [], _, [], hW', trodAll_mk1 (shut_bool Tryd.underlying4 _), (trodAll_cons_mk (Below.trod laidOut (by kernel_rfl) (of_decide_eq_true (by kernel_rfl)) k0 bel lt0) (trodAll_cons_mk (Below.trod laidOut (by kernel_rfl) (of_decide_eq_true (by kernel_rfl)) k1 bel lt1) trodAll_mk0)), rfl, bel.frame _, fun h => by cases h⟩

theorem laid_met (os : Os) : laidMet Tryd.prog Rows.manifestBackRow.laid (({ World.holding Tryd.prog os ⟨#[], #[], []⟩ with heap := (((((((World.holding Tryd.prog os ⟨#[], #[], []⟩).heap.modify 0 (fun
      | .cells _ t frozen => .cells #[.int .i64 1, .int .i64 2, .int .i64 4, .int .i64 8] t frozen
      | o => o)).modify 1 (fun
      | .cells _ t frozen => .cells shaFirst t frozen
      | o => o)).modify 2 (fun
      | .cells _ t frozen => .cells shaRounds t frozen
      | o => o)).modify 3 (fun
      | .cells _ t frozen => .cells #[.int .i64 0] t frozen
      | o => o)).modify 4 (fun
      | .cells _ t frozen => .cells firstCells t frozen
      | o => o)).modify 5 (fun
      | .cells _ t frozen => .cells rangeCells t frozen
      | o => o)) } : World).forCall (fun _ _ => 0) ⟨#[], #[.slice none 0 0, .slice none 0 0], []⟩).memory :=
  laidMet_of_run' 8 (by kernel_rfl) (by kernel_rfl)
theorem reads (os : Os) {H : Type} (enc : TypeId × Value → H) : ∃ places, DataW.whole enc Tryd.prog (({ World.holding Tryd.prog os ⟨#[], #[], []⟩ with heap := (((((((World.holding Tryd.prog os ⟨#[], #[], []⟩).heap.modify 0 (fun
      | .cells _ t frozen => .cells #[.int .i64 1, .int .i64 2, .int .i64 4, .int .i64 8] t frozen
      | o => o)).modify 1 (fun
      | .cells _ t frozen => .cells shaFirst t frozen
      | o => o)).modify 2 (fun
      | .cells _ t frozen => .cells shaRounds t frozen
      | o => o)).modify 3 (fun
      | .cells _ t frozen => .cells #[.int .i64 0] t frozen
      | o => o)).modify 4 (fun
      | .cells _ t frozen => .cells firstCells t frozen
      | o => o)).modify 5 (fun
      | .cells _ t frozen => .cells rangeCells t frozen
      | o => o)) } : World).forCall (fun _ _ => 0) ⟨#[], #[.slice none 0 0, .slice none 0 0], []⟩).memory Tryd.f3.params.toList Rows.manifestBackSpec.vars false #[Value.slice none 0 0, .slice none 0 0].toList 8 = some ([.nil, .nil], [], places) :=
  ⟨[], by kernel_rfl⟩

set_option maxRecDepth 100000 in
theorem lifted (os : Os) (started : os.Started) (H : Type) (enc : TypeId × Value → H) (F : Stop.Interp) :
    ReturnsInHanded {} Tryd.checked os 3 .any ((OpenSpec.ofChange Rows.manifestBackSpec).preRow enc Tryd.prog Tryd.f3 Rows.manifestBackRow.domain false Rows.manifestBackRow.laid) (((OpenSpec.ofChange Rows.manifestBackSpec).at F).post enc Tryd.prog Tryd.f3 false true false false) := by
  obtain ⟨places, hx⟩ := reads os enc
  refine returnsInHanded_of_row (C := Tryd.checked) (s := OpenSpec.ofChange Rows.manifestBackSpec) own started (by kernel_rfl) Tryd.func3
    (witness_row_at (enc := enc) (C := Tryd.checked) false ({ World.holding Tryd.prog os ⟨#[], #[], []⟩ with heap := (((((((World.holding Tryd.prog os ⟨#[], #[], []⟩).heap.modify 0 (fun
      | .cells _ t frozen => .cells #[.int .i64 1, .int .i64 2, .int .i64 4, .int .i64 8] t frozen
      | o => o)).modify 1 (fun
      | .cells _ t frozen => .cells shaFirst t frozen
      | o => o)).modify 2 (fun
      | .cells _ t frozen => .cells shaRounds t frozen
      | o => o)).modify 3 (fun
      | .cells _ t frozen => .cells #[.int .i64 0] t frozen
      | o => o)).modify 4 (fun
      | .cells _ t frozen => .cells firstCells t frozen
      | o => o)).modify 5 (fun
      | .cells _ t frozen => .cells rangeCells t frozen
      | o => o)) } : World) #[.slice none 0 0, .slice none 0 0] rfl (by kernel_rfl) (by kernel_rfl) (by kernel_rfl)
      (OpenSpec.preRow_of_cond 8 hx (by kernel_rfl) (fun k hk => by cases hk) (by kernel_rfl) (laid_met os))) ?_
  intro W base args ds gs before hval hW _ _ hsz hL hsh _
  exact contract H enc W base args ds gs before hval hW hL hsh hsz

theorem said : Rows.ManifestBackSaid :=
  OpenClaim.holds_of_cond 3 Tryd.f3 rfl rfl rfl rfl rfl rfl rfl ⟨rfl, rfl, rfl, rfl, rfl⟩ rfl rfl rfl rfl rfl (by kernel_rfl) Tryd.func3 (by kernel_rfl)
    (of_decide_eq_true (by kernel_rfl)) (by unfold Func.isWrapper; first | (rw [if_pos (by decide +kernel)]; kernel_rfl) | (rw [if_neg (by decide +kernel)]; exact ⟨rfl, rfl⟩))
    (fun os started H enc _ F => by rw [OpenClaim.pre_eq_preRow]; exact lifted os started H enc F)

theorem plain (f : FuncId) (fn : Func) (hf : Tryd.pinned.checked.prog.funcNamed "sumpter/sumpterlaw10.ManifestBack" = some f) (hfn : Tryd.pinned.checked.prog.funcs[f]? = some fn) :
    false = Tryd.pinned.checked.prog.looks [] ∧ ∀ (j : Nat) t, fn.params[j]? = some t → Tryd.pinned.checked.prog.wantsStandIn t = false := by
  obtain rfl : f = 3 := Option.some.inj ((show Tryd.prog.funcNamed "sumpter/sumpterlaw10.ManifestBack" = some 3 by kernel_rfl).symm.trans hf) |>.symm
  obtain rfl : fn = Tryd.f3 := (Option.some.inj (Tryd.func3.symm.trans hfn)).symm
  refine ⟨by kernel_rfl, fun j t ht => ?_⟩
  rw [Tryd.params3] at ht
  have hm : t ∈ [22, 23] := by simpa using Array.mem_of_getElem? ht
  have hall : ([22, 23].all fun u => !Tryd.prog.wantsStandIn u) = true := by kernel_rfl
  exact (show Tryd.prog.wantsStandIn t = false by simpa using List.all_eq_true.1 hall t hm)
end Go.Proofs.YtdnbiibijoggoaaDoor.manifestBack

namespace Go.Proofs.YtdnbiibijoggoaaDoor
/-- The card of ManifestBack. -/
theorem manifestBack_card : Rows.ManifestBackCardSaid :=
  Claim7.holds_tied_plain_at .later [] _ _ _ _ manifestBack.said (fun _ h => by cases h) (by kernel_rfl) (fun _ h => by cases h) manifestBack_row_tie rfl ⟨rfl, rfl⟩ (by kernel_rfl) rfl manifestBack.plain (by kernel_rfl)
#print axioms manifestBack_card
end Go.Proofs.YtdnbiibijoggoaaDoor
