/-
  The statements' own 'awake' answers true, and nothing that was there is changed. Condition: the three tables hold what their initialisers lay.
-/
import Derived.Test.YtkblcabibnnmcaaDoorOpn
import Derived.Lib.SlBytesConst
namespace Go.Proofs.YtkblcabibnnmcaaDoor
open Go.RowKit

theorem open_seal (K H X : List Int) : opE K H (X ++ btag K H X) = 0 ∧ opX K H (X ++ btag K H X) = X := by
  have hl : (X ++ btag K H X).length - 16 = X.length := by rw [List.length_append]; have : (btag K H X).length = 16 := tagB_len _ _; omega
  have hn : ¬ (X ++ btag K H X).length < 16 := by rw [List.length_append]; have : (btag K H X).length = 16 := tagB_len _ _; omega
  have h1 : opE K H (X ++ btag K H X) = 0 := by
    unfold opE
    rw [if_neg hn, hl, List.drop_left, List.take_left, if_pos rfl]
  refine ⟨h1, ?_⟩
  unfold opX
  rw [h1, if_pos rfl, hl, List.take_left]

def oneL : List Int := 1 :: List.replicate 31 0
def foxL : List Int := [84, 104, 101, 32, 113, 117, 105, 99, 107, 32, 98, 114, 111, 119, 110, 32, 102, 111, 120, 32, 106, 117, 109, 112, 115, 32, 111, 118, 101, 114, 32, 116, 104, 101, 32, 108, 97, 122, 121, 32, 100, 111, 103]
def foxH : List Int := [247, 188, 131, 244, 48, 83, 132, 36, 177, 50, 152, 230, 170, 111, 177, 67, 239, 77, 89, 161, 73, 70, 23, 89, 151, 71, 157, 188, 45, 26, 60, 216]
set_option maxRecDepth 1000000 in
theorem fox_sum : hmac [107, 101, 121] foxL = foxH := by decide +kernel

theorem conv_last (w : World) (C : Array Value) (n c : Nat) : (convert 22 22 (.slice (some ⟨w.heap.size, 0, none⟩) n c)).run Tryd.prog (w.alloc (.cells C 5)) = .ok (.slice (some ⟨w.heap.size, 0, none⟩) n c) (w.alloc (.cells C 5 (C.size, C.size + 1))) :=
  Lib.run_convert_bytes_const w 22 5 C n c Tryd.underlying22 Tryd.underlying5
theorem conv_last1 (w : World) (o : Obj) (C : Array Value) (n c : Nat) : (convert 22 22 (.slice (some ⟨w.heap.size + 1, 0, none⟩) n c)).run Tryd.prog ((w.alloc o).alloc (.cells C 5)) = .ok (.slice (some ⟨w.heap.size + 1, 0, none⟩) n c) ((w.alloc o).alloc (.cells C 5 (C.size, C.size + 1))) := by
  have := conv_last (w.alloc o) C n c
  rwa [show (w.alloc o).heap.size = w.heap.size + 1 by show (w.heap.push o).size = _; simp] at this
theorem below2 (w : World) (A B : Obj) : Below w.heap.size w ((w.alloc A).alloc B) := (al_below w A).trans ((al_below (w.alloc A) B).mono (al_below w A).size)
theorem built1 : Tryd.prog.built 26 [(0, .int .u8 1)] = some (u8s oneL) := by kernel_rfl

set_option maxHeartbeats 1000000 in
set_option maxRecDepth 100000 in
theorem awake_any (w : World) (hw : Tabs w) :
    Calls Tryd.prog 8 #[] w fun r w' => r = .returned (.bool true) ∧ Below w.heap.size w w' := by
  have HW : Hid (Tabs w) := hw
  have HOB : Hid (Pl.Byt oneL) := byteList _ (by decide)
  have HOL : Hid (oneL.length = 32) := rfl
  have b2 := below2 w (.cells #[.int .u8 104] 5 (1, 2)) (.cells #[.int .u8 98, .int .u8 111, .int .u8 100, .int .u8 121] 5 (4, 5))
  have sh := sl_row (xs := [104]) (heap_alloc2_old w (.cells #[.int .u8 104] 5 (1, 2)) (.cells #[.int .u8 98, .int .u8 111, .int .u8 100, .int .u8 121] 5 (4, 5))) (byteList _ rfl) (by simp [maxLen])
  have sb := sl_row (xs := [98, 111, 100, 121]) (heap_alloc2_new w (.cells #[.int .u8 104] 5 (1, 2)) (.cells #[.int .u8 98, .int .u8 111, .int .u8 100, .int .u8 121] 5 (4, 5))) (byteList _ rfl) (by simp [maxLen])
  have c16 := seal_any oneL _ _ [104] [98, 111, 100, 121] _ rfl HOB.out (hw.kept b2) sh sb (by simp) (by simp)
  have v1 := conv_last w #[.int .u8 104] 1 1
  have v2 := conv_last1 w (.cells #[.int .u8 104] 5 (1, 2)) #[.int .u8 98, .int .u8 111, .int .u8 100, .int .u8 121] 4 4
  clear sh sb hw
  have B2 : Hid (Below w.heap.size w ((w.alloc (.cells #[.int .u8 104] 5 (1, 2))).alloc (.cells #[.int .u8 98, .int .u8 111, .int .u8 100, .int .u8 121] 5 (4, 5)))) := b2
  have HTL : Hid (([98, 111, 100, 121] ++ btag oneL [104] [98, 111, 100, 121]).length = 20) := by
    have : (btag oneL [104] [98, 111, 100, 121]).length = 16 := tagB_len _ _
    unfold Hid; rw [List.length_append, this]; rfl
  have HTB : Hid (Pl.Byt ([98, 111, 100, 121] ++ btag oneL [104] [98, 111, 100, 121])) := byt_app (byteList _ rfl) (tagB_byt _ _)
  have HOS := open_seal oneL [104] [98, 111, 100, 121]
  generalize [98, 111, 100, 121] ++ btag oneL [104] [98, 111, 100, 121] = SS at *
  rw [HTL.out] at c16
  clear b2
  go_enter Tryd.func8, Tryd.ntmps8
  go_wp2_with fail
  refine c16.mono ?_
  rintro e w1 ⟨r1, rfl, own1, b1⟩
  have s1 : Sl w1 r1 SS := sl_owned own1 HTB.out
  have B1 : Hid (Below w.heap.size w w1) := B2.out.trans (b1.mono B2.out.size)
  have b3 := al_below w1 (.cells #[.int .u8 104] 5 (1, 2))
  have sh3 := sl_row (xs := [104]) (heap_alloc_new w1 (.cells #[.int .u8 104] 5 (1, 2))) (byteList _ rfl) (by simp [maxLen])
  have c14 := open_any oneL _ _ [104] SS _ rfl HOB.out ((HW.out.kept B1.out).kept b3) sh3 (s1.kept b3) (by simp) (by rw [HTL.out]; omega)
  rw [HOS.1, HOS.2] at c14
  have v3 := conv_last w1 #[.int .u8 104] 1 1
  obtain ⟨a1, q1, rfl, -⟩ := s1
  rw [HTL.out] at c14 ⊢
  have B3 : Hid (Below w.heap.size w (w1.alloc (.cells #[.int .u8 104] 5 (1, 2)))) := B1.out.trans (b3.mono B1.out.size)
  clear c16 own1 b1 sh3 b3 v1 v2 HOS HTB HTL
  go_wp2_with fail
  refine c14.mono ?_
  rintro e w4 ⟨r4, rfl, s4, b4⟩
  have B4 : Hid (Below w.heap.size w w4) := B3.out.trans (b4.mono B3.out.size)
  clear c14 b4 v3
  have v5 := conv_last w4 #[.int .u8 107, .int .u8 101, .int .u8 121] 3 3
  have v6 := conv_last1 w4 (.cells #[.int .u8 107, .int .u8 101, .int .u8 121] 5 (3, 4)) #[.int .u8 84, .int .u8 104, .int .u8 101, .int .u8 32, .int .u8 113, .int .u8 117, .int .u8 105, .int .u8 99, .int .u8 107, .int .u8 32, .int .u8 98, .int .u8 114, .int .u8 111, .int .u8 119, .int .u8 110, .int .u8 32, .int .u8 102, .int .u8 111, .int .u8 120, .int .u8 32, .int .u8 106, .int .u8 117, .int .u8 109, .int .u8 112, .int .u8 115, .int .u8 32, .int .u8 111, .int .u8 118, .int .u8 101, .int .u8 114, .int .u8 32, .int .u8 116, .int .u8 104, .int .u8 101, .int .u8 32, .int .u8 108, .int .u8 97, .int .u8 122, .int .u8 121, .int .u8 32, .int .u8 100, .int .u8 111, .int .u8 103] 43 43
  have b5 := below2 w4 (.cells #[.int .u8 107, .int .u8 101, .int .u8 121] 5 (3, 4)) (.cells #[.int .u8 84, .int .u8 104, .int .u8 101, .int .u8 32, .int .u8 113, .int .u8 117, .int .u8 105, .int .u8 99, .int .u8 107, .int .u8 32, .int .u8 98, .int .u8 114, .int .u8 111, .int .u8 119, .int .u8 110, .int .u8 32, .int .u8 102, .int .u8 111, .int .u8 120, .int .u8 32, .int .u8 106, .int .u8 117, .int .u8 109, .int .u8 112, .int .u8 115, .int .u8 32, .int .u8 111, .int .u8 118, .int .u8 101, .int .u8 114, .int .u8 32, .int .u8 116, .int .u8 104, .int .u8 101, .int .u8 32, .int .u8 108, .int .u8 97, .int .u8 122, .int .u8 121, .int .u8 32, .int .u8 100, .int .u8 111, .int .u8 103] 5 (43, 44))
  have sk := sl_row (xs := [107, 101, 121]) (heap_alloc2_old w4 (.cells #[.int .u8 107, .int .u8 101, .int .u8 121] 5 (3, 4)) (.cells #[.int .u8 84, .int .u8 104, .int .u8 101, .int .u8 32, .int .u8 113, .int .u8 117, .int .u8 105, .int .u8 99, .int .u8 107, .int .u8 32, .int .u8 98, .int .u8 114, .int .u8 111, .int .u8 119, .int .u8 110, .int .u8 32, .int .u8 102, .int .u8 111, .int .u8 120, .int .u8 32, .int .u8 106, .int .u8 117, .int .u8 109, .int .u8 112, .int .u8 115, .int .u8 32, .int .u8 111, .int .u8 118, .int .u8 101, .int .u8 114, .int .u8 32, .int .u8 116, .int .u8 104, .int .u8 101, .int .u8 32, .int .u8 108, .int .u8 97, .int .u8 122, .int .u8 121, .int .u8 32, .int .u8 100, .int .u8 111, .int .u8 103] 5 (43, 44))) (byteList _ rfl) (by simp [maxLen])
  have sf := sl_row (xs := foxL) (heap_alloc2_new w4 (.cells #[.int .u8 107, .int .u8 101, .int .u8 121] 5 (3, 4)) (.cells #[.int .u8 84, .int .u8 104, .int .u8 101, .int .u8 32, .int .u8 113, .int .u8 117, .int .u8 105, .int .u8 99, .int .u8 107, .int .u8 32, .int .u8 98, .int .u8 114, .int .u8 111, .int .u8 119, .int .u8 110, .int .u8 32, .int .u8 102, .int .u8 111, .int .u8 120, .int .u8 32, .int .u8 106, .int .u8 117, .int .u8 109, .int .u8 112, .int .u8 115, .int .u8 32, .int .u8 111, .int .u8 118, .int .u8 101, .int .u8 114, .int .u8 32, .int .u8 116, .int .u8 104, .int .u8 101, .int .u8 32, .int .u8 108, .int .u8 97, .int .u8 122, .int .u8 121, .int .u8 32, .int .u8 100, .int .u8 111, .int .u8 103] 5 (43, 44))) (byteList _ (by decide)) (by simp [maxLen, foxL])
  obtain ⟨w5, hw5⟩ : ∃ w5, w5 = (w4.alloc (.cells #[.int .u8 107, .int .u8 101, .int .u8 121] 5 (3, 4))).alloc (.cells #[.int .u8 84, .int .u8 104, .int .u8 101, .int .u8 32, .int .u8 113, .int .u8 117, .int .u8 105, .int .u8 99, .int .u8 107, .int .u8 32, .int .u8 98, .int .u8 114, .int .u8 111, .int .u8 119, .int .u8 110, .int .u8 32, .int .u8 102, .int .u8 111, .int .u8 120, .int .u8 32, .int .u8 106, .int .u8 117, .int .u8 109, .int .u8 112, .int .u8 115, .int .u8 32, .int .u8 111, .int .u8 118, .int .u8 101, .int .u8 114, .int .u8 32, .int .u8 116, .int .u8 104, .int .u8 101, .int .u8 32, .int .u8 108, .int .u8 97, .int .u8 122, .int .u8 121, .int .u8 32, .int .u8 100, .int .u8 111, .int .u8 103] 5 (43, 44)) := ⟨_, rfl⟩
  have HW5 : Hid (w5 = (w4.alloc (.cells #[.int .u8 107, .int .u8 101, .int .u8 121] 5 (3, 4))).alloc (.cells #[.int .u8 84, .int .u8 104, .int .u8 101, .int .u8 32, .int .u8 113, .int .u8 117, .int .u8 105, .int .u8 99, .int .u8 107, .int .u8 32, .int .u8 98, .int .u8 114, .int .u8 111, .int .u8 119, .int .u8 110, .int .u8 32, .int .u8 102, .int .u8 111, .int .u8 120, .int .u8 32, .int .u8 106, .int .u8 117, .int .u8 109, .int .u8 112, .int .u8 115, .int .u8 32, .int .u8 111, .int .u8 118, .int .u8 101, .int .u8 114, .int .u8 32, .int .u8 116, .int .u8 104, .int .u8 101, .int .u8 32, .int .u8 108, .int .u8 97, .int .u8 122, .int .u8 121, .int .u8 32, .int .u8 100, .int .u8 111, .int .u8 103] 5 (43, 44))) := hw5
  rw [← hw5] at b5 sk sf
  have b6 := al_below w5 (.cells #[.slice (some ⟨w4.heap.size + 1, 0, none⟩) 43 43] 22)
  have p6 := parts1 sf
  have c9 := mof_any _ [107, 101, 121] _ 1 [foxL] _ ((((HW.out.kept B4.out).kept b5).kept b6).1) (sk.kept b6) p6 (fun h => by cases h) (by simp) (by simp) (by simp [foxL])
  rw [show [foxL].flatten = foxL by simp, fox_sum] at c9
  have B6 : Hid (Below w.heap.size w (w5.alloc (.cells #[.slice (some ⟨w4.heap.size + 1, 0, none⟩) 43 43] 22))) := B4.out.trans ((b5.trans (b6.mono b5.size)).mono B4.out.size)
  have S4 : Hid (∀ W, Below w4.heap.size w4 W → Sl W r4 [98, 111, 100, 121]) := fun W hW => s4.kept hW
  have D6 : Hid (Below w4.heap.size w4 (w5.alloc (.cells #[.slice (some ⟨w4.heap.size + 1, 0, none⟩) 43 43] 22))) := b5.trans (b6.mono b5.size)
  obtain ⟨a4, q4, rfl, -⟩ := s4
  have hw5' : (w4.alloc (.cells #[.int .u8 107, .int .u8 101, .int .u8 121] 5 (3, 4))).alloc (.cells #[.int .u8 84, .int .u8 104, .int .u8 101, .int .u8 32, .int .u8 113, .int .u8 117, .int .u8 105, .int .u8 99, .int .u8 107, .int .u8 32, .int .u8 98, .int .u8 114, .int .u8 111, .int .u8 119, .int .u8 110, .int .u8 32, .int .u8 102, .int .u8 111, .int .u8 120, .int .u8 32, .int .u8 106, .int .u8 117, .int .u8 109, .int .u8 112, .int .u8 115, .int .u8 32, .int .u8 111, .int .u8 118, .int .u8 101, .int .u8 114, .int .u8 32, .int .u8 116, .int .u8 104, .int .u8 101, .int .u8 32, .int .u8 108, .int .u8 97, .int .u8 122, .int .u8 121, .int .u8 32, .int .u8 100, .int .u8 111, .int .u8 103] 5 (43, 44)) = w5 := hw5.symm
  clear b5 b6 sk sf p6 hw5 HW5
  have HI : Hid ((Tryd.prog.info? 26).map (·.size) = some (u8s foxH).size) := size26
  have HO : Hid ((u8s (List.replicate 32 0)).size = (u8s foxH).size) := rfl
  have HON : Hid ((u8s foxH).all (·.oneCell') = true) := u8s_one _
  have HC0 : Hid ((u8s foxH)[0]? = some (.int .u8 247)) := rfl
  have HC1 : Hid ((u8s foxH)[1]? = some (.int .u8 188)) := rfl
  have HC2 : Hid ((u8s foxH)[31]? = some (.int .u8 216)) := rfl
  generalize u8s foxH = FU at *
  simp only [List.length_cons, List.length_nil, Nat.zero_add, Nat.reduceAdd] at c9
  go_wp2_with fail
  refine c9.mono ?_
  rintro e w7 ⟨rfl, b7⟩
  have B7 : Hid (Below w.heap.size w w7) := B6.out.trans (b7.mono B6.out.size)
  have D7 : Hid (Below w4.heap.size w4 w7) := D6.out.trans (b7.mono D6.out.size)
  clear c9 b7 v5 v6 hw5'
  obtain ⟨w8, hw8⟩ : ∃ w8, w8 = w7.alloc (.cells FU 26) := ⟨_, rfl⟩
  have HW8 : Hid (w8 = w7.alloc (.cells FU 26)) := hw8
  have g8 : w8.heap[w7.heap.size]? = some (.cells FU 26 (0, 0)) := by rw [hw8]; exact heap_alloc_new _ _
  have k0 := (cell_of_row _ _ 0 _ _ _ g8).trans HC0.out
  have k1 := (cell_of_row _ _ 1 _ _ _ g8).trans HC1.out
  have k2 := (cell_of_row _ _ 31 _ _ _ g8).trans HC2.out
  have D8 : Below w4.heap.size w4 w8 := by rw [hw8]; exact D7.out.alloc D7.out.size _
  have B8 : Hid (Below w.heap.size w w8) := by unfold Hid; rw [hw8]; exact B7.out.alloc B7.out.size _
  have v8 := (S4.out w8 D8).conv
  rw [show strB [98, 111, 100, 121] = ⟨#[98, 111, 100, 121]⟩ by decide] at v8
  simp only [List.length_cons, List.length_nil, Nat.zero_add, Nat.reduceAdd] at v8
  have ce := equal_any (.slice none 0 0) (.slice none 0 0) [] [] w8 (Sl.none _) (Sl.none _)
  rw [show (([] : List Int) == []) = true by rfl] at ce
  clear hw8 g8 D8
  go_wp2_with (first
    | (refine wpList_store_row rfl 26 _ _ rfl w7.heap.size FU rfl rfl 26 _ (heap_alloc_new _ _) HI.out HO.out HON.out ?_; rw [World.setRow_alloc_new, ← HW8.out])
    | (go_at_call 11; refine ce.mono ?_; rintro e w9 ⟨rfl, b9⟩))
  go_ret
  exact ⟨rfl, B8.out.trans (b9.mono B8.out.size)⟩
end Go.Proofs.YtkblcabibnnmcaaDoor
