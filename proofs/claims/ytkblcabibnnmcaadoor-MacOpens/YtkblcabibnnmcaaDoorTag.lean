/-
  What mac.Tag, mac.bodyTag and mac.Seal answer; nothing that was there is changed.
-/
import Derived.Test.YtkblcabibnnmcaaDoorMOf
import Derived.Test.YtkblcabibnnmcaaDoorEqu
namespace Go.Proofs.YtkblcabibnnmcaaDoor
open Go.RowKit

/-- The three tables, as the walks read them. -/
def Tabs (w : World) : Prop := Tab w ∧ Wid w
theorem Tabs.size {w : World} (h : Tabs w) : 3 ≤ w.heap.size := h.2.size
theorem Tabs.below {w w' : World} {B : Nat} (h : Tabs w) (hb : Below B w w') (hB : 3 ≤ B) : Tabs w' := ⟨h.1.below hb (by omega), h.2.below hb hB⟩
theorem Tabs.kept {w w' : World} (h : Tabs w) (hb : Below w.heap.size w w') : Tabs w' := h.below hb h.size

/-- A text's bytes, its length ahead. -/
def textL (xs : List Int) : List Int := numB xs.length ++ xs
theorem sb_strB {xs : List Int} (h : Pl.Byt xs) : sb (strB xs) = xs := by
  refine eq_of_getD _ _ (by rw [sb_len]; simp [strB, ByteArray.size]) (fun i hi => ?_)
  rw [sb_len] at hi
  have hi' : i < xs.length := by simpa [strB, ByteArray.size] using hi
  have hb := h i
  have e : xs.getD i 0 = xs[i] := by simp [List.getD, List.getElem?_eq_getElem hi']
  rw [e] at hb ⊢
  simp only [sb, strB, List.getD, List.getElem?_map, List.getElem?_eq_getElem hi', Option.map_some, Option.getD_some, UInt8.toNat_ofNat']
  omega
theorem strB_size (xs : List Int) : (strB xs).size = xs.length := by simp [strB, ByteArray.size]
theorem textB_strB {xs : List Int} (h : Pl.Byt xs) : textB (strB xs) = textL xs := by unfold textB textL; rw [sb_strB h, strB_size]
theorem numB_byt (n : Int) : Pl.Byt (numB n) := by
  by_cases h0 : lenOf n = 0
  · have : numB n = [] := by unfold numB; rw [if_pos h0]
    rw [this]; intro i; simp
  · obtain ⟨W, hW, hW0, hI, h1, h2, hn⟩ := pos_lim _ h0
    rw [hn]; exact pb_bytes _ W hI h1 h2
theorem byt_app {a b : List Int} (ha : Pl.Byt a) (hb : Pl.Byt b) : Pl.Byt (a ++ b) := by
  intro i
  rcases Nat.lt_or_ge i a.length with h | h
  · rw [getD_append_left _ _ _ h]; exact ha i
  · rw [getD_append_right _ _ _ h]; exact hb _
theorem textL_byt {xs : List Int} (h : Pl.Byt xs) : Pl.Byt (textL xs) := byt_app (numB_byt _) h
theorem numB_le (n : Int) : (numB n).length ≤ 8 := by
  unfold numB
  split
  · simp
  · next h =>
    obtain ⟨W, hW, hW0, hI, h1, h2, hn⟩ := pos_lim _ h
    rw [hW]
    show (pb _ W).length ≤ 8
    rw [pb_len _ W hI]
    rcases hI with rfl | rfl | rfl | rfl <;> omega
theorem textL_le (xs : List Int) : (textL xs).length ≤ xs.length + 8 := by
  unfold textL
  rw [List.length_append]
  have := numB_le (xs.length : Int)
  omega

/-- The tag of bytes. -/
def tagB (K xs : List Int) : List Int := (hmac K xs).take 16
theorem tagB_len (K xs : List Int) : (tagB K xs).length = 16 := by unfold tagB; rw [List.length_take, hmac_len]; omega
theorem tagB_byt (K xs : List Int) : Pl.Byt (tagB K xs) := bytes_take _ _ (hmac_byt K xs)
/-- The tag of a head and a body. -/
def btag (K H X : List Int) : List Int := tagB K (textL H ++ X)

set_option maxHeartbeats 2000000 in
set_option maxRecDepth 100000 in
theorem tag_any (KB : List Int) (p : Option Addr) (kc : Nat) (ZZ : List (List Int)) (w : World) (hK : KB.length = 32) (hKb : Pl.Byt KB) (ht : Tab w) (hP : Parts w p ZZ) (hc : p = none → kc = 0) (hl : ZZ.length ≤ 1000000) (hbig : ZZ.flatten.length ≤ 10000000000000000) :
    Calls Tryd.prog 18 #[.agg (u8s KB), .slice p ZZ.length kc] w fun e w' => ∃ v, e = .returned v ∧ w'.ownsRow w.heap.size 5 1 v 16 ((tagB KB ZZ.flatten).map (Value.int .u8)) ∧ Below w.heap.size w w' := by
  obtain ⟨wa, hwa⟩ : ∃ wa, wa = w.alloc (.cells (u8s KB) 26) := ⟨_, rfl⟩
  have ba : Below w.heap.size w wa := by rw [hwa]; exact al_below _ _
  have hwz : w.alloc (.cells (u8s KB) 26) = wa := hwa.symm
  have sk : Sl wa (.slice (some ⟨w.heap.size, 0, none⟩) 32 32) KB := by rw [hwa]; exact sl_sum (heap_alloc_new _ _) hKb hK
  have c9 := mof_any _ KB p kc ZZ wa (ht.below ba ht.size) sk (hP.kept ba) hc hl (by rw [hK]; omega) hbig
  have HBA : Hid (Below w.heap.size w wa) := ba
  have HI : Hid ((Tryd.prog.info? 26).map (·.size) = some (u8s (hmac KB ZZ.flatten)).size) := by unfold Hid; rw [u8s_size, hmac_len]; exact size26
  have HO : Hid ((u8s (List.replicate 32 0)).size = (u8s (hmac KB ZZ.flatten)).size) := by unfold Hid; rw [u8s_size, u8s_size, hmac_len]; simp
  have HT : Hid (tagB KB ZZ.flatten = (hmac KB ZZ.flatten).take 16) := rfl
  have HTL : Hid ((tagB KB ZZ.flatten).length = 16) := tagB_len _ _
  have HL : Hid ((hmac KB ZZ.flatten).length = 32) := hmac_len _ _
  have HB : Hid (Pl.Byt (hmac KB ZZ.flatten)) := hmac_byt _ _
  generalize hmac KB ZZ.flatten = M at *
  generalize tagB KB ZZ.flatten = T at *
  generalize ZZ.length = k at *
  clear hwa ba sk ht hP hc hl hbig hK
  go_enter Tryd.func18, Tryd.ntmps18
  go_wp2_with fail
  refine c9.mono ?_
  rintro e w1 ⟨rfl, b1⟩
  clear c9
  go_wp2_with (refine wpList_store_row rfl 26 _ _ rfl w1.heap.size (u8s M) rfl rfl 26 _ (heap_alloc_new _ _) HI.out HO.out (u8s_one _) ?_; rw [World.setRow_alloc_new]; obtain ⟨w3, hw3⟩ : ∃ w3, w3 = w1.alloc (.cells (u8s M) 26) := ⟨_, rfl⟩; rw [← hw3]; have HW3 : Hid (w3 = w1.alloc (.cells (u8s M) 26)) := hw3; clear hw3)
  have B1 : Below w.heap.size w w1 := HBA.out.trans (b1.mono HBA.out.size)
  have B3 : Hid (Below w.heap.size w w3) := by unfold Hid; rw [HW3.out]; exact B1.alloc B1.size _
  have s3 : Sl w3 (.slice (some ⟨w1.heap.size, 0, none⟩) 16 32) T := by
    have h : Sl w3 (.slice (some ⟨w1.heap.size, 0, none⟩) 32 32) M := by rw [HW3.out]; exact sl_sum (heap_alloc_new _ _) HB.out HL.out
    rw [HT.out]
    exact h.take 16 (by omega)
  have cc := clone_any _ T w3 s3 (by rw [HTL.out]; omega)
  rw [HTL.out] at cc
  clear B1 b1 s3
  go_wp2_with fail
  refine cc.mono ?_
  rintro e w4 ⟨v4, rfl, own4, b4⟩
  have O4 : Hid (w4.ownsRow w.heap.size 5 1 v4 16 (T.map (Value.int .u8))) := own_mono own4 B3.out.size
  have B4 : Hid (Below w.heap.size w w4) := B3.out.trans (b4.mono B3.out.size)
  clear cc own4 b4
  go_wp2
  go_ret
  exact ⟨_, rfl, O4.out, B4.out⟩

theorem range_sum {w : World} {g : Nat} {KB : List Int} {t : TypeId} {fr : Nat × Nat} (h : w.heap[g]? = some (.cells (u8s KB) t fr)) : w.rangeAt g 0 (KB.map (Value.int .u8)) := by
  intro j v hv
  rw [Nat.zero_add, cell_of_row _ _ _ _ _ _ h]
  exact (by simpa [u8s] using hv)

theorem tag2_any (KB X Y : List Int) (p : Option Addr) (w : World) (hK : KB.length = 32) (hKb : Pl.Byt KB) (ht : Tab w) (hP : Parts w p [X, Y]) (hp : p ≠ none) (hbig : X.length + Y.length ≤ 10000000000000000) :
    Calls Tryd.prog 18 #[.agg (u8s KB), .slice p 2 2] w fun e w' => ∃ v, e = .returned v ∧ w'.ownsRow w.heap.size 5 1 v 16 ((tagB KB (X ++ Y)).map (Value.int .u8)) ∧ Below w.heap.size w w' := by
  have hf : [X, Y].flatten = X ++ Y := by simp
  have := tag_any KB p 2 [X, Y] w hK hKb ht hP (fun h => absurd h hp) (by simp) (by rw [hf, List.length_append]; exact hbig)
  rwa [hf] at this

set_option maxHeartbeats 4000000 in
set_option maxRecDepth 100000 in
theorem btag_any (KB : List Int) (h v : Value) (H X : List Int) (w : World) (hK : KB.length = 32) (hKb : Pl.Byt KB) (ht : Tabs w) (sh : Sl w h H) (sv : Sl w v X) (hH : H.length ≤ 140737488351232) (hX : X.length ≤ 140737488351232) :
    Calls Tryd.prog 27 #[.agg (u8s KB), h, v] w fun e w' => ∃ v', e = .returned v' ∧ w'.ownsRow w.heap.size 5 1 v' 16 ((btag KB H X).map (Value.int .u8)) ∧ Below w.heap.size w w' := by
  obtain ⟨wa, hwa⟩ : ∃ wa, wa = w.alloc (.cells (u8s KB) 26) := ⟨_, rfl⟩
  have ba : Below w.heap.size w wa := by rw [hwa]; exact al_below _ _
  have hwz : w.alloc (.cells (u8s KB) 26) = wa := hwa.symm
  have FR : Hid (∀ x, From wa x → x.rangeAt w.heap.size 0 (KB.map (Value.int .u8))) := fun x hx => range_sum ((Below.block hx _ (by rw [hwa]; simp)).trans (by rw [hwa]; exact heap_alloc_new _ _))
  have FT : Hid (∀ x, From wa x → Tabs x) := fun x hx => (ht.kept ba).kept hx
  have FV : Hid (∀ x, From wa x → Sl x v X) := fun x hx => (sv.kept ba).kept hx
  have FB : Hid (∀ x, From wa x → Below w.heap.size w x) := fun x hx => ba.trans (Below.mono hx ba.size)
  have FH : Hid (∀ x, From wa x → (convert 22 9 h).run Tryd.prog x = .ok (.string (strB H)) x) := fun x hx => by
    have := (sh.kept ba).kept hx
    obtain ⟨a, c, rfl, -⟩ := sh
    exact this.conv
  have HTX : Hid (textB (strB H) = textL H) := textB_strB sh.bytes
  have HTB : Hid (Pl.Byt (textL H)) := textL_byt sh.bytes
  have HLE : Hid ((textL H).length + X.length ≤ 10000000000000000) := by unfold Hid; have := textL_le H; omega
  have HSZ : Hid ((strB H).size ≤ 140737488355328) := by unfold Hid; rw [strB_size]; omega
  have HKK : Hid (KB.length = 32) := hK
  have HKB : Hid (Pl.Byt KB) := hKb
  have hu26 := Tryd.underlying26
  have hi26 : (Tryd.prog.info? 26).map (·.size) = some (KB.map (Value.int .u8)).length := by rw [List.length_map, hK]; exact size26
  obtain ⟨av, cv, rfl, -⟩ := sv
  obtain ⟨ah, ch, rfl, -⟩ := sh
  clear hwa ba ht hK hKb
  generalize strB H = SH at *
  obtain ⟨xl, hxl⟩ : ∃ xl, xl = X.length := ⟨_, rfl⟩
  rw [← hxl] at FV hX ⊢
  generalize hhl : H.length = hl at *
  clear hxl hhl
  go_enter Tryd.func27, Tryd.ntmps27
  go_wp2_with fail
  refine wp_region_held_drew (S := From wa) (by kernel_rfl) ((Below.refl _ _).drew) (fun _ => ?_)
  refine wpAnyH_on ((Below.refl _ _).drew) (fun u0 hu0 bu0 => ?_)
  replace FR := on FR bu0
  replace FT := on FT bu0
  replace FV := on FV bu0
  replace FB := on FB bu0
  replace FH := on FH bu0
  refine wpAnyH_take (i := 0) (oi := { dst := some 7, op := Op.load 26 (Operand.tmp 3), type := 26, pos := "mac.go:75", after := #[], guard := none }) (v := .agg (KB.map (Value.int .u8)).toArray) rfl (by kernel_rfl) (by kernel_rfl) (by kernel_rfl) (fun _ _ _ h => h) (yieldsIf_load_mid (by rfl) _ _ rfl w.heap.size 0 rfl _ _ (fun x h => FR.out x h) hu26 rfl hi26) (Below.refl _ _) ?_
  try simp only [Act.put, List.setIfInBounds_toArray, List.set_cons_zero, List.set_cons_succ]
  refine wpAnyH_take (i := 1) (oi := { dst := some 8, op := Op.move (Operand.tmp 1), type := 22, pos := "mac.go:75", after := #[], guard := none }) (v := ?va2) rfl (by kernel_rfl) (by kernel_rfl) (by kernel_rfl) (fun _ _ _ h => h) (Or.inl ⟨by rfl, ?ya2⟩) (Below.refl _ _) ?ra2
  case ya2 => (intro w hSw; go_simp; try with_reducible rfl)
  try simp only [Act.put, List.setIfInBounds_toArray, List.set_cons_zero, List.set_cons_succ]
  refine wpAnyH_take (i := 2) (oi := { dst := some 9, op := Op.convert 22 9 (Operand.tmp 8), type := 9, pos := "mac.go:75", after := #[{ on := 1, ground := Ground.data }], guard := none }) (v := ?va3) rfl (by kernel_rfl) (by kernel_rfl) (by kernel_rfl) (fun _ _ _ h => h) (Or.inl ⟨by rfl, ?ya3⟩) (Below.refl _ _) ?ra3
  case ya3 => (intro w hSw; have t := FH.out w hSw; go_simp; try with_reducible rfl)
  try simp only [Act.put, List.setIfInBounds_toArray, List.set_cons_zero, List.set_cons_succ]
  refine wpAnyH_take (i := 4) (oi := { dst := some 11, op := Op.move (Operand.tmp 2), type := 22, pos := "mac.go:75", after := #[], guard := none }) (v := ?va4) rfl (by kernel_rfl) (by kernel_rfl) (by kernel_rfl) (fun _ _ _ h => h) (Or.inl ⟨by rfl, ?ya4⟩) (Below.refl _ _) ?ra4
  case ya4 => (intro w hSw; go_simp; try with_reducible rfl)
  try simp only [Act.put, List.setIfInBounds_toArray, List.set_cons_zero, List.set_cons_succ]
  refine wpAnyH_ready (rs := [3]) (by kernel_rfl) (by simp) ?_
  refine AllReadyH.cons (o := { dst := some 10, op := Op.call { callee := Callee.value (Operand.func 25), args := #[Operand.tmp 9], argTypes := #[9] }, type := 22, pos := "mac.go:75", after := #[{ on := 2, ground := Ground.data }], guard := none }) rfl (fun KK hKK => ?_) ?_
  · go_simp
    refine (ftext_own SH _ (FT.out _ (Below.refl _ _)).2 HSZ.out).mono ?_
    rintro e u5' ⟨v3, rfl, own3, bu5'⟩
    rw [HTX.out] at own3
    obtain ⟨a3, c3, rfl, -⟩ := sl_owned own3 HTB.out
    (try go_wp2_with fail)
    refine hKK.out _ _ (bu5') (fun _ => ?_)
    clear hKK KK
    try simp only [Act.put, List.setIfInBounds_toArray, List.set_cons_zero, List.set_cons_succ]
    refine wpAnyH_on (bu5') (fun u5 hu5 bu5 => ?_)
    replace FR := on FR bu5
    replace FT := on FT bu5
    replace FV := on FV bu5
    replace FB := on FB bu5
    replace FH := on FH bu5
    have F3 : Hid (∀ x, From u5 x → Sl x (.slice a3 (textL H).length c3) (textL H)) := fun x hx => by rw [hu5.out] at hx; exact Sl.kept (sl_owned own3 HTB.out) hx
    clear own3
    obtain ⟨tl, hTL⟩ : ∃ tl, tl = (textL H).length := ⟨_, rfl⟩
    rw [← hTL] at F3 ⊢
    clear hTL
    refine wpAnyH_ready (rs := [5]) (by kernel_rfl) (by simp) ?_
    refine AllReadyH.cons (o := { dst := some 12, op := Op.buildSlice 30 2 #[(0, Operand.tmp 10), (1, Operand.tmp 11)], type := 30, pos := "mac.go:75", after := #[{ on := 3, ground := Ground.data }, { on := 4, ground := Ground.data }], guard := none }) rfl (fun KK hKK => ?_) ?_
    · have FB0 : Hid (Below w.heap.size w u5) := FB.out _ (Below.refl _ _)
      have pu6 := parts2 u5 _ _ (textL H) X (F3.out _ (Below.refl _ _)) (FV.out _ (Below.refl _ _))
      go_simp
      refine hKK.out _ _ (al_below _ _) (fun _ => ?_)
      clear hKK KK
      try simp only [Act.put, List.setIfInBounds_toArray, List.set_cons_zero, List.set_cons_succ]
      refine wpAnyH_on (al_below _ _) (fun u6 hu6 bu6 => ?_)
      replace FR := on FR bu6
      replace FT := on FT bu6
      replace FV := on FV bu6
      replace FB := on FB bu6
      replace FH := on FH bu6
      replace F3 := on F3 bu6
      have FP : Hid (∀ x, From u6 x → Parts x (some ⟨u5.heap.size, 0, none⟩) [textL H, X]) := fun x hx => Parts.kept (by rw [hu6.out]; exact pu6) hx
      clear pu6
      refine wpAnyH_ready (rs := [6]) (by kernel_rfl) (by simp) ?_
      refine AllReadyH.cons (o := { dst := some 13, op := Op.call { callee := Callee.value (Operand.func 18), args := #[Operand.tmp 7, Operand.tmp 12], argTypes := #[26, 30] }, type := 22, pos := "mac.go:75", after := #[{ on := 0, ground := Ground.data }, { on := 5, ground := Ground.data }, { on := 3, ground := Ground.chain }], guard := none }) rfl (fun KK hKK => ?_) ?_
      · go_simp
        refine (tag2_any KB (textL H) X _ _ HKK.out HKB.out (FT.out _ (Below.refl _ _)).1 (FP.out _ (Below.refl _ _)) (by simp) HLE.out).mono ?_
        rintro e u7' ⟨v6, rfl, own6, bu7'⟩
        (try go_wp2_with fail)
        refine hKK.out _ _ (bu7') (fun _ => ?_)
        clear hKK KK
        try simp only [Act.put, List.setIfInBounds_toArray, List.set_cons_zero, List.set_cons_succ]
        refine wpAnyH_on (bu7') (fun u7 hu7 bu7 => ?_)
        replace FR := on FR bu7
        replace FT := on FT bu7
        replace FV := on FV bu7
        replace FB := on FB bu7
        replace FH := on FH bu7
        replace F3 := on F3 bu7
        replace FP := on FP bu7
        have O6 : Hid (u7.ownsRow w.heap.size 5 1 v6 16 ((btag KB H X).map (Value.int .u8))) := by unfold Hid; rw [hu7.out]; exact own_mono own6 (Nat.le_trans FB0.out.size (by rw [hu6.out]; simp))
        have B6 : Hid (Below w.heap.size w u7) := FB.out _ (Below.refl _ _)
        clear own6
        refine wpAnyH_take (i := 7) (oi := { dst := some 6, op := Op.assign (Operand.tmp 13), type := 22, pos := "mac.go:75", after := #[{ on := 6, ground := Ground.data }, { on := 6, ground := Ground.chain }, { on := 0, ground := Ground.phase }, { on := 1, ground := Ground.phase }, { on := 2, ground := Ground.phase }, { on := 3, ground := Ground.phase }, { on := 4, ground := Ground.phase }, { on := 5, ground := Ground.phase }, { on := 6, ground := Ground.phase }], guard := none }) (v := ?va8) rfl (by kernel_rfl) (by kernel_rfl) (by kernel_rfl) (fun _ _ _ h => h) (Or.inl ⟨by rfl, ?ya8⟩) (Below.refl _ _) ?ra8
        case ya8 => (intro w hSw; go_simp; try with_reducible rfl)
        try simp only [Act.put, List.setIfInBounds_toArray, List.set_cons_zero, List.set_cons_succ]
        refine wpAnyH_done (by kernel_rfl) ?_ _
        go_wp2
        go_ret
        exact ⟨_, rfl, O6.out, B6.out⟩
      exact AllReadyH.nil
    exact AllReadyH.nil
  exact AllReadyH.nil


set_option maxHeartbeats 2000000 in
set_option maxRecDepth 100000 in
theorem seal_any (KB : List Int) (h v : Value) (H X : List Int) (w : World) (hK : KB.length = 32) (hKb : Pl.Byt KB) (ht : Tabs w) (sh : Sl w h H) (sv : Sl w v X) (hH : H.length ≤ 140737488351232) (hX : X.length ≤ 140737488351232) :
    Calls Tryd.prog 16 #[.agg (u8s KB), h, v] w fun e w' => ∃ v', e = .returned v' ∧ w'.ownsRow w.heap.size 5 1 v' (X ++ btag KB H X).length ((X ++ btag KB H X).map (Value.int .u8)) ∧ Below w.heap.size w w' := by
  obtain ⟨wa, hwa⟩ : ∃ wa, wa = w.alloc (.cells (u8s KB) 26) := ⟨_, rfl⟩
  have ba : Below w.heap.size w wa := by rw [hwa]; exact al_below _ _
  have hwz : w.alloc (.cells (u8s KB) 26) = wa := hwa.symm
  have HGA : Hid (wa.heap[w.heap.size]? = some (.cells (u8s KB) 26 (0, 0))) := by unfold Hid; rw [hwa]; exact heap_alloc_new _ _
  have HI : Hid ((Tryd.prog.info? 26).map (·.size) = some (u8s KB).size) := by unfold Hid; rw [u8s_size, hK]; exact size26
  have c27 := btag_any KB h v H X wa hK hKb (ht.kept ba) (sh.kept ba) (sv.kept ba) hH hX
  have HSV : Hid (∀ W, Below wa.heap.size wa W → Sl W v X) := fun W hW => (sv.kept ba).kept hW
  have HBA : Hid (Below w.heap.size w wa) := ba
  have HTB : Hid (Pl.Byt (btag KB H X)) := tagB_byt _ _
  have HTL : Hid ((btag KB H X).length = 16) := tagB_len _ _
  have HXX : Hid (X.length ≤ 140737488351232) := hX
  obtain ⟨av, cv, rfl, -⟩ := sv
  obtain ⟨ah, ch, rfl, -⟩ := sh
  clear hwa ba ht hK hKb
  generalize btag KB H X = T at *
  obtain ⟨xl, hxl⟩ : ∃ xl, xl = X.length := ⟨_, rfl⟩
  rw [← hxl] at c27 HSV hX ⊢
  clear hxl
  generalize H.length = hl at *
  generalize u8s KB = KU at *
  go_enter Tryd.func16, Tryd.ntmps16
  go_wp2_with (refine wpList_load_row rfl 26 _ rfl w.heap.size rfl 26 KU (0, 0) _ HGA.out Tryd.underlying26 rfl HI.out ?_)
  refine c27.mono ?_
  rintro e w1 ⟨v1, rfl, own1, b1⟩
  have s1 := sl_owned own1 HTB.out
  obtain ⟨a1, c1, rfl, -⟩ := id s1
  have sv1 := HSV.out w1 b1
  have cj := join_any _ 2 _ _ (parts2 w1 _ _ X T sv1 s1) (by simp only [List.flatten_cons, List.flatten_nil, List.append_nil, List.length_append, HTL.out]; have := HXX.out; omega)
  have hf : [X, T].flatten = X ++ T := by simp
  rw [hf] at cj
  simp only [List.length_cons, List.length_nil, Nat.zero_add, Nat.reduceAdd] at cj
  have hw1 : w1.heap.size ≤ (w1.alloc (.cells #[.slice av xl cv, .slice a1 T.length c1] 22)).heap.size := by simp
  have B1 : Hid (Below w.heap.size w (w1.alloc (.cells #[.slice av xl cv, .slice a1 T.length c1] 22))) := by
    have h1 : Below w.heap.size w w1 := HBA.out.trans (b1.mono HBA.out.size)
    exact h1.alloc h1.size _
  rw [HTL.out] at cj B1 ⊢
  clear c27 own1 s1 sv1 b1 hf hw1
  go_wp2_with fail
  refine cj.mono ?_
  rintro e w2 ⟨v2, rfl, own2, b2⟩
  have O2 : Hid (w2.ownsRow w.heap.size 5 1 v2 (X ++ T).length ((X ++ T).map (Value.int .u8))) := own_mono own2 B1.out.size
  have B2 : Hid (Below w.heap.size w w2) := B1.out.trans (b2.mono B1.out.size)
  clear cj own2 b2
  go_wp2
  go_ret
  exact ⟨_, rfl, O2.out, B2.out⟩
end Go.Proofs.YtkblcabibnnmcaaDoor
