/-
  Any items have the bytes, the stand-ins and the total that the document says, or it is told why not; which one a path is, and whether any two lists are the same, too: for every two lists of items and every text; nothing that came in is changed.
-/
import Derived.Test.YtdnbiibijoggoaaGreatDoorFr
import Derived.Test.YtdnbiibijoggoaaGreatDoorLi
import Derived.Test.YtdnbiibijoggoaaGreatDoorRpt
import Derived.Test.YtdnbiibijoggoaaGreatDoorRa
import Derived.Test.YtdnbiibijoggoaaGreatDoorTg
namespace Go.Proofs.YtdnbiibijoggoaaGreatDoor.manifestPuts
open Go.ChangeShapes Go.WideShapes Go.ChangeAt Go.RowKit Go.Deep Go.ChangeMaps
set_option maxRecDepth 100000

theorem mput_err (l : List It) : (mput l).2 = mck l := by
  unfold mput
  by_cases h : mck l = 0
  · rw [if_neg (by simpa using h), h]
  · rw [if_pos h]
theorem wp_neqI {w : World} {o : Oper} {a : Act} {K : Act → World → Prop} {Q : Exit → Act → World → Prop} (x y : Operand) (t : TypeId) (ho : o.op = .binOp .neq 42 x y t)
    (u v : It) (hu : u.ok) (hv : v.ok) (hx : a.eval x = .agg u.cells.toArray) (hy : a.eval y = .agg v.cells.toArray) (h : K (a.put o.dst (.bool (!sIt u v))) w) : o.wp Tryz.prog a w K Q := by
  have hE := neq_run u v hu hv w
  unfold It.val at hE
  unfold Oper.wp
  simp only [execOp, ho, hx, hy, Sem.run_bind, run_eqGuard_agg _ _ _ _ _ _ _ guardI, hE, Result.andThen_ok, Sem.run_pure, Oper.upon]
  exact h
theorem fin_ok (l : List It) (h : ∀ x ∈ l, x.ok) (q : ByteArray) : ((fin l q).getD it0).ok := by
  unfold fin
  cases hf : l.find? (fun x => decide (x.p = q)) with
  | none => exact it0_ok
  | some y => exact h y (List.mem_of_find?_eq_some hf)
set_option maxHeartbeats 8000000 in
theorem walk (v0 : Value) (l : List It) (v1 : Value) (m : List It) (p : ByteArray) (w : World) (hw : Wd w) (h0 : IS w v0 l) (h1 : IS w v1 m) (_hp : p.size ≤ maxLen) :
    Calls Tryz.prog 4 #[v0, v1, .string p] w fun e w' => e = .returned (.bool true) ∧ Below w.heap.size w w' := by
  have CL0 := lightI_any v0 l w h0 (by obtain ⟨a, c, rfl, h2, h3, _⟩ := h0.shape; unfold maxLen at h3; omega)
  have CL1 := lightI_any v1 m w h1 (by obtain ⟨a, c, rfl, h2, h3, _⟩ := h1.shape; unfold maxLen at h3; omega)
  have CA : Hid (∀ W, Below w.heap.size w W → Calls Tryz.prog 7 #[] W fun e w' => e = .returned (.bool true) ∧ Below W.heap.size W w') := fun W hb => awake_any W (hw.kept hb)
  have HW : Hid (Wd w) := hw
  have H0 : Hid (IS w v0 l) := h0
  have H1 : Hid (IS w v1 m) := h1
  have HOK : Hid (∀ x ∈ l, x.ok) := h0.ok
  obtain ⟨a0, c0, rfl, _, _, _⟩ := h0.shape
  obtain ⟨a1, c1, rfl, _, _, _⟩ := h1.shape
  obtain ⟨n0, hn0⟩ : ∃ n0, n0 = l.length := ⟨_, rfl⟩
  obtain ⟨n1, hn1⟩ : ∃ n1, n1 = m.length := ⟨_, rfl⟩
  have HN0 : Hid (n0 = l.length) := hn0
  have HN1 : Hid (n1 = m.length) := hn1
  rw [← hn0] at CL0 H0 ⊢
  rw [← hn1] at CL1 H1 ⊢
  clear h0 h1 hw hn0 hn1
  go_enter Tryz.func4, Tryz.ntmps4
  go_wp2_with fail
  refine CL0.mono ?_
  rintro e w' ⟨r, rfl, hww, hr⟩
  replace hww := hww.symm
  subst hww
  clear CL0
  have HR : Hid (r = true → LtI l) := hr
  clear hr
  cases r
  · clear HR
    go_wp2_with fail
    refine (CA.out w (Below.refl w.heap.size w)).mono ?_
    rintro e z1 ⟨rfl, bz⟩
    have BZ : Hid (Below w.heap.size w z1) := Below.trans (Below.refl w.heap.size w) (bz.mono (Below.size (Below.refl w.heap.size w)))
    clear bz
    go_wp2
    go_ret
    exact ⟨rfl, BZ.out⟩
  have HLA : Hid (LtI l) := HR.out rfl
  clear HR
  go_wp2_with fail
  refine CL1.mono ?_
  rintro e w' ⟨r, rfl, hww, hr⟩
  replace hww := hww.symm
  subst hww
  clear CL1
  have HR : Hid (r = true → LtI m) := hr
  clear hr
  cases r
  · clear HR
    go_wp2_with fail
    refine (CA.out w (Below.refl w.heap.size w)).mono ?_
    rintro e z1 ⟨rfl, bz⟩
    have BZ : Hid (Below w.heap.size w z1) := Below.trans (Below.refl w.heap.size w) (bz.mono (Below.size (Below.refl w.heap.size w)))
    clear bz
    go_wp2
    go_ret
    exact ⟨rfl, BZ.out⟩
  have HLB : Hid (LtI m) := HR.out rfl
  clear HR
  by_cases hlong : 1000 < p.size
  · have hl2 : (1000 : Int) < (p.size : Int) := by omega
    go_wp2_with fail
    refine (CA.out w (Below.refl w.heap.size w)).mono ?_
    rintro e z1 ⟨rfl, bz⟩
    have BZ : Hid (Below w.heap.size w z1) := Below.trans (Below.refl w.heap.size w) (bz.mono (Below.size (Below.refl w.heap.size w)))
    clear bz
    go_wp2
    go_ret
    exact ⟨rfl, BZ.out⟩
  have hl2 : ¬ (1000 : Int) < (p.size : Int) := by omega
  have L0 : Hid (l.length ≤ 66) := HLA.out.1
  have L1 : Hid (m.length ≤ 66) := HLB.out.1
  have HPL : Hid (∀ x ∈ l, x.p.size ≤ 1000) := HLA.out.2
  clear HLA HLB
  have CP1 := put_any _ l w H0.out (by have := L0.out; omega) HPL.out HW.out
  have CP2 : Hid (∀ W, Below w.heap.size w W → Calls Tryz.prog 13 #[.slice a0 n0 c0] W fun e w' => ∃ v', e = .returned (.tuple #[v', .int .i64 (mput l).2]) ∧ Ow w' W.heap.size v' (mput l).1 ∧ Below W.heap.size W w') := fun W hb => rput_any _ l W (H0.out.kept hb) (by have := L0.out; omega) HPL.out
  have CF1 : Hid (∀ W, Below w.heap.size w W → Calls Tryz.prog 14 #[.slice a0 n0 c0, .string p] W fun e w' => e = .returned (.tuple #[.agg ((fin l p).getD it0).cells.toArray, .bool (fin l p).isSome]) ∧ Below W.heap.size W w') := fun W hb => find_any _ l p W (H0.out.kept hb) (by have := L0.out; omega)
  have CF2 : Hid (∀ W, Below w.heap.size w W → Calls Tryz.prog 15 #[.slice a0 n0 c0, .string p] W fun e w' => e = .returned (.tuple #[.agg ((fin l p).getD it0).cells.toArray, .bool (fin l p).isSome]) ∧ Below W.heap.size W w') := fun W hb => rfind_any _ l p W (H0.out.kept hb) (by have := L0.out; omega)
  have CC : Hid (∀ W, Below w.heap.size w W → Calls Tryz.prog 16 #[.slice a0 n0 c0] W fun e w' => e = .returned (.int .i64 (mput l).2) ∧ Below W.heap.size W w') := fun W hb => by
    have := mcheck_any (.slice a0 n0 c0) l W (H0.out.kept hb) (by have := L0.out; omega) HPL.out (HW.out.kept hb)
    rwa [← mput_err] at this
  have CS1 : Hid (∀ W, Below w.heap.size w W → Calls Tryz.prog 18 #[.slice a0 n0 c0] W fun e w' => ∃ v', e = .returned v' ∧ OE w' W.heap.size v' (l.map std) ∧ Below W.heap.size W w') := fun W hb => stands_any _ l W (H0.out.kept hb) (by have := L0.out; omega)
  have CS2 : Hid (∀ W, Below w.heap.size w W → Calls Tryz.prog 19 #[.slice a0 n0 c0] W fun e w' => ∃ v', e = .returned v' ∧ OE w' W.heap.size v' (l.map std) ∧ Below W.heap.size W w') := fun W hb => rstands_any _ l W (H0.out.kept hb) (by have := L0.out; omega)
  have CT1 : Hid (∀ W, Below w.heap.size w W → Calls Tryz.prog 20 #[.slice a0 n0 c0] W fun e w' => e = .returned (.int .i64 (tot 0 l)) ∧ Below W.heap.size W w') := fun W hb => total_any _ l W (H0.out.kept hb) (by have := L0.out; omega)
  have CT2 : Hid (∀ W, Below w.heap.size w W → Calls Tryz.prog 21 #[.slice a0 n0 c0] W fun e w' => e = .returned (.int .i64 (tot 0 l)) ∧ Below W.heap.size W w') := fun W hb => rtotal_any _ l W (H0.out.kept hb) (by have := L0.out; omega)
  have CE1 : Hid (∀ W, Below w.heap.size w W → Calls Tryz.prog 22 #[.slice a0 n0 c0, .slice a1 n1 c1] W fun e w' => e = .returned (.bool (saI l m)) ∧ Below W.heap.size W w') := fun W hb => msame_any _ _ l m W (H0.out.kept hb) (H1.out.kept hb) (by have := L0.out; omega) (by have := L1.out; omega)
  have CE2 : Hid (∀ W, Below w.heap.size w W → Calls Tryz.prog 10 #[.slice a0 n0 c0, .slice a1 n1 c1] W fun e w' => e = .returned (.bool (saI l m)) ∧ Below W.heap.size W w') := fun W hb => rsameI_any _ _ l m W (H0.out.kept hb) (H1.out.kept hb) (by have := L0.out; omega) (by have := L1.out; omega)
  have CEE : Hid (∀ W v u, ES W v (l.map std) → ES W u (l.map std) → Calls Tryz.prog 17 #[v, u] W fun e w' => e = .returned (.bool true) ∧ Below W.heap.size W w') := fun W v u hv hu => by
    have := rsame_any v u (l.map std) (l.map std) W hv hu (by have := L0.out; simp; omega) (by have := L0.out; simp; omega)
    rwa [(sam_iff _ _).2 rfl] at this
  have FOK : Hid (((fin l p).getD it0).ok) := fin_ok l HOK.out p
  have HMB : Hid ((mput l).1.length ≤ 1000000) := by
    unfold Hid mput
    split
    · simp
    · show (layL l).length ≤ _
      have h1 := lays_len l HOK.out HPL.out
      have h2 := numB_len8 (l.length : Int)
      have h3 := L0.out
      unfold layL
      rw [List.length_append]
      omega
  clear HPL HOK L0 L1 H0 H1
  generalize (fin l p).getD it0 = Y at *
  generalize (fin l p).isSome = is at *
  generalize saI l m = sm at *
  generalize tot 0 l = tt at *
  generalize l.map std = LS at *
  generalize mput l = P at *
  obtain ⟨pb, pe⟩ := P
  simp only at CP1 CP2 CC HMB
  go_wp2_with fail
  refine CP1.mono ?_
  rintro e w2 ⟨v2, rfl, o2, b2⟩
  clear CP1
  have B2 : Hid (Below w.heap.size w w2) := b2
  have S2 : Hid (Sl w2 v2 pb) := o2.sl
  obtain ⟨a2, c2, rfl⟩ := o2.shape
  clear o2 b2
  generalize hpl : pb.length = np at *
  clear hpl
  go_wp2_with fail
  refine (CP2.out w2 B2.out).mono ?_
  rintro e w3 ⟨v3, rfl, o3, b3⟩
  have B3 : Hid (Below w.heap.size w w3) := B2.out.trans (b3.mono B2.out.size)
  have S3 : Hid (Sl w3 (.slice a2 np c2) pb) := S2.out.kept b3
  have T3 : Hid (Sl w3 v3 pb) := o3.sl
  obtain ⟨a3, c3, rfl⟩ := o3.shape
  clear o3 b3 CP2 B2 S2
  generalize hpl : pb.length = nq at *
  clear hpl
  go_wp2_with fail
  refine (CF1.out w3 B3.out).mono ?_
  rintro e w4 ⟨rfl, b4⟩
  obtain ⟨W5, hW5⟩ : ∃ W5, W5 = w4.alloc (.cells Y.cells.toArray 42) := ⟨_, rfl⟩
  have b5 : Below w4.heap.size w4 W5 := by rw [hW5]; exact al_below _ _
  have b45 := b4.trans (b5.mono b4.size)
  have B5 : Hid (Below w.heap.size w W5) := B3.out.trans (b45.mono B3.out.size)
  have S5 : Hid (Sl W5 (.slice a2 np c2) pb) := S3.out.kept b45
  have T5 : Hid (Sl W5 (.slice a3 nq c3) pb) := T3.out.kept b45
  have G5 : Hid (IB W5 w4.heap.size Y) := by unfold Hid; rw [hW5]; exact IB.new w4 Y
  have e5 := alloc_it w4 Y
  rw [← hW5] at e5
  have HE5 : Hid ((w4.alloc (.cells #[.string ⟨#[]⟩, .bool false, .int .i64 0, .int .u8 0, .int .u8 0, .int .u8 0, .int .u8 0, .int .u8 0, .int .u8 0, .int .u8 0, .int .u8 0, .int .u8 0, .int .u8 0, .int .u8 0, .int .u8 0, .int .u8 0, .int .u8 0, .int .u8 0, .int .u8 0, .int .u8 0, .int .u8 0, .int .u8 0, .int .u8 0, .int .u8 0, .int .u8 0, .int .u8 0, .int .u8 0, .int .u8 0, .int .u8 0, .int .u8 0, .int .u8 0, .int .u8 0, .int .u8 0, .int .u8 0, .int .u8 0] 42)).setRow w4.heap.size Y.cells.toArray = W5) := e5
  clear e5 hW5 b4 b5 b45 B3 S3 T3 CF1
  go_wp2_with (refine wpList_store_row rfl 42 _ _ rfl w4.heap.size Y.cells.toArray rfl rfl 42 izc (new_it w4) (It.info _ FOK.out) (izc_size.trans (It.size _ FOK.out).symm) (It.ones _) (Hid.out ?_))
  unfold Hid
  rw [HE5.out]
  clear HE5
  generalize hg4 : w4.heap.size = g4 at *
  clear hg4
  go_wp2_with fail
  refine (CF2.out W5 B5.out).mono ?_
  rintro e w6 ⟨rfl, b6⟩
  obtain ⟨W7, hW7⟩ : ∃ W7, W7 = w6.alloc (.cells Y.cells.toArray 42) := ⟨_, rfl⟩
  have b7 : Below w6.heap.size w6 W7 := by rw [hW7]; exact al_below _ _
  have b67 := b6.trans (b7.mono b6.size)
  have B7 : Hid (Below w.heap.size w W7) := B5.out.trans (b67.mono B5.out.size)
  have S7 := S5.out.kept b67
  have T7 := T5.out.kept b67
  have G7 : Hid (IB W7 g4 Y) := G5.out.kept b67
  have K7 : Hid (IB W7 w6.heap.size Y) := by unfold Hid; rw [hW7]; exact IB.new w6 Y
  have e7 := alloc_it w6 Y
  rw [← hW7] at e7
  have HE7 : Hid ((w6.alloc (.cells #[.string ⟨#[]⟩, .bool false, .int .i64 0, .int .u8 0, .int .u8 0, .int .u8 0, .int .u8 0, .int .u8 0, .int .u8 0, .int .u8 0, .int .u8 0, .int .u8 0, .int .u8 0, .int .u8 0, .int .u8 0, .int .u8 0, .int .u8 0, .int .u8 0, .int .u8 0, .int .u8 0, .int .u8 0, .int .u8 0, .int .u8 0, .int .u8 0, .int .u8 0, .int .u8 0, .int .u8 0, .int .u8 0, .int .u8 0, .int .u8 0, .int .u8 0, .int .u8 0, .int .u8 0, .int .u8 0, .int .u8 0] 42)).setRow w6.heap.size Y.cells.toArray = W7) := e7
  have cv1 := S7.conv
  have cv2 := T7.conv
  have t3 : ((strB pb).toList == (strB pb).toList) = true := by simp
  have t3b : ((strB pb).toList != (strB pb).toList) = false := by simp
  generalize strB pb = SR at *
  have t4 : (pe != pe) = false := by simp
  have t5 : (is != is) = false := by simp
  clear e7 hW7 b6 b7 b67 B5 S5 T5 G5 CF2 S7 T7
  go_wp2_with (refine wpList_store_row rfl 42 _ _ rfl w6.heap.size Y.cells.toArray rfl rfl 42 izc (new_it w6) (It.info _ FOK.out) (izc_size.trans (It.size _ FOK.out).symm) (It.ones _) (Hid.out ?_))
  unfold Hid
  rw [HE7.out]
  clear HE7
  generalize hg6 : w6.heap.size = g6 at *
  clear hg6
  go_wp2_with fail
  refine (CC.out W7 B7.out).mono ?_
  rintro e w8 ⟨rfl, b8⟩
  have B8 : Hid (Below w.heap.size w w8) := B7.out.trans (b8.mono B7.out.size)
  have G8 : Hid (w8.rangeAt g4 0 Y.cells) := (G7.out.kept b8).range
  have K8 : Hid (w8.rangeAt g6 0 Y.cells) := (K7.out.kept b8).range
  have ZZ : Hid ((Tryz.prog.info? 42).map (·.size) = some Y.cells.length) := sizeI.trans (by rw [It.len FOK.out])
  have SS : Hid (sIt Y Y = true) := (sIt_iff _ _).2 rfl
  clear b8 B7 G7 K7 CC cv1 cv2 t3 t3b
  go_wp2_with (refine BigFrame.wpList_want (by rfl) fun KK hKK => wp_load_mid 42 _ rfl g4 0 rfl Y.cells _ G8.out Tryz.underlying42 rfl ZZ.out (hKK _ _ (Hid.out ?_)))
  unfold Hid
  refine BigFrame.wpList_want (by rfl) fun KK hKK => wp_load_mid 42 _ rfl g6 0 rfl Y.cells _ K8.out Tryz.underlying42 rfl ZZ.out (hKK _ _ ?_)
  refine BigFrame.wpList_want (by rfl) fun KK hKK => wp_neqI _ _ _ rfl Y Y FOK.out FOK.out rfl rfl (hKK _ _ ?_)
  rw [SS.out]
  clear SS ZZ G8 K8
  go_wp2_with fail
  refine (CS1.out w8 B8.out).mono ?_
  rintro e w9 ⟨v9, rfl, o9, b9⟩
  have B9 : Hid (Below w.heap.size w w9) := B8.out.trans (b9.mono B8.out.size)
  have E9 : Hid (ES w9 v9 LS) := o9.es
  obtain ⟨a9, c9, rfl, _, _, _⟩ := o9.es.shape
  clear o9 b9 B8 CS1
  go_wp2_with fail
  refine (CS2.out w9 B9.out).mono ?_
  rintro e w10 ⟨v10, rfl, o10, b10⟩
  have B10 : Hid (Below w.heap.size w w10) := B9.out.trans (b10.mono B9.out.size)
  have c11 := CEE.out w10 _ _ (E9.out.kept b10) o10.es
  obtain ⟨a10, c10, rfl, _, _, _⟩ := o10.es.shape
  clear o10 b10 B9 CS2 E9 CEE
  generalize LS.length = ns at *
  go_wp2_with fail
  refine c11.mono ?_
  rintro e w11 ⟨rfl, b11⟩
  have B11 : Hid (Below w.heap.size w w11) := B10.out.trans (b11.mono B10.out.size)
  clear b11 B10 c11
  go_wp2_with fail
  refine (CT1.out w11 B11.out).mono ?_
  rintro e w12 ⟨rfl, b12⟩
  have B12 : Hid (Below w.heap.size w w12) := B11.out.trans (b12.mono B11.out.size)
  clear b12 B11 CT1
  go_wp2_with fail
  refine (CT2.out w12 B12.out).mono ?_
  rintro e w13 ⟨rfl, b13⟩
  have B13 : Hid (Below w.heap.size w w13) := B12.out.trans (b13.mono B12.out.size)
  have t6 : (tt == tt) = true := by simp
  clear b13 B12 CT2
  go_wp2_with fail
  refine (CE1.out w13 B13.out).mono ?_
  rintro e w14 ⟨rfl, b14⟩
  have B14 : Hid (Below w.heap.size w w14) := B13.out.trans (b14.mono B13.out.size)
  clear b14 B13 CE1
  go_wp2_with fail
  refine (CE2.out w14 B14.out).mono ?_
  rintro e w15 ⟨rfl, b15⟩
  have B15 : Hid (Below w.heap.size w w15) := B14.out.trans (b15.mono B14.out.size)
  have t7 : (sm == sm) = true := by simp
  clear b15 B14 CE2
  go_wp2_with fail
  refine (CA.out w15 (B15.out)).mono ?_
  rintro e z1 ⟨rfl, bz⟩
  have BZ : Hid (Below w.heap.size w z1) := Below.trans (B15.out) (bz.mono (Below.size (B15.out)))
  clear bz
  go_wp2
  go_ret
  exact ⟨rfl, BZ.out⟩

theorem contract (H : Type) (enc : TypeId × Value → H) (W : World) (base : Nat) (args : Array Value) (ds gs : List (DataW H)) (before : List MemPlace)
    (hval : ∀ (j : Nat) t v, Tryz.f4.params[j]? = some t → args[j]? = some v → Value.okWide Tryz.prog W .any base t v)
    (hW : DataW.Whole enc Tryz.prog Tryz.f4.params.toList Rows.manifestPutsSpec.vars false W args.toList ds gs before) (hL : laidMetH Tryz.prog Rows.manifestPutsRow.laid W) (hsh : W.ShapedOpen Tryz.prog)
    (hsz0 : (DataW.weightsEach Tryz.prog (Tryz.f4.params.toList ++ Rows.manifestPutsSpec.plain.varTypes Tryz.prog) (ds ++ gs)).all (· ≤ reachBytes) = true) :
    Calls Tryz.prog 4 args W fun e W' => ∃ v, e = .returned v ∧ Rows.manifestPutsSpec.post enc Tryz.prog Tryz.f4 false true false false W args v W' := by
  have hW' := hW
  obtain ⟨p, q, hA0, hV, rfl, hfz, hnd⟩ := hW
  have hA : DataW.TrodAll enc Tryz.prog W 0 (fun _ => true) true Tryz.f4.params.toList args.toList ds p := hA0
  rw [Tryz.params4] at hA hval hsz0
  obtain ⟨v0, vs0, d0, ds0, p0, q0, hargs, rfl, rfl, h0, r0⟩ := trodAll_cons hA
  obtain ⟨v1, vs1, d1, ds1, p1, q1, rfl, rfl, rfl, h1, r1⟩ := trodAll_cons r0
  obtain ⟨v2, vs2, d2, ds2, p2, q2, rfl, rfl, rfl, h2, r2⟩ := trodAll_cons r1
  obtain ⟨rfl, rfl, rfl⟩ := trodAll_nil r2
  obtain rfl : args = #[v0, v1, v2] := by cases args; simp_all
  obtain ⟨rfl, rfl⟩ := trodVars_none hV
  have k0 := h0
  have lt0 : ∀ x ∈ p0, x.block < W.heap.size := by obtain ⟨m, hm⟩ := k0; exact DataW.trod_lt m _ _ _ hm
  obtain ⟨L0, w0⟩ := items_in (hval 0 25 v0 rfl rfl) h0
  have k1 := h1
  have lt1 : ∀ x ∈ p1, x.block < W.heap.size := by obtain ⟨m, hm⟩ := k1; exact DataW.trod_lt m _ _ _ hm
  obtain ⟨L1, w1⟩ := items_in (hval 1 25 v1 rfl rfl) h1
  obtain ⟨a2, rfl, rfl, rfl, w2⟩ := open_string Tryz.underlying9 (hval 2 9 v2 rfl rfl) h2
  clear hA0
  refine (walk v0 L0 v1 L1 a2 W (wd_of hL hsh) w0 w1 w2).mono fun e W' ⟨he, bel⟩ => ?_
  subst he
  exact ⟨_, rfl, _, _, _, [], _, [], hW', trodAll_mk1 (shut_bool Tryz.underlying4 _), (trodAll_cons_mk (Below.trod laidOut (by kernel_rfl) (of_decide_eq_true (by kernel_rfl)) k0 bel lt0) (trodAll_cons_mk (Below.trod laidOut (by kernel_rfl) (of_decide_eq_true (by kernel_rfl)) k1 bel lt1) (trodAll_cons_mk (shut_string Tryz.underlying9 w2) trodAll_mk0))), rfl, bel.frame _, fun h => by cases h⟩

theorem laid_met (os : Os) : laidMet Tryz.prog Rows.manifestPutsRow.laid (({ World.holding Tryz.prog os ⟨#[], #[], []⟩ with heap := (((((((World.holding Tryz.prog os ⟨#[], #[], []⟩).heap.modify 0 (fun
      | .cells _ t frozen => .cells shaFirst t frozen
      | o => o)).modify 1 (fun
      | .cells _ t frozen => .cells #[.int .i64 1, .int .i64 2, .int .i64 4, .int .i64 8] t frozen
      | o => o)).modify 2 (fun
      | .cells _ t frozen => .cells shaRounds t frozen
      | o => o)).modify 3 (fun
      | .cells _ t frozen => .cells #[.int .i64 0] t frozen
      | o => o)).modify 4 (fun
      | .cells _ t frozen => .cells firstCells t frozen
      | o => o)).modify 5 (fun
      | .cells _ t frozen => .cells rangeCells t frozen
      | o => o)) } : World).forCall (fun _ _ => 0) ⟨#[], #[.slice none 0 0, .slice none 0 0, .string ⟨#[]⟩], []⟩).memory :=
  laidMet_of_run' 8 (by kernel_rfl) (by kernel_rfl)
theorem reads (os : Os) {H : Type} (enc : TypeId × Value → H) : ∃ places, DataW.whole enc Tryz.prog (({ World.holding Tryz.prog os ⟨#[], #[], []⟩ with heap := (((((((World.holding Tryz.prog os ⟨#[], #[], []⟩).heap.modify 0 (fun
      | .cells _ t frozen => .cells shaFirst t frozen
      | o => o)).modify 1 (fun
      | .cells _ t frozen => .cells #[.int .i64 1, .int .i64 2, .int .i64 4, .int .i64 8] t frozen
      | o => o)).modify 2 (fun
      | .cells _ t frozen => .cells shaRounds t frozen
      | o => o)).modify 3 (fun
      | .cells _ t frozen => .cells #[.int .i64 0] t frozen
      | o => o)).modify 4 (fun
      | .cells _ t frozen => .cells firstCells t frozen
      | o => o)).modify 5 (fun
      | .cells _ t frozen => .cells rangeCells t frozen
      | o => o)) } : World).forCall (fun _ _ => 0) ⟨#[], #[.slice none 0 0, .slice none 0 0, .string ⟨#[]⟩], []⟩).memory Tryz.f4.params.toList Rows.manifestPutsSpec.vars false #[Value.slice none 0 0, .slice none 0 0, .string ⟨#[]⟩].toList 8 = some ([.nil, .nil, .lit (.string [])], [], places) :=
  ⟨[], by kernel_rfl⟩

set_option maxRecDepth 100000 in
theorem lifted (os : Os) (started : os.Started) (H : Type) (enc : TypeId × Value → H) (F : Stop.Interp) :
    ReturnsInHanded {} Tryz.checked os 4 .any ((OpenSpec.ofChange Rows.manifestPutsSpec).preRow enc Tryz.prog Tryz.f4 Rows.manifestPutsRow.domain false Rows.manifestPutsRow.laid) (((OpenSpec.ofChange Rows.manifestPutsSpec).at F).post enc Tryz.prog Tryz.f4 false true false false) := by
  obtain ⟨places, hx⟩ := reads os enc
  refine returnsInHanded_of_row (C := Tryz.checked) (s := OpenSpec.ofChange Rows.manifestPutsSpec) own started (by kernel_rfl) Tryz.func4
    (witness_row_at (enc := enc) (C := Tryz.checked) false ({ World.holding Tryz.prog os ⟨#[], #[], []⟩ with heap := (((((((World.holding Tryz.prog os ⟨#[], #[], []⟩).heap.modify 0 (fun
      | .cells _ t frozen => .cells shaFirst t frozen
      | o => o)).modify 1 (fun
      | .cells _ t frozen => .cells #[.int .i64 1, .int .i64 2, .int .i64 4, .int .i64 8] t frozen
      | o => o)).modify 2 (fun
      | .cells _ t frozen => .cells shaRounds t frozen
      | o => o)).modify 3 (fun
      | .cells _ t frozen => .cells #[.int .i64 0] t frozen
      | o => o)).modify 4 (fun
      | .cells _ t frozen => .cells firstCells t frozen
      | o => o)).modify 5 (fun
      | .cells _ t frozen => .cells rangeCells t frozen
      | o => o)) } : World) #[.slice none 0 0, .slice none 0 0, .string ⟨#[]⟩] rfl (by kernel_rfl) (by kernel_rfl) (by kernel_rfl)
      (OpenSpec.preRow_of_cond 8 hx (by kernel_rfl) (fun k hk => by cases hk) (by kernel_rfl) (laid_met os))) ?_
  intro W base args ds gs before hval hW _ _ hsz hL hsh _
  exact contract H enc W base args ds gs before hval hW hL hsh hsz

theorem said : Rows.ManifestPutsSaid :=
  OpenClaim.holds_of_cond 4 Tryz.f4 rfl rfl rfl rfl rfl rfl rfl ⟨rfl, rfl, rfl, rfl, rfl⟩ rfl rfl rfl rfl rfl (by kernel_rfl) Tryz.func4 (by kernel_rfl)
    (of_decide_eq_true (by kernel_rfl)) (by unfold Func.isWrapper; first | (rw [if_pos (by decide +kernel)]; kernel_rfl) | (rw [if_neg (by decide +kernel)]; exact ⟨rfl, rfl⟩))
    (fun os started H enc _ F => by rw [OpenClaim.pre_eq_preRow]; exact lifted os started H enc F)

theorem plain (f : FuncId) (fn : Func) (hf : Tryz.pinned.checked.prog.funcNamed "sumpter/sumpterlaw10.ManifestPuts" = some f) (hfn : Tryz.pinned.checked.prog.funcs[f]? = some fn) :
    false = Tryz.pinned.checked.prog.looks [] ∧ ∀ (j : Nat) t, fn.params[j]? = some t → Tryz.pinned.checked.prog.wantsStandIn t = false := by
  obtain rfl : f = 4 := Option.some.inj ((show Tryz.prog.funcNamed "sumpter/sumpterlaw10.ManifestPuts" = some 4 by kernel_rfl).symm.trans hf) |>.symm
  obtain rfl : fn = Tryz.f4 := (Option.some.inj (Tryz.func4.symm.trans hfn)).symm
  refine ⟨by kernel_rfl, fun j t ht => ?_⟩
  rw [Tryz.params4] at ht
  have hm : t ∈ [25, 25, 9] := by simpa using Array.mem_of_getElem? ht
  have hall : ([25, 25, 9].all fun u => !Tryz.prog.wantsStandIn u) = true := by kernel_rfl
  exact (show Tryz.prog.wantsStandIn t = false by simpa using List.all_eq_true.1 hall t hm)
end Go.Proofs.YtdnbiibijoggoaaGreatDoor.manifestPuts

namespace Go.Proofs.YtdnbiibijoggoaaGreatDoor
/-- The card of ManifestPuts. -/
theorem manifestPuts_card : Rows.ManifestPutsCardSaid :=
  Claim7.holds_tied_plain_at .later [] _ _ _ _ manifestPuts.said (fun _ h => by cases h) (by kernel_rfl) (fun _ h => by cases h) manifestPuts_row_tie rfl ⟨rfl, rfl⟩ (by kernel_rfl) rfl manifestPuts.plain (by kernel_rfl)
#print axioms manifestPuts_card
end Go.Proofs.YtdnbiibijoggoaaGreatDoor
