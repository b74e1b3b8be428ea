/-
  TreeRises: for every list of entries that is a tree: paths rise, each one's parent is a directory that stands ahead, and the children of all directories, and of the root, are all entries. No condition.
-/
import Derived.Test.YtdomknajkipmnaaDoorAw
import Derived.Test.YtdomknajkipmnaaDoorFr
import Derived.Test.YtdomknajkipmnaaDoorVs
import Derived.Test.YtdomknajkipmnaaDoorChn
namespace Go.Proofs.YtdomknajkipmnaaDoor.treeRises
open Go.ChangeShapes Go.WideShapes Go.ChangeAt Go.RowKit Go.Deep Go.ChangeMaps

/-- Numbers added up. -/
def sm (f : Nat → Nat) : Nat → Nat
  | 0 => 0
  | n + 1 => sm f n + f n
theorem sm_zero (f : Nat → Nat) : ∀ n, (∀ i, i < n → f i = 0) → sm f n = 0
  | 0, _ => rfl
  | n + 1, h => by
    unfold sm
    rw [sm_zero f n (fun i hi => h i (by omega)), h n (by omega)]
theorem sm_one (f : Nat → Nat) : ∀ n j, j < n → f j = 1 → (∀ i, i < n → i ≠ j → f i = 0) → sm f n = 1
  | 0, j, h, _, _ => by omega
  | n + 1, j, h, h1, h2 => by
    unfold sm
    by_cases hj : j = n
    · subst hj
      rw [sm_zero f j (fun i hi => h2 i (by omega) (by omega)), h1]
    · rw [sm_one f n j (by omega) h1 (fun i hi hne => h2 i (by omega) hne), h2 n (by omega) (by omega)]
theorem sm_add (f g : Nat → Nat) : ∀ n, sm (fun i => f i + g i) n = sm f n + sm g n
  | 0 => rfl
  | n + 1 => by
    unfold sm
    rw [sm_add f g n]
    omega
theorem sm_mono (f : Nat → Nat) (j : Nat) : ∀ n, j ≤ n → sm f j ≤ sm f n
  | 0, h => by rw [show j = 0 by omega]; exact Nat.le_refl _
  | n + 1, h => by
    by_cases hj : j = n + 1
    · rw [hj]; exact Nat.le_refl _
    · have := sm_mono f j n (by omega)
      show _ ≤ sm f n + f n
      omega
theorem chi_cons (y : En) (m : List En) (q : List UInt8) : (chi (y :: m) q).length = (chi m q).length + if par y.k = q then 1 else 0 := by
  unfold chi
  by_cases h : par y.k = q
  · simp [h]
  · simp [h]
/-- The children of all directories, and of the root, are all entries. -/
theorem rise {l : List En} (h : ckT l = 0) : (chi l []).length + sm (fun i => (chi l (atE l i).k).length) l.length = l.length := by
  have gen : ∀ m : List En, (∀ y ∈ m, y ∈ l) → (chi m []).length + sm (fun i => (chi m (atE l i).k).length) l.length = m.length := by
    intro m
    induction m with
    | nil =>
      intro _
      rw [sm_zero (fun i => (chi [] (atE l i).k).length) _ (fun i _ => rfl)]
      rfl
    | cons y m ih =>
      intro hm
      have ih' := ih (fun z hz => hm z (by simp [hz]))
      have e : (fun i => (chi (y :: m) (atE l i).k).length) = fun i => (chi m (atE l i).k).length + if par y.k = (atE l i).k then 1 else 0 := by
        funext i
        exact chi_cons y m _
      rw [e, sm_add, chi_cons]
      obtain ⟨k, hk, rfl⟩ := List.getElem_of_mem (hm y (by simp))
      rw [← atE_eq l k hk]
      rw [List.length_cons]
      have ne : ∀ i, i < l.length → (atE l i).k ≠ [] := fun i hi => chk_ne (ckI_ok ((ckT_all l h).2 i hi)).1
      by_cases hp : par (atE l k).k = []
      · rw [if_pos hp, sm_zero (fun i => if par (atE l k).k = (atE l i).k then 1 else 0) _ (fun i hi => if_neg (fun e => ne i hi (by rw [← e]; exact hp)))]
        omega
      · obtain ⟨j, hj, e1, _⟩ := tree_par h hk hp
        rw [if_neg hp, sm_one (fun i => if par (atE l k).k = (atE l i).k then 1 else 0) _ j (by omega) (if_pos e1.symm) (fun i hi hne => if_neg (fun e2 => hne (tree_inj h hi (by omega) (by rw [← e2, e1]))))]
        omega
  exact gen l (fun y hy => hy)
/-- What is got of a path's parent. -/
theorem rise_par {l : List En} (h : ckT l = 0) {i : Nat} (hi : i < l.length) (hp : par (atE l i).k ≠ []) : gotB l (par (atE l i).k) = true ∧ (got l (par (atE l i).k)).d = true := by
  obtain ⟨j, hj, e1, e2⟩ := tree_par h hi hp
  have hf : fnd l (par (atE l i).k) = j := fnd_of j (by omega) (fun k hk e => by
    have := tree_inj h (i := k) (j := j) (by omega) (by omega) (by rw [e, e1])
    omega) e1
  unfold gotB got
  rw [hf]
  refine ⟨decide_eq_true (by omega), ?_⟩
  rw [if_neg (by omega)]
  exact e2
/-- In a file there is nothing. -/
theorem rise_file {l : List En} (h : ckT l = 0) {i : Nat} (hi : i < l.length) (hd : (atE l i).d = false) : (chi l (atE l i).k).length = 0 := by
  unfold chi
  rw [List.length_map, List.length_eq_zero_iff, List.filter_eq_nil_iff]
  intro y hy
  obtain ⟨k, hk, rfl⟩ := List.getElem_of_mem hy
  rw [← atE_eq l k hk]
  intro e
  have e' := of_decide_eq_true e
  have ne : (atE l i).k ≠ [] := chk_ne (ckI_ok ((ckT_all l h).2 i hi)).1
  obtain ⟨j, hj, e1, e2⟩ := tree_par h hk (by rw [e']; exact ne)
  have := tree_inj h (i := j) (j := i) (by omega) hi (by rw [e1, e'])
  subst this
  rw [hd] at e2
  cases e2
theorem rise_vis {l : List En} (h : ckT l = 0) : vis l = l := by
  unfold vis
  rw [List.filter_eq_self]
  intro y hy
  obtain ⟨k, hk, rfl⟩ := List.getElem_of_mem hy
  have := (ckI_ok ((ckT_all l h).2 k hk)).2.1
  rw [atE_eq l k hk] at this
  rw [this]
  rfl
set_option maxHeartbeats 4000000 in
set_option maxRecDepth 100000 in
theorem walk (v : Value) (l : List En) (w : World) (hw : Mx w) (hes : ES w v l) :
    Calls Tryd.prog 7 #[v] w fun e w' => e = .returned (.bool true) ∧ Below w.heap.size w w' := by
  obtain ⟨a, c, rfl, g2, g3, _⟩ := hes.shape
  have HM : Hid (Mx w) := hw
  have HS : Hid (ES w (.slice a l.length c) l) := hes
  have g9 : l.length ≤ 9223372036854775807 := by unfold maxLen at g3; omega
  have CL := light_any _ l 60 20000 w HS.out (by omega) (by omega) g9
  obtain ⟨G1, hG1⟩ : ∃ G1 : Prop, G1 = (l.length ≤ 60 ∧ ∀ x ∈ l, x.p.size ≤ 1000 ∧ x.z.length ≤ 20000) := ⟨_, rfl⟩
  rw [← hG1] at CL
  have HG1 : Hid (G1 = (l.length ≤ 60 ∧ ∀ x ∈ l, x.p.size ≤ 1000 ∧ x.z.length ≤ 20000)) := hG1
  obtain ⟨n, hn'⟩ : ∃ n, n = l.length := ⟨_, rfl⟩
  have HN : Hid (n = l.length) := hn'
  rw [← hn'] at HS CL g2 g9 ⊢
  clear hw hes g3 hG1 hn'
  go_enter Tryd.func7, Tryd.ntmps7
  go_wp2_with fail
  refine CL.mono ?_
  rintro e wq ⟨r, rfl, hq, hr⟩
  replace hq := hq.symm
  subst hq
  have HR : Hid (r = true → G1) := hr
  clear hr CL
  cases r with
  | false =>
    have aw := awake_any w HM.out
    go_wp2_with (go_at_call 9; refine aw.mono ?_; rintro e w2 ⟨rfl, b2⟩)
    go_ret
    exact ⟨rfl, b2⟩
  | true =>
    have hG := HR.out rfl
    rw [HG1.out] at hG
    obtain ⟨hl60, hsz⟩ := hG
    have hn60 : n ≤ 60 := by rw [HN.out]; exact hl60
    have LL : Hid (Lt l) := ⟨by omega, fun y hy => by have := hsz y hy; omega⟩
    clear HR HG1 hl60 hsz
    have ct := checkT_any _ l w HS.out LL.out HM.out
    have HTREE : Hid (ckT l = 0 → ckT l = 0) := id
    generalize hct : ckT l = e1 at *
    have HCT : Hid (ckT l = e1) := hct
    clear hct HTREE
    go_wp2_with fail
    refine ct.mono ?_
    rintro e w1 ⟨rfl, b1⟩
    have B1 : Hid (Below w.heap.size w w1) := b1
    clear ct b1
    by_cases he1 : e1 = 0
    · subst he1
      have T : Hid (ckT l = 0) := HCT.out
      have CH : Hid (∀ (q : ByteArray) W, Below w.heap.size w W → Calls Tryd.prog 21 #[.slice a n c, .string q] W fun e w' => ∃ v', e = .returned v' ∧ SS w' v' (chi l (dl q)) ∧ Below W.heap.size W w') := fun q W hb => children_any _ l q W (HS.out.kept hb) LL.out
      have CG : Hid (∀ (q : ByteArray) W, Below w.heap.size w W → Calls Tryd.prog 19 #[.slice a n c, .string q] W fun e w' => ∃ u, e = .returned (.tuple #[u, .bool (gotB l (dl q))]) ∧ EV w' u (got l (dl q)) ∧ Below W.heap.size W w') := fun q W hb => get_any _ l q W (HS.out.kept hb) LL.out
      have CP : Hid (∀ j W, Calls Tryd.prog 30 #[.string (atE l j).p] W fun e w' => e = .returned (.string (mk (par (atE l j).k))) ∧ w' = W) := fun j W => parent_any (atE l j).p W (by have := (LL.out.at j).1; omega)
      have CLS : Hid (∀ i j W, Below w.heap.size w W → Calls Tryd.prog 29 #[.string (atE l i).p, .string (atE l j).p] W fun e w' => e = .returned (.bool (les (atE l i).k (atE l j).k)) ∧ Below W.heap.size W w') := fun i j W hb => less_any _ _ W (HM.out.kept hb) (by have := (LL.out.at i).1; omega) (by have := (LL.out.at j).1; omega)
      have HSUM : Hid ((chi l []).length + sm (fun i => (chi l (atE l i).k).length) n = n) := by
        have := rise T.out
        rw [← HN.out] at this
        exact this
      have HPART : Hid (∀ j, j ≤ n → (chi l []).length + sm (fun i => (chi l (atE l i).k).length) j ≤ 60) := fun j hj => by
        have h1 := sm_mono (fun i => (chi l (atE l i).k).length) j n hj
        have h2 := HSUM.out
        omega
      obtain ⟨S, hS⟩ : ∃ S : Nat → Nat, S = fun j => (chi l []).length + sm (fun i => (chi l (atE l i).k).length) j := ⟨_, rfl⟩
      have HS0 : Hid ((chi l (dl ⟨#[]⟩)).length = S 0) := by unfold Hid; rw [hS]; rfl
      have HS1 : Hid (∀ j, S (j + 1) = S j + (chi l (atE l j).k).length) := fun j => by
        rw [hS]
        show (chi l []).length + (sm (fun i => (chi l (atE l i).k).length) j + (chi l (atE l j).k).length) = (chi l []).length + sm (fun i => (chi l (atE l i).k).length) j + (chi l (atE l j).k).length
        omega
      have HSN : Hid (S n = n) := by unfold Hid; rw [hS]; exact HSUM.out
      have HSP : Hid (∀ j, j ≤ n → S j ≤ 60) := fun j hj => by rw [hS]; exact HPART.out j hj
      clear hS HSUM HPART
      have c0 := CH.out ⟨#[]⟩ w1 B1.out
      go_wp2_with fail
      refine c0.mono ?_
      rintro e w2 ⟨v2, rfl, s2, b2⟩
      obtain ⟨a2, c2, rfl, -⟩ := s2.shape
      have B2 : Hid (Below w.heap.size w w2) := B1.out.trans (b2.mono B1.out.size)
      rw [HS0.out]
      clear s2 b2 c0
      have hs0 := HSP.out 0 (by omega)
      go_wp2_with fail
      go_loopw [3, 4] (fun s q wr => ∃ j : Nat, j ≤ n ∧ q = .int .i64 j ∧ s = .int .i64 (S j) ∧ Below w.heap.size w wr) (fun _ q _ => n - (intOf q).toNat)
      case atStart => exact ⟨0, by omega, rfl, rfl, B2.out⟩
      case round =>
        obtain ⟨j, hj, rfl, rfl, bel⟩ := hrel
        have HB : Hid (Below w.heap.size w wr) := bel
        clear bel
        by_cases hlt : j < n
        · have lt2 : (j : Int) < (n : Int) := by omega
          have g5 : (0 : Int) ≤ (j : Int) := by omega
          obtain ⟨b, off, ua, un, uc, rfl, c1, d1, e1, hun, s1⟩ := HS.out.at j (by rw [← HN.out]; exact hlt)
          have q1 : IntKind.i64.wrap ((j : Int) + 1) = ((j + 1 : Nat) : Int) := by simp [IntKind.wrap, IntKind.bits, IntKind.signed]; omega
          have HC : Hid (∀ W, Below w.heap.size w W → W.cell? ⟨b, off + j * 3, none⟩ = some (.string (atE l j).p) ∧ W.cell? ⟨b, off + j * 3 + 1, none⟩ = some (.bool (atE l j).d)) := fun W hb => ⟨(hb.cell (World.block_lt_of_cell? _ _ c1)).trans c1, (hb.cell (World.block_lt_of_cell? _ _ d1)).trans d1⟩
          have cpa : Hid (∀ W, Calls Tryd.prog 30 #[.string (atE l j).p] W fun e w' => e = .returned (.string (mk (par (atE l j).k))) ∧ w' = W) := CP.out j
          have cge : Hid (∀ W, Below w.heap.size w W → Calls Tryd.prog 19 #[.slice (some ⟨b, off, none⟩) n c, .string (mk (par (atE l j).k))] W fun e w' => ∃ u, e = .returned (.tuple #[u, .bool (gotB l (par (atE l j).k))]) ∧ EV w' u (got l (par (atE l j).k)) ∧ Below W.heap.size W w') := fun W hb => by
            have := CG.out (mk (par (atE l j).k)) W hb
            rwa [dl_mk] at this
          have cch : Hid (∀ W, Below w.heap.size w W → Calls Tryd.prog 21 #[.slice (some ⟨b, off, none⟩) n c, .string (atE l j).p] W fun e w' => ∃ v', e = .returned v' ∧ SS w' v' (chi l (atE l j).k) ∧ Below W.heap.size W w') := fun W hb => CH.out _ W hb
          have HPAR : Hid (par (atE l j).k ≠ [] → gotB l (par (atE l j).k) = true ∧ (got l (par (atE l j).k)).d = true) := fun hp => rise_par T.out (by rw [← HN.out]; exact hlt) hp
          have HFIL : Hid ((atE l j).d = false → (chi l (atE l j).k).length = 0) := fun hd => rise_file T.out (by rw [← HN.out]; exact hlt) hd
          have HNX : Hid (S (j + 1) = S j + (chi l (atE l j).k).length) := HS1.out j
          have hsj := HSP.out (j + 1) (by omega)
          rw [HNX.out] at hsj
          clear c1 d1 e1 hun s1
          by_cases hj0 : 0 < j
          · have hj1 : 0 < (j : Int) := by omega
            obtain ⟨m, hm⟩ : ∃ m, m = j - 1 := ⟨_, rfl⟩
            obtain ⟨b', off', ua', un', uc', hbb, c1', -, -, -, -⟩ := HS.out.at m (by rw [← HN.out]; omega)
            cases hbb
            have q2 : IntKind.i64.wrap ((j : Int) - 1) = (m : Int) := by simp [IntKind.wrap, IntKind.bits, IntKind.signed]; omega
            have g6 : (0 : Int) ≤ (m : Int) := by omega
            have g7 : (m : Int) < (n : Int) := by omega
            have HLT : Hid (les (atE l m).k (atE l j).k = true) := tree_lt T.out j m (by omega) (by rw [← HN.out]; exact hlt)
            have cls : Hid (∀ W, Below w.heap.size w W → Calls Tryd.prog 29 #[.string (atE l m).p, .string (atE l j).p] W fun e w' => e = .returned (.bool true) ∧ Below W.heap.size W w') := fun W hb => by
              have := CLS.out m j W hb
              rwa [HLT.out] at this
            have HC2 : Hid (∀ W, Below w.heap.size w W → W.cell? ⟨b, off + m * 3, none⟩ = some (.string (atE l m).p) ∧ W.cell? ⟨b, off + j * 3, none⟩ = some (.string (atE l j).p)) := fun W hb => ⟨(hb.cell (World.block_lt_of_cell? _ _ c1')).trans c1', (HC.out W hb).1⟩
            have kk := HC2.out wr HB.out
            have kd := HC2.out wr.drew HB.out.drew
            have cl := cls.out wr.drew HB.out.drew
            clear hm c1' HLT cls
            generalize (atE l m).p = lp at *
            generalize hxp : (atE l j).p = xp at *
            go_wp2_with fail
            go_region_held3 (fun W => W.cell? ⟨b, off + m * 3, none⟩ = some (.string lp) ∧ W.cell? ⟨b, off + j * 3, none⟩ = some (.string xp)) (first | exact kk | exact kd | exact k3) (first
              | (go_at_call 29; refine cl.mono ?_; rintro e w5 ⟨rfl, b3⟩; have d3 : Below wr.heap.size wr w5 := (Below.refl wr.heap.size wr).drew.trans b3; have k3 := HC2.out w5 (HB.out.trans (d3.mono HB.out.size))))
            have B5 : Hid (Below w.heap.size w w5) := HB.out.trans (d3.mono HB.out.size)
            clear cl b3 d3 k3 kk kd
            subst hxp
            obtain ⟨k0, k1⟩ := HC.out w5 B5.out
            have cge5 := cge.out w5 B5.out
            generalize hx : atE l j = x at *
            have HX : Hid (atE l j = x) := hx
            clear hx
            generalize hpp : mk (par x.k) = pp at *
            have HPP : Hid (mk (par x.k) = pp) := hpp
            clear hpp
            generalize hgb : gotB l (par x.k) = gb at *
            generalize hge : got l (par x.k) = ge at *
            clear hgb hge
            generalize hcl : (chi l x.k).length = nc at *
            have HCL : Hid ((chi l x.k).length = nc) := hcl
            clear hcl
            go_wp2_with (go_at_call 30; refine (cpa.out _).mono ?_; rintro e wq ⟨rfl, hq⟩; replace hq := hq.symm; subst hq)
            refine cge5.mono ?_
            rintro e w6 ⟨u6, rfl, ⟨ya, yn, yc, rfl, -⟩, b6⟩
            obtain ⟨W6, hW6⟩ : ∃ W6, W6 = w6.alloc (.cells #[.string ge.p, .bool ge.d, .slice ya yn yc] 32) := ⟨_, rfl⟩
            have n6 : Below w6.heap.size w6 W6 := by rw [hW6]; exact (Below.refl _ _).alloc (Nat.le_refl _) _
            have k6 : W6.heap[w6.heap.size]? = some (.cells #[.string ge.p, .bool ge.d, .slice ya yn yc] 32 (0, 0)) := by rw [hW6]; exact heap_alloc_new _ _
            have B6 : Hid (Below w.heap.size w W6) := B5.out.trans ((b6.trans (n6.mono b6.size)).mono B5.out.size)
            obtain ⟨r0, r1⟩ := HC.out W6 B6.out
            obtain ⟨-, t1, -, -, -, -⟩ := trio k6
            have cch6 := cch.out W6 B6.out
            rw [hW6] at r0 r1 t1
            have tpp := tl_beq pp ⟨#[]⟩
            have HPP2 : Hid (pp ≠ ⟨#[]⟩ → gb = true ∧ ge.d = true) := fun hne => HPAR.out (fun e => hne (by rw [← HPP.out, e]; rfl))
            generalize hgd : ge.d = gd at *
            clear hgd n6 k6 b6 cge5 k0 k1 HPAR
            have hside : (!(pp.toList.isEmpty) && (!gb || !gd)) = false ∧ (pp.toList.isEmpty = true ∨ (pp.toList.isEmpty = false ∧ gb = true ∧ gd = true)) := by
              by_cases hpe : pp = ⟨#[]⟩
              · subst hpe
                exact ⟨by rw [tol]; rfl, .inl (by rw [tol]; rfl)⟩
              · obtain ⟨rfl, rfl⟩ := HPP2.out hpe
                have : pp.toList.isEmpty = false := by
                  rw [tol]
                  cases h : dl pp with
                  | nil => exact absurd (dl_inj h) hpe
                  | cons _ _ => rfl
                exact ⟨by rw [this]; rfl, .inr ⟨this, rfl, rfl⟩⟩
            obtain ⟨-, hside⟩ := hside
            clear tpp HPP2
            rcases hside with hpe | ⟨hpe, rfl, rfl⟩
            · go_wp2_with (go_at_call 30; refine (cpa.out _).mono ?_; rintro e wq ⟨rfl, hq⟩; replace hq := hq.symm; subst hq)
              rw [← hW6]
              clear hW6 r0 r1 t1
              refine cch6.mono ?_
              rintro e w7 ⟨v7, rfl, s7, b7⟩
              obtain ⟨a7, c7, rfl, -⟩ := s7.shape
              have B7 : Hid (Below w.heap.size w w7) := B6.out.trans (b7.mono B6.out.size)
              obtain ⟨o0, o1⟩ := HC.out w7 B7.out
              rw [HCL.out]
              clear s7 b7 cch6
              cases hd : x.d with
              | true =>
                rw [hd] at o1
                clear hd
                go_wp2
                go_roundw
                case rel => exact ⟨j + 1, by omega, by go_num, by rw [HNX.out]; go_num, B7.out⟩
                case measure => simp [intOf]; omega
              | false =>
                have hz := HFIL.out hd
                rw [hd] at o1
                subst hz
                clear hd
                go_wp2
                go_roundw
                case rel => exact ⟨j + 1, by omega, by go_num, by rw [HNX.out]; go_num, B7.out⟩
                case measure => simp [intOf]; omega
            · go_wp2_with (go_at_call 30; refine (cpa.out _).mono ?_; rintro e wq ⟨rfl, hq⟩; replace hq := hq.symm; subst hq)
              rw [← hW6]
              clear hW6 r0 r1 t1
              refine cch6.mono ?_
              rintro e w7 ⟨v7, rfl, s7, b7⟩
              obtain ⟨a7, c7, rfl, -⟩ := s7.shape
              have B7 : Hid (Below w.heap.size w w7) := B6.out.trans (b7.mono B6.out.size)
              obtain ⟨o0, o1⟩ := HC.out w7 B7.out
              rw [HCL.out]
              clear s7 b7 cch6
              cases hd : x.d with
              | true =>
                rw [hd] at o1
                clear hd
                go_wp2
                go_roundw
                case rel => exact ⟨j + 1, by omega, by go_num, by rw [HNX.out]; go_num, B7.out⟩
                case measure => simp [intOf]; omega
              | false =>
                have hz := HFIL.out hd
                rw [hd] at o1
                subst hz
                clear hd
                go_wp2
                go_roundw
                case rel => exact ⟨j + 1, by omega, by go_num, by rw [HNX.out]; go_num, B7.out⟩
                case measure => simp [intOf]; omega
          · have hj1 : ¬ 0 < (j : Int) := by omega
            have dj : decide (0 < j) = false := decide_eq_false hj0
            have di : decide (0 < (j : Int)) = false := decide_eq_false hj1
            go_wp2_with fail
            go_quiet (fail)
            have bq : Below wr.heap.size wr (wr.drewN nq) := ⟨rfl, rfl, rfl, Nat.le_refl _, fun _ _ => rfl⟩
            have B5 : Hid (Below w.heap.size w (wr.drewN nq)) := HB.out.trans (bq.mono HB.out.size)
            generalize wr.drewN nq = w5 at *
            clear bq
            obtain ⟨k0, k1⟩ := HC.out w5 B5.out
            have cge5 := cge.out w5 B5.out
            generalize hx : atE l j = x at *
            have HX : Hid (atE l j = x) := hx
            clear hx
            generalize hpp : mk (par x.k) = pp at *
            have HPP : Hid (mk (par x.k) = pp) := hpp
            clear hpp
            generalize hgb : gotB l (par x.k) = gb at *
            generalize hge : got l (par x.k) = ge at *
            clear hgb hge
            generalize hcl : (chi l x.k).length = nc at *
            have HCL : Hid ((chi l x.k).length = nc) := hcl
            clear hcl
            go_wp2_with (go_at_call 30; refine (cpa.out _).mono ?_; rintro e wq ⟨rfl, hq⟩; replace hq := hq.symm; subst hq)
            refine cge5.mono ?_
            rintro e w6 ⟨u6, rfl, ⟨ya, yn, yc, rfl, -⟩, b6⟩
            obtain ⟨W6, hW6⟩ : ∃ W6, W6 = w6.alloc (.cells #[.string ge.p, .bool ge.d, .slice ya yn yc] 32) := ⟨_, rfl⟩
            have n6 : Below w6.heap.size w6 W6 := by rw [hW6]; exact (Below.refl _ _).alloc (Nat.le_refl _) _
            have k6 : W6.heap[w6.heap.size]? = some (.cells #[.string ge.p, .bool ge.d, .slice ya yn yc] 32 (0, 0)) := by rw [hW6]; exact heap_alloc_new _ _
            have B6 : Hid (Below w.heap.size w W6) := B5.out.trans ((b6.trans (n6.mono b6.size)).mono B5.out.size)
            obtain ⟨r0, r1⟩ := HC.out W6 B6.out
            obtain ⟨-, t1, -, -, -, -⟩ := trio k6
            have cch6 := cch.out W6 B6.out
            rw [hW6] at r0 r1 t1
            have tpp := tl_beq pp ⟨#[]⟩
            have HPP2 : Hid (pp ≠ ⟨#[]⟩ → gb = true ∧ ge.d = true) := fun hne => HPAR.out (fun e => hne (by rw [← HPP.out, e]; rfl))
            generalize hgd : ge.d = gd at *
            clear hgd n6 k6 b6 cge5 k0 k1 HPAR
            have hside : (!(pp.toList.isEmpty) && (!gb || !gd)) = false ∧ (pp.toList.isEmpty = true ∨ (pp.toList.isEmpty = false ∧ gb = true ∧ gd = true)) := by
              by_cases hpe : pp = ⟨#[]⟩
              · subst hpe
                exact ⟨by rw [tol]; rfl, .inl (by rw [tol]; rfl)⟩
              · obtain ⟨rfl, rfl⟩ := HPP2.out hpe
                have : pp.toList.isEmpty = false := by
                  rw [tol]
                  cases h : dl pp with
                  | nil => exact absurd (dl_inj h) hpe
                  | cons _ _ => rfl
                exact ⟨by rw [this]; rfl, .inr ⟨this, rfl, rfl⟩⟩
            obtain ⟨-, hside⟩ := hside
            clear tpp HPP2
            rcases hside with hpe | ⟨hpe, rfl, rfl⟩
            · go_wp2_with (go_at_call 30; refine (cpa.out _).mono ?_; rintro e wq ⟨rfl, hq⟩; replace hq := hq.symm; subst hq)
              rw [← hW6]
              clear hW6 r0 r1 t1
              refine cch6.mono ?_
              rintro e w7 ⟨v7, rfl, s7, b7⟩
              obtain ⟨a7, c7, rfl, -⟩ := s7.shape
              have B7 : Hid (Below w.heap.size w w7) := B6.out.trans (b7.mono B6.out.size)
              obtain ⟨o0, o1⟩ := HC.out w7 B7.out
              rw [HCL.out]
              clear s7 b7 cch6
              cases hd : x.d with
              | true =>
                rw [hd] at o1
                clear hd
                go_wp2
                go_roundw
                case rel => exact ⟨j + 1, by omega, by go_num, by rw [HNX.out]; go_num, B7.out⟩
                case measure => simp [intOf]; omega
              | false =>
                have hz := HFIL.out hd
                rw [hd] at o1
                subst hz
                clear hd
                go_wp2
                go_roundw
                case rel => exact ⟨j + 1, by omega, by go_num, by rw [HNX.out]; go_num, B7.out⟩
                case measure => simp [intOf]; omega
            · go_wp2_with (go_at_call 30; refine (cpa.out _).mono ?_; rintro e wq ⟨rfl, hq⟩; replace hq := hq.symm; subst hq)
              rw [← hW6]
              clear hW6 r0 r1 t1
              refine cch6.mono ?_
              rintro e w7 ⟨v7, rfl, s7, b7⟩
              obtain ⟨a7, c7, rfl, -⟩ := s7.shape
              have B7 : Hid (Below w.heap.size w w7) := B6.out.trans (b7.mono B6.out.size)
              obtain ⟨o0, o1⟩ := HC.out w7 B7.out
              rw [HCL.out]
              clear s7 b7 cch6
              cases hd : x.d with
              | true =>
                rw [hd] at o1
                clear hd
                go_wp2
                go_roundw
                case rel => exact ⟨j + 1, by omega, by go_num, by rw [HNX.out]; go_num, B7.out⟩
                case measure => simp [intOf]; omega
              | false =>
                have hz := HFIL.out hd
                rw [hd] at o1
                subst hz
                clear hd
                go_wp2
                go_roundw
                case rel => exact ⟨j + 1, by omega, by go_num, by rw [HNX.out]; go_num, B7.out⟩
                case measure => simp [intOf]; omega
        · obtain rfl : j = n := by omega
          have HSN2 := HSN.out
          rw [HSN2]
          have cv : Calls Tryd.prog 16 #[.slice a j c] wr fun e w' => ∃ v', e = .returned v' ∧ OE w' wr.heap.size v' l ∧ Below wr.heap.size wr w' := by
            have := visible_any _ l wr (HS.out.kept HB.out) LL.out
            rwa [rise_vis T.out] at this
          clear HSN2 HSN
          go_wp2_with fail
          refine cv.mono ?_
          rintro e w3 ⟨v3, rfl, o3, b3⟩
          have B3 : Hid (Below w.heap.size w w3) := HB.out.trans (b3.mono HB.out.size)
          obtain ⟨a3, c3, rfl, -⟩ := o3.es.shape
          rw [← HN.out]
          have aw := awake_any w3 (HM.out.kept B3.out)
          clear o3 b3 cv
          go_wp2_with fail
          refine aw.mono ?_
          rintro e w4 ⟨rfl, b4⟩
          have B4 : Hid (Below w.heap.size w w4) := B3.out.trans (b4.mono B3.out.size)
          clear b4 aw
          go_wp2
          go_ret
          exact ⟨rfl, B4.out⟩
    · have te : (e1 != 0) = true := by simp [he1]
      have aw := awake_any w1 (HM.out.kept B1.out)
      go_wp2_with (go_at_call 9; refine aw.mono ?_; rintro e w2 ⟨rfl, b2⟩)
      go_ret
      exact ⟨rfl, B1.out.trans (b2.mono B1.out.size)⟩

theorem contract (H : Type) (enc : TypeId × Value → H) (W : World) (base : Nat) (args : Array Value) (ds gs : List (DataW H)) (before : List MemPlace)
    (hval : ∀ (j : Nat) t v, Tryd.f7.params[j]? = some t → args[j]? = some v → Value.okWide Tryd.prog W .any base t v)
    (hW : DataW.Whole enc Tryd.prog Tryd.f7.params.toList Rows.treeRisesSpec.vars false W args.toList ds gs before) (_hL : laidMetH Tryd.prog Rows.treeRisesRow.laid W) (hsh : W.ShapedOpen Tryd.prog)
    (hsz0 : (DataW.weightsEach Tryd.prog (Tryd.f7.params.toList ++ Rows.treeRisesSpec.plain.varTypes Tryd.prog) (ds ++ gs)).all (· ≤ reachBytes) = true) :
    Calls Tryd.prog 7 args W fun e W' => ∃ v, e = .returned v ∧ Rows.treeRisesSpec.post enc Tryd.prog Tryd.f7 false true false false W args v W' := by
  have hW' := hW
  obtain ⟨p, q, hA0, hV, rfl, hfz, hnd⟩ := hW
  have hA : DataW.TrodAll enc Tryd.prog W 0 (fun _ => true) true Tryd.f7.params.toList args.toList ds p := hA0
  rw [Tryd.params7] at hA hval hsz0
  obtain ⟨v0, vs0, d0, ds0, p0, q0, hargs, rfl, rfl, h0, r0⟩ := trodAll_cons hA
  obtain ⟨rfl, rfl, rfl⟩ := trodAll_nil r0
  obtain rfl : args = #[v0] := by cases args; simp_all
  obtain ⟨rfl, rfl⟩ := trodVars_none hV
  have k0 := h0
  have lt0 : ∀ x ∈ p0, x.block < W.heap.size := by obtain ⟨m, hm⟩ := k0; exact DataW.trod_lt m _ _ _ hm
  obtain ⟨L0, w0⟩ := ents_in (hval 0 22 v0 rfl rfl) h0
  clear hA0
  refine (walk v0 L0 W (mx_of hsh) w0).mono fun e W' ⟨he, bel⟩ => ?_
  subst he
  exact ⟨_, rfl, _, _, _, [], _, [], hW', trodAll_mk1 (shut_bool Tryd.underlying4 _), (trodAll_cons_mk (Below.trod laidOut (by kernel_rfl) (of_decide_eq_true (by kernel_rfl)) k0 bel lt0) trodAll_mk0), rfl, bel.frame _, fun h => by cases h⟩

theorem laid_met (os : Os) : laidMet Tryd.prog Rows.treeRisesRow.laid (({ World.holding Tryd.prog os ⟨#[], #[], []⟩ with heap := ((((World.holding Tryd.prog os ⟨#[], #[], []⟩).heap.modify 0 (fun
      | .cells _ t frozen => .cells #[.int .i64 0] t frozen
      | o => o)).modify 1 (fun
      | .cells _ t frozen => .cells firstCells t frozen
      | o => o)).modify 2 (fun
      | .cells _ t frozen => .cells rangeCells t frozen
      | o => o)) } : World).forCall (fun _ _ => 0) ⟨#[], #[.slice none 0 0], []⟩).memory :=
  laidMet_of_run' 8 (by kernel_rfl) (by kernel_rfl)
theorem reads (os : Os) {H : Type} (enc : TypeId × Value → H) : ∃ places, DataW.whole enc Tryd.prog (({ World.holding Tryd.prog os ⟨#[], #[], []⟩ with heap := ((((World.holding Tryd.prog os ⟨#[], #[], []⟩).heap.modify 0 (fun
      | .cells _ t frozen => .cells #[.int .i64 0] t frozen
      | o => o)).modify 1 (fun
      | .cells _ t frozen => .cells firstCells t frozen
      | o => o)).modify 2 (fun
      | .cells _ t frozen => .cells rangeCells t frozen
      | o => o)) } : World).forCall (fun _ _ => 0) ⟨#[], #[.slice none 0 0], []⟩).memory Tryd.f7.params.toList Rows.treeRisesSpec.vars false #[Value.slice none 0 0].toList 8 = some ([.nil], [], places) :=
  ⟨[], by kernel_rfl⟩

set_option maxRecDepth 100000 in
theorem lifted (os : Os) (started : os.Started) (H : Type) (enc : TypeId × Value → H) (F : Stop.Interp) :
    ReturnsInHanded {} Tryd.checked os 7 .any ((OpenSpec.ofChange Rows.treeRisesSpec).preRow enc Tryd.prog Tryd.f7 Rows.treeRisesRow.domain false Rows.treeRisesRow.laid) (((OpenSpec.ofChange Rows.treeRisesSpec).at F).post enc Tryd.prog Tryd.f7 false true false false) := by
  obtain ⟨places, hx⟩ := reads os enc
  refine returnsInHanded_of_row (C := Tryd.checked) (s := OpenSpec.ofChange Rows.treeRisesSpec) own started (by kernel_rfl) Tryd.func7
    (witness_row_at (enc := enc) (C := Tryd.checked) false ({ World.holding Tryd.prog os ⟨#[], #[], []⟩ with heap := ((((World.holding Tryd.prog os ⟨#[], #[], []⟩).heap.modify 0 (fun
      | .cells _ t frozen => .cells #[.int .i64 0] t frozen
      | o => o)).modify 1 (fun
      | .cells _ t frozen => .cells firstCells t frozen
      | o => o)).modify 2 (fun
      | .cells _ t frozen => .cells rangeCells t frozen
      | o => o)) } : World) #[.slice none 0 0] rfl (by kernel_rfl) (by kernel_rfl) (by kernel_rfl)
      (OpenSpec.preRow_of_cond 8 hx (by kernel_rfl) (fun k hk => by cases hk) (by kernel_rfl) (laid_met os))) ?_
  intro W base args ds gs before hval hW _ _ hsz hL hsh _
  exact contract H enc W base args ds gs before hval hW hL hsh hsz

theorem said : Rows.TreeRisesSaid :=
  OpenClaim.holds_of_cond 7 Tryd.f7 rfl rfl rfl rfl rfl rfl rfl ⟨rfl, rfl, rfl, rfl, rfl⟩ rfl rfl rfl rfl rfl (by kernel_rfl) Tryd.func7 (by kernel_rfl)
    (of_decide_eq_true (by kernel_rfl)) (by unfold Func.isWrapper; first | (rw [if_pos (by decide +kernel)]; kernel_rfl) | (rw [if_neg (by decide +kernel)]; exact ⟨rfl, rfl⟩))
    (fun os started H enc _ F => by rw [OpenClaim.pre_eq_preRow]; exact lifted os started H enc F)

theorem plain (f : FuncId) (fn : Func) (hf : Tryd.pinned.checked.prog.funcNamed "sumpter/sumpterlaw08.TreeRises" = some f) (hfn : Tryd.pinned.checked.prog.funcs[f]? = some fn) :
    false = Tryd.pinned.checked.prog.looks [] ∧ ∀ (j : Nat) t, fn.params[j]? = some t → Tryd.pinned.checked.prog.wantsStandIn t = false := by
  obtain rfl : f = 7 := Option.some.inj ((show Tryd.prog.funcNamed "sumpter/sumpterlaw08.TreeRises" = some 7 by kernel_rfl).symm.trans hf) |>.symm
  obtain rfl : fn = Tryd.f7 := (Option.some.inj (Tryd.func7.symm.trans hfn)).symm
  refine ⟨by kernel_rfl, fun j t ht => ?_⟩
  rw [Tryd.params7] at ht
  have hm : t ∈ [22] := by simpa using Array.mem_of_getElem? ht
  have hall : ([22].all fun u => !Tryd.prog.wantsStandIn u) = true := by kernel_rfl
  exact (show Tryd.prog.wantsStandIn t = false by simpa using List.all_eq_true.1 hall t hm)
end Go.Proofs.YtdomknajkipmnaaDoor.treeRises

namespace Go.Proofs.YtdomknajkipmnaaDoor
/-- The card of TreeRises. -/
theorem treeRises_card : Rows.TreeRisesCardSaid :=
  Claim7.holds_tied_plain_at .later [] _ _ _ _ treeRises.said (fun _ h => by cases h) (by kernel_rfl) (fun _ h => by cases h) treeRises_row_tie rfl ⟨rfl, rfl⟩ (by kernel_rfl) rfl treeRises.plain (by kernel_rfl)
#print axioms treeRises_card
end Go.Proofs.YtdomknajkipmnaaDoor
