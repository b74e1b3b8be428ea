/-
  What Find answers.
-/
import Derived.Test.YtlhmpcmlpfffoaaDoorIx
import Derived.Test.YtlhmpcmlpfffoaaDoorSi
namespace Go.Proofs.YtlhmpcmlpfffoaaDoor
open Go.RowKit Go.Maps
set_option maxRecDepth 100000

/-- Where a block is. -/
def bfnd (l : List Sg) (z : Int) (b : List Int) : Int × Bool := if (b.length : Int) = z ∧ fi l (Ro.rs b) (Sh.Pl.sha b) < l.length then ((fi l (Ro.rs b) (Sh.Pl.sha b) : Int) * z, true) else (0, false)
set_option maxHeartbeats 4000000 in
theorem find_any (w : World) (B g m : Nat) (z N : Int) (l : List Sg) (hi : IX w B g m z N l) (v : Value) (b : List Int) (s : Sl w v b) (ht : Ta w) (hb : b.length ≤ 100000000000000000) :
    Calls Tryd.prog 53 #[.pointer (some ⟨g, 0, none⟩), v] w fun e w' => e = .returned (.tuple #[.int .i64 (bfnd l z b).1, .bool (bfnd l z b).2]) ∧ Below w.heap.size w w' := by
  obtain ⟨ni, h⟩ := hi
  obtain ⟨c0, -, -⟩ := IG.cells h
  obtain ⟨va, vc, rfl, -⟩ := id s
  have HR : Hid (bfnd l z b = if (b.length : Int) = z ∧ fi l (Ro.rs b) (Sh.Pl.sha b) < l.length then ((fi l (Ro.rs b) (Sh.Pl.sha b) : Int) * z, true) else (0, false)) := rfl
  have HS : Hid (Sl w (.slice va b.length vc) b) := s
  obtain ⟨L, hL⟩ : ∃ L, L = b.length := ⟨_, rfl⟩
  have HT : Hid (Ta w) := ht
  have HX : Hid (IG w B g m z N ni (wk l) (inn l z)) := h
  have HBG : Hid (b.length ≤ 100000000000000000) := hb
  have FC : Hid (∀ x, From w x → Calls Tryd.prog 61 #[.slice va b.length vc] x fun e w' => e = .returned (.int .u32 (Ro.rs b)) ∧ w' = x) := fun x hx => Ro.sum_any _ b x (s.kept hx)
  have FT : Hid (∀ x, From w x → x.cell? ⟨g, 2, none⟩ = some (.map (some m))) := fun x hx => (IG.cells (IG.kept h hx)).2.2
  have FB : Hid (∀ x, From w x → Below w.heap.size w x) := fun x hx => hx
  rw [← hL] at HR HS FC ⊢
  clear s ht h hb hL
  generalize bfnd l z b = R at *
  by_cases hz : (L : Int) = z
  · subst hz
    have HR2 : Hid (R = if fi l (Ro.rs b) (Sh.Pl.sha b) < l.length then ((fi l (Ro.rs b) (Sh.Pl.sha b) : Int) * (L : Int), true) else (0, false)) := by
      unfold Hid
      have := HR.out
      simpa using this
    clear HR
    have hkr := Ro.rs_range b
    have HK : Hid (∃ lt, keyOf Tryd.prog 53 (.int .u32 (Ro.rs b)) = some lt) := keyU _ hkr
    cases hw : wk l (Ro.rs b) with
    | false =>
      have FL : Hid (∀ x, From w x → (Instr.lookup 68 (.map (some m)) (.int .u32 (Ro.rs b)) true).run Tryd.prog x = .ok (.tuple #[.map none, .bool false]) x) := fun x hx => by
        obtain ⟨f, hm, hf, -⟩ := (IG.kept HX.out hx).outer
        have := hm.look (t := 68) lawU Tryd.underlying68 (zeroM x) HK.out true
        rwa [(hf _).1 hw] at this
      obtain rfl : R = (0, false) := by
        have := HR2.out
        rwa [if_neg (fun hq => by rw [fi_wk l _ _ hq] at hw; cases hw)] at this
      clear HR2 HX HK hw HS HT HBG hkr
      generalize Ro.rs b = k at *
      go_enter Tryd.func53, Tryd.ntmps53
      go_wp2_with fail
      clear c0
      refine wp_region_held_drew (S := From w) (by kernel_rfl) ((Below.refl _ _).drew) (fun _ => ?_)
      refine wpAnyH_on ((Below.refl _ _).drew) (fun u0 hu0 bu0 => ?_)
      replace FT := on FT bu0
      replace FL := on FL bu0
      replace FC := on FC bu0
      replace FB := on FB bu0
      refine wpAnyH_take (i := 0) (oi := { dst := some 21, op := Op.move (Operand.tmp 0), type := 24, pos := "block.go:105", after := #[], guard := none }) (v := ?vr1) rfl (by kernel_rfl) (by kernel_rfl) (by kernel_rfl) (fun _ _ _ h => h) (Or.inl ⟨by rfl, ?yr1⟩) (Below.refl _ _) ?rr1
      case yr1 => (intro w hSw; go_simp; try with_reducible rfl)
      try simp only [Act.put, List.setIfInBounds_toArray, List.set_cons_zero, List.set_cons_succ]
      refine wpAnyH_take (i := 1) (oi := { dst := some 22, op := Op.nilCheck (Operand.tmp 21), type := 0, pos := "block.go:105", after := #[{ on := 0, ground := Ground.data }], guard := none }) (v := ?vr2) rfl (by kernel_rfl) (by kernel_rfl) (by kernel_rfl) (fun _ _ _ h => h) (Or.inl ⟨by rfl, ?yr2⟩) (Below.refl _ _) ?rr2
      case yr2 => (intro w hSw; go_simp; try with_reducible rfl)
      try simp only [Act.put, List.setIfInBounds_toArray, List.set_cons_zero, List.set_cons_succ]
      refine wpAnyH_take (i := 2) (oi := { dst := some 23, op := Op.fieldAddr 70 (Operand.tmp 22) 2, type := 0, pos := "block.go:105", after := #[{ on := 1, ground := Ground.data }], guard := none }) (v := ?vr3) rfl (by kernel_rfl) (by kernel_rfl) (by kernel_rfl) (fun _ _ _ h => h) (Or.inl ⟨by rfl, ?yr3⟩) (Below.refl _ _) ?rr3
      case yr3 => (intro w hSw; go_simp; try with_reducible rfl)
      try simp only [Act.put, List.setIfInBounds_toArray, List.set_cons_zero, List.set_cons_succ]
      refine wpAnyH_take (i := 3) (oi := { dst := some 24, op := Op.load 68 (Operand.tmp 23), type := 68, pos := "block.go:105", after := #[{ on := 2, ground := Ground.data }], guard := none }) (v := ?vr4) rfl (by kernel_rfl) (by kernel_rfl) (by kernel_rfl) (fun _ _ _ h => h) (Or.inl ⟨by rfl, ?yr4⟩) (Below.refl _ _) ?rr4
      case yr4 => (intro w hSw; have t0 := FT.out w hSw; go_simp; try with_reducible rfl)
      try simp only [Act.put, List.setIfInBounds_toArray, List.set_cons_zero, List.set_cons_succ]
      refine wpAnyH_take (i := 4) (oi := { dst := some 25, op := Op.move (Operand.tmp 1), type := 22, pos := "block.go:105", after := #[], guard := none }) (v := ?vr5) rfl (by kernel_rfl) (by kernel_rfl) (by kernel_rfl) (fun _ _ _ h => h) (Or.inl ⟨by rfl, ?yr5⟩) (Below.refl _ _) ?rr5
      case yr5 => (intro w hSw; go_simp; try with_reducible rfl)
      try simp only [Act.put, List.setIfInBounds_toArray, List.set_cons_zero, List.set_cons_succ]
      refine wpAnyH_ready (rs := [5]) (by kernel_rfl) (by simp) ?_
      refine AllReadyH.cons (o := { dst := some 26, op := Op.call { callee := Callee.value (Operand.func 61), args := #[Operand.tmp 25], argTypes := #[22] }, type := 53, pos := "block.go:105", after := #[{ on := 4, ground := Ground.data }], guard := none }) rfl (fun KK hKK => ?_) ?_
      · go_simp
        refine (FC.out _ (Below.refl _ _)).mono ?_
        rintro e u6' ⟨rfl, hqu6⟩
        replace hqu6 := hqu6.symm
        subst hqu6
        (try go_wp2_with fail)
        refine hKK.out _ _ (Below.refl _ _) (fun _ => ?_)
        clear hKK KK
        try simp only [Act.put, List.setIfInBounds_toArray, List.set_cons_zero, List.set_cons_succ]
        refine wpAnyH_on (Below.refl _ _) (fun u6 hu6 bu6 => ?_)
        replace FT := on FT bu6
        replace FL := on FL bu6
        replace FC := on FC bu6
        replace FB := on FB bu6
        refine wpAnyH_take (i := 6) (oi := { dst := some 27, op := Op.lookup 68 (Operand.tmp 24) (Operand.tmp 26) true, type := 108, pos := "block.go:105", after := #[{ on := 3, ground := Ground.data }, { on := 5, ground := Ground.data }], guard := none }) (v := .tuple #[.map none, .bool false]) rfl (by kernel_rfl) (by kernel_rfl) (by kernel_rfl) (fun _ _ _ h => h) (yields_look (by rfl) (.tmp 24) (.tmp 26) true rfl (.map (some m)) (.int .u32 k) (.tuple #[.map none, .bool false]) rfl rfl FL.out) (Below.refl _ _) ?_
        try simp only [Act.put, List.setIfInBounds_toArray, List.set_cons_zero, List.set_cons_succ]
        refine wpAnyH_take (i := 7) (oi := { dst := some 20, op := Op.move (Operand.tmp 27), type := 108, pos := "block.go:105", after := #[{ on := 6, ground := Ground.data }], guard := none }) (v := ?vr8) rfl (by kernel_rfl) (by kernel_rfl) (by kernel_rfl) (fun _ _ _ h => h) (Or.inl ⟨by rfl, ?yr8⟩) (Below.refl _ _) ?rr8
        case yr8 => (intro w hSw; go_simp; try with_reducible rfl)
        try simp only [Act.put, List.setIfInBounds_toArray, List.set_cons_zero, List.set_cons_succ]
        refine wpAnyH_take (i := 8) (oi := { dst := some 28, op := Op.extract (Operand.tmp 20) 0, type := 99, pos := "block.go:105", after := #[{ on := 7, ground := Ground.data }], guard := none }) (v := ?vr9) rfl (by kernel_rfl) (by kernel_rfl) (by kernel_rfl) (fun _ _ _ h => h) (Or.inl ⟨by rfl, ?yr9⟩) (Below.refl _ _) ?rr9
        case yr9 => (intro w hSw; go_simp; try with_reducible rfl)
        try simp only [Act.put, List.setIfInBounds_toArray, List.set_cons_zero, List.set_cons_succ]
        refine wpAnyH_take (i := 9) (oi := { dst := some 29, op := Op.extract (Operand.tmp 20) 1, type := 4, pos := "block.go:105", after := #[{ on := 7, ground := Ground.data }, { on := 10, ground := Ground.gcOnly Departure.lateStores }], guard := none }) (v := ?vr10) rfl (by kernel_rfl) (by kernel_rfl) (by kernel_rfl) (fun _ _ _ h => h) (Or.inl ⟨by rfl, ?yr10⟩) (Below.refl _ _) ?rr10
        case yr10 => (intro w hSw; go_simp; try with_reducible rfl)
        try simp only [Act.put, List.setIfInBounds_toArray, List.set_cons_zero, List.set_cons_succ]
        refine wpAnyH_take (i := 10) (oi := { dst := some 6, op := Op.assign (Operand.tmp 28), type := 99, pos := "block.go:105", after := #[{ on := 8, ground := Ground.data }, { on := 5, ground := Ground.chain }, { on := 0, ground := Ground.phase }, { on := 1, ground := Ground.phase }, { on := 2, ground := Ground.phase }, { on := 3, ground := Ground.phase }, { on := 4, ground := Ground.phase }, { on := 5, ground := Ground.phase }, { on := 6, ground := Ground.phase }, { on := 7, ground := Ground.phase }, { on := 8, ground := Ground.phase }, { on := 9, ground := Ground.textOnly Departure.lateStores }], guard := none }) (v := ?vr11) rfl (by kernel_rfl) (by kernel_rfl) (by kernel_rfl) (fun _ _ _ h => h) (Or.inl ⟨by rfl, ?yr11⟩) (Below.refl _ _) ?rr11
        case yr11 => (intro w hSw; go_simp; try with_reducible rfl)
        try simp only [Act.put, List.setIfInBounds_toArray, List.set_cons_zero, List.set_cons_succ]
        refine wpAnyH_take (i := 11) (oi := { dst := some 7, op := Op.assign (Operand.tmp 29), type := 4, pos := "block.go:105", after := #[{ on := 9, ground := Ground.data }, { on := 10, ground := Ground.chain }, { on := 0, ground := Ground.phase }, { on := 1, ground := Ground.phase }, { on := 2, ground := Ground.phase }, { on := 3, ground := Ground.phase }, { on := 4, ground := Ground.phase }, { on := 5, ground := Ground.phase }, { on := 6, ground := Ground.phase }, { on := 7, ground := Ground.phase }, { on := 8, ground := Ground.phase }, { on := 9, ground := Ground.phase }, { on := 10, ground := Ground.phase }], guard := none }) (v := ?vr12) rfl (by kernel_rfl) (by kernel_rfl) (by kernel_rfl) (fun _ _ _ h => h) (Or.inl ⟨by rfl, ?yr12⟩) (Below.refl _ _) ?rr12
        case yr12 => (intro w hSw; go_simp; try with_reducible rfl)
        try simp only [Act.put, List.setIfInBounds_toArray, List.set_cons_zero, List.set_cons_succ]
        refine wpAnyH_done (by kernel_rfl) ?_ _
        have BZ : Hid (Below w.heap.size w u6) := FB.out _ (Below.refl _ _)
        clear FT FL FC FB
        go_wp2
        go_ret2
        exact ⟨rfl, BZ.out⟩
      exact AllReadyH.nil
    | true =>
      obtain ⟨f, ib, u, hm, hf, hu, hA, -, -⟩ := IG.inner HX.out (Ro.rs b) hw
      have FL : Hid (∀ x, From w x → (Instr.lookup 68 (.map (some m)) (.int .u32 (Ro.rs b)) true).run Tryd.prog x = .ok (.tuple #[.map (some ib), .bool true]) x) := fun x hx => by
        have := (hm.kept hx).look (t := 68) lawU Tryd.underlying68 (zeroM x) HK.out true
        rwa [hf] at this
      have FI : Hid (∀ x, From w x → (Instr.lookup 99 (.map (some ib)) (.agg (u8c (Sh.Pl.sha b))) true).run Tryd.prog x = .ok (.tuple #[.int .i64 R.1, .bool R.2]) x) := fun x hx => by
        have := (hu.kept hx).look (t := 99) lawH Tryd.underlying99 (zeroN x) (keyH (Sh.Pl.sha b) (Sh.sha_len b) (Sh.sha_byt b)) true
        have e : u (.agg (u8c (Sh.Pl.sha b))) = inn l L (Ro.rs b) (Sh.Pl.sha b) := hA _ (Sh.sha_len b)
        have e2 : u (.agg ((Sh.Pl.sha b).map (Value.int .u8)).toArray) = inn l L (Ro.rs b) (Sh.Pl.sha b) := e
        rw [e2] at this
        refine this.trans ?_
        rw [HR2.out]
        unfold inn
        by_cases hq : fi l (Ro.rs b) (Sh.Pl.sha b) < l.length
        · simp only [if_pos hq]; rfl
        · simp only [if_neg hq]; rfl
      have FO : Hid (∀ (x : World), From w x → Calls Tryd.prog 23 #[.slice (some ⟨x.heap.size, 0, none⟩) 1 1] (x.alloc (.cells #[.slice va L vc] 22)) fun e w' => e = .returned (.agg (u8c (Sh.Pl.sha b))) ∧ Below (x.alloc (.cells #[.slice va L vc] 22)).heap.size (x.alloc (.cells #[.slice va L vc] 22)) w') := fun x hx =>
        of1 b _ x.heap.size ((HT.out.kept hx).kept (al_below _ _)) (parts1 (HS.out.kept hx)) HBG.out
      clear HR2 HX HK hw HS HT HBG hkr hm hf hu hA
      generalize Ro.rs b = k at *
      generalize Sh.Pl.sha b = A at *
      obtain ⟨r1, r2⟩ := R
      simp only at FI ⊢
      go_enter Tryd.func53, Tryd.ntmps53
      go_wp2_with fail
      clear c0
      refine wp_region_held_drew (S := From w) (by kernel_rfl) ((Below.refl _ _).drew) (fun _ => ?_)
      refine wpAnyH_on ((Below.refl _ _).drew) (fun u0 hu0 bu0 => ?_)
      replace FT := on FT bu0
      replace FL := on FL bu0
      replace FC := on FC bu0
      replace FB := on FB bu0
      replace FI := on FI bu0
      replace FO := on FO bu0
      refine wpAnyH_take (i := 0) (oi := { dst := some 21, op := Op.move (Operand.tmp 0), type := 24, pos := "block.go:105", after := #[], guard := none }) (v := ?vs1) rfl (by kernel_rfl) (by kernel_rfl) (by kernel_rfl) (fun _ _ _ h => h) (Or.inl ⟨by rfl, ?ys1⟩) (Below.refl _ _) ?rs1
      case ys1 => (intro w hSw; go_simp; try with_reducible rfl)
      try simp only [Act.put, List.setIfInBounds_toArray, List.set_cons_zero, List.set_cons_succ]
      refine wpAnyH_take (i := 1) (oi := { dst := some 22, op := Op.nilCheck (Operand.tmp 21), type := 0, pos := "block.go:105", after := #[{ on := 0, ground := Ground.data }], guard := none }) (v := ?vs2) rfl (by kernel_rfl) (by kernel_rfl) (by kernel_rfl) (fun _ _ _ h => h) (Or.inl ⟨by rfl, ?ys2⟩) (Below.refl _ _) ?rs2
      case ys2 => (intro w hSw; go_simp; try with_reducible rfl)
      try simp only [Act.put, List.setIfInBounds_toArray, List.set_cons_zero, List.set_cons_succ]
      refine wpAnyH_take (i := 2) (oi := { dst := some 23, op := Op.fieldAddr 70 (Operand.tmp 22) 2, type := 0, pos := "block.go:105", after := #[{ on := 1, ground := Ground.data }], guard := none }) (v := ?vs3) rfl (by kernel_rfl) (by kernel_rfl) (by kernel_rfl) (fun _ _ _ h => h) (Or.inl ⟨by rfl, ?ys3⟩) (Below.refl _ _) ?rs3
      case ys3 => (intro w hSw; go_simp; try with_reducible rfl)
      try simp only [Act.put, List.setIfInBounds_toArray, List.set_cons_zero, List.set_cons_succ]
      refine wpAnyH_take (i := 3) (oi := { dst := some 24, op := Op.load 68 (Operand.tmp 23), type := 68, pos := "block.go:105", after := #[{ on := 2, ground := Ground.data }], guard := none }) (v := ?vs4) rfl (by kernel_rfl) (by kernel_rfl) (by kernel_rfl) (fun _ _ _ h => h) (Or.inl ⟨by rfl, ?ys4⟩) (Below.refl _ _) ?rs4
      case ys4 => (intro w hSw; have t0 := FT.out w hSw; go_simp; try with_reducible rfl)
      try simp only [Act.put, List.setIfInBounds_toArray, List.set_cons_zero, List.set_cons_succ]
      refine wpAnyH_take (i := 4) (oi := { dst := some 25, op := Op.move (Operand.tmp 1), type := 22, pos := "block.go:105", after := #[], guard := none }) (v := ?vs5) rfl (by kernel_rfl) (by kernel_rfl) (by kernel_rfl) (fun _ _ _ h => h) (Or.inl ⟨by rfl, ?ys5⟩) (Below.refl _ _) ?rs5
      case ys5 => (intro w hSw; go_simp; try with_reducible rfl)
      try simp only [Act.put, List.setIfInBounds_toArray, List.set_cons_zero, List.set_cons_succ]
      refine wpAnyH_ready (rs := [5]) (by kernel_rfl) (by simp) ?_
      refine AllReadyH.cons (o := { dst := some 26, op := Op.call { callee := Callee.value (Operand.func 61), args := #[Operand.tmp 25], argTypes := #[22] }, type := 53, pos := "block.go:105", after := #[{ on := 4, ground := Ground.data }], guard := none }) rfl (fun KK hKK => ?_) ?_
      · go_simp
        refine (FC.out _ (Below.refl _ _)).mono ?_
        rintro e u6' ⟨rfl, hqu6⟩
        replace hqu6 := hqu6.symm
        subst hqu6
        (try go_wp2_with fail)
        refine hKK.out _ _ (Below.refl _ _) (fun _ => ?_)
        clear hKK KK
        try simp only [Act.put, List.setIfInBounds_toArray, List.set_cons_zero, List.set_cons_succ]
        refine wpAnyH_on (Below.refl _ _) (fun u6 hu6 bu6 => ?_)
        replace FT := on FT bu6
        replace FL := on FL bu6
        replace FC := on FC bu6
        replace FB := on FB bu6
        replace FI := on FI bu6
        replace FO := on FO bu6
        refine wpAnyH_take (i := 6) (oi := { dst := some 27, op := Op.lookup 68 (Operand.tmp 24) (Operand.tmp 26) true, type := 108, pos := "block.go:105", after := #[{ on := 3, ground := Ground.data }, { on := 5, ground := Ground.data }], guard := none }) (v := .tuple #[.map (some ib), .bool true]) rfl (by kernel_rfl) (by kernel_rfl) (by kernel_rfl) (fun _ _ _ h => h) (yields_look (by rfl) (.tmp 24) (.tmp 26) true rfl (.map (some m)) (.int .u32 k) (.tuple #[.map (some ib), .bool true]) rfl rfl FL.out) (Below.refl _ _) ?_
        try simp only [Act.put, List.setIfInBounds_toArray, List.set_cons_zero, List.set_cons_succ]
        refine wpAnyH_take (i := 7) (oi := { dst := some 20, op := Op.move (Operand.tmp 27), type := 108, pos := "block.go:105", after := #[{ on := 6, ground := Ground.data }], guard := none }) (v := ?vs8) rfl (by kernel_rfl) (by kernel_rfl) (by kernel_rfl) (fun _ _ _ h => h) (Or.inl ⟨by rfl, ?ys8⟩) (Below.refl _ _) ?rs8
        case ys8 => (intro w hSw; go_simp; try with_reducible rfl)
        try simp only [Act.put, List.setIfInBounds_toArray, List.set_cons_zero, List.set_cons_succ]
        refine wpAnyH_take (i := 8) (oi := { dst := some 28, op := Op.extract (Operand.tmp 20) 0, type := 99, pos := "block.go:105", after := #[{ on := 7, ground := Ground.data }], guard := none }) (v := ?vs9) rfl (by kernel_rfl) (by kernel_rfl) (by kernel_rfl) (fun _ _ _ h => h) (Or.inl ⟨by rfl, ?ys9⟩) (Below.refl _ _) ?rs9
        case ys9 => (intro w hSw; go_simp; try with_reducible rfl)
        try simp only [Act.put, List.setIfInBounds_toArray, List.set_cons_zero, List.set_cons_succ]
        refine wpAnyH_take (i := 9) (oi := { dst := some 29, op := Op.extract (Operand.tmp 20) 1, type := 4, pos := "block.go:105", after := #[{ on := 7, ground := Ground.data }, { on := 10, ground := Ground.gcOnly Departure.lateStores }], guard := none }) (v := ?vs10) rfl (by kernel_rfl) (by kernel_rfl) (by kernel_rfl) (fun _ _ _ h => h) (Or.inl ⟨by rfl, ?ys10⟩) (Below.refl _ _) ?rs10
        case ys10 => (intro w hSw; go_simp; try with_reducible rfl)
        try simp only [Act.put, List.setIfInBounds_toArray, List.set_cons_zero, List.set_cons_succ]
        refine wpAnyH_take (i := 10) (oi := { dst := some 6, op := Op.assign (Operand.tmp 28), type := 99, pos := "block.go:105", after := #[{ on := 8, ground := Ground.data }, { on := 5, ground := Ground.chain }, { on := 0, ground := Ground.phase }, { on := 1, ground := Ground.phase }, { on := 2, ground := Ground.phase }, { on := 3, ground := Ground.phase }, { on := 4, ground := Ground.phase }, { on := 5, ground := Ground.phase }, { on := 6, ground := Ground.phase }, { on := 7, ground := Ground.phase }, { on := 8, ground := Ground.phase }, { on := 9, ground := Ground.textOnly Departure.lateStores }], guard := none }) (v := ?vs11) rfl (by kernel_rfl) (by kernel_rfl) (by kernel_rfl) (fun _ _ _ h => h) (Or.inl ⟨by rfl, ?ys11⟩) (Below.refl _ _) ?rs11
        case ys11 => (intro w hSw; go_simp; try with_reducible rfl)
        try simp only [Act.put, List.setIfInBounds_toArray, List.set_cons_zero, List.set_cons_succ]
        refine wpAnyH_take (i := 11) (oi := { dst := some 7, op := Op.assign (Operand.tmp 29), type := 4, pos := "block.go:105", after := #[{ on := 9, ground := Ground.data }, { on := 10, ground := Ground.chain }, { on := 0, ground := Ground.phase }, { on := 1, ground := Ground.phase }, { on := 2, ground := Ground.phase }, { on := 3, ground := Ground.phase }, { on := 4, ground := Ground.phase }, { on := 5, ground := Ground.phase }, { on := 6, ground := Ground.phase }, { on := 7, ground := Ground.phase }, { on := 8, ground := Ground.phase }, { on := 9, ground := Ground.phase }, { on := 10, ground := Ground.phase }], guard := none }) (v := ?vs12) rfl (by kernel_rfl) (by kernel_rfl) (by kernel_rfl) (fun _ _ _ h => h) (Or.inl ⟨by rfl, ?ys12⟩) (Below.refl _ _) ?rs12
        case ys12 => (intro w hSw; go_simp; try with_reducible rfl)
        try simp only [Act.put, List.setIfInBounds_toArray, List.set_cons_zero, List.set_cons_succ]
        refine wpAnyH_done (by kernel_rfl) ?_ _
        have BZ : Hid (Below w.heap.size w u6) := FB.out _ (Below.refl _ _)
        have CO := FO.out _ (Below.refl _ _)
        clear FT FL FC FO
        go_wp2_with fail
        refine CO.mono ?_
        rintro e w9 ⟨rfl, b9⟩
        clear CO
        have q9 : Below u6.heap.size u6 w9 := (al_below _ _).trans (b9.mono (al_below _ _).size)
        have hi := FI.out w9 q9
        have B9 : Hid (Below w.heap.size w w9) := BZ.out.trans (q9.mono BZ.out.size)
        clear FI FB BZ b9 q9
        go_wp2
        go_ret2
        exact ⟨rfl, B9.out⟩
      exact AllReadyH.nil
  · obtain rfl : R = (0, false) := by have := HR.out; rwa [if_neg (fun hq => hz hq.1)] at this
    have hz2 : ((L : Int) != z) = true := by simpa using hz
    clear HR FC FT FB hz
    go_enter Tryd.func53, Tryd.ntmps53
    go_wp2
    go_ret2
    exact ⟨rfl, Below.refl _ _⟩
set_option maxHeartbeats 1000000 in
theorem find_nil (w : World) (v : Value) : Calls Tryd.prog 53 #[.pointer none, v] w fun e w' => e = .returned (.tuple #[.int .i64 0, .bool false]) ∧ w' = w := by
  go_enter Tryd.func53, Tryd.ntmps53
  go_wp2
  go_ret2
  exact ⟨rfl, rfl⟩
end Go.Proofs.YtlhmpcmlpfffoaaDoor
