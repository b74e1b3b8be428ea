/-
  a further probe is waited for as long, or longer, at most 65536, and at least a tick; a packet is late at least a tick behind. No conditions but the given statement's own.
-/
import Derived.Test.YtbomkapnkpjjbaaBk
namespace Go.Proofs.Ytbomkapnkpjjbaa.rttBacks
open Go.ChangeShapes Go.WideShapes Go.ChangeAt Go.RowKit Go.Deep Go.ChangeMaps
set_option maxRecDepth 100000

set_option maxHeartbeats 8000000 in
theorem walk (v0 : Value) (x : Sta) (a b : Int) (w : World) (h0 : v0 = .agg #[.bool x.h, .int .i64 x.l, .int .i64 x.m, .int .i64 x.s, .int .i64 x.v] ∧ x.i) (h1 : (Lit.int .u8 a).wf = true) (h2 : (Lit.int .u8 b).wf = true) :
    Calls Try.prog 7 #[v0, .int .u8 a, .int .u8 b] w fun e w' => e = .returned (.bool true) ∧ Below w.heap.size w w' := by
  obtain ⟨h, l, m, s, v⟩ := x
  obtain ⟨rfl, -⟩ := h0
  simp only
  have ab := bounds_u8 h1
  have bb := bounds_u8 h2
  clear h1 h2
  obtain ⟨W1, hW1⟩ : ∃ W1, W1 = w.alloc (.cells #[.bool h, .int .i64 l, .int .i64 m, .int .i64 s, .int .i64 v] 24) := ⟨_, rfl⟩
  have b1 : Below w.heap.size w W1 := by rw [hW1]; exact al_below _ _
  have g1 : SB W1 w.heap.size 24 ⟨h, l, m, s, v⟩ := by rw [hW1]; exact heap_new _ _
  have HB : Hid (Below w.heap.size w W1) := b1
  have FB : Hid (∀ x, From W1 x → SB x w.heap.size 24 ⟨h, l, m, s, v⟩) := fun x hx => g1.kept hx
  obtain ⟨lo, hlo⟩ : ∃ lo, lo = min a b := ⟨_, rfl⟩
  obtain ⟨hi, hhi⟩ : ∃ hi, hi = max a b := ⟨_, rfl⟩
  have HLO : Hid (min a b = lo) := hlo.symm
  have HHI : Hid (max a b = hi) := hhi.symm
  have HLW : Hid (IntKind.i64.wrap lo = lo) := wrS (by omega) (by omega)
  have HHW : Hid (IntKind.i64.wrap hi = hi) := wrS (by omega) (by omega)
  obtain ⟨X, hX⟩ : ∃ X, X = prb ⟨h, l, m, s, v⟩ lo := ⟨_, rfl⟩
  obtain ⟨Y, hY⟩ : ∃ Y, Y = prb ⟨h, l, m, s, v⟩ hi := ⟨_, rfl⟩
  obtain ⟨Z, hZ⟩ : ∃ Z, Z = prb ⟨h, l, m, s, v⟩ 0 := ⟨_, rfl⟩
  obtain ⟨T, hT⟩ : ∃ T, T = lat ⟨h, l, m, s, v⟩ := ⟨_, rfl⟩
  have k1 : 1 ≤ X := by rw [hX]; exact (prb_bd _ _).1
  have k2 : X ≤ Y := by rw [hX, hY]; exact prb_mono _ (by omega)
  have k3 : Y ≤ 65536 := by rw [hY]; exact (prb_bd _ _).2
  have k4 : 1 ≤ T := by rw [hT]; exact lat_bd _
  have C1 : Hid (∀ W, Calls Try.prog 13 #[.agg #[.bool h, .int .i64 l, .int .i64 m, .int .i64 s, .int .i64 v], .int .i64 lo] W fun e w' => e = .returned (.int .i64 X) ∧ Below W.heap.size W w') := fun W => by rw [hX]; exact probe_any h l m s v lo W
  have C2 : Hid (∀ W, Calls Try.prog 13 #[.agg #[.bool h, .int .i64 l, .int .i64 m, .int .i64 s, .int .i64 v], .int .i64 hi] W fun e w' => e = .returned (.int .i64 Y) ∧ Below W.heap.size W w') := fun W => by rw [hY]; exact probe_any h l m s v hi W
  have C3 : Hid (∀ W, Calls Try.prog 13 #[.agg #[.bool h, .int .i64 l, .int .i64 m, .int .i64 s, .int .i64 v], .int .i64 (-5)] W fun e w' => e = .returned (.int .i64 Z) ∧ Below W.heap.size W w') := fun W => by rw [hZ, ← prb_neg]; exact probe_any h l m s v (-5) W
  have C4 : Hid (∀ W, Calls Try.prog 13 #[.agg #[.bool h, .int .i64 l, .int .i64 m, .int .i64 s, .int .i64 v], .int .i64 0] W fun e w' => e = .returned (.int .i64 Z) ∧ Below W.heap.size W w') := fun W => by rw [hZ]; exact probe_any h l m s v 0 W
  have C5 : Hid (∀ W, Calls Try.prog 15 #[.agg #[.bool h, .int .i64 l, .int .i64 m, .int .i64 s, .int .i64 v]] W fun e w' => e = .returned (.int .i64 T) ∧ Below W.heap.size W w') := fun W => by rw [hT]; exact late_any h l m s v W
  have C6 : Hid (∀ W, Calls Try.prog 8 #[.agg #[.bool h, .int .i64 l, .int .i64 m, .int .i64 s, .int .i64 v], .int .i64 4, .int .i64 1099511627777] W fun e w' => e = .returned (.agg #[.bool h, .int .i64 l, .int .i64 m, .int .i64 s, .int .i64 v]) ∧ Below W.heap.size W w') := fun W => by
    have := sample_any h l m s v 4 1099511627777 W
    rw [show smp ⟨h, l, m, s, v⟩ 4 1099511627777 = ⟨h, l, m, s, v⟩ from by unfold smp; rw [if_pos (.inr (by decide))]] at this
    exact this
  have HT18 : Hid (chk ⟨h, l, m, s, v⟩ = false → T = 18) := fun e => by rw [hT]; exact lat_no e
  have C7 := check_any h l m s v
  obtain ⟨c, hc⟩ : ∃ c, c = chk ⟨h, l, m, s, v⟩ := ⟨_, rfl⟩
  rw [← hc] at HT18 C7
  have C8 : Hid (∀ W, Calls Try.prog 10 #[.agg #[.bool h, .int .i64 l, .int .i64 m, .int .i64 s, .int .i64 v]] W fun e w' => e = .returned (.bool c) ∧ Below W.heap.size W w') := C7
  have HK : Hid (1 ≤ X ∧ X ≤ Y ∧ Y ≤ 65536 ∧ 1 ≤ T) := ⟨k1, k2, k3, k4⟩
  clear b1 g1 hX hY hZ hT hc C7 k1 k2 k3 k4 hlo hhi ab bb
  go_enter Try.func7, Try.ntmps7
  go_upto_region 1 with fail
  rw [← hW1]
  clear hW1
  refine wp_region_held_drew (S := From W1) (by kernel_rfl) (Below.drew (Below.refl _ _)) (fun _ => ?_)
  refine wpAnyH_name (fun u0 hu0 => ?_)
  have bu0 : Below W1.heap.size W1 u0 := by rw [hu0.out]; exact Below.drew (Below.refl _ _)
  refine wpAnyH_take (i := 0) (oi := { dst := some 9, op := Op.load 24 (Operand.tmp 3), type := 24, pos := "own.go:45", after := #[], guard := none }) (v := .agg #[.bool h, .int .i64 l, .int .i64 m, .int .i64 s, .int .i64 v]) rfl (by kernel_rfl) (by kernel_rfl) (by kernel_rfl) (fun _ _ _ h => h) (yieldsIf_load_mid (by rfl) 24 _ rfl w.heap.size 0 rfl [.bool h, .int .i64 l, .int .i64 m, .int .i64 s, .int .i64 v] _ (fun x hx => (FB.out x hx).range) Try.underlying24 rfl infoS) bu0 ?_
  try simp only [Act.put, List.setIfInBounds_toArray, List.set_cons_zero, List.set_cons_succ]
  refine wpAnyH_take (i := 1) (oi := { dst := some 10, op := Op.move (Operand.tmp 1), type := 5, pos := "own.go:45", after := #[], guard := none }) (v := ?vr2) rfl (by kernel_rfl) (by kernel_rfl) (by kernel_rfl) (fun _ _ _ h => h) (Or.inl ⟨by rfl, ?yr2⟩) bu0 ?rr2
  case yr2 => (intro w hSw; go_simp; try with_reducible rfl)
  try simp only [Act.put, List.setIfInBounds_toArray, List.set_cons_zero, List.set_cons_succ]
  refine wpAnyH_take (i := 2) (oi := { dst := some 11, op := Op.move (Operand.tmp 2), type := 5, pos := "own.go:45", after := #[], guard := none }) (v := ?vr3) rfl (by kernel_rfl) (by kernel_rfl) (by kernel_rfl) (fun _ _ _ h => h) (Or.inl ⟨by rfl, ?yr3⟩) bu0 ?rr3
  case yr3 => (intro w hSw; go_simp; try with_reducible rfl)
  try simp only [Act.put, List.setIfInBounds_toArray, List.set_cons_zero, List.set_cons_succ]
  refine wpAnyH_take (i := 3) (oi := { dst := some 12, op := Op.call { callee := Callee.builtin Builtin.min, args := #[Operand.tmp 10, Operand.tmp 11], argTypes := #[5, 5] }, type := 5, pos := "own.go:45", after := #[{ on := 1, ground := Ground.data }, { on := 2, ground := Ground.data }], guard := none }) (v := .int .u8 lo) rfl (by kernel_rfl) (by kernel_rfl) (by kernel_rfl) (fun _ _ _ h => h) (Or.inl ⟨by rfl, ?yr4⟩) bu0 ?rr4
  case yr4 => (intro w hSw; have t := HLO.out; go_simp; try with_reducible rfl)
  try simp only [Act.put, List.setIfInBounds_toArray, List.set_cons_zero, List.set_cons_succ]
  refine wpAnyH_take (i := 4) (oi := { dst := some 13, op := Op.convert 5 3 (Operand.tmp 12), type := 3, pos := "own.go:45", after := #[{ on := 3, ground := Ground.data }], guard := none }) (v := .int .i64 lo) rfl (by kernel_rfl) (by kernel_rfl) (by kernel_rfl) (fun _ _ _ h => h) (Or.inl ⟨by rfl, ?yr5⟩) bu0 ?rr5
  case yr5 => (intro w hSw; have t := HLW.out; go_simp; try with_reducible rfl)
  try simp only [Act.put, List.setIfInBounds_toArray, List.set_cons_zero, List.set_cons_succ]
  refine wpAnyH_take (i := 6) (oi := { dst := some 15, op := Op.load 24 (Operand.tmp 3), type := 24, pos := "own.go:45", after := #[], guard := none }) (v := .agg #[.bool h, .int .i64 l, .int .i64 m, .int .i64 s, .int .i64 v]) rfl (by kernel_rfl) (by kernel_rfl) (by kernel_rfl) (fun _ _ _ h => h) (yieldsIf_load_mid (by rfl) 24 _ rfl w.heap.size 0 rfl [.bool h, .int .i64 l, .int .i64 m, .int .i64 s, .int .i64 v] _ (fun x hx => (FB.out x hx).range) Try.underlying24 rfl infoS) bu0 ?_
  try simp only [Act.put, List.setIfInBounds_toArray, List.set_cons_zero, List.set_cons_succ]
  refine wpAnyH_take (i := 7) (oi := { dst := some 16, op := Op.move (Operand.tmp 1), type := 5, pos := "own.go:45", after := #[], guard := none }) (v := ?vr7) rfl (by kernel_rfl) (by kernel_rfl) (by kernel_rfl) (fun _ _ _ h => h) (Or.inl ⟨by rfl, ?yr7⟩) bu0 ?rr7
  case yr7 => (intro w hSw; go_simp; try with_reducible rfl)
  try simp only [Act.put, List.setIfInBounds_toArray, List.set_cons_zero, List.set_cons_succ]
  refine wpAnyH_take (i := 8) (oi := { dst := some 17, op := Op.move (Operand.tmp 2), type := 5, pos := "own.go:45", after := #[], guard := none }) (v := ?vr8) rfl (by kernel_rfl) (by kernel_rfl) (by kernel_rfl) (fun _ _ _ h => h) (Or.inl ⟨by rfl, ?yr8⟩) bu0 ?rr8
  case yr8 => (intro w hSw; go_simp; try with_reducible rfl)
  try simp only [Act.put, List.setIfInBounds_toArray, List.set_cons_zero, List.set_cons_succ]
  refine wpAnyH_take (i := 9) (oi := { dst := some 18, op := Op.call { callee := Callee.builtin Builtin.max, args := #[Operand.tmp 16, Operand.tmp 17], argTypes := #[5, 5] }, type := 5, pos := "own.go:45", after := #[{ on := 7, ground := Ground.data }, { on := 8, ground := Ground.data }], guard := none }) (v := .int .u8 hi) rfl (by kernel_rfl) (by kernel_rfl) (by kernel_rfl) (fun _ _ _ h => h) (Or.inl ⟨by rfl, ?yr9⟩) bu0 ?rr9
  case yr9 => (intro w hSw; have t := HHI.out; go_simp; try with_reducible rfl)
  try simp only [Act.put, List.setIfInBounds_toArray, List.set_cons_zero, List.set_cons_succ]
  refine wpAnyH_take (i := 10) (oi := { dst := some 19, op := Op.convert 5 3 (Operand.tmp 18), type := 3, pos := "own.go:45", after := #[{ on := 9, ground := Ground.data }], guard := none }) (v := .int .i64 hi) rfl (by kernel_rfl) (by kernel_rfl) (by kernel_rfl) (fun _ _ _ h => h) (Or.inl ⟨by rfl, ?yr10⟩) bu0 ?rr10
  case yr10 => (intro w hSw; have t := HHW.out; go_simp; try with_reducible rfl)
  try simp only [Act.put, List.setIfInBounds_toArray, List.set_cons_zero, List.set_cons_succ]
  refine wpAnyH_ready (rs := [5]) (by kernel_rfl) (by simp) ?_
  refine AllReadyH.cons (o := { dst := some 14, op := Op.call { callee := Callee.value (Operand.func 13), args := #[Operand.tmp 9, Operand.tmp 13], argTypes := #[24, 3] }, type := 3, pos := "own.go:45", after := #[{ on := 0, ground := Ground.data }, { on := 4, ground := Ground.data }], guard := none }) rfl (fun KK hKK => ?_) ?_
  · go_simp
    refine (C1.out _).mono ?_
    rintro e u11' ⟨rfl, bu11'⟩
    (try go_wp2_with fail)
    refine hKK.out _ _ (bu0.trans (Below.mono (bu11') bu0.size)) (fun _ => ?_)
    clear hKK KK
    try simp only [Act.put, List.setIfInBounds_toArray, List.set_cons_zero, List.set_cons_succ]
    refine wpAnyH_name (fun u11 hu11 => ?_)
    have bu11 : Below W1.heap.size W1 u11 := by rw [hu11.out]; exact (bu0.trans (Below.mono (bu11') bu0.size))
    refine wpAnyH_ready (rs := [11]) (by kernel_rfl) (by simp) ?_
    refine AllReadyH.cons (o := { dst := some 20, op := Op.call { callee := Callee.value (Operand.func 13), args := #[Operand.tmp 15, Operand.tmp 19], argTypes := #[24, 3] }, type := 3, pos := "own.go:45", after := #[{ on := 6, ground := Ground.data }, { on := 10, ground := Ground.data }, { on := 5, ground := Ground.chain }], guard := none }) rfl (fun KK hKK => ?_) ?_
    · go_simp
      refine (C2.out _).mono ?_
      rintro e u12' ⟨rfl, bu12'⟩
      (try go_wp2_with fail)
      refine hKK.out _ _ (bu11.trans (Below.mono (bu12') bu11.size)) (fun _ => ?_)
      clear hKK KK
      try simp only [Act.put, List.setIfInBounds_toArray, List.set_cons_zero, List.set_cons_succ]
      refine wpAnyH_name (fun u12 hu12 => ?_)
      have bu12 : Below W1.heap.size W1 u12 := by rw [hu12.out]; exact (bu11.trans (Below.mono (bu12') bu11.size))
      refine wpAnyH_take (i := 12) (oi := { dst := some 7, op := Op.assign (Operand.tmp 14), type := 3, pos := "own.go:45", after := #[{ on := 5, ground := Ground.data }, { on := 11, ground := Ground.chain }, { on := 0, ground := Ground.phase }, { on := 1, ground := Ground.phase }, { on := 2, ground := Ground.phase }, { on := 3, ground := Ground.phase }, { on := 4, ground := Ground.phase }, { on := 5, ground := Ground.phase }, { on := 6, ground := Ground.textOnly Departure.lateStores }, { on := 7, ground := Ground.textOnly Departure.lateStores }, { on := 8, ground := Ground.textOnly Departure.lateStores }, { on := 9, ground := Ground.textOnly Departure.lateStoresUnsure }, { on := 10, ground := Ground.textOnly Departure.lateStores }, { on := 11, ground := Ground.textOnly Departure.lateStoresUnsure }], guard := none }) (v := ?vr13) rfl (by kernel_rfl) (by kernel_rfl) (by kernel_rfl) (fun _ _ _ h => h) (Or.inl ⟨by rfl, ?yr13⟩) bu12 ?rr13
      case yr13 => (intro w hSw; go_simp; try with_reducible rfl)
      try simp only [Act.put, List.setIfInBounds_toArray, List.set_cons_zero, List.set_cons_succ]
      refine wpAnyH_take (i := 13) (oi := { dst := some 8, op := Op.assign (Operand.tmp 20), type := 3, pos := "own.go:45", after := #[{ on := 11, ground := Ground.data }, { on := 12, ground := Ground.chain }, { on := 0, ground := Ground.phase }, { on := 1, ground := Ground.phase }, { on := 2, ground := Ground.phase }, { on := 3, ground := Ground.phase }, { on := 4, ground := Ground.phase }, { on := 5, ground := Ground.phase }, { on := 6, ground := Ground.phase }, { on := 7, ground := Ground.phase }, { on := 8, ground := Ground.phase }, { on := 9, ground := Ground.phase }, { on := 10, ground := Ground.phase }, { on := 11, ground := Ground.phase }, { on := 12, ground := Ground.phase }], guard := none }) (v := ?vr14) rfl (by kernel_rfl) (by kernel_rfl) (by kernel_rfl) (fun _ _ _ h => h) (Or.inl ⟨by rfl, ?yr14⟩) bu12 ?rr14
      case yr14 => (intro w hSw; go_simp; try with_reducible rfl)
      try simp only [Act.put, List.setIfInBounds_toArray, List.set_cons_zero, List.set_cons_succ]
      refine wpAnyH_done (by kernel_rfl) ?_ _
      obtain ⟨Wn, hWn⟩ : ∃ Wn, Wn = u12 := ⟨_, rfl⟩
      have FB2 : Hid (∀ x, From Wn x → SB x w.heap.size 24 ⟨h, l, m, s, v⟩) := fun x hx => by rw [hWn] at hx; exact FB.out x (Below.trans bu12 (Below.mono hx (Below.size bu12)))
      have HBn : Hid (Below w.heap.size w Wn) := by rw [hWn]; exact HB.out.trans (Below.mono bu12 HB.out.size)
      rw [← hWn]
      clear hWn FB C1 C2 HLO HHI HLW HHW HB
      go_wp2_with fail
      cases c
      · skip
        refine wp_region_held_drew (S := From Wn) (by kernel_rfl) (Below.drew (Below.refl _ _)) (fun _ => ?_)
        refine wpAnyH_name (fun u0 hu0 => ?_)
        have bu0 : Below Wn.heap.size Wn u0 := by rw [hu0.out]; exact Below.drew (Below.refl _ _)
        refine wpAnyH_take (i := 0) (oi := { dst := some 21, op := Op.move (Operand.tmp 7), type := 3, pos := "own.go:46", after := #[], guard := none }) (v := ?vf1_1) rfl (by kernel_rfl) (by kernel_rfl) (by kernel_rfl) (fun _ _ _ h => h) (Or.inl ⟨by rfl, ?yf1_1⟩) bu0 ?rf1_1
        case yf1_1 => (intro w hSw; go_simp; try with_reducible rfl)
        try simp only [Act.put, List.setIfInBounds_toArray, List.set_cons_zero, List.set_cons_succ]
        refine wpAnyH_take (i := 1) (oi := { dst := some 22, op := Op.binOp BinOp.geq 3 (Operand.tmp 21) (Operand.const (Value.int IntKind.i64 1)) 3, type := 4, pos := "own.go:46", after := #[{ on := 0, ground := Ground.data }], guard := none }) (v := .bool true) rfl (by kernel_rfl) (by kernel_rfl) (by kernel_rfl) (fun _ _ _ h => h) (Or.inl ⟨by rfl, ?yf1_2⟩) bu0 ?rf1_2
        case yf1_2 => (intro w hSw; obtain ⟨k1, k2, k3, k4⟩ := HK.out; go_simp; try with_reducible rfl)
        try simp only [Act.put, List.setIfInBounds_toArray, List.set_cons_zero, List.set_cons_succ]
        refine wpAnyH_take (i := 2) (oi := { dst := some 23, op := Op.move (Operand.tmp 22), type := 4, pos := "own.go:46", after := #[{ on := 1, ground := Ground.data }], guard := none }) (v := ?vf1_3) rfl (by kernel_rfl) (by kernel_rfl) (by kernel_rfl) (fun _ _ _ h => h) (Or.inl ⟨by rfl, ?yf1_3⟩) bu0 ?rf1_3
        case yf1_3 => (intro w hSw; go_simp; try with_reducible rfl)
        try simp only [Act.put, List.setIfInBounds_toArray, List.set_cons_zero, List.set_cons_succ]
        refine wpAnyH_take (i := 3) (oi := { dst := some 24, op := Op.move (Operand.tmp 7), type := 3, pos := "own.go:46", after := #[{ on := 2, ground := Ground.guard }], guard := some (2, true) }) (v := ?vf1_4) rfl (by kernel_rfl) (by kernel_rfl) (by kernel_rfl) (fun _ _ _ h => h) (Or.inl ⟨by rfl, ?yf1_4⟩) bu0 ?rf1_4
        case yf1_4 => (intro w hSw; go_simp; try with_reducible rfl)
        try simp only [Act.put, List.setIfInBounds_toArray, List.set_cons_zero, List.set_cons_succ]
        refine wpAnyH_take (i := 4) (oi := { dst := some 25, op := Op.move (Operand.tmp 8), type := 3, pos := "own.go:46", after := #[{ on := 2, ground := Ground.guard }], guard := some (2, true) }) (v := ?vf1_5) rfl (by kernel_rfl) (by kernel_rfl) (by kernel_rfl) (fun _ _ _ h => h) (Or.inl ⟨by rfl, ?yf1_5⟩) bu0 ?rf1_5
        case yf1_5 => (intro w hSw; go_simp; try with_reducible rfl)
        try simp only [Act.put, List.setIfInBounds_toArray, List.set_cons_zero, List.set_cons_succ]
        refine wpAnyH_take (i := 5) (oi := { dst := some 26, op := Op.binOp BinOp.leq 3 (Operand.tmp 24) (Operand.tmp 25) 3, type := 4, pos := "own.go:46", after := #[{ on := 3, ground := Ground.data }, { on := 4, ground := Ground.data }, { on := 2, ground := Ground.guard }], guard := some (2, true) }) (v := .bool true) rfl (by kernel_rfl) (by kernel_rfl) (by kernel_rfl) (fun _ _ _ h => h) (Or.inl ⟨by rfl, ?yf1_6⟩) bu0 ?rf1_6
        case yf1_6 => (intro w hSw; obtain ⟨k1, k2, k3, k4⟩ := HK.out; go_simp; try with_reducible rfl)
        try simp only [Act.put, List.setIfInBounds_toArray, List.set_cons_zero, List.set_cons_succ]
        refine wpAnyH_take (i := 6) (oi := { dst := some 27, op := Op.pick (Operand.tmp 23) (Operand.tmp 26) (Operand.const (Value.bool false)), type := 4, pos := "own.go:46", after := #[{ on := 2, ground := Ground.data }, { on := 5, ground := Ground.data }], guard := none }) (v := ?vf1_7) rfl (by kernel_rfl) (by kernel_rfl) (by kernel_rfl) (fun _ _ _ h => h) (Or.inl ⟨by rfl, ?yf1_7⟩) bu0 ?rf1_7
        case yf1_7 => (intro w hSw; go_simp; try with_reducible rfl)
        try simp only [Act.put, List.setIfInBounds_toArray, List.set_cons_zero, List.set_cons_succ]
        refine wpAnyH_take (i := 7) (oi := { dst := some 28, op := Op.move (Operand.tmp 27), type := 4, pos := "own.go:46", after := #[{ on := 6, ground := Ground.data }, { on := 2, ground := Ground.chain }], guard := none }) (v := ?vf1_8) rfl (by kernel_rfl) (by kernel_rfl) (by kernel_rfl) (fun _ _ _ h => h) (Or.inl ⟨by rfl, ?yf1_8⟩) bu0 ?rf1_8
        case yf1_8 => (intro w hSw; go_simp; try with_reducible rfl)
        try simp only [Act.put, List.setIfInBounds_toArray, List.set_cons_zero, List.set_cons_succ]
        refine wpAnyH_take (i := 8) (oi := { dst := some 29, op := Op.move (Operand.tmp 8), type := 3, pos := "own.go:46", after := #[{ on := 7, ground := Ground.guard }], guard := some (7, true) }) (v := ?vf1_9) rfl (by kernel_rfl) (by kernel_rfl) (by kernel_rfl) (fun _ _ _ h => h) (Or.inl ⟨by rfl, ?yf1_9⟩) bu0 ?rf1_9
        case yf1_9 => (intro w hSw; go_simp; try with_reducible rfl)
        try simp only [Act.put, List.setIfInBounds_toArray, List.set_cons_zero, List.set_cons_succ]
        refine wpAnyH_take (i := 9) (oi := { dst := some 30, op := Op.binOp BinOp.leq 3 (Operand.tmp 29) (Operand.const (Value.int IntKind.i64 65536)) 3, type := 4, pos := "own.go:46", after := #[{ on := 8, ground := Ground.data }, { on := 7, ground := Ground.guard }], guard := some (7, true) }) (v := .bool true) rfl (by kernel_rfl) (by kernel_rfl) (by kernel_rfl) (fun _ _ _ h => h) (Or.inl ⟨by rfl, ?yf1_10⟩) bu0 ?rf1_10
        case yf1_10 => (intro w hSw; obtain ⟨k1, k2, k3, k4⟩ := HK.out; go_simp; try with_reducible rfl)
        try simp only [Act.put, List.setIfInBounds_toArray, List.set_cons_zero, List.set_cons_succ]
        refine wpAnyH_take (i := 10) (oi := { dst := some 31, op := Op.pick (Operand.tmp 28) (Operand.tmp 30) (Operand.const (Value.bool false)), type := 4, pos := "own.go:46", after := #[{ on := 7, ground := Ground.data }, { on := 9, ground := Ground.data }], guard := none }) (v := ?vf1_11) rfl (by kernel_rfl) (by kernel_rfl) (by kernel_rfl) (fun _ _ _ h => h) (Or.inl ⟨by rfl, ?yf1_11⟩) bu0 ?rf1_11
        case yf1_11 => (intro w hSw; go_simp; try with_reducible rfl)
        try simp only [Act.put, List.setIfInBounds_toArray, List.set_cons_zero, List.set_cons_succ]
        refine wpAnyH_take (i := 11) (oi := { dst := some 32, op := Op.move (Operand.tmp 31), type := 4, pos := "own.go:46", after := #[{ on := 10, ground := Ground.data }, { on := 7, ground := Ground.chain }], guard := none }) (v := ?vf1_12) rfl (by kernel_rfl) (by kernel_rfl) (by kernel_rfl) (fun _ _ _ h => h) (Or.inl ⟨by rfl, ?yf1_12⟩) bu0 ?rf1_12
        case yf1_12 => (intro w hSw; go_simp; try with_reducible rfl)
        try simp only [Act.put, List.setIfInBounds_toArray, List.set_cons_zero, List.set_cons_succ]
        refine wpAnyH_take (i := 12) (oi := { dst := some 33, op := Op.load 24 (Operand.tmp 3), type := 24, pos := "own.go:46", after := #[{ on := 11, ground := Ground.guard }], guard := some (11, true) }) (v := .agg #[.bool h, .int .i64 l, .int .i64 m, .int .i64 s, .int .i64 v]) rfl (by kernel_rfl) (by kernel_rfl) (by kernel_rfl) (fun _ _ _ h => h) (yieldsIf_load_mid (by rfl) 24 _ rfl w.heap.size 0 rfl [.bool h, .int .i64 l, .int .i64 m, .int .i64 s, .int .i64 v] _ (fun x hx => (FB2.out x hx).range) Try.underlying24 rfl infoS) bu0 ?_
        try simp only [Act.put, List.setIfInBounds_toArray, List.set_cons_zero, List.set_cons_succ]
        refine wpAnyH_ready (rs := [13]) (by kernel_rfl) (by simp) ?_
        refine AllReadyH.cons (o := { dst := some 34, op := Op.call { callee := Callee.value (Operand.func 15), args := #[Operand.tmp 33], argTypes := #[24] }, type := 3, pos := "own.go:46", after := #[{ on := 12, ground := Ground.data }, { on := 11, ground := Ground.chain }, { on := 11, ground := Ground.guard }], guard := some (11, true) }) rfl (fun KK hKK => ?_) ?_
        · go_simp
          refine (C5.out _).mono ?_
          rintro e u14' ⟨rfl, bu14'⟩
          (try go_wp2_with fail)
          refine hKK.out _ _ (bu0.trans (Below.mono (bu14') bu0.size)) (fun _ => ?_)
          clear hKK KK
          try simp only [Act.put, List.setIfInBounds_toArray, List.set_cons_zero, List.set_cons_succ]
          refine wpAnyH_name (fun u14 hu14 => ?_)
          have bu14 : Below Wn.heap.size Wn u14 := by rw [hu14.out]; exact (bu0.trans (Below.mono (bu14') bu0.size))
          refine wpAnyH_take (i := 14) (oi := { dst := some 35, op := Op.binOp BinOp.geq 3 (Operand.tmp 34) (Operand.const (Value.int IntKind.i64 1)) 3, type := 4, pos := "own.go:46", after := #[{ on := 13, ground := Ground.data }, { on := 11, ground := Ground.guard }], guard := some (11, true) }) (v := .bool true) rfl (by kernel_rfl) (by kernel_rfl) (by kernel_rfl) (fun _ _ _ h => h) (Or.inl ⟨by rfl, ?yf1_15⟩) bu14 ?rf1_15
          case yf1_15 => (intro w hSw; obtain ⟨k1, k2, k3, k4⟩ := HK.out; go_simp; try with_reducible rfl)
          try simp only [Act.put, List.setIfInBounds_toArray, List.set_cons_zero, List.set_cons_succ]
          refine wpAnyH_take (i := 15) (oi := { dst := some 36, op := Op.pick (Operand.tmp 32) (Operand.tmp 35) (Operand.const (Value.bool false)), type := 4, pos := "own.go:46", after := #[{ on := 11, ground := Ground.data }, { on := 14, ground := Ground.data }], guard := none }) (v := ?vf1_16) rfl (by kernel_rfl) (by kernel_rfl) (by kernel_rfl) (fun _ _ _ h => h) (Or.inl ⟨by rfl, ?yf1_16⟩) bu14 ?rf1_16
          case yf1_16 => (intro w hSw; go_simp; try with_reducible rfl)
          try simp only [Act.put, List.setIfInBounds_toArray, List.set_cons_zero, List.set_cons_succ]
          refine wpAnyH_take (i := 16) (oi := { dst := some 37, op := Op.move (Operand.tmp 36), type := 4, pos := "own.go:46", after := #[{ on := 15, ground := Ground.data }, { on := 13, ground := Ground.chain }], guard := none }) (v := ?vf1_17) rfl (by kernel_rfl) (by kernel_rfl) (by kernel_rfl) (fun _ _ _ h => h) (Or.inl ⟨by rfl, ?yf1_17⟩) bu14 ?rf1_17
          case yf1_17 => (intro w hSw; go_simp; try with_reducible rfl)
          try simp only [Act.put, List.setIfInBounds_toArray, List.set_cons_zero, List.set_cons_succ]
          refine wpAnyH_take (i := 17) (oi := { dst := some 38, op := Op.load 24 (Operand.tmp 3), type := 24, pos := "own.go:46", after := #[{ on := 16, ground := Ground.guard }], guard := some (16, true) }) (v := .agg #[.bool h, .int .i64 l, .int .i64 m, .int .i64 s, .int .i64 v]) rfl (by kernel_rfl) (by kernel_rfl) (by kernel_rfl) (fun _ _ _ h => h) (yieldsIf_load_mid (by rfl) 24 _ rfl w.heap.size 0 rfl [.bool h, .int .i64 l, .int .i64 m, .int .i64 s, .int .i64 v] _ (fun x hx => (FB2.out x hx).range) Try.underlying24 rfl infoS) bu14 ?_
          try simp only [Act.put, List.setIfInBounds_toArray, List.set_cons_zero, List.set_cons_succ]
          refine wpAnyH_take (i := 19) (oi := { dst := some 40, op := Op.load 24 (Operand.tmp 3), type := 24, pos := "own.go:46", after := #[{ on := 16, ground := Ground.guard }], guard := some (16, true) }) (v := .agg #[.bool h, .int .i64 l, .int .i64 m, .int .i64 s, .int .i64 v]) rfl (by kernel_rfl) (by kernel_rfl) (by kernel_rfl) (fun _ _ _ h => h) (yieldsIf_load_mid (by rfl) 24 _ rfl w.heap.size 0 rfl [.bool h, .int .i64 l, .int .i64 m, .int .i64 s, .int .i64 v] _ (fun x hx => (FB2.out x hx).range) Try.underlying24 rfl infoS) bu14 ?_
          try simp only [Act.put, List.setIfInBounds_toArray, List.set_cons_zero, List.set_cons_succ]
          refine wpAnyH_ready (rs := [18]) (by kernel_rfl) (by simp) ?_
          refine AllReadyH.cons (o := { dst := some 39, op := Op.call { callee := Callee.value (Operand.func 13), args := #[Operand.tmp 38, Operand.const (Value.int IntKind.i64 (-5))], argTypes := #[24, 3] }, type := 3, pos := "own.go:46", after := #[{ on := 17, ground := Ground.data }, { on := 16, ground := Ground.chain }, { on := 16, ground := Ground.guard }], guard := some (16, true) }) rfl (fun KK hKK => ?_) ?_
          · go_simp
            refine (C3.out _).mono ?_
            rintro e u20' ⟨rfl, bu20'⟩
            (try go_wp2_with fail)
            refine hKK.out _ _ (bu14.trans (Below.mono (bu20') bu14.size)) (fun _ => ?_)
            clear hKK KK
            try simp only [Act.put, List.setIfInBounds_toArray, List.set_cons_zero, List.set_cons_succ]
            refine wpAnyH_name (fun u20 hu20 => ?_)
            have bu20 : Below Wn.heap.size Wn u20 := by rw [hu20.out]; exact (bu14.trans (Below.mono (bu20') bu14.size))
            refine wpAnyH_ready (rs := [20]) (by kernel_rfl) (by simp) ?_
            refine AllReadyH.cons (o := { dst := some 41, op := Op.call { callee := Callee.value (Operand.func 13), args := #[Operand.tmp 40, Operand.const (Value.int IntKind.i64 0)], argTypes := #[24, 3] }, type := 3, pos := "own.go:46", after := #[{ on := 19, ground := Ground.data }, { on := 18, ground := Ground.chain }, { on := 16, ground := Ground.guard }], guard := some (16, true) }) rfl (fun KK hKK => ?_) ?_
            · go_simp
              refine (C4.out _).mono ?_
              rintro e u21' ⟨rfl, bu21'⟩
              (try go_wp2_with fail)
              refine hKK.out _ _ (bu20.trans (Below.mono (bu21') bu20.size)) (fun _ => ?_)
              clear hKK KK
              try simp only [Act.put, List.setIfInBounds_toArray, List.set_cons_zero, List.set_cons_succ]
              refine wpAnyH_name (fun u21 hu21 => ?_)
              have bu21 : Below Wn.heap.size Wn u21 := by rw [hu21.out]; exact (bu20.trans (Below.mono (bu21') bu20.size))
              refine wpAnyH_take (i := 21) (oi := { dst := some 42, op := Op.binOp BinOp.eql 3 (Operand.tmp 39) (Operand.tmp 41) 3, type := 4, pos := "own.go:46", after := #[{ on := 18, ground := Ground.data }, { on := 20, ground := Ground.data }, { on := 16, ground := Ground.guard }], guard := some (16, true) }) (v := .bool true) rfl (by kernel_rfl) (by kernel_rfl) (by kernel_rfl) (fun _ _ _ h => h) (Or.inl ⟨by rfl, ?yf1_22⟩) bu21 ?rf1_22
              case yf1_22 => (intro w hSw; go_simp; try with_reducible rfl)
              try simp only [Act.put, List.setIfInBounds_toArray, List.set_cons_zero, List.set_cons_succ]
              refine wpAnyH_take (i := 22) (oi := { dst := some 43, op := Op.pick (Operand.tmp 37) (Operand.tmp 42) (Operand.const (Value.bool false)), type := 4, pos := "own.go:46", after := #[{ on := 16, ground := Ground.data }, { on := 21, ground := Ground.data }], guard := none }) (v := ?vf1_23) rfl (by kernel_rfl) (by kernel_rfl) (by kernel_rfl) (fun _ _ _ h => h) (Or.inl ⟨by rfl, ?yf1_23⟩) bu21 ?rf1_23
              case yf1_23 => (intro w hSw; go_simp; try with_reducible rfl)
              try simp only [Act.put, List.setIfInBounds_toArray, List.set_cons_zero, List.set_cons_succ]
              refine wpAnyH_take (i := 23) (oi := { dst := some 44, op := Op.move (Operand.tmp 43), type := 4, pos := "own.go:46", after := #[{ on := 22, ground := Ground.data }, { on := 20, ground := Ground.chain }], guard := none }) (v := ?vf1_24) rfl (by kernel_rfl) (by kernel_rfl) (by kernel_rfl) (fun _ _ _ h => h) (Or.inl ⟨by rfl, ?yf1_24⟩) bu21 ?rf1_24
              case yf1_24 => (intro w hSw; go_simp; try with_reducible rfl)
              try simp only [Act.put, List.setIfInBounds_toArray, List.set_cons_zero, List.set_cons_succ]
              refine wpAnyH_take (i := 24) (oi := { dst := some 45, op := Op.load 24 (Operand.tmp 3), type := 24, pos := "own.go:46", after := #[{ on := 23, ground := Ground.guard }], guard := some (23, true) }) (v := .agg #[.bool h, .int .i64 l, .int .i64 m, .int .i64 s, .int .i64 v]) rfl (by kernel_rfl) (by kernel_rfl) (by kernel_rfl) (fun _ _ _ h => h) (yieldsIf_load_mid (by rfl) 24 _ rfl w.heap.size 0 rfl [.bool h, .int .i64 l, .int .i64 m, .int .i64 s, .int .i64 v] _ (fun x hx => (FB2.out x hx).range) Try.underlying24 rfl infoS) bu21 ?_
              try simp only [Act.put, List.setIfInBounds_toArray, List.set_cons_zero, List.set_cons_succ]
              refine wpAnyH_ready (rs := [25]) (by kernel_rfl) (by simp) ?_
              refine AllReadyH.cons (o := { dst := some 46, op := Op.call { callee := Callee.value (Operand.func 10), args := #[Operand.tmp 45], argTypes := #[24] }, type := 4, pos := "own.go:46", after := #[{ on := 24, ground := Ground.data }, { on := 23, ground := Ground.chain }, { on := 23, ground := Ground.guard }], guard := some (23, true) }) rfl (fun KK hKK => ?_) ?_
              · go_simp
                refine (C8.out _).mono ?_
                rintro e u26' ⟨rfl, bu26'⟩
                (try go_wp2_with fail)
                refine hKK.out _ _ (bu21.trans (Below.mono (bu26') bu21.size)) (fun _ => ?_)
                clear hKK KK
                try simp only [Act.put, List.setIfInBounds_toArray, List.set_cons_zero, List.set_cons_succ]
                refine wpAnyH_name (fun u26 hu26 => ?_)
                have bu26 : Below Wn.heap.size Wn u26 := by rw [hu26.out]; exact (bu21.trans (Below.mono (bu26') bu21.size))
                refine wpAnyH_take (i := 26) (oi := { dst := some 47, op := Op.move (Operand.tmp 46), type := 4, pos := "own.go:46", after := #[{ on := 25, ground := Ground.data }, { on := 25, ground := Ground.chain }, { on := 23, ground := Ground.guard }], guard := some (23, true) }) (v := ?vf1_27) rfl (by kernel_rfl) (by kernel_rfl) (by kernel_rfl) (fun _ _ _ h => h) (Or.inl ⟨by rfl, ?yf1_27⟩) bu26 ?rf1_27
                case yf1_27 => (intro w hSw; go_simp; try with_reducible rfl)
                try simp only [Act.put, List.setIfInBounds_toArray, List.set_cons_zero, List.set_cons_succ]
                refine wpAnyH_take (i := 27) (oi := { dst := some 48, op := Op.load 24 (Operand.tmp 3), type := 24, pos := "own.go:46", after := #[{ on := 26, ground := Ground.guard }], guard := some (26, false) }) (v := .agg #[.bool h, .int .i64 l, .int .i64 m, .int .i64 s, .int .i64 v]) rfl (by kernel_rfl) (by kernel_rfl) (by kernel_rfl) (fun _ _ _ h => h) (yieldsIf_load_mid (by rfl) 24 _ rfl w.heap.size 0 rfl [.bool h, .int .i64 l, .int .i64 m, .int .i64 s, .int .i64 v] _ (fun x hx => (FB2.out x hx).range) Try.underlying24 rfl infoS) bu26 ?_
                try simp only [Act.put, List.setIfInBounds_toArray, List.set_cons_zero, List.set_cons_succ]
                refine wpAnyH_ready (rs := [28]) (by kernel_rfl) (by simp) ?_
                refine AllReadyH.cons (o := { dst := some 49, op := Op.call { callee := Callee.value (Operand.func 15), args := #[Operand.tmp 48], argTypes := #[24] }, type := 3, pos := "own.go:46", after := #[{ on := 27, ground := Ground.data }, { on := 26, ground := Ground.chain }, { on := 26, ground := Ground.guard }], guard := some (26, false) }) rfl (fun KK hKK => ?_) ?_
                · go_simp
                  refine (C5.out _).mono ?_
                  rintro e u29' ⟨rfl, bu29'⟩
                  (try go_wp2_with fail)
                  refine hKK.out _ _ (bu26.trans (Below.mono (bu29') bu26.size)) (fun _ => ?_)
                  clear hKK KK
                  try simp only [Act.put, List.setIfInBounds_toArray, List.set_cons_zero, List.set_cons_succ]
                  refine wpAnyH_name (fun u29 hu29 => ?_)
                  have bu29 : Below Wn.heap.size Wn u29 := by rw [hu29.out]; exact (bu26.trans (Below.mono (bu29') bu26.size))
                  refine wpAnyH_take (i := 29) (oi := { dst := some 50, op := Op.binOp BinOp.eql 3 (Operand.tmp 49) (Operand.const (Value.int IntKind.i64 18)) 3, type := 4, pos := "own.go:46", after := #[{ on := 28, ground := Ground.data }, { on := 26, ground := Ground.guard }], guard := some (26, false) }) (v := .bool true) rfl (by kernel_rfl) (by kernel_rfl) (by kernel_rfl) (fun _ _ _ h => h) (Or.inl ⟨by rfl, ?yf1_30⟩) bu29 ?rf1_30
                  case yf1_30 => (intro w hSw; have t := HT18.out (by trivial); go_simp; try with_reducible rfl)
                  try simp only [Act.put, List.setIfInBounds_toArray, List.set_cons_zero, List.set_cons_succ]
                  refine wpAnyH_take (i := 30) (oi := { dst := some 51, op := Op.pick (Operand.tmp 47) (Operand.const (Value.bool true)) (Operand.tmp 50), type := 4, pos := "own.go:46", after := #[{ on := 26, ground := Ground.data }, { on := 29, ground := Ground.data }, { on := 23, ground := Ground.guard }], guard := some (23, true) }) (v := ?vf1_31) rfl (by kernel_rfl) (by kernel_rfl) (by kernel_rfl) (fun _ _ _ h => h) (Or.inl ⟨by rfl, ?yf1_31⟩) bu29 ?rf1_31
                  case yf1_31 => (intro w hSw; go_simp; try with_reducible rfl)
                  try simp only [Act.put, List.setIfInBounds_toArray, List.set_cons_zero, List.set_cons_succ]
                  refine wpAnyH_take (i := 31) (oi := { dst := some 52, op := Op.pick (Operand.tmp 44) (Operand.tmp 51) (Operand.const (Value.bool false)), type := 4, pos := "own.go:46", after := #[{ on := 23, ground := Ground.data }, { on := 30, ground := Ground.data }], guard := none }) (v := ?vf1_32) rfl (by kernel_rfl) (by kernel_rfl) (by kernel_rfl) (fun _ _ _ h => h) (Or.inl ⟨by rfl, ?yf1_32⟩) bu29 ?rf1_32
                  case yf1_32 => (intro w hSw; go_simp; try with_reducible rfl)
                  try simp only [Act.put, List.setIfInBounds_toArray, List.set_cons_zero, List.set_cons_succ]
                  refine wpAnyH_take (i := 32) (oi := { dst := some 53, op := Op.move (Operand.tmp 52), type := 4, pos := "own.go:46", after := #[{ on := 31, ground := Ground.data }, { on := 28, ground := Ground.chain }], guard := none }) (v := ?vf1_33) rfl (by kernel_rfl) (by kernel_rfl) (by kernel_rfl) (fun _ _ _ h => h) (Or.inl ⟨by rfl, ?yf1_33⟩) bu29 ?rf1_33
                  case yf1_33 => (intro w hSw; go_simp; try with_reducible rfl)
                  try simp only [Act.put, List.setIfInBounds_toArray, List.set_cons_zero, List.set_cons_succ]
                  refine wpAnyH_take (i := 33) (oi := { dst := some 54, op := Op.load 24 (Operand.tmp 3), type := 24, pos := "own.go:46", after := #[{ on := 32, ground := Ground.guard }], guard := some (32, true) }) (v := .agg #[.bool h, .int .i64 l, .int .i64 m, .int .i64 s, .int .i64 v]) rfl (by kernel_rfl) (by kernel_rfl) (by kernel_rfl) (fun _ _ _ h => h) (yieldsIf_load_mid (by rfl) 24 _ rfl w.heap.size 0 rfl [.bool h, .int .i64 l, .int .i64 m, .int .i64 s, .int .i64 v] _ (fun x hx => (FB2.out x hx).range) Try.underlying24 rfl infoS) bu29 ?_
                  try simp only [Act.put, List.setIfInBounds_toArray, List.set_cons_zero, List.set_cons_succ]
                  refine wpAnyH_take (i := 35) (oi := { dst := some 56, op := Op.load 24 (Operand.tmp 3), type := 24, pos := "own.go:46", after := #[{ on := 32, ground := Ground.guard }], guard := some (32, true) }) (v := .agg #[.bool h, .int .i64 l, .int .i64 m, .int .i64 s, .int .i64 v]) rfl (by kernel_rfl) (by kernel_rfl) (by kernel_rfl) (fun _ _ _ h => h) (yieldsIf_load_mid (by rfl) 24 _ rfl w.heap.size 0 rfl [.bool h, .int .i64 l, .int .i64 m, .int .i64 s, .int .i64 v] _ (fun x hx => (FB2.out x hx).range) Try.underlying24 rfl infoS) bu29 ?_
                  try simp only [Act.put, List.setIfInBounds_toArray, List.set_cons_zero, List.set_cons_succ]
                  refine wpAnyH_ready (rs := [34]) (by kernel_rfl) (by simp) ?_
                  refine AllReadyH.cons (o := { dst := some 55, op := Op.call { callee := Callee.value (Operand.func 8), args := #[Operand.tmp 54, Operand.const (Value.int IntKind.i64 4), Operand.const (Value.int IntKind.i64 1099511627777)], argTypes := #[24, 3, 3] }, type := 24, pos := "own.go:46", after := #[{ on := 33, ground := Ground.data }, { on := 32, ground := Ground.chain }, { on := 32, ground := Ground.guard }], guard := some (32, true) }) rfl (fun KK hKK => ?_) ?_
                  · go_simp
                    refine (C6.out _).mono ?_
                    rintro e u36' ⟨rfl, bu36'⟩
                    (try go_wp2_with fail)
                    refine hKK.out _ _ (bu29.trans (Below.mono (bu36') bu29.size)) (fun _ => ?_)
                    clear hKK KK
                    try simp only [Act.put, List.setIfInBounds_toArray, List.set_cons_zero, List.set_cons_succ]
                    refine wpAnyH_name (fun u36 hu36 => ?_)
                    have bu36 : Below Wn.heap.size Wn u36 := by rw [hu36.out]; exact (bu29.trans (Below.mono (bu36') bu29.size))
                    refine wpAnyH_take (i := 36) (oi := { dst := some 57, op := Op.binOp BinOp.eql 24 (Operand.tmp 55) (Operand.tmp 56) 24, type := 4, pos := "own.go:46", after := #[{ on := 34, ground := Ground.data }, { on := 35, ground := Ground.data }, { on := 32, ground := Ground.guard }], guard := some (32, true) }) (v := .bool true) rfl (by kernel_rfl) (by kernel_rfl) (by kernel_rfl) (fun _ _ _ h => h) (Or.inl ⟨by rfl, ?yf1_37⟩) bu36 ?rf1_37
                    case yf1_37 => (intro w hSw; go_simp; try with_reducible rfl)
                    try simp only [Act.put, List.setIfInBounds_toArray, List.set_cons_zero, List.set_cons_succ]
                    refine wpAnyH_take (i := 37) (oi := { dst := some 58, op := Op.pick (Operand.tmp 53) (Operand.tmp 57) (Operand.const (Value.bool false)), type := 4, pos := "own.go:46", after := #[{ on := 32, ground := Ground.data }, { on := 36, ground := Ground.data }], guard := none }) (v := ?vf1_38) rfl (by kernel_rfl) (by kernel_rfl) (by kernel_rfl) (fun _ _ _ h => h) (Or.inl ⟨by rfl, ?yf1_38⟩) bu36 ?rf1_38
                    case yf1_38 => (intro w hSw; go_simp; try with_reducible rfl)
                    try simp only [Act.put, List.setIfInBounds_toArray, List.set_cons_zero, List.set_cons_succ]
                    refine wpAnyH_take (i := 38) (oi := { dst := some 59, op := Op.move (Operand.tmp 58), type := 4, pos := "own.go:46", after := #[{ on := 37, ground := Ground.data }, { on := 34, ground := Ground.chain }], guard := none }) (v := ?vf1_39) rfl (by kernel_rfl) (by kernel_rfl) (by kernel_rfl) (fun _ _ _ h => h) (Or.inl ⟨by rfl, ?yf1_39⟩) bu36 ?rf1_39
                    case yf1_39 => (intro w hSw; go_simp; try with_reducible rfl)
                    try simp only [Act.put, List.setIfInBounds_toArray, List.set_cons_zero, List.set_cons_succ]
                    refine wpAnyH_ready (rs := [39]) (by kernel_rfl) (by simp) ?_
                    refine AllReadyH.cons (o := { dst := some 60, op := Op.call { callee := Callee.value (Operand.func 12), args := #[], argTypes := #[] }, type := 4, pos := "own.go:46", after := #[{ on := 38, ground := Ground.chain }, { on := 38, ground := Ground.guard }], guard := some (38, true) }) rfl (fun KK hKK => ?_) ?_
                    · go_simp
                      refine (awake_any _).mono ?_
                      rintro e u40' ⟨rfl, bu40'⟩
                      (try go_wp2_with fail)
                      refine hKK.out _ _ (bu36.trans (Below.mono (bu40') bu36.size)) (fun _ => ?_)
                      clear hKK KK
                      try simp only [Act.put, List.setIfInBounds_toArray, List.set_cons_zero, List.set_cons_succ]
                      refine wpAnyH_name (fun u40 hu40 => ?_)
                      have bu40 : Below Wn.heap.size Wn u40 := by rw [hu40.out]; exact (bu36.trans (Below.mono (bu40') bu36.size))
                      refine wpAnyH_take (i := 40) (oi := { dst := some 61, op := Op.pick (Operand.tmp 59) (Operand.tmp 60) (Operand.const (Value.bool false)), type := 4, pos := "own.go:46", after := #[{ on := 38, ground := Ground.data }, { on := 39, ground := Ground.data }], guard := none }) (v := ?vf1_41) rfl (by kernel_rfl) (by kernel_rfl) (by kernel_rfl) (fun _ _ _ h => h) (Or.inl ⟨by rfl, ?yf1_41⟩) bu40 ?rf1_41
                      case yf1_41 => (intro w hSw; go_simp; try with_reducible rfl)
                      try simp only [Act.put, List.setIfInBounds_toArray, List.set_cons_zero, List.set_cons_succ]
                      refine wpAnyH_take (i := 41) (oi := { dst := some 6, op := Op.assign (Operand.tmp 61), type := 4, pos := "own.go:46", after := #[{ on := 40, ground := Ground.data }, { on := 39, ground := Ground.chain }, { on := 0, ground := Ground.phase }, { on := 1, ground := Ground.phase }, { on := 2, ground := Ground.phase }, { on := 3, ground := Ground.phase }, { on := 4, ground := Ground.phase }, { on := 5, ground := Ground.phase }, { on := 6, ground := Ground.phase }, { on := 7, ground := Ground.phase }, { on := 8, ground := Ground.phase }, { on := 9, ground := Ground.phase }, { on := 10, ground := Ground.phase }, { on := 11, ground := Ground.phase }, { on := 12, ground := Ground.phase }, { on := 13, ground := Ground.phase }, { on := 14, ground := Ground.phase }, { on := 15, ground := Ground.phase }, { on := 16, ground := Ground.phase }, { on := 17, ground := Ground.phase }, { on := 18, ground := Ground.phase }, { on := 19, ground := Ground.phase }, { on := 20, ground := Ground.phase }, { on := 21, ground := Ground.phase }, { on := 22, ground := Ground.phase }, { on := 23, ground := Ground.phase }, { on := 24, ground := Ground.phase }, { on := 25, ground := Ground.phase }, { on := 26, ground := Ground.phase }, { on := 27, ground := Ground.phase }, { on := 28, ground := Ground.phase }, { on := 29, ground := Ground.phase }, { on := 30, ground := Ground.phase }, { on := 31, ground := Ground.phase }, { on := 32, ground := Ground.phase }, { on := 33, ground := Ground.phase }, { on := 34, ground := Ground.phase }, { on := 35, ground := Ground.phase }, { on := 36, ground := Ground.phase }, { on := 37, ground := Ground.phase }, { on := 38, ground := Ground.phase }, { on := 39, ground := Ground.phase }, { on := 40, ground := Ground.phase }], guard := none }) (v := ?vf1_42) rfl (by kernel_rfl) (by kernel_rfl) (by kernel_rfl) (fun _ _ _ h => h) (Or.inl ⟨by rfl, ?yf1_42⟩) bu40 ?rf1_42
                      case yf1_42 => (intro w hSw; go_simp; try with_reducible rfl)
                      try simp only [Act.put, List.setIfInBounds_toArray, List.set_cons_zero, List.set_cons_succ]
                      refine wpAnyH_done (by kernel_rfl) ?_ _
                      have BZ : Hid (Below w.heap.size w u40) := HBn.out.trans (Below.mono bu40 HBn.out.size)
                      go_wp2
                      go_ret
                      exact ⟨rfl, BZ.out⟩
                    exact AllReadyH.nil
                  exact AllReadyH.nil
                exact AllReadyH.nil
              exact AllReadyH.nil
            exact AllReadyH.nil
          exact AllReadyH.nil
        exact AllReadyH.nil
      · skip
        refine wp_region_held_drew (S := From Wn) (by kernel_rfl) (Below.drew (Below.refl _ _)) (fun _ => ?_)
        refine wpAnyH_name (fun u0 hu0 => ?_)
        have bu0 : Below Wn.heap.size Wn u0 := by rw [hu0.out]; exact Below.drew (Below.refl _ _)
        refine wpAnyH_take (i := 0) (oi := { dst := some 21, op := Op.move (Operand.tmp 7), type := 3, pos := "own.go:46", after := #[], guard := none }) (v := ?vt1_1) rfl (by kernel_rfl) (by kernel_rfl) (by kernel_rfl) (fun _ _ _ h => h) (Or.inl ⟨by rfl, ?yt1_1⟩) bu0 ?rt1_1
        case yt1_1 => (intro w hSw; go_simp; try with_reducible rfl)
        try simp only [Act.put, List.setIfInBounds_toArray, List.set_cons_zero, List.set_cons_succ]
        refine wpAnyH_take (i := 1) (oi := { dst := some 22, op := Op.binOp BinOp.geq 3 (Operand.tmp 21) (Operand.const (Value.int IntKind.i64 1)) 3, type := 4, pos := "own.go:46", after := #[{ on := 0, ground := Ground.data }], guard := none }) (v := .bool true) rfl (by kernel_rfl) (by kernel_rfl) (by kernel_rfl) (fun _ _ _ h => h) (Or.inl ⟨by rfl, ?yt1_2⟩) bu0 ?rt1_2
        case yt1_2 => (intro w hSw; obtain ⟨k1, k2, k3, k4⟩ := HK.out; go_simp; try with_reducible rfl)
        try simp only [Act.put, List.setIfInBounds_toArray, List.set_cons_zero, List.set_cons_succ]
        refine wpAnyH_take (i := 2) (oi := { dst := some 23, op := Op.move (Operand.tmp 22), type := 4, pos := "own.go:46", after := #[{ on := 1, ground := Ground.data }], guard := none }) (v := ?vt1_3) rfl (by kernel_rfl) (by kernel_rfl) (by kernel_rfl) (fun _ _ _ h => h) (Or.inl ⟨by rfl, ?yt1_3⟩) bu0 ?rt1_3
        case yt1_3 => (intro w hSw; go_simp; try with_reducible rfl)
        try simp only [Act.put, List.setIfInBounds_toArray, List.set_cons_zero, List.set_cons_succ]
        refine wpAnyH_take (i := 3) (oi := { dst := some 24, op := Op.move (Operand.tmp 7), type := 3, pos := "own.go:46", after := #[{ on := 2, ground := Ground.guard }], guard := some (2, true) }) (v := ?vt1_4) rfl (by kernel_rfl) (by kernel_rfl) (by kernel_rfl) (fun _ _ _ h => h) (Or.inl ⟨by rfl, ?yt1_4⟩) bu0 ?rt1_4
        case yt1_4 => (intro w hSw; go_simp; try with_reducible rfl)
        try simp only [Act.put, List.setIfInBounds_toArray, List.set_cons_zero, List.set_cons_succ]
        refine wpAnyH_take (i := 4) (oi := { dst := some 25, op := Op.move (Operand.tmp 8), type := 3, pos := "own.go:46", after := #[{ on := 2, ground := Ground.guard }], guard := some (2, true) }) (v := ?vt1_5) rfl (by kernel_rfl) (by kernel_rfl) (by kernel_rfl) (fun _ _ _ h => h) (Or.inl ⟨by rfl, ?yt1_5⟩) bu0 ?rt1_5
        case yt1_5 => (intro w hSw; go_simp; try with_reducible rfl)
        try simp only [Act.put, List.setIfInBounds_toArray, List.set_cons_zero, List.set_cons_succ]
        refine wpAnyH_take (i := 5) (oi := { dst := some 26, op := Op.binOp BinOp.leq 3 (Operand.tmp 24) (Operand.tmp 25) 3, type := 4, pos := "own.go:46", after := #[{ on := 3, ground := Ground.data }, { on := 4, ground := Ground.data }, { on := 2, ground := Ground.guard }], guard := some (2, true) }) (v := .bool true) rfl (by kernel_rfl) (by kernel_rfl) (by kernel_rfl) (fun _ _ _ h => h) (Or.inl ⟨by rfl, ?yt1_6⟩) bu0 ?rt1_6
        case yt1_6 => (intro w hSw; obtain ⟨k1, k2, k3, k4⟩ := HK.out; go_simp; try with_reducible rfl)
        try simp only [Act.put, List.setIfInBounds_toArray, List.set_cons_zero, List.set_cons_succ]
        refine wpAnyH_take (i := 6) (oi := { dst := some 27, op := Op.pick (Operand.tmp 23) (Operand.tmp 26) (Operand.const (Value.bool false)), type := 4, pos := "own.go:46", after := #[{ on := 2, ground := Ground.data }, { on := 5, ground := Ground.data }], guard := none }) (v := ?vt1_7) rfl (by kernel_rfl) (by kernel_rfl) (by kernel_rfl) (fun _ _ _ h => h) (Or.inl ⟨by rfl, ?yt1_7⟩) bu0 ?rt1_7
        case yt1_7 => (intro w hSw; go_simp; try with_reducible rfl)
        try simp only [Act.put, List.setIfInBounds_toArray, List.set_cons_zero, List.set_cons_succ]
        refine wpAnyH_take (i := 7) (oi := { dst := some 28, op := Op.move (Operand.tmp 27), type := 4, pos := "own.go:46", after := #[{ on := 6, ground := Ground.data }, { on := 2, ground := Ground.chain }], guard := none }) (v := ?vt1_8) rfl (by kernel_rfl) (by kernel_rfl) (by kernel_rfl) (fun _ _ _ h => h) (Or.inl ⟨by rfl, ?yt1_8⟩) bu0 ?rt1_8
        case yt1_8 => (intro w hSw; go_simp; try with_reducible rfl)
        try simp only [Act.put, List.setIfInBounds_toArray, List.set_cons_zero, List.set_cons_succ]
        refine wpAnyH_take (i := 8) (oi := { dst := some 29, op := Op.move (Operand.tmp 8), type := 3, pos := "own.go:46", after := #[{ on := 7, ground := Ground.guard }], guard := some (7, true) }) (v := ?vt1_9) rfl (by kernel_rfl) (by kernel_rfl) (by kernel_rfl) (fun _ _ _ h => h) (Or.inl ⟨by rfl, ?yt1_9⟩) bu0 ?rt1_9
        case yt1_9 => (intro w hSw; go_simp; try with_reducible rfl)
        try simp only [Act.put, List.setIfInBounds_toArray, List.set_cons_zero, List.set_cons_succ]
        refine wpAnyH_take (i := 9) (oi := { dst := some 30, op := Op.binOp BinOp.leq 3 (Operand.tmp 29) (Operand.const (Value.int IntKind.i64 65536)) 3, type := 4, pos := "own.go:46", after := #[{ on := 8, ground := Ground.data }, { on := 7, ground := Ground.guard }], guard := some (7, true) }) (v := .bool true) rfl (by kernel_rfl) (by kernel_rfl) (by kernel_rfl) (fun _ _ _ h => h) (Or.inl ⟨by rfl, ?yt1_10⟩) bu0 ?rt1_10
        case yt1_10 => (intro w hSw; obtain ⟨k1, k2, k3, k4⟩ := HK.out; go_simp; try with_reducible rfl)
        try simp only [Act.put, List.setIfInBounds_toArray, List.set_cons_zero, List.set_cons_succ]
        refine wpAnyH_take (i := 10) (oi := { dst := some 31, op := Op.pick (Operand.tmp 28) (Operand.tmp 30) (Operand.const (Value.bool false)), type := 4, pos := "own.go:46", after := #[{ on := 7, ground := Ground.data }, { on := 9, ground := Ground.data }], guard := none }) (v := ?vt1_11) rfl (by kernel_rfl) (by kernel_rfl) (by kernel_rfl) (fun _ _ _ h => h) (Or.inl ⟨by rfl, ?yt1_11⟩) bu0 ?rt1_11
        case yt1_11 => (intro w hSw; go_simp; try with_reducible rfl)
        try simp only [Act.put, List.setIfInBounds_toArray, List.set_cons_zero, List.set_cons_succ]
        refine wpAnyH_take (i := 11) (oi := { dst := some 32, op := Op.move (Operand.tmp 31), type := 4, pos := "own.go:46", after := #[{ on := 10, ground := Ground.data }, { on := 7, ground := Ground.chain }], guard := none }) (v := ?vt1_12) rfl (by kernel_rfl) (by kernel_rfl) (by kernel_rfl) (fun _ _ _ h => h) (Or.inl ⟨by rfl, ?yt1_12⟩) bu0 ?rt1_12
        case yt1_12 => (intro w hSw; go_simp; try with_reducible rfl)
        try simp only [Act.put, List.setIfInBounds_toArray, List.set_cons_zero, List.set_cons_succ]
        refine wpAnyH_take (i := 12) (oi := { dst := some 33, op := Op.load 24 (Operand.tmp 3), type := 24, pos := "own.go:46", after := #[{ on := 11, ground := Ground.guard }], guard := some (11, true) }) (v := .agg #[.bool h, .int .i64 l, .int .i64 m, .int .i64 s, .int .i64 v]) rfl (by kernel_rfl) (by kernel_rfl) (by kernel_rfl) (fun _ _ _ h => h) (yieldsIf_load_mid (by rfl) 24 _ rfl w.heap.size 0 rfl [.bool h, .int .i64 l, .int .i64 m, .int .i64 s, .int .i64 v] _ (fun x hx => (FB2.out x hx).range) Try.underlying24 rfl infoS) bu0 ?_
        try simp only [Act.put, List.setIfInBounds_toArray, List.set_cons_zero, List.set_cons_succ]
        refine wpAnyH_ready (rs := [13]) (by kernel_rfl) (by simp) ?_
        refine AllReadyH.cons (o := { dst := some 34, op := Op.call { callee := Callee.value (Operand.func 15), args := #[Operand.tmp 33], argTypes := #[24] }, type := 3, pos := "own.go:46", after := #[{ on := 12, ground := Ground.data }, { on := 11, ground := Ground.chain }, { on := 11, ground := Ground.guard }], guard := some (11, true) }) rfl (fun KK hKK => ?_) ?_
        · go_simp
          refine (C5.out _).mono ?_
          rintro e u14' ⟨rfl, bu14'⟩
          (try go_wp2_with fail)
          refine hKK.out _ _ (bu0.trans (Below.mono (bu14') bu0.size)) (fun _ => ?_)
          clear hKK KK
          try simp only [Act.put, List.setIfInBounds_toArray, List.set_cons_zero, List.set_cons_succ]
          refine wpAnyH_name (fun u14 hu14 => ?_)
          have bu14 : Below Wn.heap.size Wn u14 := by rw [hu14.out]; exact (bu0.trans (Below.mono (bu14') bu0.size))
          refine wpAnyH_take (i := 14) (oi := { dst := some 35, op := Op.binOp BinOp.geq 3 (Operand.tmp 34) (Operand.const (Value.int IntKind.i64 1)) 3, type := 4, pos := "own.go:46", after := #[{ on := 13, ground := Ground.data }, { on := 11, ground := Ground.guard }], guard := some (11, true) }) (v := .bool true) rfl (by kernel_rfl) (by kernel_rfl) (by kernel_rfl) (fun _ _ _ h => h) (Or.inl ⟨by rfl, ?yt1_15⟩) bu14 ?rt1_15
          case yt1_15 => (intro w hSw; obtain ⟨k1, k2, k3, k4⟩ := HK.out; go_simp; try with_reducible rfl)
          try simp only [Act.put, List.setIfInBounds_toArray, List.set_cons_zero, List.set_cons_succ]
          refine wpAnyH_take (i := 15) (oi := { dst := some 36, op := Op.pick (Operand.tmp 32) (Operand.tmp 35) (Operand.const (Value.bool false)), type := 4, pos := "own.go:46", after := #[{ on := 11, ground := Ground.data }, { on := 14, ground := Ground.data }], guard := none }) (v := ?vt1_16) rfl (by kernel_rfl) (by kernel_rfl) (by kernel_rfl) (fun _ _ _ h => h) (Or.inl ⟨by rfl, ?yt1_16⟩) bu14 ?rt1_16
          case yt1_16 => (intro w hSw; go_simp; try with_reducible rfl)
          try simp only [Act.put, List.setIfInBounds_toArray, List.set_cons_zero, List.set_cons_succ]
          refine wpAnyH_take (i := 16) (oi := { dst := some 37, op := Op.move (Operand.tmp 36), type := 4, pos := "own.go:46", after := #[{ on := 15, ground := Ground.data }, { on := 13, ground := Ground.chain }], guard := none }) (v := ?vt1_17) rfl (by kernel_rfl) (by kernel_rfl) (by kernel_rfl) (fun _ _ _ h => h) (Or.inl ⟨by rfl, ?yt1_17⟩) bu14 ?rt1_17
          case yt1_17 => (intro w hSw; go_simp; try with_reducible rfl)
          try simp only [Act.put, List.setIfInBounds_toArray, List.set_cons_zero, List.set_cons_succ]
          refine wpAnyH_take (i := 17) (oi := { dst := some 38, op := Op.load 24 (Operand.tmp 3), type := 24, pos := "own.go:46", after := #[{ on := 16, ground := Ground.guard }], guard := some (16, true) }) (v := .agg #[.bool h, .int .i64 l, .int .i64 m, .int .i64 s, .int .i64 v]) rfl (by kernel_rfl) (by kernel_rfl) (by kernel_rfl) (fun _ _ _ h => h) (yieldsIf_load_mid (by rfl) 24 _ rfl w.heap.size 0 rfl [.bool h, .int .i64 l, .int .i64 m, .int .i64 s, .int .i64 v] _ (fun x hx => (FB2.out x hx).range) Try.underlying24 rfl infoS) bu14 ?_
          try simp only [Act.put, List.setIfInBounds_toArray, List.set_cons_zero, List.set_cons_succ]
          refine wpAnyH_take (i := 19) (oi := { dst := some 40, op := Op.load 24 (Operand.tmp 3), type := 24, pos := "own.go:46", after := #[{ on := 16, ground := Ground.guard }], guard := some (16, true) }) (v := .agg #[.bool h, .int .i64 l, .int .i64 m, .int .i64 s, .int .i64 v]) rfl (by kernel_rfl) (by kernel_rfl) (by kernel_rfl) (fun _ _ _ h => h) (yieldsIf_load_mid (by rfl) 24 _ rfl w.heap.size 0 rfl [.bool h, .int .i64 l, .int .i64 m, .int .i64 s, .int .i64 v] _ (fun x hx => (FB2.out x hx).range) Try.underlying24 rfl infoS) bu14 ?_
          try simp only [Act.put, List.setIfInBounds_toArray, List.set_cons_zero, List.set_cons_succ]
          refine wpAnyH_ready (rs := [18]) (by kernel_rfl) (by simp) ?_
          refine AllReadyH.cons (o := { dst := some 39, op := Op.call { callee := Callee.value (Operand.func 13), args := #[Operand.tmp 38, Operand.const (Value.int IntKind.i64 (-5))], argTypes := #[24, 3] }, type := 3, pos := "own.go:46", after := #[{ on := 17, ground := Ground.data }, { on := 16, ground := Ground.chain }, { on := 16, ground := Ground.guard }], guard := some (16, true) }) rfl (fun KK hKK => ?_) ?_
          · go_simp
            refine (C3.out _).mono ?_
            rintro e u20' ⟨rfl, bu20'⟩
            (try go_wp2_with fail)
            refine hKK.out _ _ (bu14.trans (Below.mono (bu20') bu14.size)) (fun _ => ?_)
            clear hKK KK
            try simp only [Act.put, List.setIfInBounds_toArray, List.set_cons_zero, List.set_cons_succ]
            refine wpAnyH_name (fun u20 hu20 => ?_)
            have bu20 : Below Wn.heap.size Wn u20 := by rw [hu20.out]; exact (bu14.trans (Below.mono (bu20') bu14.size))
            refine wpAnyH_ready (rs := [20]) (by kernel_rfl) (by simp) ?_
            refine AllReadyH.cons (o := { dst := some 41, op := Op.call { callee := Callee.value (Operand.func 13), args := #[Operand.tmp 40, Operand.const (Value.int IntKind.i64 0)], argTypes := #[24, 3] }, type := 3, pos := "own.go:46", after := #[{ on := 19, ground := Ground.data }, { on := 18, ground := Ground.chain }, { on := 16, ground := Ground.guard }], guard := some (16, true) }) rfl (fun KK hKK => ?_) ?_
            · go_simp
              refine (C4.out _).mono ?_
              rintro e u21' ⟨rfl, bu21'⟩
              (try go_wp2_with fail)
              refine hKK.out _ _ (bu20.trans (Below.mono (bu21') bu20.size)) (fun _ => ?_)
              clear hKK KK
              try simp only [Act.put, List.setIfInBounds_toArray, List.set_cons_zero, List.set_cons_succ]
              refine wpAnyH_name (fun u21 hu21 => ?_)
              have bu21 : Below Wn.heap.size Wn u21 := by rw [hu21.out]; exact (bu20.trans (Below.mono (bu21') bu20.size))
              refine wpAnyH_take (i := 21) (oi := { dst := some 42, op := Op.binOp BinOp.eql 3 (Operand.tmp 39) (Operand.tmp 41) 3, type := 4, pos := "own.go:46", after := #[{ on := 18, ground := Ground.data }, { on := 20, ground := Ground.data }, { on := 16, ground := Ground.guard }], guard := some (16, true) }) (v := .bool true) rfl (by kernel_rfl) (by kernel_rfl) (by kernel_rfl) (fun _ _ _ h => h) (Or.inl ⟨by rfl, ?yt1_22⟩) bu21 ?rt1_22
              case yt1_22 => (intro w hSw; go_simp; try with_reducible rfl)
              try simp only [Act.put, List.setIfInBounds_toArray, List.set_cons_zero, List.set_cons_succ]
              refine wpAnyH_take (i := 22) (oi := { dst := some 43, op := Op.pick (Operand.tmp 37) (Operand.tmp 42) (Operand.const (Value.bool false)), type := 4, pos := "own.go:46", after := #[{ on := 16, ground := Ground.data }, { on := 21, ground := Ground.data }], guard := none }) (v := ?vt1_23) rfl (by kernel_rfl) (by kernel_rfl) (by kernel_rfl) (fun _ _ _ h => h) (Or.inl ⟨by rfl, ?yt1_23⟩) bu21 ?rt1_23
              case yt1_23 => (intro w hSw; go_simp; try with_reducible rfl)
              try simp only [Act.put, List.setIfInBounds_toArray, List.set_cons_zero, List.set_cons_succ]
              refine wpAnyH_take (i := 23) (oi := { dst := some 44, op := Op.move (Operand.tmp 43), type := 4, pos := "own.go:46", after := #[{ on := 22, ground := Ground.data }, { on := 20, ground := Ground.chain }], guard := none }) (v := ?vt1_24) rfl (by kernel_rfl) (by kernel_rfl) (by kernel_rfl) (fun _ _ _ h => h) (Or.inl ⟨by rfl, ?yt1_24⟩) bu21 ?rt1_24
              case yt1_24 => (intro w hSw; go_simp; try with_reducible rfl)
              try simp only [Act.put, List.setIfInBounds_toArray, List.set_cons_zero, List.set_cons_succ]
              refine wpAnyH_take (i := 24) (oi := { dst := some 45, op := Op.load 24 (Operand.tmp 3), type := 24, pos := "own.go:46", after := #[{ on := 23, ground := Ground.guard }], guard := some (23, true) }) (v := .agg #[.bool h, .int .i64 l, .int .i64 m, .int .i64 s, .int .i64 v]) rfl (by kernel_rfl) (by kernel_rfl) (by kernel_rfl) (fun _ _ _ h => h) (yieldsIf_load_mid (by rfl) 24 _ rfl w.heap.size 0 rfl [.bool h, .int .i64 l, .int .i64 m, .int .i64 s, .int .i64 v] _ (fun x hx => (FB2.out x hx).range) Try.underlying24 rfl infoS) bu21 ?_
              try simp only [Act.put, List.setIfInBounds_toArray, List.set_cons_zero, List.set_cons_succ]
              refine wpAnyH_ready (rs := [25]) (by kernel_rfl) (by simp) ?_
              refine AllReadyH.cons (o := { dst := some 46, op := Op.call { callee := Callee.value (Operand.func 10), args := #[Operand.tmp 45], argTypes := #[24] }, type := 4, pos := "own.go:46", after := #[{ on := 24, ground := Ground.data }, { on := 23, ground := Ground.chain }, { on := 23, ground := Ground.guard }], guard := some (23, true) }) rfl (fun KK hKK => ?_) ?_
              · go_simp
                refine (C8.out _).mono ?_
                rintro e u26' ⟨rfl, bu26'⟩
                (try go_wp2_with fail)
                refine hKK.out _ _ (bu21.trans (Below.mono (bu26') bu21.size)) (fun _ => ?_)
                clear hKK KK
                try simp only [Act.put, List.setIfInBounds_toArray, List.set_cons_zero, List.set_cons_succ]
                refine wpAnyH_name (fun u26 hu26 => ?_)
                have bu26 : Below Wn.heap.size Wn u26 := by rw [hu26.out]; exact (bu21.trans (Below.mono (bu26') bu21.size))
                refine wpAnyH_take (i := 26) (oi := { dst := some 47, op := Op.move (Operand.tmp 46), type := 4, pos := "own.go:46", after := #[{ on := 25, ground := Ground.data }, { on := 25, ground := Ground.chain }, { on := 23, ground := Ground.guard }], guard := some (23, true) }) (v := ?vt1_27) rfl (by kernel_rfl) (by kernel_rfl) (by kernel_rfl) (fun _ _ _ h => h) (Or.inl ⟨by rfl, ?yt1_27⟩) bu26 ?rt1_27
                case yt1_27 => (intro w hSw; go_simp; try with_reducible rfl)
                try simp only [Act.put, List.setIfInBounds_toArray, List.set_cons_zero, List.set_cons_succ]
                refine wpAnyH_take (i := 27) (oi := { dst := some 48, op := Op.load 24 (Operand.tmp 3), type := 24, pos := "own.go:46", after := #[{ on := 26, ground := Ground.guard }], guard := some (26, false) }) (v := undef) rfl (by kernel_rfl) (by kernel_rfl) (by kernel_rfl) (fun _ _ _ h => h) (Or.inr ⟨by rfl, rfl⟩) bu26 ?_
                try simp only [Act.put, List.setIfInBounds_toArray, List.set_cons_zero, List.set_cons_succ]
                refine wpAnyH_take (i := 28) (oi := { dst := some 49, op := Op.call { callee := Callee.value (Operand.func 15), args := #[Operand.tmp 48], argTypes := #[24] }, type := 3, pos := "own.go:46", after := #[{ on := 27, ground := Ground.data }, { on := 26, ground := Ground.chain }, { on := 26, ground := Ground.guard }], guard := some (26, false) }) (v := undef) rfl (by kernel_rfl) (by kernel_rfl) (by kernel_rfl) (fun _ _ _ h => h) (Or.inr ⟨by rfl, rfl⟩) bu26 ?_
                try simp only [Act.put, List.setIfInBounds_toArray, List.set_cons_zero, List.set_cons_succ]
                refine wpAnyH_take (i := 29) (oi := { dst := some 50, op := Op.binOp BinOp.eql 3 (Operand.tmp 49) (Operand.const (Value.int IntKind.i64 18)) 3, type := 4, pos := "own.go:46", after := #[{ on := 28, ground := Ground.data }, { on := 26, ground := Ground.guard }], guard := some (26, false) }) (v := undef) rfl (by kernel_rfl) (by kernel_rfl) (by kernel_rfl) (fun _ _ _ h => h) (Or.inr ⟨by rfl, rfl⟩) bu26 ?_
                try simp only [Act.put, List.setIfInBounds_toArray, List.set_cons_zero, List.set_cons_succ]
                refine wpAnyH_take (i := 30) (oi := { dst := some 51, op := Op.pick (Operand.tmp 47) (Operand.const (Value.bool true)) (Operand.tmp 50), type := 4, pos := "own.go:46", after := #[{ on := 26, ground := Ground.data }, { on := 29, ground := Ground.data }, { on := 23, ground := Ground.guard }], guard := some (23, true) }) (v := ?vt1_31) rfl (by kernel_rfl) (by kernel_rfl) (by kernel_rfl) (fun _ _ _ h => h) (Or.inl ⟨by rfl, ?yt1_31⟩) bu26 ?rt1_31
                case yt1_31 => (intro w hSw; go_simp; try with_reducible rfl)
                try simp only [Act.put, List.setIfInBounds_toArray, List.set_cons_zero, List.set_cons_succ]
                refine wpAnyH_take (i := 31) (oi := { dst := some 52, op := Op.pick (Operand.tmp 44) (Operand.tmp 51) (Operand.const (Value.bool false)), type := 4, pos := "own.go:46", after := #[{ on := 23, ground := Ground.data }, { on := 30, ground := Ground.data }], guard := none }) (v := ?vt1_32) rfl (by kernel_rfl) (by kernel_rfl) (by kernel_rfl) (fun _ _ _ h => h) (Or.inl ⟨by rfl, ?yt1_32⟩) bu26 ?rt1_32
                case yt1_32 => (intro w hSw; go_simp; try with_reducible rfl)
                try simp only [Act.put, List.setIfInBounds_toArray, List.set_cons_zero, List.set_cons_succ]
                refine wpAnyH_take (i := 32) (oi := { dst := some 53, op := Op.move (Operand.tmp 52), type := 4, pos := "own.go:46", after := #[{ on := 31, ground := Ground.data }, { on := 28, ground := Ground.chain }], guard := none }) (v := ?vt1_33) rfl (by kernel_rfl) (by kernel_rfl) (by kernel_rfl) (fun _ _ _ h => h) (Or.inl ⟨by rfl, ?yt1_33⟩) bu26 ?rt1_33
                case yt1_33 => (intro w hSw; go_simp; try with_reducible rfl)
                try simp only [Act.put, List.setIfInBounds_toArray, List.set_cons_zero, List.set_cons_succ]
                refine wpAnyH_take (i := 33) (oi := { dst := some 54, op := Op.load 24 (Operand.tmp 3), type := 24, pos := "own.go:46", after := #[{ on := 32, ground := Ground.guard }], guard := some (32, true) }) (v := .agg #[.bool h, .int .i64 l, .int .i64 m, .int .i64 s, .int .i64 v]) rfl (by kernel_rfl) (by kernel_rfl) (by kernel_rfl) (fun _ _ _ h => h) (yieldsIf_load_mid (by rfl) 24 _ rfl w.heap.size 0 rfl [.bool h, .int .i64 l, .int .i64 m, .int .i64 s, .int .i64 v] _ (fun x hx => (FB2.out x hx).range) Try.underlying24 rfl infoS) bu26 ?_
                try simp only [Act.put, List.setIfInBounds_toArray, List.set_cons_zero, List.set_cons_succ]
                refine wpAnyH_take (i := 35) (oi := { dst := some 56, op := Op.load 24 (Operand.tmp 3), type := 24, pos := "own.go:46", after := #[{ on := 32, ground := Ground.guard }], guard := some (32, true) }) (v := .agg #[.bool h, .int .i64 l, .int .i64 m, .int .i64 s, .int .i64 v]) rfl (by kernel_rfl) (by kernel_rfl) (by kernel_rfl) (fun _ _ _ h => h) (yieldsIf_load_mid (by rfl) 24 _ rfl w.heap.size 0 rfl [.bool h, .int .i64 l, .int .i64 m, .int .i64 s, .int .i64 v] _ (fun x hx => (FB2.out x hx).range) Try.underlying24 rfl infoS) bu26 ?_
                try simp only [Act.put, List.setIfInBounds_toArray, List.set_cons_zero, List.set_cons_succ]
                refine wpAnyH_ready (rs := [34]) (by kernel_rfl) (by simp) ?_
                refine AllReadyH.cons (o := { dst := some 55, op := Op.call { callee := Callee.value (Operand.func 8), args := #[Operand.tmp 54, Operand.const (Value.int IntKind.i64 4), Operand.const (Value.int IntKind.i64 1099511627777)], argTypes := #[24, 3, 3] }, type := 24, pos := "own.go:46", after := #[{ on := 33, ground := Ground.data }, { on := 32, ground := Ground.chain }, { on := 32, ground := Ground.guard }], guard := some (32, true) }) rfl (fun KK hKK => ?_) ?_
                · go_simp
                  refine (C6.out _).mono ?_
                  rintro e u36' ⟨rfl, bu36'⟩
                  (try go_wp2_with fail)
                  refine hKK.out _ _ (bu26.trans (Below.mono (bu36') bu26.size)) (fun _ => ?_)
                  clear hKK KK
                  try simp only [Act.put, List.setIfInBounds_toArray, List.set_cons_zero, List.set_cons_succ]
                  refine wpAnyH_name (fun u36 hu36 => ?_)
                  have bu36 : Below Wn.heap.size Wn u36 := by rw [hu36.out]; exact (bu26.trans (Below.mono (bu36') bu26.size))
                  refine wpAnyH_take (i := 36) (oi := { dst := some 57, op := Op.binOp BinOp.eql 24 (Operand.tmp 55) (Operand.tmp 56) 24, type := 4, pos := "own.go:46", after := #[{ on := 34, ground := Ground.data }, { on := 35, ground := Ground.data }, { on := 32, ground := Ground.guard }], guard := some (32, true) }) (v := .bool true) rfl (by kernel_rfl) (by kernel_rfl) (by kernel_rfl) (fun _ _ _ h => h) (Or.inl ⟨by rfl, ?yt1_37⟩) bu36 ?rt1_37
                  case yt1_37 => (intro w hSw; go_simp; try with_reducible rfl)
                  try simp only [Act.put, List.setIfInBounds_toArray, List.set_cons_zero, List.set_cons_succ]
                  refine wpAnyH_take (i := 37) (oi := { dst := some 58, op := Op.pick (Operand.tmp 53) (Operand.tmp 57) (Operand.const (Value.bool false)), type := 4, pos := "own.go:46", after := #[{ on := 32, ground := Ground.data }, { on := 36, ground := Ground.data }], guard := none }) (v := ?vt1_38) rfl (by kernel_rfl) (by kernel_rfl) (by kernel_rfl) (fun _ _ _ h => h) (Or.inl ⟨by rfl, ?yt1_38⟩) bu36 ?rt1_38
                  case yt1_38 => (intro w hSw; go_simp; try with_reducible rfl)
                  try simp only [Act.put, List.setIfInBounds_toArray, List.set_cons_zero, List.set_cons_succ]
                  refine wpAnyH_take (i := 38) (oi := { dst := some 59, op := Op.move (Operand.tmp 58), type := 4, pos := "own.go:46", after := #[{ on := 37, ground := Ground.data }, { on := 34, ground := Ground.chain }], guard := none }) (v := ?vt1_39) rfl (by kernel_rfl) (by kernel_rfl) (by kernel_rfl) (fun _ _ _ h => h) (Or.inl ⟨by rfl, ?yt1_39⟩) bu36 ?rt1_39
                  case yt1_39 => (intro w hSw; go_simp; try with_reducible rfl)
                  try simp only [Act.put, List.setIfInBounds_toArray, List.set_cons_zero, List.set_cons_succ]
                  refine wpAnyH_ready (rs := [39]) (by kernel_rfl) (by simp) ?_
                  refine AllReadyH.cons (o := { dst := some 60, op := Op.call { callee := Callee.value (Operand.func 12), args := #[], argTypes := #[] }, type := 4, pos := "own.go:46", after := #[{ on := 38, ground := Ground.chain }, { on := 38, ground := Ground.guard }], guard := some (38, true) }) rfl (fun KK hKK => ?_) ?_
                  · go_simp
                    refine (awake_any _).mono ?_
                    rintro e u40' ⟨rfl, bu40'⟩
                    (try go_wp2_with fail)
                    refine hKK.out _ _ (bu36.trans (Below.mono (bu40') bu36.size)) (fun _ => ?_)
                    clear hKK KK
                    try simp only [Act.put, List.setIfInBounds_toArray, List.set_cons_zero, List.set_cons_succ]
                    refine wpAnyH_name (fun u40 hu40 => ?_)
                    have bu40 : Below Wn.heap.size Wn u40 := by rw [hu40.out]; exact (bu36.trans (Below.mono (bu40') bu36.size))
                    refine wpAnyH_take (i := 40) (oi := { dst := some 61, op := Op.pick (Operand.tmp 59) (Operand.tmp 60) (Operand.const (Value.bool false)), type := 4, pos := "own.go:46", after := #[{ on := 38, ground := Ground.data }, { on := 39, ground := Ground.data }], guard := none }) (v := ?vt1_41) rfl (by kernel_rfl) (by kernel_rfl) (by kernel_rfl) (fun _ _ _ h => h) (Or.inl ⟨by rfl, ?yt1_41⟩) bu40 ?rt1_41
                    case yt1_41 => (intro w hSw; go_simp; try with_reducible rfl)
                    try simp only [Act.put, List.setIfInBounds_toArray, List.set_cons_zero, List.set_cons_succ]
                    refine wpAnyH_take (i := 41) (oi := { dst := some 6, op := Op.assign (Operand.tmp 61), type := 4, pos := "own.go:46", after := #[{ on := 40, ground := Ground.data }, { on := 39, ground := Ground.chain }, { on := 0, ground := Ground.phase }, { on := 1, ground := Ground.phase }, { on := 2, ground := Ground.phase }, { on := 3, ground := Ground.phase }, { on := 4, ground := Ground.phase }, { on := 5, ground := Ground.phase }, { on := 6, ground := Ground.phase }, { on := 7, ground := Ground.phase }, { on := 8, ground := Ground.phase }, { on := 9, ground := Ground.phase }, { on := 10, ground := Ground.phase }, { on := 11, ground := Ground.phase }, { on := 12, ground := Ground.phase }, { on := 13, ground := Ground.phase }, { on := 14, ground := Ground.phase }, { on := 15, ground := Ground.phase }, { on := 16, ground := Ground.phase }, { on := 17, ground := Ground.phase }, { on := 18, ground := Ground.phase }, { on := 19, ground := Ground.phase }, { on := 20, ground := Ground.phase }, { on := 21, ground := Ground.phase }, { on := 22, ground := Ground.phase }, { on := 23, ground := Ground.phase }, { on := 24, ground := Ground.phase }, { on := 25, ground := Ground.phase }, { on := 26, ground := Ground.phase }, { on := 27, ground := Ground.phase }, { on := 28, ground := Ground.phase }, { on := 29, ground := Ground.phase }, { on := 30, ground := Ground.phase }, { on := 31, ground := Ground.phase }, { on := 32, ground := Ground.phase }, { on := 33, ground := Ground.phase }, { on := 34, ground := Ground.phase }, { on := 35, ground := Ground.phase }, { on := 36, ground := Ground.phase }, { on := 37, ground := Ground.phase }, { on := 38, ground := Ground.phase }, { on := 39, ground := Ground.phase }, { on := 40, ground := Ground.phase }], guard := none }) (v := ?vt1_42) rfl (by kernel_rfl) (by kernel_rfl) (by kernel_rfl) (fun _ _ _ h => h) (Or.inl ⟨by rfl, ?yt1_42⟩) bu40 ?rt1_42
                    case yt1_42 => (intro w hSw; go_simp; try with_reducible rfl)
                    try simp only [Act.put, List.setIfInBounds_toArray, List.set_cons_zero, List.set_cons_succ]
                    refine wpAnyH_done (by kernel_rfl) ?_ _
                    have BZ : Hid (Below w.heap.size w u40) := HBn.out.trans (Below.mono bu40 HBn.out.size)
                    go_wp2
                    go_ret
                    exact ⟨rfl, BZ.out⟩
                  exact AllReadyH.nil
                exact AllReadyH.nil
              exact AllReadyH.nil
            exact AllReadyH.nil
          exact AllReadyH.nil
        exact AllReadyH.nil
    exact AllReadyH.nil
  exact AllReadyH.nil

theorem contract (H : Type) (enc : TypeId × Value → H) (W : World) (base : Nat) (args : Array Value) (ds gs : List (DataW H)) (before : List MemPlace)
    (hval : ∀ (j : Nat) t v, Try.f7.params[j]? = some t → args[j]? = some v → Value.okWide Try.prog W .any base t v)
    (hW : DataW.Whole enc Try.prog Try.f7.params.toList Rows.rttBacksSpec.vars false W args.toList ds gs before) (_hL : laidMetH Try.prog Rows.rttBacksRow.laid W)
    (hsz0 : (DataW.weightsEach Try.prog (Try.f7.params.toList ++ Rows.rttBacksSpec.plain.varTypes Try.prog) (ds ++ gs)).all (· ≤ reachBytes) = true) :
    Calls Try.prog 7 args W fun e W' => ∃ v, e = .returned v ∧ Rows.rttBacksSpec.post enc Try.prog Try.f7 false true false false W args v W' := by
  have hW' := hW
  obtain ⟨p, q, hA0, hV, rfl, hfz, hnd⟩ := hW
  have hA : DataW.TrodAll enc Try.prog W 0 (fun _ => true) true Try.f7.params.toList args.toList ds p := hA0
  rw [Try.params7] at hA hval hsz0
  obtain ⟨v0, vs0, d0, ds0, p0, q0, hargs, rfl, rfl, h0, r0⟩ := trodAll_cons hA
  obtain ⟨v1, vs1, d1, ds1, p1, q1, rfl, rfl, rfl, h1, r1⟩ := trodAll_cons r0
  obtain ⟨v2, vs2, d2, ds2, p2, q2, rfl, rfl, rfl, h2, r2⟩ := trodAll_cons r1
  obtain ⟨rfl, rfl, rfl⟩ := trodAll_nil r2
  obtain rfl : args = #[v0, v1, v2] := by cases args; simp_all
  obtain ⟨rfl, rfl⟩ := trodVars_none hV
  have k0 := h0
  have lt0 : ∀ x ∈ p0, x.block < W.heap.size := by obtain ⟨m, hm⟩ := k0; exact DataW.trod_lt m _ _ _ hm
  obtain ⟨L0, w0⟩ := stp_in (hval 0 24 v0 rfl rfl) h0
  obtain ⟨a1, rfl, rfl, rfl, w1⟩ := open_int Try.underlying5 (hval 1 5 v1 rfl rfl) h1
  obtain ⟨a2, rfl, rfl, rfl, w2⟩ := open_int Try.underlying5 (hval 2 5 v2 rfl rfl) h2
  clear hA0
  refine (walk v0 L0 a1 a2 W w0 w1 w2).mono fun e W' ⟨he, bel⟩ => ?_
  subst he
  exact ⟨_, rfl, _, _, _, [], _, [], hW', trodAll_mk1 (shut_bool Try.underlying4 _), (trodAll_cons_mk (Below.trod laidOut (by kernel_rfl) (of_decide_eq_true (by kernel_rfl)) k0 bel lt0) (trodAll_cons_mk (shut_int Try.underlying5 w1) (trodAll_cons_mk (shut_int Try.underlying5 w2) trodAll_mk0))), rfl, bel.frame _, fun h => by cases h⟩

theorem laid_met (os : Os) : laidMet Try.prog Rows.rttBacksRow.laid ((World.holding Try.prog os ⟨#[], #[], []⟩).forCall (fun _ _ => 0) ⟨#[], #[.agg #[.bool false, .int .i64 0, .int .i64 0, .int .i64 0, .int .i64 0], .int .u8 0, .int .u8 0], []⟩).memory :=
  laidMet_of_run' 8 (by kernel_rfl) (by kernel_rfl)
theorem reads (os : Os) {H : Type} (enc : TypeId × Value → H) : ∃ places, DataW.whole enc Try.prog ((World.holding Try.prog os ⟨#[], #[], []⟩).forCall (fun _ _ => 0) ⟨#[], #[.agg #[.bool false, .int .i64 0, .int .i64 0, .int .i64 0, .int .i64 0], .int .u8 0, .int .u8 0], []⟩).memory Try.f7.params.toList Rows.rttBacksSpec.vars false #[Value.agg #[.bool false, .int .i64 0, .int .i64 0, .int .i64 0, .int .i64 0], .int .u8 0, .int .u8 0].toList 8 = some ([.agg [.lit (.bool false), .lit (.int .i64 0), .lit (.int .i64 0), .lit (.int .i64 0), .lit (.int .i64 0)], .lit (.int .u8 0), .lit (.int .u8 0)], [], places) :=
  ⟨[], by kernel_rfl⟩

set_option maxRecDepth 100000 in
theorem lifted (os : Os) (started : os.Started) (H : Type) (enc : TypeId × Value → H) (F : Stop.Interp) :
    ReturnsInHanded {} Try.checked os 7 .any ((OpenSpec.ofChange Rows.rttBacksSpec).preRow enc Try.prog Try.f7 Rows.rttBacksRow.domain false Rows.rttBacksRow.laid) (((OpenSpec.ofChange Rows.rttBacksSpec).at F).post enc Try.prog Try.f7 false true false false) := by
  obtain ⟨places, hx⟩ := reads os enc
  refine returnsInHanded_of_row (C := Try.checked) (s := OpenSpec.ofChange Rows.rttBacksSpec) own started (by kernel_rfl) Try.func7
    (witness_row_at (enc := enc) (C := Try.checked) false (World.holding Try.prog os ⟨#[], #[], []⟩) #[.agg #[.bool false, .int .i64 0, .int .i64 0, .int .i64 0, .int .i64 0], .int .u8 0, .int .u8 0] rfl (by kernel_rfl) (by kernel_rfl) (by kernel_rfl)
      (OpenSpec.preRow_of_cond 8 hx (by kernel_rfl) (fun k hk => by cases hk) (by kernel_rfl) (laid_met os))) ?_
  intro W base args ds gs before hval hW _ _ hsz hL _ _
  exact contract H enc W base args ds gs before hval hW hL hsz

theorem said : Rows.RttBacksSaid :=
  OpenClaim.holds_of_cond 7 Try.f7 rfl rfl rfl rfl rfl rfl rfl ⟨rfl, rfl, rfl, rfl, rfl⟩ rfl rfl rfl rfl rfl (by kernel_rfl) Try.func7 (by kernel_rfl)
    (of_decide_eq_true (by kernel_rfl)) (by unfold Func.isWrapper; first | (rw [if_pos (by decide +kernel)]; kernel_rfl) | (rw [if_neg (by decide +kernel)]; exact ⟨rfl, rfl⟩))
    (fun os started H enc _ F => by rw [OpenClaim.pre_eq_preRow]; exact lifted os started H enc F)

end Go.Proofs.Ytbomkapnkpjjbaa.rttBacks

namespace Go.Proofs.Ytbomkapnkpjjbaa
/-- RttBacks. -/
theorem rttBacks_holds : Rows.RttBacksSaid := rttBacks.said
#print axioms rttBacks_holds
end Go.Proofs.Ytbomkapnkpjjbaa
