/-
  A packet of frames that is sealed is opened by its key to what it was; with a byte of its tag changed it is not, nor with its last byte cut off, unless the bytes that are left have a right tag. No conditions but the given statement's own.
-/
import Derived.Test.YtiollhmbdhepkaaGreatDoorVbx
namespace Go.Proofs.YtiollhmbdhepkaaGreatDoor.packetBack
open Go.ChangeShapes Go.WideShapes Go.ChangeAt Go.RowKit Go.Deep Go.ChangeMaps
set_option maxRecDepth 100000

theorem byt_set {S : List Int} {i : Nat} {z : Int} (h : Sh.Pl.Byt S) (hz : 0 ≤ z ∧ z < 256) : Sh.Pl.Byt (S.set i z) := fun j => by
  rw [List.getD, List.getElem?_set]
  by_cases hij : i = j
  · rw [if_pos hij]
    by_cases hl : i < S.length
    · rw [if_pos hl]; exact hz
    · rw [if_neg hl]; exact ⟨by decide, by decide⟩
  · rw [if_neg hij]
    exact h j
theorem set_getD (S : List Int) (i : Nat) : S.set i (S.getD i 0) = S := by
  apply List.ext_getElem?
  intro j
  rw [List.getElem?_set]
  by_cases hij : i = j
  · subst hij
    rw [if_pos rfl]
    by_cases hl : i < S.length
    · rw [if_pos hl]; simp [List.getD, hl]
    · rw [if_neg hl, List.getElem?_eq_none (by omega)]
  · rw [if_neg hij]
theorem selL_byt2 {K : List Int} {k c n : Int} {X : List Int} (hk : 0 ≤ k ∧ k < 256) (hX : Sh.Pl.Byt X) : Sh.Pl.Byt (selL K k c n X) := by
  unfold selL
  split
  · exact byt_cat (hdL_byt hk.1 hk.2) (byt_cat hX (Mc.tagB_byt _ _))
  · intro i; simp
set_option maxHeartbeats 16000000 in
theorem walk (K : List Int) (v1 : Value) (L1 : PkI) (v2 : Value) (L : List FV) (w : World) (ht : Tb w ∧ Mc.Tabs w) (hK : K.length = 32) (hKb : Sh.Pl.Byt K) (h1 : PktI w v1 L1) (h2 : FQ w v2 L) :
    Calls Tryz.prog 6 #[.agg (Sh.u8s K), v1, v2] w fun e w' => e = .returned (.bool true) ∧ Below w.heap.size w w' := by
  obtain ⟨k, c, n, a, m, cp, X0⟩ := L1
  obtain ⟨rfl, -, hk, -, -⟩ := h1
  simp only at hk ⊢
  obtain ⟨W1, hW1⟩ : ∃ W1, W1 = w.alloc (.cells (Sh.u8s K) 47) := ⟨_, rfl⟩
  obtain ⟨w2, hW2⟩ : ∃ w2, w2 = W1.alloc (.cells #[.int .u8 k, .int .i64 c, .int .i64 n, .slice a m cp] 49) := ⟨_, rfl⟩
  have b1 : Below w.heap.size w W1 := by rw [hW1]; exact al_below _ _
  have z1 : W1.heap.size = w.heap.size + 1 := by rw [hW1]; simp
  have b12 : Below W1.heap.size W1 w2 := by rw [hW2]; exact al_below _ _
  have HB2 : Hid (Below w.heap.size w w2) := b1.trans (b12.mono b1.size)
  have hg1 : W1.heap[w.heap.size]? = some (.cells (Sh.u8s K) 47 (0, 0)) := by rw [hW1]; exact heap_alloc_new _ _
  have HG2 : Hid (QB w2 (w.heap.size + 1) k c n (.slice a m cp)) := by unfold Hid; rw [← z1, hW2]; exact QB.new _ _ _ _ _
  have HK2 : Hid (w2.heap[w.heap.size]? = some (.cells (Sh.u8s K) 47 (0, 0))) := blk_kept hg1 b12 (blk_lt hg1)
  have HT : Hid (∀ x, Below w.heap.size w x → Tb x ∧ Mc.Tabs x) := fun x hx => ⟨ht.1.next hx, ht.2.kept hx⟩
  have HQ : Hid (∀ x, Below w.heap.size w x → FQ x v2 L) := fun x hx => h2.kept hx
  have HKB : Hid (0 ≤ k ∧ k < 256) := hk
  have HI : Hid ((Tryz.prog.info? 47).map (·.size) = some (Sh.u8s K).size) := by unfold Hid; rw [Sh.u8s_size, hK]; exact Sh.size26
  have hWW : w2 = (w.alloc (.cells (Sh.u8s K) 47)).alloc (.cells #[.int .u8 k, .int .i64 c, .int .i64 n, .slice a m cp] 49) := by rw [hW2, hW1]
  have HAW : Hid (∀ x, Below w.heap.size w x → Calls Tryz.prog 18 #[] x fun e w' => e = .returned (.bool true) ∧ Below x.heap.size x w') := fun x hx => pawake_any x (ht.1.next hx) (ht.2.kept hx)
  have HSE : Hid (∀ (x : World) (k c n : Int) (b : Option Addr) (q qc : Nat) (Y : List Int), Below w.heap.size w x → 0 ≤ k ∧ k < 256 → Sl x (.slice b q qc) Y → q = Y.length → Calls Tryz.prog 19 #[.agg (Sh.u8s K), .agg #[.int .u8 k, .int .i64 c, .int .i64 n, .slice b q qc]] x fun e w' => ∃ v, e = .returned (.tuple #[v, .int .i64 (selE k c n Y.length)]) ∧ w'.ownsRow x.heap.size 5 1 v (selL K k c n Y).length ((selL K k c n Y).map (Value.int .u8)) ∧ Below x.heap.size x w') := fun x k c n b q qc Y hx hk sx hq => pseal_any K k c n b q qc Y x (ht.2.kept hx) hK hKb hk sx hq
  have HOP : Hid (∀ (x : World) (v : Value) (xs : List Int), Below w.heap.size w x → Sl x v xs → xs.length ≤ 90000 → Calls Tryz.prog 30 #[.agg (Sh.u8s K), v] x fun e w' => ∃ bv fv, e = .returned (.tuple #[.agg #[.int .u8 (opM K xs).k, .int .i64 (opM K xs).c, .int .i64 (opM K xs).n, bv], fv, .int .i64 (opM K xs).e]) ∧ Sl w' bv (opM K xs).body ∧ RF w' x.heap.size fv (opM K xs).fs ∧ (∀ q, rowB bv = some q → x.heap.size ≤ q) ∧ Below x.heap.size x w') := fun x v xs hx sx hl => popen_any K v xs x (ht.1.next hx) (ht.2.kept hx) hK hKb sx hl (fun v w h1 h2 => allF_any v _ w h1 h2 (by have := (rdM_le xs).1; omega))
  have HNL : Hid (∀ q ∈ L, q.1.nc.length = 16) := fun q hq => (h2.ok q hq).nl
  have HFK : Hid (∀ q ∈ L, FK q.1) := fun q hq => fm_fk (h2.ok q hq)
  have cf := frames_any v2 L w2 (ht.1.next HB2.out) (h2.kept HB2.out)
  obtain ⟨c0, c1, c2, c3⟩ := HG2.out.kc
  obtain ⟨la, lc, rfl, -, -, -⟩ := h2.is.shape
  obtain ⟨ll, hll⟩ : ∃ l, l = (L.map plc).length := ⟨_, rfl⟩
  rw [← hll] at HQ cf ⊢
  clear hW1 hW2 b1 z1 b12 hg1 ht h2 hK hKb hk hll
  obtain ⟨KU, hku⟩ : ∃ KU, KU = Sh.u8s K := ⟨_, rfl⟩
  rw [← hku] at HK2 HI hWW HSE HOP ⊢
  clear hku
  cases hR : frB L
  · rw [hR] at cf
    clear HOP HSE HNL HFK HG2 HK2 c0 c1 c2 c3 hR HQ HT
    go_enter Tryz.func6, Tryz.ntmps6
    go_upto_region 1 with fail
    rw [← hWW]
    clear hWW
    go_wp2_with fail
    refine cf.mono ?_
    rintro e w3 ⟨fv, rfl, -, b3⟩
    have HB3 : Hid (Below w.heap.size w w3) := HB2.out.trans (b3.mono HB2.out.size)
    have ca := HAW.out w3 HB3.out
    clear cf b3
    go_wp2_with fail
    refine ca.mono ?_
    rintro e w4 ⟨rfl, b4⟩
    have HB4 : Hid (Below w.heap.size w w4) := HB3.out.trans (b4.mono HB3.out.size)
    clear ca b4
    go_wp2
    go_ret
    exact ⟨rfl, HB4.out⟩
  rw [hR] at cf
  obtain ⟨h20, hok⟩ := fr_ok hR
  obtain ⟨l, hl⟩ : ∃ l, l = L.map Prod.fst := ⟨_, rfl⟩
  have HL : Hid (frL true L = l) := by unfold Hid frL; rw [if_pos rfl, hl]
  have HLM : Hid (l = L.map Prod.fst) := hl
  have HMO : Hid (∀ q ∈ L, Ok q.1 ∧ q.1.sp.length ≤ 70) := fun q hq => ⟨(hok q hq).1, (hok q hq).2.1⟩
  have HH : Hid (∀ p ∈ l, Ok p ∧ p.nc.length = 16) := fun p hp => by
    rw [hl] at hp
    obtain ⟨q, hq, rfl⟩ := List.mem_map.1 hp
    exact ⟨(hok q hq).1, HNL.out q hq⟩
  have HFG : Hid (∀ p ∈ l, FG p) := fun p hp => by
    rw [hl] at hp
    obtain ⟨q, hq, rfl⟩ := List.mem_map.1 hp
    obtain ⟨o1, o2, o3⟩ := hok q hq
    exact ⟨HFK.out q hq, o1.kk, o1.nb, by omega, by omega⟩
  have H20 : Hid (L.length ≤ 20 ∧ l.length ≤ 20) := ⟨h20, by rw [hl, List.length_map]; exact h20⟩
  rw [HL.out] at cf
  clear hR h20 hok hl HL HNL HFK
  go_enter Tryz.func6, Tryz.ntmps6
  go_upto_region 1 with fail
  rw [← hWW]
  clear hWW
  go_wp2_with fail
  refine cf.mono ?_
  rintro e w3 ⟨fv, rfl, rf3, b3⟩
  have HB3 : Hid (Below w.heap.size w w3) := HB2.out.trans (b3.mono HB2.out.size)
  have HG3 : Hid (QB w3 (w.heap.size + 1) k c n (.slice a m cp)) := HG2.out.kept b3
  have HK3 : Hid (w3.heap[w.heap.size]? = some (.cells KU 47 (0, 0))) := blk_kept HK2.out b3 (blk_lt HK2.out)
  have cp' := ppack_any k c n fv l w3 _ (HT.out _ HB3.out).1 HKB.out rf3 HFG.out (by have := H20.out.2; omega) (fun p _ sv w h1 h2 h3 => putF_any p sv w h1 h2 h3)
  obtain ⟨fa, fc, rfl⟩ := rf3.shape
  obtain ⟨fl, hfl⟩ : ∃ x, x = l.length := ⟨_, rfl⟩
  rw [← hfl] at cp' ⊢
  clear cf b3 rf3 HB2 HG2 HK2 c0 c1 c2 c3 hfl HFG
  obtain ⟨c0, c1, c2, c3⟩ := HG3.out.kc
  go_wp2_with fail
  refine cp'.mono ?_
  rintro e w4 ⟨bv, rfl, o4, b4⟩
  have HB4 : Hid (Below w.heap.size w w4) := HB3.out.trans (b4.mono HB3.out.size)
  have HK4 : Hid (w4.heap[w.heap.size]? = some (.cells KU 47 (0, 0))) := blk_kept HK3.out b4 (blk_lt HK3.out)
  obtain ⟨ba, bc, rfl, -⟩ := id o4.sl
  have s4 := o4.sl
  clear cp' b4 o4 HB3 HG3 HK3 c0 c1 c2 c3
  by_cases hE : pkE k c n l = 0
  rotate_left
  · have t1 : (pkE k c n l != 0) = true := by simpa using hE
    rw [pk_err hE] at s4 ⊢
    simp only [pkErr, List.length_nil] at s4 ⊢
    obtain ⟨EE, hEE⟩ : ∃ x, x = pkE k c n l := ⟨_, rfl⟩
    rw [← hEE] at t1 ⊢
    clear hE hEE HOP HSE HH H20 HMO HLM HQ
    obtain ⟨w5, hw5⟩ : ∃ x, x = w4.alloc (.cells #[.int .u8 0, .int .i64 0, .int .i64 0, .slice ba 0 bc] 51) := ⟨_, rfl⟩
    have bw5 : Below w4.heap.size w4 w5 := by rw [hw5]; exact al_below _ _
    have hst : (w4.alloc (.cells #[.int .u8 0, .int .i64 0, .int .i64 0, .slice none 0 0] 51)).setRow w4.heap.size #[.int .u8 0, .int .i64 0, .int .i64 0, .slice ba 0 bc] = w5 := by rw [hw5]; exact World.setRow_alloc_new _ _ _ _
    have HG0 : Hid (KB (w4.alloc (.cells #[.int .u8 0, .int .i64 0, .int .i64 0, .slice none 0 0] 51)) w4.heap.size 0 0 0 (.slice none 0 0)) := KB.new _ _ _ _ _
    have HX5 : Hid (KB w5 w4.heap.size 0 0 0 (.slice ba 0 bc)) := by unfold Hid; rw [hw5]; exact KB.new _ _ _ _ _
    have HB5 : Hid (Below w.heap.size w w5) := HB4.out.trans (bw5.mono HB4.out.size)
    have cs := psame_any 0 0 0 ba 0 bc [] 0 0 0 none 0 0 [] w5 (s4.kept bw5) (Sl.none _)
    rw [smP_refl] at cs
    clear s4 bw5 hw5 HB4 HK4
    go_upto_region 5 with (refine wpList_store_row rfl 51 _ _ rfl w4.heap.size #[.int .u8 0, .int .i64 0, .int .i64 0, .slice ba 0 bc] rfl rfl 51 _ HG0.out infoK rfl (k4_one _ _ _ _ _ _) ?_)
    try rw [hst]
    clear hst HG0
    go_wp2_with (refine wpList_load_row rfl 51 _ rfl w4.heap.size rfl 51 #[.int .u8 0, .int .i64 0, .int .i64 0, .slice ba 0 bc] (0, 0) _ HX5.out Tryz.underlying51 rfl infoK (Hid.out ?_))
    try unfold Hid
    try go_wp2_with fail
    refine cs.mono ?_
    rintro e w6 ⟨rfl, b6⟩
    have HB6 : Hid (Below w.heap.size w w6) := HB5.out.trans (b6.mono HB5.out.size)
    have ca := HAW.out w6 HB6.out
    clear cs b6 HB5 HX5
    go_wp2_with fail
    refine ca.mono ?_
    rintro e w7 ⟨rfl, b7⟩
    have HB7 : Hid (Below w.heap.size w w7) := HB6.out.trans (b7.mono HB6.out.size)
    clear ca b7
    go_wp2
    go_ret
    exact ⟨rfl, HB7.out⟩
  obtain ⟨hsE, hPM⟩ := pk_sel hE
  rw [hPM] at s4 ⊢
  simp only at s4 ⊢
  rw [hE]
  have hAM := lay_all HH.out
  obtain ⟨X, hX⟩ : ∃ X, X = layL l := ⟨_, rfl⟩
  rw [← hX] at hsE hAM s4 ⊢
  clear hE hPM hX HH
  obtain ⟨bl, hbl⟩ : ∃ x, x = X.length := ⟨_, rfl⟩
  have HBL : Hid (bl = X.length) := hbl
  rw [← hbl] at s4 ⊢
  clear hbl
  obtain ⟨w5, hw5⟩ : ∃ x, x = w4.alloc (.cells #[.int .u8 k, .int .i64 c, .int .i64 n, .slice ba bl bc] 51) := ⟨_, rfl⟩
  have bw5 : Below w4.heap.size w4 w5 := by rw [hw5]; exact al_below _ _
  have hst : (w4.alloc (.cells #[.int .u8 0, .int .i64 0, .int .i64 0, .slice none 0 0] 51)).setRow w4.heap.size #[.int .u8 k, .int .i64 c, .int .i64 n, .slice ba bl bc] = w5 := by rw [hw5]; exact World.setRow_alloc_new _ _ _ _
  have HG0 : Hid (KB (w4.alloc (.cells #[.int .u8 0, .int .i64 0, .int .i64 0, .slice none 0 0] 51)) w4.heap.size 0 0 0 (.slice none 0 0)) := KB.new _ _ _ _ _
  have HX5 : Hid (KB w5 w4.heap.size k c n (.slice ba bl bc)) := by unfold Hid; rw [hw5]; exact KB.new _ _ _ _ _
  have HB5 : Hid (Below w.heap.size w w5) := HB4.out.trans (bw5.mono HB4.out.size)
  have HK5 : Hid (w5.heap[w.heap.size]? = some (.cells KU 47 (0, 0))) := blk_kept HK4.out bw5 (blk_lt HK4.out)
  have HZ5 : Hid (w4.heap.size < w5.heap.size ∧ w.heap.size < w4.heap.size) := ⟨blk_lt HX5.out, blk_lt HK4.out⟩
  have HS5 : Hid (Sl w5 (.slice ba bl bc) X) := s4.kept bw5
  have cs := HSE.out w5 k c n ba bl bc X HB5.out HKB.out HS5.out HBL.out
  rw [hsE] at cs
  have HSY : Hid (Sh.Pl.Byt (selL K k c n X)) := by unfold Hid; rw [selL_yes hsE]; exact byt_cat (hdL_byt HKB.out.1 HKB.out.2) (byt_cat s4.bytes (Mc.tagB_byt _ _))
  have HM1 : Hid (opM K (selL K k c n X) = ⟨k, c, n, X, l, 0⟩) := opM_seal HKB.out.1 hsE hAM
  have HM2 : Hid (∀ z, z ≠ (selL K k c n X).getD ((selL K k c n X).length - 1) 0 → (opM K ((selL K k c n X).set ((selL K k c n X).length - 1) z)).e = 15) := fun z hz => opM_turn HKB.out.1 hsE hz
  have HM3 : Hid (∀ C, C = (selL K k c n X).take ((selL K k c n X).length - 1) → (opM K C).e = 15 ∨ ((opM K C).e = 3 ∧ X = []) ∨ ((rdM C).e = 0 ∧ selL K (rdM C).k (rdM C).c (rdM C).n (rdM C).body = C)) := fun C hC => opM_cut HKB.out.1 hsE C hC
  have HLS : Hid ((selL K k c n X).length ≤ 1200 ∧ bl + 19 ≤ (selL K k c n X).length) := by
    unfold Hid
    obtain ⟨q1, q2, q3⟩ := sel_len hsE
    have q4 := hd_ge3 q1
    have q5 : (Mc.btag K (hdL k c n) X).length = 16 := Mc.tagB_len _ _
    rw [selL_yes hsE, List.length_append, List.length_append, q5, HBL.out]
    omega
  obtain ⟨S, hS⟩ : ∃ S, S = selL K k c n X := ⟨_, rfl⟩
  rw [← hS] at HSY HM1 HM2 HM3 HLS cs
  obtain ⟨sl, hsl⟩ : ∃ x, x = S.length := ⟨_, rfl⟩
  have HSLE : Hid (sl = S.length) := hsl
  rw [← hsl] at HM2 HM3 HLS cs
  obtain ⟨M, hM⟩ : ∃ M, M = sl - 1 := ⟨_, rfl⟩
  rw [← hM] at HM2 HM3
  have hls := HLS.out
  have HMM : Hid (M + 1 = sl) := by unfold Hid; omega
  clear s4 bw5 hw5 HB4 HK4 hsE hAM hS hsl hM
  go_upto_region 5 with (refine wpList_store_row rfl 51 _ _ rfl w4.heap.size #[.int .u8 k, .int .i64 c, .int .i64 n, .slice ba bl bc] rfl rfl 51 _ HG0.out infoK rfl (k4_one _ _ _ _ _ _) ?_)
  try rw [hst]
  clear hst HG0 hls
  go_upto_region 7 with fail
  go_wp2_with (first | refine wpList_load_row rfl 47 _ rfl w.heap.size rfl 47 KU (0, 0) _ HK5.out Tryz.underlying47 rfl HI.out (Hid.out ?_) | refine wpList_load_row rfl 51 _ rfl w4.heap.size rfl 51 #[.int .u8 k, .int .i64 c, .int .i64 n, .slice ba bl bc] (0, 0) _ HX5.out Tryz.underlying51 rfl infoK (Hid.out ?_))
  try unfold Hid
  try go_wp2_with (first | refine wpList_load_row rfl 47 _ rfl w.heap.size rfl 47 KU (0, 0) _ HK5.out Tryz.underlying47 rfl HI.out (Hid.out ?_) | refine wpList_load_row rfl 51 _ rfl w4.heap.size rfl 51 #[.int .u8 k, .int .i64 c, .int .i64 n, .slice ba bl bc] (0, 0) _ HX5.out Tryz.underlying51 rfl infoK (Hid.out ?_))
  try unfold Hid
  try go_wp2_with fail
  refine cs.mono ?_
  rintro e w6 ⟨v6, rfl, o6, b6⟩
  obtain ⟨g, gc, rfl⟩ : ∃ g q, v6 = .slice (some ⟨g, 0, none⟩) sl q := by
    rcases o6.2 with ⟨_, e⟩ | ⟨g', cap', cur, e, _⟩
    · have := HLS.out.2; omega
    · exact ⟨g', cap', e⟩
  have HO6 : Hid (w6.ownsRow w5.heap.size 5 1 (.slice (some ⟨g, 0, none⟩) sl gc) sl (S.map (Value.int .u8))) := o6
  have HGG : Hid (w5.heap.size ≤ g) := by
    rcases o6.2 with ⟨e, _⟩ | ⟨g', cap', cur, e, hg, _⟩
    · cases e
    · cases e; exact hg
  have HCAP : Hid (sl ≤ gc ∧ gc ≤ 9223372036854775807) := by
    rcases o6.2 with ⟨e, _⟩ | ⟨g', cap', cur, e, _, _, hc1, hc2, _⟩
    · cases e
    · cases e; exact ⟨hc1, hc2⟩
  have HB6 : Hid (Below w.heap.size w w6) := HB5.out.trans (b6.mono HB5.out.size)
  have HX6 : Hid (KB w6 w4.heap.size k c n (.slice ba bl bc)) := HX5.out.kept b6
  have HK6 : Hid (w6.heap[w.heap.size]? = some (.cells KU 47 (0, 0))) := blk_kept HK5.out b6 (blk_lt HK5.out)
  have HS6 : Hid (Sl w6 (.slice ba bl bc) X) := HS5.out.kept b6
  have s6 : Sl w6 (.slice (some ⟨g, 0, none⟩) sl gc) S := sl_owned o6 HSY.out
  have co := HOP.out w6 _ S HB6.out s6 (by have := HSLE.out; have := HLS.out.1; omega)
  rw [HM1.out] at co
  simp only at co
  clear cs o6 b6 s6 HB5 HX5 HK5 HS5
  go_wp2_with (refine wpList_load_row rfl 47 _ rfl w.heap.size rfl 47 KU (0, 0) _ HK6.out Tryz.underlying47 rfl HI.out (Hid.out ?_))
  try unfold Hid
  try go_wp2_with fail
  refine co.mono ?_
  rintro e w7 ⟨dv, fv, rfl, sd, rf7, -, b7⟩
  obtain ⟨da, dc, rfl, -⟩ := id sd
  rw [← HBL.out] at sd ⊢
  have HB7 : Hid (Below w.heap.size w w7) := HB6.out.trans (b7.mono HB6.out.size)
  obtain ⟨w8, hw8⟩ : ∃ x, x = w7.alloc (.cells #[.int .u8 k, .int .i64 c, .int .i64 n, .slice da bl dc] 51) := ⟨_, rfl⟩
  have bw8 : Below w7.heap.size w7 w8 := by rw [hw8]; exact al_below _ _
  have hst : (w7.alloc (.cells #[.int .u8 0, .int .i64 0, .int .i64 0, .slice none 0 0] 51)).setRow w7.heap.size #[.int .u8 k, .int .i64 c, .int .i64 n, .slice da bl dc] = w8 := by rw [hw8]; exact World.setRow_alloc_new _ _ _ _
  have HG0 : Hid (KB (w7.alloc (.cells #[.int .u8 0, .int .i64 0, .int .i64 0, .slice none 0 0] 51)) w7.heap.size 0 0 0 (.slice none 0 0)) := KB.new _ _ _ _ _
  have HY8 : Hid (KB w8 w7.heap.size k c n (.slice da bl dc)) := by unfold Hid; rw [hw8]; exact KB.new _ _ _ _ _
  have HX8 : Hid (KB w8 w4.heap.size k c n (.slice ba bl bc)) := KB.kept (HX6.out.kept b7) bw8
  have HB8 : Hid (Below w.heap.size w w8) := HB7.out.trans (bw8.mono HB7.out.size)
  have HK8 : Hid (w8.heap[w.heap.size]? = some (.cells KU 47 (0, 0))) := blk_kept (blk_kept HK6.out b7 (blk_lt HK6.out)) bw8 (Nat.lt_of_lt_of_le (blk_lt HK6.out) b7.size)
  have HO8 : Hid (w8.ownsRow w5.heap.size 5 1 (.slice (some ⟨g, 0, none⟩) sl gc) sl (S.map (Value.int .u8))) := own_below (own_below HO6.out b7) bw8
  have csm := psame_any k c n ba bl bc X k c n da bl dc X w8 ((HS6.out.kept b7).kept bw8) (sd.kept bw8)
  rw [smP_refl] at csm
  have csf := fun x (hx : Below w8.heap.size w8 x) (hb : Below w.heap.size w x) => sameFrames_any fv (.slice la ll lc) L x w6.heap.size (by rw [← HLM.out]; exact (RF.below (RF.below rf7 bw8) hx)) (HQ.out x hb) HMO.out H20.out.1
  obtain ⟨fa2, fc2, rfl⟩ := rf7.shape
  obtain ⟨fl2, hfl2⟩ : ∃ x, x = l.length := ⟨_, rfl⟩
  rw [← hfl2] at csf ⊢
  obtain ⟨x0, x1, x2, x3⟩ := HX8.out.kc
  obtain ⟨y0, y1, y2, y3⟩ := HY8.out.kc
  have hls := HLS.out
  obtain ⟨D, hD⟩ : ∃ D : Nat, D = sl - bl := ⟨_, rfl⟩
  have k1 : IntKind.i64.wrap ((sl : Int) - (bl : Int)) = (D : Int) := by rw [wrP (by omega) (by omega)]; omega
  have k2 : ¬ (1200 : Int) < (sl : Int) := by omega
  have k3 : ¬ (D : Int) < 19 := by omega
  have k4 : IntKind.i64.wrap ((sl : Int) - 1) = (M : Int) := by have := HMM.out; rw [wrP (by omega) (by omega)]; omega
  clear co sd rf7 b7 hfl2 HB6 HX6 HK6 HO6 HS6 HB7 bw8 hw8 hls hD
  go_upto_region 9 with (refine wpList_store_row rfl 51 _ _ rfl w7.heap.size #[.int .u8 k, .int .i64 c, .int .i64 n, .slice da bl dc] rfl rfl 51 _ HG0.out infoK rfl (k4_one _ _ _ _ _ _) ?_)
  try rw [hst]
  clear hst HG0
  go_wp2_with fail
  refine csm.mono ?_
  rintro e w9 ⟨rfl, b9⟩
  have HB9 : Hid (Below w.heap.size w w9) := HB8.out.trans (b9.mono HB8.out.size)
  have HX9 : Hid (KB w9 w4.heap.size k c n (.slice ba bl bc)) := HX8.out.kept b9
  have HK9 : Hid (w9.heap[w.heap.size]? = some (.cells KU 47 (0, 0))) := blk_kept HK8.out b9 (blk_lt HK8.out)
  have HO9 : Hid (w9.ownsRow w5.heap.size 5 1 (.slice (some ⟨g, 0, none⟩) sl gc) sl (S.map (Value.int .u8))) := own_below HO8.out b9
  have csg := csf w9 b9 HB9.out
  clear csm csf b9 HB8 HX8 HY8 HK8 HO8 x0 x1 x2 x3 y0 y1 y2 y3
  obtain ⟨x0, x1, x2, x3⟩ := HX9.out.kc
  go_wp2_with fail
  refine csg.mono ?_
  rintro e w10 ⟨rfl, b10⟩
  have HB10 : Hid (Below w.heap.size w w10) := HB9.out.trans (b10.mono HB9.out.size)
  have HX10 : Hid (KB w10 w4.heap.size k c n (.slice ba bl bc)) := HX9.out.kept b10
  have HK10 : Hid (w10.heap[w.heap.size]? = some (.cells KU 47 (0, 0))) := blk_kept HK9.out b10 (blk_lt HK9.out)
  have HO10 : Hid (w10.ownsRow w5.heap.size 5 1 (.slice (some ⟨g, 0, none⟩) sl gc) sl (S.map (Value.int .u8))) := own_below HO9.out b10
  clear csg b10 HB9 HX9 HK9 HO9 x0 x1 x2 x3
  obtain ⟨x0, x1, x2, x3⟩ := HX10.out.kc
  have hms : M < S.length := by have := HMM.out; have := HSLE.out; omega
  obtain ⟨oc, of⟩ := own_cell HO10.out hms
  have hzb := HSY.out M
  obtain ⟨z0, hz0⟩ : ∃ z, z = S.getD M 0 := ⟨_, rfl⟩
  rw [← hz0] at oc hzb
  obtain ⟨z1, hz1⟩ : ∃ z : Int, z = (z0 + 1) % 256 := ⟨_, rfl⟩
  have u1 : IntKind.u8.wrap (z0 + 1) = z1 := by rw [IntKind.wrap_u8]; omega
  have u2 : IntKind.u8.wrap (z1 - 1) = z0 := by rw [IntKind.wrap_u8]; omega
  have HZB : Hid (0 ≤ z1 ∧ z1 < 256 ∧ z1 ≠ z0) := ⟨by omega, by omega, by omega⟩
  have HZ0 : Hid (z0 = S.getD M 0) := hz0
  have hm1 : (M : Int) < (sl : Int) := by have := HMM.out; omega
  have hm0 : (0 : Int) ≤ (M : Int) := by omega
  obtain ⟨w11, hw11⟩ : ∃ x, x = w10.setCell ⟨g, M, none⟩ (.int .u8 z1) := ⟨_, rfl⟩
  have HB11 : Hid (Below w.heap.size w w11) := by unfold Hid; rw [hw11]; exact bt_set HB10.out (by have := HGG.out; have := HZ5.out; omega)
  have HX11 : Hid (KB w11 w4.heap.size k c n (.slice ba bl bc)) := by unfold Hid; rw [hw11]; exact other_set HX10.out (by have := HGG.out; have := HZ5.out; omega)
  have HK11 : Hid (w11.heap[w.heap.size]? = some (.cells KU 47 (0, 0))) := by unfold Hid; rw [hw11]; exact other_set HK10.out (by have := HGG.out; have := HZ5.out; omega)
  have HO11 : Hid (w11.ownsRow w5.heap.size 5 1 (.slice (some ⟨g, 0, none⟩) sl gc) sl ((S.set M z1).map (Value.int .u8))) := by unfold Hid; rw [hw11]; exact own_set HO10.out
  have HE15 : Hid ((opM K (S.set M z1)).e = 15) := HM2.out z1 (by rw [← HZ0.out]; exact HZB.out.2.2)
  have HSY1 : Hid (Sh.Pl.Byt (S.set M z1)) := byt_set HSY.out ⟨HZB.out.1, HZB.out.2.1⟩
  clear hz0 hz1 hzb hms HB10 HX10 HK10 HO10
  go_upto_region 12 with fail
  try rw [← hw11]
  clear hw11 oc of x0 x1 x2 x3 k1 k2 k3 u1
  have co := HOP.out w11 _ (S.set M z1) HB11.out (sl_owned HO11.out HSY1.out) (by rw [List.length_set]; have := HSLE.out; have := HLS.out.1; omega)
  rw [HE15.out] at co
  go_wp2_with (refine wpList_load_row rfl 47 _ rfl w.heap.size rfl 47 KU (0, 0) _ HK11.out Tryz.underlying47 rfl HI.out (Hid.out ?_))
  try unfold Hid
  try go_wp2_with fail
  refine co.mono ?_
  rintro e w12 ⟨dv2, fv2, rfl, sd, rf, -, b12⟩
  obtain ⟨ea, ec, rfl, -⟩ := id sd
  obtain ⟨ga, gc2, rfl⟩ := rf.shape
  generalize (opM K (S.set M z1)).k = ok at *
  generalize (opM K (S.set M z1)).c = oc at *
  generalize (opM K (S.set M z1)).n = on' at *
  generalize (opM K (S.set M z1)).body.length = ob at *
  generalize (opM K (S.set M z1)).fs.length = ofl at *
  have HB12 : Hid (Below w.heap.size w w12) := HB11.out.trans (b12.mono HB11.out.size)
  obtain ⟨w13, hw13⟩ : ∃ x, x = w12.alloc (.cells #[.int .u8 ok, .int .i64 oc, .int .i64 on', .slice ea ob ec] 51) := ⟨_, rfl⟩
  have bw13 : Below w12.heap.size w12 w13 := by rw [hw13]; exact al_below _ _
  have hst : (w12.alloc (.cells #[.int .u8 0, .int .i64 0, .int .i64 0, .slice none 0 0] 51)).setRow w12.heap.size #[.int .u8 ok, .int .i64 oc, .int .i64 on', .slice ea ob ec] = w13 := by rw [hw13]; exact World.setRow_alloc_new _ _ _ _
  have HG0 : Hid (KB (w12.alloc (.cells #[.int .u8 0, .int .i64 0, .int .i64 0, .slice none 0 0] 51)) w12.heap.size 0 0 0 (.slice none 0 0)) := KB.new _ _ _ _ _
  have HX13 : Hid (KB w13 w4.heap.size k c n (.slice ba bl bc)) := KB.kept (HX11.out.kept b12) bw13
  have HB13 : Hid (Below w.heap.size w w13) := HB12.out.trans (bw13.mono HB12.out.size)
  have HK13 : Hid (w13.heap[w.heap.size]? = some (.cells KU 47 (0, 0))) := blk_kept (blk_kept HK11.out b12 (blk_lt HK11.out)) bw13 (Nat.lt_of_lt_of_le (blk_lt HK11.out) b12.size)
  have HO13 : Hid (w13.ownsRow w5.heap.size 5 1 (.slice (some ⟨g, 0, none⟩) sl gc) sl ((S.set M z1).map (Value.int .u8))) := own_below (own_below HO11.out b12) bw13
  obtain ⟨oc3, of3⟩ := own_cell HO13.out (i := M) (by rw [List.length_set]; have := HMM.out; have := HSLE.out; omega)
  rw [show (S.set M z1).getD M 0 = z1 by rw [List.getD, List.getElem?_set_self (by have := HMM.out; have := HSLE.out; omega)]; rfl] at oc3
  obtain ⟨w14, hw14⟩ : ∃ x, x = w13.setCell ⟨g, M, none⟩ (.int .u8 z0) := ⟨_, rfl⟩
  have HB14 : Hid (Below w.heap.size w w14) := by unfold Hid; rw [hw14]; exact bt_set HB13.out (by have := HGG.out; have := HZ5.out; omega)
  have HX14 : Hid (KB w14 w4.heap.size k c n (.slice ba bl bc)) := by unfold Hid; rw [hw14]; exact other_set HX13.out (by have := HGG.out; have := HZ5.out; omega)
  have HK14 : Hid (w14.heap[w.heap.size]? = some (.cells KU 47 (0, 0))) := by unfold Hid; rw [hw14]; exact other_set HK13.out (by have := HGG.out; have := HZ5.out; omega)
  have HO14 : Hid (w14.ownsRow w5.heap.size 5 1 (.slice (some ⟨g, 0, none⟩) sl gc) sl (S.map (Value.int .u8))) := by
    have := own_set (i := M) (z := z0) HO13.out
    rw [List.set_set, HZ0.out, set_getD] at this
    unfold Hid
    rw [hw14, HZ0.out]
    exact this
  clear co sd rf b12 HB11 HX11 HK11 HO11 HB12 HB13 HX13 HK13 HO13 bw13 hw13
  go_upto_region 13 with (refine wpList_store_row rfl 51 _ _ rfl w12.heap.size #[.int .u8 ok, .int .i64 oc, .int .i64 on', .slice ea ob ec] rfl rfl 51 _ HG0.out infoK rfl (k4_one _ _ _ _ _ _) ?_)
  try rw [hst]
  clear hst HG0
  go_upto_region 14 with fail
  try rw [← hw14]
  clear hw14 oc3 of3 u2
  obtain ⟨C, hC⟩ : ∃ C, C = S.take M := ⟨_, rfl⟩
  have sC : Sl w14 (.slice (some ⟨g, 0, none⟩) M gc) C := by rw [hC]; exact (sl_owned HO14.out HSY.out).take M (by have := HMM.out; omega)
  have hCl : C.length = M := by rw [hC, List.length_take]; have := HMM.out; have := HSLE.out; omega
  have HCB : Hid (Sh.Pl.Byt C) := sC.bytes
  have hm3 := HM3.out C hC
  have HCC : Hid (∀ x, Below w14.heap.size w14 x → Sl x (.slice (some ⟨g, 0, none⟩) M gc) C) := fun x hx => sC.kept hx
  have k5 : (M : Int) ≤ (gc : Int) := by have := HCAP.out; have := HMM.out; omega
  have k6 : gc ≤ 9223372036854775807 := HCAP.out.2
  have co := HOP.out w14 _ C HB14.out sC (by rw [hCl]; have := HMM.out; have := HLS.out.1; omega)
  have hCl9 : C.length ≤ 90000 := by rw [hCl]; have := HMM.out; have := HLS.out.1; omega
  obtain ⟨J, hJ⟩ : ∃ J, J = (opM K C).e := ⟨_, rfl⟩
  rw [← hJ] at co hm3
  have HM9 : Hid (J = 15 ∨ (J = 3 ∧ X = []) ∨ ((rdM C).e = 0 ∧ selL K (rdM C).k (rdM C).c (rdM C).n (rdM C).body = C)) := hm3
  have HC9 : Hid (C.length ≤ 90000) := hCl9
  clear sC hCl hC hJ hm3 hCl9
  go_upto_region 15 with fail
  go_wp2_with (refine wpList_load_row rfl 47 _ rfl w.heap.size rfl 47 KU (0, 0) _ HK14.out Tryz.underlying47 rfl HI.out (Hid.out ?_))
  try unfold Hid
  try go_wp2_with fail
  refine co.mono ?_
  rintro e w15 ⟨dv2, fv2, rfl, sd, rf, -, b15⟩
  obtain ⟨ea2, ec2, rfl, -⟩ := id sd
  obtain ⟨ga2, gc4, rfl⟩ := rf.shape
  generalize (opM K C).k = ok2 at *
  generalize (opM K C).c = oc2 at *
  generalize (opM K C).n = on2 at *
  generalize (opM K C).body.length = ob2 at *
  generalize (opM K C).fs.length = ofl2 at *
  have HB15 : Hid (Below w.heap.size w w15) := HB14.out.trans (b15.mono HB14.out.size)
  obtain ⟨w16, hw16⟩ : ∃ x, x = w15.alloc (.cells #[.int .u8 ok2, .int .i64 oc2, .int .i64 on2, .slice ea2 ob2 ec2] 51) := ⟨_, rfl⟩
  have bw16 : Below w15.heap.size w15 w16 := by rw [hw16]; exact al_below _ _
  have hst : (w15.alloc (.cells #[.int .u8 0, .int .i64 0, .int .i64 0, .slice none 0 0] 51)).setRow w15.heap.size #[.int .u8 ok2, .int .i64 oc2, .int .i64 on2, .slice ea2 ob2 ec2] = w16 := by rw [hw16]; exact World.setRow_alloc_new _ _ _ _
  have HG0 : Hid (KB (w15.alloc (.cells #[.int .u8 0, .int .i64 0, .int .i64 0, .slice none 0 0] 51)) w15.heap.size 0 0 0 (.slice none 0 0)) := KB.new _ _ _ _ _
  have B46 : Hid (Below w14.heap.size w14 w16) := b15.trans (bw16.mono b15.size)
  have HX16 : Hid (KB w16 w4.heap.size k c n (.slice ba bl bc)) := HX14.out.kept B46.out
  have HB16 : Hid (Below w.heap.size w w16) := HB14.out.trans (B46.out.mono HB14.out.size)
  have HK16 : Hid (w16.heap[w.heap.size]? = some (.cells KU 47 (0, 0))) := blk_kept HK14.out B46.out (blk_lt HK14.out)
  have cpk := ppeek_any _ C w16 (HT.out _ HB16.out).2.2 (HCC.out _ B46.out) HC9.out
  have hkb := rdM_bd C HCB.out
  obtain ⟨Rd, hRd⟩ : ∃ R, R = rdM C := ⟨_, rfl⟩
  rw [← hRd] at cpk HM9 hkb
  obtain ⟨zk, zc, zn', zb, zs, ze⟩ := Rd
  simp only at cpk HM9 hkb
  have HZK : Hid (0 ≤ zk ∧ zk < 256) := hkb
  clear co sd rf b15 HB14 HX14 HK14 HB15 bw16 hw16 hkb hRd
  go_upto_region 16 with (refine wpList_store_row rfl 51 _ _ rfl w15.heap.size #[.int .u8 ok2, .int .i64 oc2, .int .i64 on2, .slice ea2 ob2 ec2] rfl rfl 51 _ HG0.out infoK rfl (k4_one _ _ _ _ _ _) ?_)
  try rw [hst]
  clear hst HG0
  go_wp2_with fail
  refine cpk.mono ?_
  rintro e w17 ⟨pv, rfl, sp, b17⟩
  obtain ⟨pa, pc, rfl, -⟩ := id sp
  obtain ⟨pl, hpl⟩ : ∃ x, x = zb.length := ⟨_, rfl⟩
  have HPL : Hid (pl = zb.length) := hpl
  rw [← hpl] at sp ⊢
  have HB17 : Hid (Below w.heap.size w w17) := HB16.out.trans (b17.mono HB16.out.size)
  obtain ⟨w18, hw18⟩ : ∃ x, x = w17.alloc (.cells #[.int .u8 zk, .int .i64 zc, .int .i64 zn', .slice pa pl pc] 51) := ⟨_, rfl⟩
  have bw18 : Below w17.heap.size w17 w18 := by rw [hw18]; exact al_below _ _
  have hst : (w17.alloc (.cells #[.int .u8 0, .int .i64 0, .int .i64 0, .slice none 0 0] 51)).setRow w17.heap.size #[.int .u8 zk, .int .i64 zc, .int .i64 zn', .slice pa pl pc] = w18 := by rw [hw18]; exact World.setRow_alloc_new _ _ _ _
  have HG0 : Hid (KB (w17.alloc (.cells #[.int .u8 0, .int .i64 0, .int .i64 0, .slice none 0 0] 51)) w17.heap.size 0 0 0 (.slice none 0 0)) := KB.new _ _ _ _ _
  have B48 : Hid (Below w14.heap.size w14 w18) := (B46.out.trans (b17.mono B46.out.size)).trans (bw18.mono (B46.out.trans (b17.mono B46.out.size)).size)
  have HX18 : Hid (KB w18 w4.heap.size k c n (.slice ba bl bc)) := KB.kept (HX16.out.kept b17) bw18
  have HB18 : Hid (Below w.heap.size w w18) := HB17.out.trans (bw18.mono HB17.out.size)
  have HK18 : Hid (w18.heap[w.heap.size]? = some (.cells KU 47 (0, 0))) := blk_kept (blk_kept HK16.out b17 (blk_lt HK16.out)) bw18 (Nat.lt_of_lt_of_le (blk_lt HK16.out) b17.size)
  have HV18 : Hid (KB w18 w17.heap.size zk zc zn' (.slice pa pl pc)) := by unfold Hid; rw [hw18]; exact KB.new _ _ _ _ _
  have cse := HSE.out w18 zk zc zn' pa pl pc zb HB18.out HZK.out (sp.kept bw18) HPL.out
  have HSZ : Hid (Sh.Pl.Byt (selL K zk zc zn' zb)) := selL_byt2 HZK.out sp.bytes
  obtain ⟨S2, hS2⟩ : ∃ S2, S2 = selL K zk zc zn' zb := ⟨_, rfl⟩
  obtain ⟨E2, hE2⟩ : ∃ x, x = selE zk zc zn' zb.length := ⟨_, rfl⟩
  rw [← hS2] at cse HM9 HSZ
  rw [← hE2] at cse
  clear cpk sp b17 HB16 HX16 HK16 HB17 bw18 hw18 hpl hS2 hE2
  go_upto_region 17 with (refine wpList_store_row rfl 51 _ _ rfl w17.heap.size #[.int .u8 zk, .int .i64 zc, .int .i64 zn', .slice pa pl pc] rfl rfl 51 _ HG0.out infoK rfl (k4_one _ _ _ _ _ _) ?_)
  try rw [hst]
  clear hst HG0
  go_wp2_with (first | refine wpList_load_row rfl 47 _ rfl w.heap.size rfl 47 KU (0, 0) _ HK18.out Tryz.underlying47 rfl HI.out (Hid.out ?_) | refine wpList_load_row rfl 51 _ rfl w17.heap.size rfl 51 #[.int .u8 zk, .int .i64 zc, .int .i64 zn', .slice pa pl pc] (0, 0) _ HV18.out Tryz.underlying51 rfl infoK (Hid.out ?_))
  try unfold Hid
  try go_wp2_with (first | refine wpList_load_row rfl 47 _ rfl w.heap.size rfl 47 KU (0, 0) _ HK18.out Tryz.underlying47 rfl HI.out (Hid.out ?_) | refine wpList_load_row rfl 51 _ rfl w17.heap.size rfl 51 #[.int .u8 zk, .int .i64 zc, .int .i64 zn', .slice pa pl pc] (0, 0) _ HV18.out Tryz.underlying51 rfl infoK (Hid.out ?_))
  try unfold Hid
  try go_wp2_with fail
  refine cse.mono ?_
  rintro e w19 ⟨v19, rfl, o19, b19⟩
  have s19 := sl_owned o19 HSZ.out
  obtain ⟨ra, rc, rfl, -⟩ := id s19
  have HB19 : Hid (Below w.heap.size w w19) := HB18.out.trans (b19.mono HB18.out.size)
  obtain ⟨x0, x1, x2, x3⟩ := (HX18.out.kept b19).kc
  have cv1 := s19.conv
  have cv2 := ((HCC.out _ B48.out).kept b19).conv
  have ca := HAW.out w19 HB19.out
  obtain ⟨rl, hrl⟩ : ∃ x, x = S2.length := ⟨_, rfl⟩
  rw [← hrl] at cv1 ⊢
  have hm9 := HM9.out
  have hbl0 : X = [] ↔ bl = 0 := by rw [HBL.out]; exact List.length_eq_zero_iff.symm
  clear cse o19 b19 s19 hrl HB18 HX18 HK18 HV18 HM9 HCC
  by_cases hJ : J = 15
  · subst hJ
    clear hm9 hbl0 cv1 cv2
    go_wp2_with fail
    refine ca.mono ?_
    rintro e w20 ⟨rfl, b20⟩
    have HB20 : Hid (Below w.heap.size w w20) := HB19.out.trans (b20.mono HB19.out.size)
    clear ca b20
    go_wp2
    go_ret
    exact ⟨rfl, HB20.out⟩
  have j1 : (J == 15) = false := by simpa using hJ
  by_cases hB : J = 3 ∧ bl = 0
  · obtain ⟨rfl, hb0⟩ := hB
    have j2 : ((bl : Int) == 0) = true := by simp [hb0]
    clear hm9 hbl0 cv1 cv2 hJ hb0
    go_wp2_with fail
    refine ca.mono ?_
    rintro e w20 ⟨rfl, b20⟩
    have HB20 : Hid (Below w.heap.size w w20) := HB19.out.trans (b20.mono HB19.out.size)
    clear ca b20
    go_wp2
    go_ret
    exact ⟨rfl, HB20.out⟩
  obtain ⟨rfl, hSC⟩ : ze = 0 ∧ S2 = C := by
    rcases hm9 with h | h | h
    · exact absurd h hJ
    · exact absurd ⟨h.1, hbl0.1 h.2⟩ hB
    · exact h
  rw [hSC] at cv1
  generalize strB C = CS at *
  clear hm9 hSC hJ
  by_cases h3 : J = 3
  · subst h3
    have j2 : ((bl : Int) == 0) = false := by simp; omega
    clear hB hbl0
    go_wp2_with fail
    refine ca.mono ?_
    rintro e w20 ⟨rfl, b20⟩
    have HB20 : Hid (Below w.heap.size w w20) := HB19.out.trans (b20.mono HB19.out.size)
    clear ca b20
    go_wp2
    go_ret
    exact ⟨rfl, HB20.out⟩
  have j3 : (J == 3) = false := by simpa using h3
  clear h3 hB hbl0
  go_wp2_with fail
  refine ca.mono ?_
  rintro e w20 ⟨rfl, b20⟩
  have HB20 : Hid (Below w.heap.size w w20) := HB19.out.trans (b20.mono HB19.out.size)
  clear ca b20
  go_wp2
  go_ret
  exact ⟨rfl, HB20.out⟩

theorem contract (H : Type) (enc : TypeId × Value → H) (W : World) (base : Nat) (args : Array Value) (ds gs : List (DataW H)) (before : List MemPlace)
    (hval : ∀ (j : Nat) t v, Tryz.f6.params[j]? = some t → args[j]? = some v → Value.okWide Tryz.prog W .any base t v)
    (hW : DataW.Whole enc Tryz.prog Tryz.f6.params.toList Rows.packetBackSpec.vars false W args.toList ds gs before) (hL : laidMetH Tryz.prog Rows.packetBackRow.laid W)
    (hsz0 : (DataW.weightsEach Tryz.prog (Tryz.f6.params.toList ++ Rows.packetBackSpec.plain.varTypes Tryz.prog) (ds ++ gs)).all (· ≤ reachBytes) = true) :
    Calls Tryz.prog 6 args W fun e W' => ∃ v, e = .returned v ∧ Rows.packetBackSpec.post enc Tryz.prog Tryz.f6 false true false false W args v W' := by
  have hW' := hW
  obtain ⟨p, q, hA0, hV, rfl, hfz, hnd⟩ := hW
  have hA : DataW.TrodAll enc Tryz.prog W 0 (fun _ => true) true Tryz.f6.params.toList args.toList ds p := hA0
  rw [Tryz.params6] at hA hval hsz0
  obtain ⟨v0, vs0, d0, ds0, p0, q0, hargs, rfl, rfl, h0, r0⟩ := trodAll_cons hA
  obtain ⟨v1, vs1, d1, ds1, p1, q1, rfl, rfl, rfl, h1, r1⟩ := trodAll_cons r0
  obtain ⟨v2, vs2, d2, ds2, p2, q2, rfl, rfl, rfl, h2, r2⟩ := trodAll_cons r1
  obtain ⟨rfl, rfl, rfl⟩ := trodAll_nil r2
  obtain rfl : args = #[v0, v1, v2] := by cases args; simp_all
  obtain ⟨rfl, rfl⟩ := trodVars_none hV
  have k0 := h0
  have lt0 : ∀ x ∈ p0, x.block < W.heap.size := by obtain ⟨m, hm⟩ := k0; exact DataW.trod_lt m _ _ _ hm
  obtain ⟨A0, rfl, wl0, wb0⟩ := hash_open (hval 0 47 v0 rfl rfl) h0
  have k1 := h1
  have lt1 : ∀ x ∈ p1, x.block < W.heap.size := by obtain ⟨m, hm⟩ := k1; exact DataW.trod_lt m _ _ _ hm
  obtain ⟨L1, w1⟩ := pkt_in (hval 1 49 v1 rfl rfl) h1
  have k2 := h2
  have lt2 : ∀ x ∈ p2, x.block < W.heap.size := by obtain ⟨m, hm⟩ := k2; exact DataW.trod_lt m _ _ _ hm
  obtain ⟨L2, w2⟩ := fms_in (hval 2 60 v2 rfl rfl) h2
  clear hA0
  refine (walk A0 v1 L1 v2 L2 W (tbs_of hL) wl0 wb0 w1 w2).mono fun e W' ⟨he, bel⟩ => ?_
  subst he
  exact ⟨_, rfl, _, _, _, [], _, [], hW', trodAll_mk1 (shut_bool Tryz.underlying4 _), (trodAll_cons_mk (Below.trod laidOut (by kernel_rfl) (of_decide_eq_true (by kernel_rfl)) k0 bel lt0) (trodAll_cons_mk (Below.trod laidOut (by kernel_rfl) (of_decide_eq_true (by kernel_rfl)) k1 bel lt1) (trodAll_cons_mk (Below.trod laidOut (by kernel_rfl) (of_decide_eq_true (by kernel_rfl)) k2 bel lt2) trodAll_mk0))), rfl, bel.frame _, fun h => by cases h⟩

theorem laid_met (os : Os) : laidMet Tryz.prog Rows.packetBackRow.laid (({ World.holding Tryz.prog os ⟨#[], #[], []⟩ with heap := (((((World.holding Tryz.prog os ⟨#[], #[], []⟩).heap.modify 0 (fun
      | .cells _ t frozen => .cells shpT t frozen
      | o => o)).modify 1 (fun
      | .cells _ t frozen => .cells widT t frozen
      | o => o)).modify 2 (fun
      | .cells _ t frozen => .cells firT t frozen
      | o => o)).modify 3 (fun
      | .cells _ t frozen => .cells rndT t frozen
      | o => o)) } : World).forCall (fun _ _ => 0) ⟨#[], #[.agg #[.int .u8 0, .int .u8 0, .int .u8 0, .int .u8 0, .int .u8 0, .int .u8 0, .int .u8 0, .int .u8 0, .int .u8 0, .int .u8 0, .int .u8 0, .int .u8 0, .int .u8 0, .int .u8 0, .int .u8 0, .int .u8 0, .int .u8 0, .int .u8 0, .int .u8 0, .int .u8 0, .int .u8 0, .int .u8 0, .int .u8 0, .int .u8 0, .int .u8 0, .int .u8 0, .int .u8 0, .int .u8 0, .int .u8 0, .int .u8 0, .int .u8 0, .int .u8 0], .agg #[.int .u8 0, .int .i64 0, .int .i64 0, .slice none 0 0], .slice none 0 0], []⟩).memory :=
  laidMet_of_run' 8 (by kernel_rfl) (by kernel_rfl)
theorem reads (os : Os) {H : Type} (enc : TypeId × Value → H) : ∃ places, DataW.whole enc Tryz.prog (({ World.holding Tryz.prog os ⟨#[], #[], []⟩ with heap := (((((World.holding Tryz.prog os ⟨#[], #[], []⟩).heap.modify 0 (fun
      | .cells _ t frozen => .cells shpT t frozen
      | o => o)).modify 1 (fun
      | .cells _ t frozen => .cells widT t frozen
      | o => o)).modify 2 (fun
      | .cells _ t frozen => .cells firT t frozen
      | o => o)).modify 3 (fun
      | .cells _ t frozen => .cells rndT t frozen
      | o => o)) } : World).forCall (fun _ _ => 0) ⟨#[], #[.agg #[.int .u8 0, .int .u8 0, .int .u8 0, .int .u8 0, .int .u8 0, .int .u8 0, .int .u8 0, .int .u8 0, .int .u8 0, .int .u8 0, .int .u8 0, .int .u8 0, .int .u8 0, .int .u8 0, .int .u8 0, .int .u8 0, .int .u8 0, .int .u8 0, .int .u8 0, .int .u8 0, .int .u8 0, .int .u8 0, .int .u8 0, .int .u8 0, .int .u8 0, .int .u8 0, .int .u8 0, .int .u8 0, .int .u8 0, .int .u8 0, .int .u8 0, .int .u8 0], .agg #[.int .u8 0, .int .i64 0, .int .i64 0, .slice none 0 0], .slice none 0 0], []⟩).memory Tryz.f6.params.toList Rows.packetBackSpec.vars false #[Value.agg #[.int .u8 0, .int .u8 0, .int .u8 0, .int .u8 0, .int .u8 0, .int .u8 0, .int .u8 0, .int .u8 0, .int .u8 0, .int .u8 0, .int .u8 0, .int .u8 0, .int .u8 0, .int .u8 0, .int .u8 0, .int .u8 0, .int .u8 0, .int .u8 0, .int .u8 0, .int .u8 0, .int .u8 0, .int .u8 0, .int .u8 0, .int .u8 0, .int .u8 0, .int .u8 0, .int .u8 0, .int .u8 0, .int .u8 0, .int .u8 0, .int .u8 0, .int .u8 0], .agg #[.int .u8 0, .int .i64 0, .int .i64 0, .slice none 0 0], .slice none 0 0].toList 8 = some ([.agg [.lit (.int .u8 0), .lit (.int .u8 0), .lit (.int .u8 0), .lit (.int .u8 0), .lit (.int .u8 0), .lit (.int .u8 0), .lit (.int .u8 0), .lit (.int .u8 0), .lit (.int .u8 0), .lit (.int .u8 0), .lit (.int .u8 0), .lit (.int .u8 0), .lit (.int .u8 0), .lit (.int .u8 0), .lit (.int .u8 0), .lit (.int .u8 0), .lit (.int .u8 0), .lit (.int .u8 0), .lit (.int .u8 0), .lit (.int .u8 0), .lit (.int .u8 0), .lit (.int .u8 0), .lit (.int .u8 0), .lit (.int .u8 0), .lit (.int .u8 0), .lit (.int .u8 0), .lit (.int .u8 0), .lit (.int .u8 0), .lit (.int .u8 0), .lit (.int .u8 0), .lit (.int .u8 0), .lit (.int .u8 0)], .agg [.lit (.int .u8 0), .lit (.int .i64 0), .lit (.int .i64 0), .nil], .nil], [], places) :=
  ⟨[], by kernel_rfl⟩

set_option maxRecDepth 100000 in
theorem lifted (os : Os) (started : os.Started) (H : Type) (enc : TypeId × Value → H) (F : Stop.Interp) :
    ReturnsInHanded {} Tryz.checked os 6 .any ((OpenSpec.ofChange Rows.packetBackSpec).preRow enc Tryz.prog Tryz.f6 Rows.packetBackRow.domain false Rows.packetBackRow.laid) (((OpenSpec.ofChange Rows.packetBackSpec).at F).post enc Tryz.prog Tryz.f6 false true false false) := by
  obtain ⟨places, hx⟩ := reads os enc
  refine returnsInHanded_of_row (C := Tryz.checked) (s := OpenSpec.ofChange Rows.packetBackSpec) own started (by kernel_rfl) Tryz.func6
    (witness_row_at (enc := enc) (C := Tryz.checked) false ({ World.holding Tryz.prog os ⟨#[], #[], []⟩ with heap := (((((World.holding Tryz.prog os ⟨#[], #[], []⟩).heap.modify 0 (fun
      | .cells _ t frozen => .cells shpT t frozen
      | o => o)).modify 1 (fun
      | .cells _ t frozen => .cells widT t frozen
      | o => o)).modify 2 (fun
      | .cells _ t frozen => .cells firT t frozen
      | o => o)).modify 3 (fun
      | .cells _ t frozen => .cells rndT t frozen
      | o => o)) } : World) #[.agg #[.int .u8 0, .int .u8 0, .int .u8 0, .int .u8 0, .int .u8 0, .int .u8 0, .int .u8 0, .int .u8 0, .int .u8 0, .int .u8 0, .int .u8 0, .int .u8 0, .int .u8 0, .int .u8 0, .int .u8 0, .int .u8 0, .int .u8 0, .int .u8 0, .int .u8 0, .int .u8 0, .int .u8 0, .int .u8 0, .int .u8 0, .int .u8 0, .int .u8 0, .int .u8 0, .int .u8 0, .int .u8 0, .int .u8 0, .int .u8 0, .int .u8 0, .int .u8 0], .agg #[.int .u8 0, .int .i64 0, .int .i64 0, .slice none 0 0], .slice none 0 0] rfl (by kernel_rfl) (by kernel_rfl) (by kernel_rfl)
      (OpenSpec.preRow_of_cond 8 hx (by kernel_rfl) (fun k hk => by cases hk) (by kernel_rfl) (laid_met os))) ?_
  intro W base args ds gs before hval hW _ _ hsz hL _ _
  exact contract H enc W base args ds gs before hval hW hL hsz

theorem said : Rows.PacketBackSaid :=
  OpenClaim.holds_of_cond 6 Tryz.f6 rfl rfl rfl rfl rfl rfl rfl ⟨rfl, rfl, rfl, rfl, rfl⟩ rfl rfl rfl rfl rfl (by kernel_rfl) Tryz.func6 (by kernel_rfl)
    (of_decide_eq_true (by kernel_rfl)) (by unfold Func.isWrapper; first | (rw [if_pos (by decide +kernel)]; kernel_rfl) | (rw [if_neg (by decide +kernel)]; exact ⟨rfl, rfl⟩))
    (fun os started H enc _ F => by rw [OpenClaim.pre_eq_preRow]; exact lifted os started H enc F)

theorem plain (f : FuncId) (fn : Func) (hf : Tryz.pinned.checked.prog.funcNamed "sumpter/sumpterlaw19.PacketBack" = some f) (hfn : Tryz.pinned.checked.prog.funcs[f]? = some fn) :
    true = Tryz.pinned.checked.prog.looks [] ∧ ∀ (j : Nat) t, fn.params[j]? = some t → Tryz.pinned.checked.prog.wantsStandIn t = false := by
  obtain rfl : f = 6 := Option.some.inj ((show Tryz.prog.funcNamed "sumpter/sumpterlaw19.PacketBack" = some 6 by kernel_rfl).symm.trans hf) |>.symm
  obtain rfl : fn = Tryz.f6 := (Option.some.inj (Tryz.func6.symm.trans hfn)).symm
  refine ⟨by kernel_rfl, fun j t ht => ?_⟩
  rw [Tryz.params6] at ht
  have hm : t ∈ [47, 49, 60] := by simpa using Array.mem_of_getElem? ht
  have hall : ([47, 49, 60].all fun u => !Tryz.prog.wantsStandIn u) = true := by kernel_rfl
  exact (show Tryz.prog.wantsStandIn t = false by simpa using List.all_eq_true.1 hall t hm)
end Go.Proofs.YtiollhmbdhepkaaGreatDoor.packetBack

namespace Go.Proofs.YtiollhmbdhepkaaGreatDoor
/-- The card of PacketBack. -/
theorem packetBack_card : Rows.PacketBackCardSaid :=
  Claim7.holds_tied_plain_at .later [] _ _ _ _ packetBack.said (fun _ h => by cases h) (by kernel_rfl) (fun _ h => by cases h) packetBack_row_tie rfl ⟨rfl, rfl⟩ (by kernel_rfl) rfl packetBack.plain (by kernel_rfl)
#print axioms packetBack_card
end Go.Proofs.YtiollhmbdhepkaaGreatDoor
