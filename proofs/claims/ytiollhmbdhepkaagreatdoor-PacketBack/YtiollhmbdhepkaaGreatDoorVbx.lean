/- Ytiollhmbdhepkaa: what PacketBack reaches, joined and cut (its parts: wip) -/
import Derived.Test.YtiollhmbdhepkaaGreatDoorVbu
import Derived.Test.YtiollhmbdhepkaaGreatDoorVay
import Derived.Test.YtiollhmbdhepkaaGreatDoorVbr
import Derived.Test.YtiollhmbdhepkaaGreatDoorVbs
import Derived.Test.YtiollhmbdhepkaaGreatDoorVbw
import Derived.Test.YtiollhmbdhepkaaGreatDoorVbv
import Derived.Laws.OwnMore
import Derived.Test.YtiollhmbdhepkaaGreatDoorVbb
namespace Go.Proofs.YtiollhmbdhepkaaGreatDoor
open Go.RowKit
set_option maxRecDepth 100000
theorem retPk {tmps:Array Value} {w:World} {g:Nat} {cs:Array Value} {t:TypeId} {fr:Nat × Nat} (hp:tmps.getD 2 undef = .pointer (some ⟨g,0,none⟩))
 (hg:w.heap[g]? = some (.cells cs t fr)) (hl:(Tryz.prog.info? 51).map (·.size)=some cs.size):(results Tryz.f32 tmps).run Tryz.prog w = .ok (.tuple #[.agg cs,tmps.getD 3 undef]) w:=by
 have hld:(loadVar 51 ⟨g,0,none⟩).run Tryz.prog w = .ok (.agg cs) w:=run_loadVar_row w g t 51 cs fr _ hg Tryz.underlying51 rfl hl
 have hr:Tryz.f32.results=#[.cell 2 51,.tmp 3]:=rfl
 have hp':tmps[2]?.getD undef = .pointer (some ⟨g,0,none⟩):=by simpa using hp
 simp [results,hp',asAddr,hld]
set_option maxHeartbeats 8000000 in
theorem ppeek_any (v:Value) (xs:List Int) (w:World) (hw:Fi.Wid w) (h:Sl w v xs) (hl:xs.length≤90000) :
 Calls Tryz.prog 32 #[v] w fun e w'=>∃bv,e = .returned (.tuple #[.agg #[.int .u8 (rdM xs).k,.int .i64 (rdM xs).c,.int .i64 (rdM xs).n,bv],.int .i64 (rdM xs).e])∧Sl w' bv (rdM xs).body∧Below w.heap.size w w':=by
 obtain ⟨W1,hW1⟩:∃W1,W1=w.alloc (.cells #[.int .u8 0,.int .i64 0,.int .i64 0,.slice none 0 0] 51):=⟨_,rfl⟩
 have b1:Below w.heap.size w W1:=by rw [hW1];exact al_below _ _
 have z1:W1.heap.size=w.heap.size+1:=by rw [hW1];simp
 have A1:Hid (KB W1 w.heap.size 0 0 0 (.slice none 0 0)):=by unfold Hid;rw [hW1];exact KB.new _ _ _ _ _
 have B1:Hid (Below w.heap.size w W1):=b1
 have cr:=pread_any v xs W1 (hw.below b1 hw.pos) (h.kept b1) hl
 obtain ⟨av,cv',rfl,-⟩:=id h
 obtain ⟨R,hR⟩:∃R,R=rdM xs:=⟨_,rfl⟩
 rw [←hR] at cr ⊢
 obtain ⟨k,c,n,B,S,er⟩:=R
 simp only at cr ⊢
 clear b1 hw h hl hR
 generalize xs.length=xl at *
 go_enter Tryz.func32,Tryz.ntmps32
 go_upto_region 1 with fail
 rw [←hW1]
 clear hW1
 go_wp2_with fail
 refine cr.mono ?_
 rintro e w3 ⟨bv,sv,rfl,sb,ss,fb,b3⟩
 obtain ⟨ba,bc,rfl,-⟩:=id sb
 obtain ⟨sa,sc,rfl,-⟩:=id ss
 obtain ⟨bl,hbl⟩:∃l,l=B.length:=⟨_,rfl⟩
 obtain ⟨sl,hsl⟩:∃l,l=S.length:=⟨_,rfl⟩
 rw [←hbl] at sb fb ⊢
 rw [←hsl] at ss ⊢
 obtain ⟨w4,hw4⟩:∃w4,w4=w3.alloc (.cells #[.int .u8 k,.int .i64 c,.int .i64 n,.slice ba bl bc,.slice sa sl sc] 104):=⟨_,rfl⟩
 have b4:Below w3.heap.size w3 w4:=by rw [hw4];exact al_below _ _
 have A4:Hid (KB w4 w.heap.size 0 0 0 (.slice none 0 0)):=KB.kept (A1.out.kept b3) b4
 have B3:Hid (Below w.heap.size w w3):=B1.out.trans (b3.mono B1.out.size)
 have B4:Hid (Below w.heap.size w w4):=B3.out.trans (b4.mono B3.out.size)
 have D4:Hid (GB w4 w3.heap.size k c n (.slice ba bl bc) (.slice sa sl sc)):=by unfold Hid;rw [hw4];exact GB.new _ _ _ _ _ _
 have SB4:Hid (Sl w4 (.slice ba bl bc) B):=sb.kept b4
 have FR:Hid (∀x,ba=some x→x.block≠w.heap.size):=fun x hx=>by have:=fb x.block (by rw [hx];rfl);omega
 have XZ:Hid (Sl (w4.setRow w.heap.size #[.int .u8 k,.int .i64 c,.int .i64 n,.slice ba bl bc]) (.slice ba bl bc) B):=sl_otherR2 SB4.out FR.out
 have RR:Hid (w4.rangeAt w3.heap.size 0 [.int .u8 k,.int .i64 c,.int .i64 n,.slice ba bl bc]):=D4.out.four
 have hst:(w3.alloc (.cells #[.int .u8 0,.int .i64 0,.int .i64 0,.slice none 0 0,.slice none 0 0] 104)).setRow w3.heap.size #[.int .u8 k,.int .i64 c,.int .i64 n,.slice ba bl bc,.slice sa sl sc]=w4:=by rw [hw4];exact World.setRow_alloc_new _ _ _ _
 have HG0:Hid (GB (w3.alloc (.cells #[.int .u8 0,.int .i64 0,.int .i64 0,.slice none 0 0,.slice none 0 0] 104)) w3.heap.size 0 0 0 (.slice none 0 0) (.slice none 0 0)):=GB.new _ _ _ _ _ _
 clear cr sb ss fb b3 b4 A1 B1 B3 SB4 hw4 hbl hsl z1 D4
 go_upto_region 2 with (refine wpList_store_row rfl 104 _ _ rfl w3.heap.size #[.int .u8 k,.int .i64 c,.int .i64 n,.slice ba bl bc,.slice sa sl sc] rfl rfl 104 _ HG0.out infoG rfl (g5_one _ _ _ _ _ _ _ _ _) ?_)
 try rw [hst]
 clear hst HG0
 go_wp2_with (first | refine wpList_load_mid rfl 51 _ rfl w3.heap.size 0 rfl [.int .u8 k,.int .i64 c,.int .i64 n,.slice ba bl bc] _ RR.out Tryz.underlying51 rfl infoK (Hid.out ?_) | refine wpList_store_row rfl 51 _ _ rfl w.heap.size #[.int .u8 k,.int .i64 c,.int .i64 n,.slice ba bl bc] rfl rfl 51 _ A4.out infoK rfl (k4_one _ _ _ _ _ _) (Hid.out ?_))
 try unfold Hid
 try go_wp2_with (first | refine wpList_load_mid rfl 51 _ rfl w3.heap.size 0 rfl [.int .u8 k,.int .i64 c,.int .i64 n,.slice ba bl bc] _ RR.out Tryz.underlying51 rfl infoK (Hid.out ?_) | refine wpList_store_row rfl 51 _ _ rfl w.heap.size #[.int .u8 k,.int .i64 c,.int .i64 n,.slice ba bl bc] rfl rfl 51 _ A4.out infoK rfl (k4_one _ _ _ _ _ _) (Hid.out ?_))
 try unfold Hid
 try go_wp2
 refine bodyPost_ret (retPk rfl (setRow_heap _ _ _ _ _ _ A4.out) infoK) rfl ?_
 exact ⟨.slice ba bl bc,rfl,XZ.out,below_setRow B4.out (Nat.le_refl _) _⟩
end Go.Proofs.YtiollhmbdhepkaaGreatDoor
namespace Go.Proofs.YtiollhmbdhepkaaGreatDoor
open Go.RowKit
set_option maxRecDepth 100000
def smP (k c n:Int) (X:List Int) (k' c' n':Int) (X':List Int):Bool:=(k==k')&&(c==c')&&(n==n')&&decide (X=X')
theorem smP_refl (k c n:Int) (X:List Int):smP k c n X k c n X=true:=by simp [smP]
set_option maxHeartbeats 8000000 in
theorem psame_any (k c n:Int) (a:Option Addr) (m cp:Nat) (X:List Int) (k' c' n':Int) (a':Option Addr) (m' cp':Nat) (X':List Int) (w:World) (sx:Sl w (.slice a m cp) X) (sy:Sl w (.slice a' m' cp') X') :
 Calls Tryz.prog 29 #[.agg #[.int .u8 k,.int .i64 c,.int .i64 n,.slice a m cp],.agg #[.int .u8 k',.int .i64 c',.int .i64 n',.slice a' m' cp']] w fun e w'=>e = .returned (.bool (smP k c n X k' c' n' X'))∧Below w.heap.size w w':=by
 obtain ⟨W1,hW1⟩:∃W1,W1=w.alloc (.cells #[.int .u8 k,.int .i64 c,.int .i64 n,.slice a m cp] 49):=⟨_,rfl⟩
 obtain ⟨W2,hW2⟩:∃W2,W2=W1.alloc (.cells #[.int .u8 k',.int .i64 c',.int .i64 n',.slice a' m' cp'] 49):=⟨_,rfl⟩
 have b1:Below w.heap.size w W1:=by rw [hW1];exact al_below _ _
 have z1:W1.heap.size=w.heap.size+1:=by rw [hW1];simp
 have b12:Below W1.heap.size W1 W2:=by rw [hW2];exact al_below _ _
 have HB:Hid (Below w.heap.size w W2):=b1.trans (b12.mono b1.size)
 have g1:W1.heap[w.heap.size]? = some (.cells #[.int .u8 k,.int .i64 c,.int .i64 n,.slice a m cp] 49 (0,0)):=by rw [hW1];exact heap_alloc_new _ _
 have g1':W2.heap[w.heap.size]? = some (.cells #[.int .u8 k,.int .i64 c,.int .i64 n,.slice a m cp] 49 (0,0)):=blk_kept g1 b12 (blk_lt g1)
 have g2:W2.heap[w.heap.size+1]? = some (.cells #[.int .u8 k',.int .i64 c',.int .i64 n',.slice a' m' cp'] 49 (0,0)):=by rw [←z1,hW2];exact heap_alloc_new _ _
 have c0:W2.cell? ⟨w.heap.size,0,none⟩=some (.int .u8 k):=by simp [World.cell?,g1']
 have c1:W2.cell? ⟨w.heap.size,1,none⟩=some (.int .i64 c):=by simp [World.cell?,g1']
 have c2:W2.cell? ⟨w.heap.size,2,none⟩=some (.int .i64 n):=by simp [World.cell?,g1']
 have c3:W2.cell? ⟨w.heap.size,3,none⟩=some (.slice a m cp):=by simp [World.cell?,g1']
 have d0:W2.cell? ⟨w.heap.size+1,0,none⟩=some (.int .u8 k'):=by simp [World.cell?,g2]
 have d1:W2.cell? ⟨w.heap.size+1,1,none⟩=some (.int .i64 c'):=by simp [World.cell?,g2]
 have d2:W2.cell? ⟨w.heap.size+1,2,none⟩=some (.int .i64 n'):=by simp [World.cell?,g2]
 have d3:W2.cell? ⟨w.heap.size+1,3,none⟩=some (.slice a' m' cp'):=by simp [World.cell?,g2]
 have e1:=(sx.kept HB.out).conv
 have e2:=(sy.kept HB.out).conv
 have hD:((strB X).toList==(strB X').toList)=decide (X=X'):=strB_beq sx.bytes sy.bytes
 have hW2':W2=(w.alloc (.cells #[.int .u8 k,.int .i64 c,.int .i64 n,.slice a m cp] 49)).alloc (.cells #[.int .u8 k',.int .i64 c',.int .i64 n',.slice a' m' cp'] 49):=by rw [hW2,hW1]
 unfold smP
 clear hW2 b1 b12 g1 g1' g2 z1 sx sy hW1
 have hW2:=hW2'
 clear hW2'
 generalize decide (X=X')=D at *
 generalize strB X=SX at *
 generalize strB X'=SY at *
 by_cases h0:k=k'
 · have t0:(k==k')=true:=by simpa using h0
   by_cases h1:c=c'
   · have t1:(c==c')=true:=by simpa using h1
     by_cases h2:n=n'
     · have t2:(n==n')=true:=by simpa using h2
       rw [t0,t1,t2,Bool.true_and,Bool.true_and,Bool.true_and]
       clear h0 h1 h2
       go_enter Tryz.func29,Tryz.ntmps29
       go_upto_region 1 with fail
       rw [←hW2]
       clear hW2
       go_wp2
       go_ret
       exact ⟨rfl,HB.out⟩
     · have t2:(n==n')=false:=by simpa using h2
       rw [t0,t1,t2,Bool.and_false,Bool.false_and]
       clear h0 h1 h2
       go_enter Tryz.func29,Tryz.ntmps29
       go_upto_region 1 with fail
       rw [←hW2]
       clear hW2
       go_wp2
       go_ret
       exact ⟨rfl,HB.out⟩
   · have t1:(c==c')=false:=by simpa using h1
     rw [t0,t1,Bool.and_false,Bool.false_and,Bool.false_and]
     clear h0 h1
     go_enter Tryz.func29,Tryz.ntmps29
     go_upto_region 1 with fail
     rw [←hW2]
     clear hW2
     go_wp2
     go_ret
     exact ⟨rfl,HB.out⟩
 · have t0:(k==k')=false:=by simpa using h0
   rw [t0,Bool.false_and,Bool.false_and,Bool.false_and]
   clear h0
   go_enter Tryz.func29,Tryz.ntmps29
   go_upto_region 1 with fail
   rw [←hW2]
   clear hW2
   go_wp2
   go_ret
   exact ⟨rfl,HB.out⟩
end Go.Proofs.YtiollhmbdhepkaaGreatDoor
namespace Go.Proofs.YtiollhmbdhepkaaGreatDoor
open Go.RowKit Go.Shelf
set_option maxRecDepth 100000
set_option maxHeartbeats 8000000 in
theorem putG_any (p:Fm) (sv:Value) (w:World) (ht:Tb w) (hp:FP w p sv) (hv:∃t y,frV p sv = .iface t y)
 (cf:Calls Tryz.prog 51 #[frV p sv] w fun e w'=>∃sv',e = .returned (.agg (plA p sv'))∧RSp w' w.heap.size sv' p.sp∧Below w.heap.size w w')
 (hcl:∀(sv:Value) (w:World),Tb w→FI w p sv→Ok p→Calls Tryz.prog 52 #[.agg (plA p sv)] w fun e w'=>∃v,e = .returned v∧Ow w' w.heap.size v (putM p)∧Below w.heap.size w w') :
 Calls Tryz.prog 14 #[frV p sv] w fun e w'=>∃v,e = .returned (.tuple #[v,.int .i64 (chkM p)])∧Ow w' w.heap.size v (putR p)∧Below w.heap.size w w':=by
 have HCL:Hid (∀(sv:Value) (w:World),Tb w→FI w p sv→Ok p→Calls Tryz.prog 52 #[.agg (plA p sv)] w fun e w'=>∃v,e = .returned v∧Ow w' w.heap.size v (putM p)∧Below w.heap.size w w'):=hcl
 clear hcl
 obtain ⟨ty,y,hy⟩:=hv
 rw [hy] at cf ⊢
 have HP:Hid (FP w p sv):=hp
 have HT:Hid (Tb w):=ht
 have HSZ:Hid (∀v,(Tryz.prog.info? 33).map (·.size)=some (plA p v).size):=fun v=>by rw [plA_size hp.k.nl];exact infoP
 have HSL:Hid (∀v,(Tryz.prog.info? 33).map (·.size)=some (plL p v).length):=fun v=>by rw [plL_len hp.k.nl];exact infoP
 have HON:Hid (∀(a:Option Addr) (m c:Nat),(plA p (.slice a m c)).all (·.oneCell')=true):=fun a m c=>all_oneCell_toArray (plL_one rfl)
 have HO23:Hid (∀v,(plA Fm.zero (.slice none 0 0)).size=(plA p v).size):=fun v=>by rw [plA_size hp.k.nl];rfl
 clear hp ht
 go_enter Tryz.func14,Tryz.ntmps14
 go_wp2_with fail
 refine cf.mono ?_
 rintro e w1 ⟨s1,rfl,r1,b1⟩
 obtain ⟨sa,sc,rfl,-,-,-⟩:=r1.is.shape
 obtain ⟨W2,hW2⟩:∃W2,W2=w1.alloc (.cells (plA p (.slice sa p.sp.length sc)) 33):=⟨_,rfl⟩
 have b2:Below w1.heap.size w1 W2:=by rw [hW2];exact al_below _ _
 have HB2:Hid (Below w.heap.size w W2):=b1.trans (b2.mono b1.size)
 have hal:=alloc_pl (w:=w1) p (.slice sa p.sp.length sc) 33 #[.int .u8 0,.int .i64 0,.int .i64 0,.int .i64 0,.bool false,.string ⟨#[]⟩,.int .u8 0,.int .u8 0,.int .u8 0,.int .u8 0,.int .u8 0,.int .u8 0,.int .u8 0,.int .u8 0,.int .u8 0,.int .u8 0,.int .u8 0,.int .u8 0,.int .u8 0,.int .u8 0,.int .u8 0,.int .u8 0,.slice none 0 0] rfl
 rw [←hW2] at hal
 have HAL:Hid ((w1.alloc (.cells #[.int .u8 0,.int .i64 0,.int .i64 0,.int .i64 0,.bool false,.string ⟨#[]⟩,.int .u8 0,.int .u8 0,.int .u8 0,.int .u8 0,.int .u8 0,.int .u8 0,.int .u8 0,.int .u8 0,.int .u8 0,.int .u8 0,.int .u8 0,.int .u8 0,.int .u8 0,.int .u8 0,.int .u8 0,.int .u8 0,.slice none 0 0] 33)).setRow w1.heap.size (plA p (.slice sa p.sp.length sc))=W2):=hal
 have HNEW:Hid ((w1.alloc (.cells #[.int .u8 0,.int .i64 0,.int .i64 0,.int .i64 0,.bool false,.string ⟨#[]⟩,.int .u8 0,.int .u8 0,.int .u8 0,.int .u8 0,.int .u8 0,.int .u8 0,.int .u8 0,.int .u8 0,.int .u8 0,.int .u8 0,.int .u8 0,.int .u8 0,.int .u8 0,.int .u8 0,.int .u8 0,.int .u8 0,.slice none 0 0] 33)).heap[w1.heap.size]? = some (.cells #[.int .u8 0,.int .i64 0,.int .i64 0,.int .i64 0,.bool false,.string ⟨#[]⟩,.int .u8 0,.int .u8 0,.int .u8 0,.int .u8 0,.int .u8 0,.int .u8 0,.int .u8 0,.int .u8 0,.int .u8 0,.int .u8 0,.int .u8 0,.int .u8 0,.int .u8 0,.int .u8 0,.int .u8 0,.int .u8 0,.slice none 0 0] 33 (0,0))):=heap_alloc_new _ _
 have g2:PF W2 w1.heap.size 33 p (.slice sa p.sp.length sc):=by rw [hW2];exact PF.new w1 _ p _
 have HG2:Hid (PF W2 w1.heap.size 33 p (.slice sa p.sp.length sc)):=g2
 have HI2:Hid (FI W2 p (.slice sa p.sp.length sc)):=⟨HP.out.k,(r1.is).kept b2,HP.out.l,HP.out.t⟩
 have cc:=checkF_any p _ W2 (HT.out.next HB2.out) HI2.out
 have HR2:Hid (W2.rangeAt w1.heap.size 0 (plL p (.slice sa p.sp.length sc))):=g2.range
 clear cf b1 r1 b2 hW2 hal g2
 go_wp2_with (refine wpList_store_row rfl 33 _ _ rfl w1.heap.size (plA p (.slice sa p.sp.length sc)) rfl rfl 33 _ HNEW.out (HSZ.out _) (HO23.out _) (HON.out _ _ _) (Hid.out ?_))
 unfold Hid
 rw [HAL.out]
 go_wp2_with (refine wpList_load_mid rfl 33 _ rfl w1.heap.size 0 rfl (plL p (.slice sa p.sp.length sc)) _ HR2.out Tryz.underlying33 rfl (HSL.out _) (Hid.out ?_))
 unfold Hid
 go_wp2_with fail
 refine cc.mono ?_
 rintro e w3 ⟨rfl,b3⟩
 have HB3:Hid (Below w.heap.size w w3):=HB2.out.trans (b3.mono HB2.out.size)
 have HR3:Hid (w3.rangeAt w1.heap.size 0 (plL p (.slice sa p.sp.length sc))):=(HG2.out.kept b3).range
 have HI3:Hid (FI w3 p (.slice sa p.sp.length sc)):=HI2.out.kept b3
 clear cc b3 HR2 HI2 HG2 HNEW HAL
 by_cases h0:chkM p=0
 · have cl:=HCL.out _ w3 (HT.out.next HB3.out) HI3.out (chkM_ok h0)
   have t0:(chkM p != 0)=false:=by rw [h0];rfl
   have HC0:Hid (chkM p=0):=h0
   clear h0
   go_wp2_with (refine wpList_load_mid rfl 33 _ rfl w1.heap.size 0 rfl (plL p (.slice sa p.sp.length sc)) _ HR3.out Tryz.underlying33 rfl (HSL.out _) (Hid.out ?_))
   unfold Hid
   go_wp2_with fail
   refine cl.mono ?_
   rintro e w4 ⟨v4,rfl,o4,b4⟩
   have HB4:Hid (Below w.heap.size w w4):=HB3.out.trans (b4.mono HB3.out.size)
   have HO4:Hid (Ow w4 w.heap.size v4 (putM p)):=o4.mono HB3.out.size
   clear cl b4 o4 HR3
   go_wp2
   go_ret2
   have HE:putR p=putM p:=by unfold putR;rw [if_pos HC0.out]
   exact ⟨_,(by first | rfl | (rw [HC0.out];rfl)),by rw [HE];exact HO4.out,HB4.out⟩
 · have t0:(chkM p != 0)=true:=by simpa using h0
   have HC0:Hid (¬chkM p=0):=h0
   have HNIL:Hid (Ow w3 w.heap.size (.slice none 0 0) []):=⟨World.ownsRow_nil _ _ _ _,fun k=>by simp⟩
   clear h0
   go_wp2
   go_ret2
   have HE:putR p=[]:=by unfold putR;rw [if_neg HC0.out]
   exact ⟨_,rfl,by rw [HE];exact HNIL.out,HB3.out⟩
set_option maxHeartbeats 8000000 in
theorem getG_any (v:Value) (xs:List Int) (w:World) (ht:Tb w) (h:Sl w v xs) (hl:xs.length≤9000000000000000000)
 (hah:∀v,Sl w v (xs.take 1150)→Calls Tryz.prog 69 #[v] w fun e w'=>∃sv,e = .returned (.tuple #[.agg (plA (ahM (xs.take 1150)).1 sv),.int .i64 (ahM (xs.take 1150)).2.1,.int .i64 (ahM (xs.take 1150)).2.2])∧RSp w' w.heap.size sv (ahM (xs.take 1150)).1.sp∧Below w.heap.size w w') :
 Calls Tryz.prog 33 #[v] w fun e w'=>∃sv,e = .returned (.tuple #[frV (getM xs).1 sv,.int .i64 (getM xs).2.1,.int .i64 (getM xs).2.2])∧RSp w' w.heap.size sv (spO (getM xs).1)∧Below w.heap.size w w':=by
 obtain ⟨a,c,rfl,hlc,hcm,hnn,-⟩:=id h
 obtain ⟨m,hm⟩:∃m,m=min xs.length 1150:=⟨_,rfl⟩
 have hxl:(xs.take 1150).length=m:=by rw [List.length_take,hm,Nat.min_comm]
 have hta:=h.take m (by omega)
 rw [show xs.take m=xs.take 1150 by rcases Nat.le_total xs.length 1150 with q | q
                                    · rw [hm,Nat.min_eq_left q,List.take_length,List.take_of_length_le q]
                                    · rw [hm,Nat.min_eq_right q]] at hta
 have ca:=hah (.slice a m c) hta
 clear hah
 have HK:Hid (FK (ahM (xs.take 1150)).1∧(ahM (xs.take 1150)).1.sp.length≤100000∧(ahM (xs.take 1150)).1.tx.size≤140737488355328):=ahM_fk _ hta.bytes (by omega)
 have HGM:Hid (getM xs=if (ahM (xs.take 1150)).2.2≠0 then errM (ahM (xs.take 1150)).2.2 else endM (ahM (xs.take 1150)).1 (ahM (xs.take 1150)).2.1):=rfl
 have emin:min (xs.length:Int) 1150=(m:Int):=by omega
 have e1:(m:Int)≤(c:Int):=by omega
 have e2:0≤(m:Int):=by omega
 have hmx:c≤9223372036854775807:=by unfold maxLen at hcm;omega
 have hna:a=none→m=0∧c=0:=fun e=>by have:=hnn e;omega
 have HT:Hid (Tb w):=ht
 clear h hta ht hnn hm hxl hcm
 generalize ahM (xs.take 1150)=GA at *
 obtain ⟨p,gu,ge⟩:=GA
 simp only at ca HK HGM
 have HSZ:Hid (∀v,(Tryz.prog.info? 33).map (·.size)=some (plA p v).size):=fun v=>by rw [plA_size HK.out.1.nl];exact infoP
 have HSL:Hid (∀v,(Tryz.prog.info? 33).map (·.size)=some (plL p v).length):=fun v=>by rw [plL_len HK.out.1.nl];exact infoP
 have HON:Hid (∀(a:Option Addr) (m c:Nat),(plA p (.slice a m c)).all (·.oneCell')=true):=fun a m c=>all_oneCell_toArray (plL_one rfl)
 have HO23:Hid (∀v,(plA Fm.zero (.slice none 0 0)).size=(plA p v).size):=fun v=>by rw [plA_size HK.out.1.nl];rfl
 generalize xs.length=n9 at *
 cases a with
 | none=>
   obtain ⟨rfl,rfl⟩:=hna rfl
   clear hna
   go_enter Tryz.func33,Tryz.ntmps33
   go_wp2_with fail
   refine ca.mono ?_
   rintro e w1 ⟨s1,rfl,r1,b1⟩
   obtain ⟨sa,sc,rfl,-,-,-⟩:=r1.is.shape
   obtain ⟨W2,hW2⟩:∃W2,W2=w1.alloc (.cells (plA p (.slice sa p.sp.length sc)) 33):=⟨_,rfl⟩
   have b2:Below w1.heap.size w1 W2:=by rw [hW2];exact al_below _ _
   have HB2:Hid (Below w.heap.size w W2):=b1.trans (b2.mono b1.size)
   have hal:=alloc_pl (w:=w1) p (.slice sa p.sp.length sc) 33 #[.int .u8 0,.int .i64 0,.int .i64 0,.int .i64 0,.bool false,.string ⟨#[]⟩,.int .u8 0,.int .u8 0,.int .u8 0,.int .u8 0,.int .u8 0,.int .u8 0,.int .u8 0,.int .u8 0,.int .u8 0,.int .u8 0,.int .u8 0,.int .u8 0,.int .u8 0,.int .u8 0,.int .u8 0,.int .u8 0,.slice none 0 0] rfl
   rw [←hW2] at hal
   have HAL:Hid ((w1.alloc (.cells #[.int .u8 0,.int .i64 0,.int .i64 0,.int .i64 0,.bool false,.string ⟨#[]⟩,.int .u8 0,.int .u8 0,.int .u8 0,.int .u8 0,.int .u8 0,.int .u8 0,.int .u8 0,.int .u8 0,.int .u8 0,.int .u8 0,.int .u8 0,.int .u8 0,.int .u8 0,.int .u8 0,.int .u8 0,.int .u8 0,.slice none 0 0] 33)).setRow w1.heap.size (plA p (.slice sa p.sp.length sc))=W2):=hal
   have HNEW:Hid ((w1.alloc (.cells #[.int .u8 0,.int .i64 0,.int .i64 0,.int .i64 0,.bool false,.string ⟨#[]⟩,.int .u8 0,.int .u8 0,.int .u8 0,.int .u8 0,.int .u8 0,.int .u8 0,.int .u8 0,.int .u8 0,.int .u8 0,.int .u8 0,.int .u8 0,.int .u8 0,.int .u8 0,.int .u8 0,.int .u8 0,.int .u8 0,.slice none 0 0] 33)).heap[w1.heap.size]? = some (.cells #[.int .u8 0,.int .i64 0,.int .i64 0,.int .i64 0,.bool false,.string ⟨#[]⟩,.int .u8 0,.int .u8 0,.int .u8 0,.int .u8 0,.int .u8 0,.int .u8 0,.int .u8 0,.int .u8 0,.int .u8 0,.int .u8 0,.int .u8 0,.int .u8 0,.int .u8 0,.int .u8 0,.int .u8 0,.int .u8 0,.slice none 0 0] 33 (0,0))):=heap_alloc_new _ _
   have g2:PF W2 w1.heap.size 33 p (.slice sa p.sp.length sc):=by rw [hW2];exact PF.new w1 _ p _
   have HG2:Hid (PF W2 w1.heap.size 33 p (.slice sa p.sp.length sc)):=g2
   have HI2:Hid (FI W2 p (.slice sa p.sp.length sc)):=⟨HK.out.1,(r1.is).kept b2,HK.out.2.1,HK.out.2.2⟩
   have HR2:Hid (W2.rangeAt w1.heap.size 0 (plL p (.slice sa p.sp.length sc))):=g2.range
   clear ca b1 r1 b2 hW2 hal g2
   go_wp2_with (refine wpList_store_row rfl 33 _ _ rfl w1.heap.size (plA p (.slice sa p.sp.length sc)) rfl rfl 33 _ HNEW.out (HSZ.out _) (HO23.out _) (HON.out _ _ _) (Hid.out ?_))
   unfold Hid
   rw [HAL.out]
   by_cases h0:ge=0
   · have cc:=checkF_any p _ W2 (HT.out.next HB2.out) HI2.out
     have tg:(ge==0)=true:=by rw [h0];rfl
     have HG0:Hid (getM xs=endM p gu):=by unfold Hid;rw [HGM.out,h0];rfl
     clear h0 HGM HAL HNEW
     go_wp2_with (refine wpList_load_mid rfl 33 _ rfl w1.heap.size 0 rfl (plL p (.slice sa p.sp.length sc)) _ HR2.out Tryz.underlying33 rfl (HSL.out _) (Hid.out ?_))
     unfold Hid
     go_wp2_with fail
     refine cc.mono ?_
     rintro e w3 ⟨rfl,b3⟩
     have HB3:Hid (Below w.heap.size w w3):=HB2.out.trans (b3.mono HB2.out.size)
     have HR3:Hid (w3.rangeAt w1.heap.size 0 (plL p (.slice sa p.sp.length sc))):=(HG2.out.kept b3).range
     have HI3:Hid (FI w3 p (.slice sa p.sp.length sc)):=HI2.out.kept b3
     clear cc b3 HR2 HI2 HG2
     by_cases hc:chkM p=0
     · have cb:=buildF_any p _ w3 HI3.out
       have tc:(chkM p != 0)=false:=by rw [hc];rfl
       have HGG:Hid (getM xs=(p,gu,0)):=by unfold Hid;rw [HG0.out];unfold endM;rw [if_pos hc]
       clear hc HG0
       go_wp2_with (refine wpList_load_mid rfl 33 _ rfl w1.heap.size 0 rfl (plL p (.slice sa p.sp.length sc)) _ HR3.out Tryz.underlying33 rfl (HSL.out _) (Hid.out ?_))
       unfold Hid
       go_wp2_with fail
       refine cb.mono ?_
       rintro e w4 ⟨s4,rfl,r4,b4⟩
       have HB4:Hid (Below w.heap.size w w4):=HB3.out.trans (b4.mono HB3.out.size)
       have HR4:Hid (RSp w4 w.heap.size s4 (spO p)):=RSp.mono r4 HB3.out.size
       clear cb r4 b4 HR3
       go_wp2
       go_ret3
       exact ⟨s4,by rw [HGG.out];rfl,by rw [HGG.out];exact HR4.out,HB4.out⟩
     · have tc:(chkM p != 0)=true:=by simpa using hc
       have HGG:Hid (getM xs=errM (chkM p)):=by unfold Hid;rw [HG0.out];unfold endM;rw [if_neg hc]
       have HNIL:Hid (RSp w3 w.heap.size (.slice none 0 0) (spO (errM (chkM p)).1)):=RI.nil _ _ _ _
       clear hc HG0
       go_wp2
       go_ret3
       exact ⟨_,by rw [HGG.out];rfl,by rw [HGG.out];exact HNIL.out,HB3.out⟩
   · have tg:(ge==0)=false:=by simpa using h0
     have tg2:(ge != 0)=true:=by simpa using h0
     have HGG:Hid (getM xs=errM ge):=by unfold Hid;rw [HGM.out,if_pos h0]
     have HNIL:Hid (RSp W2 w.heap.size (.slice none 0 0) (spO (errM ge).1)):=RI.nil _ _ _ _
     clear h0 HGM HAL HNEW
     go_wp2
     go_ret3
     exact ⟨_,by rw [HGG.out];rfl,by rw [HGG.out];exact HNIL.out,HB2.out⟩
 | some x=>
   clear hna
   go_enter Tryz.func33,Tryz.ntmps33
   go_wp2_with fail
   refine ca.mono ?_
   rintro e w1 ⟨s1,rfl,r1,b1⟩
   obtain ⟨sa,sc,rfl,-,-,-⟩:=r1.is.shape
   obtain ⟨W2,hW2⟩:∃W2,W2=w1.alloc (.cells (plA p (.slice sa p.sp.length sc)) 33):=⟨_,rfl⟩
   have b2:Below w1.heap.size w1 W2:=by rw [hW2];exact al_below _ _
   have HB2:Hid (Below w.heap.size w W2):=b1.trans (b2.mono b1.size)
   have hal:=alloc_pl (w:=w1) p (.slice sa p.sp.length sc) 33 #[.int .u8 0,.int .i64 0,.int .i64 0,.int .i64 0,.bool false,.string ⟨#[]⟩,.int .u8 0,.int .u8 0,.int .u8 0,.int .u8 0,.int .u8 0,.int .u8 0,.int .u8 0,.int .u8 0,.int .u8 0,.int .u8 0,.int .u8 0,.int .u8 0,.int .u8 0,.int .u8 0,.int .u8 0,.int .u8 0,.slice none 0 0] rfl
   rw [←hW2] at hal
   have HAL:Hid ((w1.alloc (.cells #[.int .u8 0,.int .i64 0,.int .i64 0,.int .i64 0,.bool false,.string ⟨#[]⟩,.int .u8 0,.int .u8 0,.int .u8 0,.int .u8 0,.int .u8 0,.int .u8 0,.int .u8 0,.int .u8 0,.int .u8 0,.int .u8 0,.int .u8 0,.int .u8 0,.int .u8 0,.int .u8 0,.int .u8 0,.int .u8 0,.slice none 0 0] 33)).setRow w1.heap.size (plA p (.slice sa p.sp.length sc))=W2):=hal
   have HNEW:Hid ((w1.alloc (.cells #[.int .u8 0,.int .i64 0,.int .i64 0,.int .i64 0,.bool false,.string ⟨#[]⟩,.int .u8 0,.int .u8 0,.int .u8 0,.int .u8 0,.int .u8 0,.int .u8 0,.int .u8 0,.int .u8 0,.int .u8 0,.int .u8 0,.int .u8 0,.int .u8 0,.int .u8 0,.int .u8 0,.int .u8 0,.int .u8 0,.slice none 0 0] 33)).heap[w1.heap.size]? = some (.cells #[.int .u8 0,.int .i64 0,.int .i64 0,.int .i64 0,.bool false,.string ⟨#[]⟩,.int .u8 0,.int .u8 0,.int .u8 0,.int .u8 0,.int .u8 0,.int .u8 0,.int .u8 0,.int .u8 0,.int .u8 0,.int .u8 0,.int .u8 0,.int .u8 0,.int .u8 0,.int .u8 0,.int .u8 0,.int .u8 0,.slice none 0 0] 33 (0,0))):=heap_alloc_new _ _
   have g2:PF W2 w1.heap.size 33 p (.slice sa p.sp.length sc):=by rw [hW2];exact PF.new w1 _ p _
   have HG2:Hid (PF W2 w1.heap.size 33 p (.slice sa p.sp.length sc)):=g2
   have HI2:Hid (FI W2 p (.slice sa p.sp.length sc)):=⟨HK.out.1,(r1.is).kept b2,HK.out.2.1,HK.out.2.2⟩
   have HR2:Hid (W2.rangeAt w1.heap.size 0 (plL p (.slice sa p.sp.length sc))):=g2.range
   clear ca b1 r1 b2 hW2 hal g2
   go_wp2_with (refine wpList_store_row rfl 33 _ _ rfl w1.heap.size (plA p (.slice sa p.sp.length sc)) rfl rfl 33 _ HNEW.out (HSZ.out _) (HO23.out _) (HON.out _ _ _) (Hid.out ?_))
   unfold Hid
   rw [HAL.out]
   by_cases h0:ge=0
   · have cc:=checkF_any p _ W2 (HT.out.next HB2.out) HI2.out
     have tg:(ge==0)=true:=by rw [h0];rfl
     have HG0:Hid (getM xs=endM p gu):=by unfold Hid;rw [HGM.out,h0];rfl
     clear h0 HGM HAL HNEW
     go_wp2_with (refine wpList_load_mid rfl 33 _ rfl w1.heap.size 0 rfl (plL p (.slice sa p.sp.length sc)) _ HR2.out Tryz.underlying33 rfl (HSL.out _) (Hid.out ?_))
     unfold Hid
     go_wp2_with fail
     refine cc.mono ?_
     rintro e w3 ⟨rfl,b3⟩
     have HB3:Hid (Below w.heap.size w w3):=HB2.out.trans (b3.mono HB2.out.size)
     have HR3:Hid (w3.rangeAt w1.heap.size 0 (plL p (.slice sa p.sp.length sc))):=(HG2.out.kept b3).range
     have HI3:Hid (FI w3 p (.slice sa p.sp.length sc)):=HI2.out.kept b3
     clear cc b3 HR2 HI2 HG2
     by_cases hc:chkM p=0
     · have cb:=buildF_any p _ w3 HI3.out
       have tc:(chkM p != 0)=false:=by rw [hc];rfl
       have HGG:Hid (getM xs=(p,gu,0)):=by unfold Hid;rw [HG0.out];unfold endM;rw [if_pos hc]
       clear hc HG0
       go_wp2_with (refine wpList_load_mid rfl 33 _ rfl w1.heap.size 0 rfl (plL p (.slice sa p.sp.length sc)) _ HR3.out Tryz.underlying33 rfl (HSL.out _) (Hid.out ?_))
       unfold Hid
       go_wp2_with fail
       refine cb.mono ?_
       rintro e w4 ⟨s4,rfl,r4,b4⟩
       have HB4:Hid (Below w.heap.size w w4):=HB3.out.trans (b4.mono HB3.out.size)
       have HR4:Hid (RSp w4 w.heap.size s4 (spO p)):=RSp.mono r4 HB3.out.size
       clear cb r4 b4 HR3
       go_wp2
       go_ret3
       exact ⟨s4,by rw [HGG.out];rfl,by rw [HGG.out];exact HR4.out,HB4.out⟩
     · have tc:(chkM p != 0)=true:=by simpa using hc
       have HGG:Hid (getM xs=errM (chkM p)):=by unfold Hid;rw [HG0.out];unfold endM;rw [if_neg hc]
       have HNIL:Hid (RSp w3 w.heap.size (.slice none 0 0) (spO (errM (chkM p)).1)):=RI.nil _ _ _ _
       clear hc HG0
       go_wp2
       go_ret3
       exact ⟨_,by rw [HGG.out];rfl,by rw [HGG.out];exact HNIL.out,HB3.out⟩
   · have tg:(ge==0)=false:=by simpa using h0
     have tg2:(ge != 0)=true:=by simpa using h0
     have HGG:Hid (getM xs=errM ge):=by unfold Hid;rw [HGM.out,if_pos h0]
     have HNIL:Hid (RSp W2 w.heap.size (.slice none 0 0) (spO (errM ge).1)):=RI.nil _ _ _ _
     clear h0 HGM HAL HNEW
     go_wp2
     go_ret3
     exact ⟨_,by rw [HGG.out];rfl,by rw [HGG.out];exact HNIL.out,HB2.out⟩
set_option maxHeartbeats 8000000 in
theorem allG_any (S:List Int→Prop) (hSd:∀ys,S ys→S (ys.drop (getM ys).2.1.toNat)) (hget:∀(v:Value) (ys:List Int) (w:World),S ys→ys≠[]→Tb w→Sl w v ys→Calls Tryz.prog 33 #[v] w fun e w'=>∃sv,e = .returned (.tuple #[frV (getM ys).1 sv,.int .i64 (getM ys).2.1,.int .i64 (getM ys).2.2])∧RSp w' w.heap.size sv (spO (getM ys).1)∧Below w.heap.size w w') (v:Value) (xs:List Int) (w:World) (ht:Tb w) (h:Sl w v xs) (hl:xs.length≤90000) (hS:S xs) :
 Calls Tryz.prog 68 #[v] w fun e w'=>∃v',e = .returned (.tuple #[v',.int .i64 (allM xs).2])∧RF w' w.heap.size v' (allM xs).1∧Below w.heap.size w w':=by
 have HT:Hid (Tb w):=ht
 have HSD:Hid (∀ys,S ys→S (ys.drop (getM ys).2.1.toNat)):=hSd
 have HGT:Hid (∀(v:Value) (ys:List Int) (w:World),S ys→ys≠[]→Tb w→Sl w v ys→Calls Tryz.prog 33 #[v] w fun e w'=>∃sv,e = .returned (.tuple #[frV (getM ys).1 sv,.int .i64 (getM ys).2.1,.int .i64 (getM ys).2.2])∧RSp w' w.heap.size sv (spO (getM ys).1)∧Below w.heap.size w w'):=hget
 have HSX:Hid (S xs):=hS
 clear hSd hget hS
 have HS:Hid (Sl w v xs):=h
 obtain ⟨a0,c0,rfl,-,-,-,-⟩:=id h
 obtain ⟨R,hR⟩:∃R,R=allM xs:=⟨_,rfl⟩
 have HR:Hid (allA xs.length [] xs=R):=hR.symm
 rw [←hR]
 clear ht h hR
 go_enter Tryz.func68,Tryz.ntmps68
 go_wp2
 go_loopw [0,4] (fun b l wr=>∃(acc:List Fm) (ys:List Int) (f:Nat) (a:Option Addr) (n c:Nat),b = .slice a n c∧Sl w (.slice a n c) ys∧RF wr w.heap.size l acc∧allA f acc ys=R∧(ys.length≤f∧acc.length+ys.length≤90000∧S ys)∧Below w.heap.size w wr) (fun b _ _=>lnV b)
 case atStart=>exact ⟨[],xs,xs.length,a0,xs.length,c0,rfl,HS.out,RF.nil _ _,HR.out,⟨Nat.le_refl _,by simpa using hl,HSX.out⟩,Below.refl _ _⟩
 case round=>
  obtain ⟨acc,ys,f,a,n,c,rfl,hs,hf,hA,⟨hyf,hal,hsy⟩,hb⟩:=hrel
  have HSY:Hid (S ys):=hsy
  clear hsy
  obtain ⟨a',c',e',hlc,hcm,hnn,hrow⟩:=id hs
  cases e'
  have HB:Hid (Below w.heap.size w wr):=hb
  have HSR:Hid (Sl w (.slice a ys.length c) ys):=hs
  have HFR:Hid (RF wr w.heap.size u4 acc):=hf
  have HAR:Hid (allA f acc ys=R):=hA
  have HAL:Hid (acc.length+ys.length≤90000):=hal
  have hbb:BB ys:=hs.bytes
  obtain ⟨la,lc,rfl⟩:=RF.shape hf
  clear hs hf hA hb HS HR
  by_cases hn0:ys.length=0
  · have hy:ys=[]:=List.length_eq_zero_iff.1 hn0
    have HRE:Hid (R=(acc,0)):=by unfold Hid;rw [←HAR.out,hy,allA_nil]
    have t0:¬(0:Int)<(ys.length:Int):=by omega
    clear hrow hbb hyf hal hn0 hy
    generalize ys.length=n at *
    go_wp2
    go_ret2
    exact ⟨_,by rw [HRE.out];rfl,by rw [HRE.out];exact HFR.out,HB.out⟩
  · have t0:(0:Int)<(ys.length:Int):=by omega
    obtain ⟨f',rfl⟩:∃f',f=f'+1:=⟨f-1,by omega⟩
    have hne:ys≠[]:=fun e=>hn0 (by rw [e];rfl)
    have hAS:=HAR.out
    rw [allA_succ,if_neg hne] at hAS
    have cg:=HGT.out _ ys wr HSY.out hne (HT.out.next HB.out) (HSR.out.kept HB.out)
    have hsd:=HSD.out ys HSY.out
    have hus:=getM_used ys hbb
    have hok:=getM_okk ys
    generalize getM ys=G at *
    obtain ⟨p,gu,ge⟩:=G
    simp only at cg hAS hus hok hsd
    by_cases hge:ge=0
    · obtain ⟨hu1,hu2⟩:=hus hge
      rw [if_neg (fun q=>q hge)] at hAS
      obtain ⟨U,rfl⟩:∃U:Nat,gu=U:=⟨gu.toNat,by omega⟩
      rw [Int.toNat_natCast] at hAS hsd
      obtain ⟨bb,off,rfl⟩:∃bb off,a=some ⟨bb,off,none⟩:=by
       rcases hrow with h0 | ⟨-,bb,off,e2,-⟩
       · exact absurd h0 hn0
       · exact ⟨bb,off,e2⟩
      have hUn:U≤ys.length:=by omega
      obtain ⟨zs,hzs⟩:∃zs,zs=ys.drop U:=⟨_,rfl⟩
      have hzl:zs.length=ys.length-U:=by rw [hzs,List.length_drop]
      have HRR:Hid (allA f' (acc++[p]) zs=R):=by rw [hzs];exact hAS
      have HZL:Hid (zs.length≤f'∧(acc++[p]).length+zs.length≤90000∧S zs):=by
       unfold Hid
       rw [List.length_append,List.length_singleton]
       exact ⟨by omega,by omega,by rw [hzs];exact hsd⟩
      have HZA:Hid (c=U→Sl w (.slice (some ⟨bb,off,none⟩) 0 0) zs):=fun hc=>by
       have:zs=[]:=List.length_eq_zero_iff.1 (by omega)
       rw [this]
       exact ⟨_,0,rfl,Nat.le_refl _,by unfold maxLen;omega,fun e=>(by cases e),.inl rfl⟩
      have hdrop:=HSR.out.drop U hUn
      rw [←hzs] at hdrop
      have HZB:Hid (Sl w (.slice (some ⟨bb,off+U,none⟩) (ys.length-U) (c-U)) zs):=hdrop
      have HAL2:Hid (acc.length≤100000):=by have:=HAL.out;unfold Hid;omega
      have hge':(ge != 0)=false:=by rw [hge];rfl
      have hcm2:c≤9223372036854775807:=by unfold maxLen at hcm;omega
      have sx1:0≤(U:Int):=by omega
      have sx2:(U:Int)≤(ys.length:Int):=by omega
      have sx3:(ys.length:Int)≤(c:Int):=by omega
      have HOKP:Hid (chkM p=0):=hok hge
      have HU0:Hid (0<U):=by unfold Hid;omega
      clear hsd HSY
      clear hok hAS hus hzs hrow hne hbb hyf hal HAR HT hl hge hu1 hu2 hdrop HAL hcm HSR hnn hzl
      generalize ys.length=n at *
      go_wp2_with fail
      refine cg.mono ?_
      rintro e w1 ⟨s1,rfl,r1,b1⟩
      obtain ⟨ty,y,hy⟩:=frV_iface (chkM_ok HOKP.out).kk s1
      rw [hy]
      have HY:Hid (frV p s1 = .iface ty y):=hy
      clear hy
      obtain ⟨W2,hW2⟩:∃W2,W2=w1.alloc (.cells #[.iface ty y] 29):=⟨_,rfl⟩
      have b2:Below w1.heap.size w1 W2:=by rw [hW2];exact al_below _ _
      have b12:Below wr.heap.size wr W2:=b1.trans (b2.mono b1.size)
      have HB2:Hid (Below w.heap.size w W2):=HB.out.trans (b12.mono HB.out.size)
      have HF2:Hid (RF W2 w.heap.size (.slice la acc.length lc) acc):=HFR.out.below b12
      have HS2:Hid (RSp W2 w.heap.size s1 (spO p)):=(RSp.mono r1 HB.out.size).below b2
      have HC2:Hid (W2.cell? ⟨w1.heap.size,0,none⟩=some (frV p s1)):=by unfold Hid;rw [HY.out,hW2,World.cell?_alloc_at _ _ _ _ rfl];rfl
      clear cg r1 b1 b2 b12 HFR HB
      by_cases hcU:c=U
      · have HS0:Hid (Sl w (.slice (some ⟨bb,off,none⟩) 0 0) zs):=HZA.out hcU
        clear HZA HZB
        subst hcU
        obtain rfl:n=c:=by omega
        clear sx2 sx3 hUn
        go_wp2_with (at_builtin;rw [←hW2];refine wpList_append_fr rfl _ _ rfl w.heap.size _ acc rfl HF2.out w1.heap.size p s1 1 HS2.out rfl HC2.out HAL2.out HB2.out.size (Hid.out ?_))
        unfold Hid
        intro v3 w3 r3 b3
        try rw [←hW2] at b3
        clear hW2
        have HB3:Hid (Below w.heap.size w w3):=HB2.out.trans b3
        have HF3:Hid (RF w3 w.heap.size v3 (acc++[p])):=r3
        obtain ⟨va,vc,rfl⟩:=RF.shape r3
        clear b3 r3
        go_wp2
        go_roundw
        case rel=>exact ⟨acc++[p],zs,f',some ⟨bb,off,none⟩,0,0,rfl,HS0.out,HF3.out,HRR.out,HZL.out,HB3.out⟩
        case measure=>(have:=HU0.out;simp [lnV];omega)
      · have HS0:Hid (Sl w (.slice (some ⟨bb,off+U,none⟩) (n-U) (c-U)) zs):=HZB.out
        clear HZA HZB
        go_wp2_with (at_builtin;rw [←hW2];refine wpList_append_fr rfl _ _ rfl w.heap.size _ acc rfl HF2.out w1.heap.size p s1 1 HS2.out rfl HC2.out HAL2.out HB2.out.size (Hid.out ?_))
        unfold Hid
        intro v3 w3 r3 b3
        try rw [←hW2] at b3
        clear hW2
        have HB3:Hid (Below w.heap.size w w3):=HB2.out.trans b3
        have HF3:Hid (RF w3 w.heap.size v3 (acc++[p])):=r3
        obtain ⟨va,vc,rfl⟩:=RF.shape r3
        clear b3 r3
        go_wp2
        go_roundw
        case rel=>exact ⟨acc++[p],zs,f',some ⟨bb,off+U,none⟩,n-U,c-U,rfl,HS0.out,HF3.out,HRR.out,HZL.out,HB3.out⟩
        case measure=>(have:=HU0.out;simp [lnV];omega)
    · rw [if_pos hge] at hAS
      have HRE:Hid (R=([],ge)):=hAS.symm
      have tge:(ge != 0)=true:=by simpa using hge
      clear hsd HSY
      clear hok hAS hus hge hrow hne hbb hyf hal HAR HAL
      generalize ys.length=n at *
      go_wp2_with fail
      refine cg.mono ?_
      rintro e w1 ⟨s1,rfl,r1,b1⟩
      have HB1:Hid (Below w.heap.size w w1):=HB.out.trans (b1.mono HB.out.size)
      clear cg r1 b1
      go_wp2
      go_ret2
      exact ⟨_,by rw [HRE.out];rfl,by rw [HRE.out];exact RF.nil _ _,HB1.out⟩
def pingF:Fm:=⟨1,0,0,0,false,⟨#[]⟩,zn,[]⟩
theorem ping_ok:Ok pingF:=by
 refine ⟨show isK 1=true by decide,?_,?_,fun h=>absurd (show hS 1=true from h) (by decide),?_,fun h=>absurd (show (1:Int)=3 from h) (by decide)⟩
 · unfold badF pingF
   simp [hI,hN,hF,hC,hO,hT,hS]
 · unfold outF pingF;decide
 · unfold pingF mT;decide
theorem ping_chk:chkM pingF=0:=chkM_of ping_ok
theorem ping_put:putM pingF=[1]:=by decide +kernel
theorem flatP (sv:Value) (w:World):Calls Tryz.prog 51 #[frV pingF sv] w fun e w'=>∃sv',e = .returned (.agg (plA pingF sv'))∧RSp w' w.heap.size sv' pingF.sp∧Below w.heap.size w w':=
 (flat1 w).mono fun _ _ ⟨e,b⟩=>⟨_,e,RI.nil _ _ _ _,b⟩
theorem putP_any (sv:Value) (w:World) (ht:Tb w) (hp:FP w pingF sv) (hv:∃t y,frV pingF sv = .iface t y) :
 Calls Tryz.prog 14 #[frV pingF sv] w fun e w'=>∃v,e = .returned (.tuple #[v,.int .i64 (chkM pingF)])∧Ow w' w.heap.size v (putR pingF)∧Below w.heap.size w w':=
 putG_any pingF sv w ht hp hv (flatP sv w) (fun sv w h1 h2 h3=>lay1 pingF sv w h1 h2 h3 rfl)
theorem get_1:getM [1]=(pingF,1,0):=by
 have:=getM_put ping_ok rfl []
 rw [List.append_nil,ping_put] at this
 exact this
theorem allP_any (v:Value) (w:World) (ht:Tb w) (h:Sl w v [1]) :
 Calls Tryz.prog 68 #[v] w fun e w'=>∃v',e = .returned (.tuple #[v',.int .i64 (allM [1]).2])∧RF w' w.heap.size v' (allM [1]).1∧Below w.heap.size w w':=
 allG_any (fun ys=>ys=[1]∨ys=[]) (fun ys h=>by
  rcases h with rfl | rfl
  · exact .inr (by rw [get_1];rfl)
  · exact .inr rfl) (fun v ys w hs hn ht h=>by
  rcases hs with rfl | rfl
  · exact getG_any v [1] w ht h (by decide) (fun v h=>ahd1 v [] w ht h (by decide))
  · exact absurd rfl hn) v [1] w ht h (by decide) (.inl rfl)
end Go.Proofs.YtiollhmbdhepkaaGreatDoor
namespace Go.Proofs.YtiollhmbdhepkaaGreatDoor
open Go.RowKit
set_option maxRecDepth 100000
theorem rdM_head {k c n:Int} {Y:List Int} (h:mb k c n=true) (hk:0≤k) (h16:16≤Y.length) (hl:(hdL k c n++Y).length≤1200):rdM (hdL k c n++Y)=⟨k,c,n,Y.take (Y.length-16),Y,0⟩:=by
 obtain ⟨h1,hc,hn⟩:=mb_iff.1 h
 have hb:rBt (hdL k c n++Y) 0=(k,nB c++(nB n++Y),0):=by
  have e:hdL k c n++Y=k::(nB c++(nB n++Y)):=by simp [hdL]
  rw [e,rBt_cons]
 have e1:rNm 1099511627776 (nB c++(nB n++Y)) 0=(c,nB n++Y,0):=rN_num hc.1 (by omega) hc.2 _
 have e2:rNm 1099511627776 (nB n++Y) 0=(n,Y,0):=rN_num hn.1 (by omega) hn.2 _
 have hd:(hdL k c n++Y).drop ((hdL k c n++Y).length-Y.length)=Y:=by
  rw [List.length_append,Nat.add_sub_cancel,List.drop_left]
 unfold rdM
 rw [if_neg (by omega),hb]
 simp only
 rw [if_neg (by omega),e1]
 simp only
 rw [e2]
 simp only
 rw [if_neg (by decide),if_neg (by omega),hd]
theorem opE_btag (K H X:List Int):Mc.opE K H (X++Mc.btag K H X)=0:=by
 have h0:(Mc.btag K H X).length=16:=Mc.tagB_len _ _
 have hl:(X++Mc.btag K H X).length-16=X.length:=by rw [List.length_append];omega
 have hn:¬(X++Mc.btag K H X).length<16:=by rw [List.length_append];omega
 unfold Mc.opE
 rw [if_neg hn,hl,List.drop_left,List.take_left,if_pos rfl]
theorem sel_len {k c n:Int} {X:List Int} (h:selE k c n X.length=0):mb k c n=true∧(X.length:Int)≤rmI k c n∧(hdL k c n).length+X.length+16≤1200:=by
 rcases selE_cases k c n X.length with ⟨_,q⟩ | ⟨_,_,q⟩ | ⟨q1,q2,_⟩
 · rw [q] at h;omega
 · rw [q] at h;omega
 · refine ⟨q1,q2,?_⟩
   rw [rmI_yes q1] at q2
   omega
theorem rdM_seal {K:List Int} {k c n:Int} {X:List Int} (hk:0≤k) (h:selE k c n X.length=0):(rdM (selL K k c n X)).body=X:=by
 obtain ⟨q1,q2,q3⟩:=sel_len h
 have h0:(Mc.btag K (hdL k c n) X).length=16:=Mc.tagB_len _ _
 rw [selL_yes h]
 have hr:=rdM_head (k:=k) (c:=c) (n:=n) (Y:=X++Mc.btag K (hdL k c n) X) q1 hk (by rw [List.length_append];omega) (by simp only [List.length_append];omega)
 have hl:(X++Mc.btag K (hdL k c n) X).length-16=X.length:=by rw [List.length_append];omega
 rw [hl,List.take_left] at hr
 rw [hr]
theorem opM_seal {K:List Int} {k c n:Int} {X:List Int} {fs:List Fm} (hk:0≤k) (h:selE k c n X.length=0) (ha:allM X=(fs,0)):opM K (selL K k c n X)=⟨k,c,n,X,fs,0⟩:=by
 obtain ⟨q1,q2,q3⟩:=sel_len h
 have h0:(Mc.btag K (hdL k c n) X).length=16:=Mc.tagB_len _ _
 rw [selL_yes h]
 have hr:=rdM_head (k:=k) (c:=c) (n:=n) (Y:=X++Mc.btag K (hdL k c n) X) q1 hk (by rw [List.length_append];omega) (by simp only [List.length_append];omega)
 have hl:(X++Mc.btag K (hdL k c n) X).length-16=X.length:=by rw [List.length_append];omega
 rw [hl,List.take_left] at hr
 unfold opM
 rw [hr]
 simp only
 rw [if_neg (by decide),opE_btag,if_neg (by decide),ha]
 simp only
 rw [if_neg (by decide)]
theorem ping_fg:FG pingF:=⟨⟨show (0:Int)≤1 by decide,show (1:Int)<256 by decide,by decide,by decide,by decide,by decide,by decide,by decide,rfl,zn_bb⟩,ping_ok.kk,ping_ok.nb,by decide,by decide⟩
theorem ping_lay:layE [pingF]=0∧layL [pingF]=[1]:=by
 have h:layE [pingF]=0:=by
  unfold layE
  rw [ping_chk,if_neg (by decide)]
  rfl
 refine ⟨h,?_⟩
 unfold layL
 rw [if_pos h]
 simp [ping_put]
theorem hd_153:hdL 1 5 3=[1,5,3]:=by decide +kernel
theorem mb_153:mb 1 5 3=true:=by decide
theorem rm_153:rmI 1 5 3=1181:=by rw [rmI_yes mb_153,hd_153];decide
theorem pk_153:pkE 1 5 3 [pingF]=0∧pkM 1 5 3 [pingF]=⟨1,5,3,[1]⟩:=by
 have h:pkE 1 5 3 [pingF]=0:=by
  unfold pkE
  rw [ping_lay.1,if_neg (by decide),ping_lay.2,rm_153,if_neg (by decide),mb_153,if_neg (by decide)]
 refine ⟨h,?_⟩
 unfold pkM
 rw [h,if_pos rfl,ping_lay.2]
theorem all_1:allM [1]=([pingF],0):=by
 have:=allM_put [pingF] (fun p hp=>by rw [List.mem_singleton.1 hp];exact ⟨ping_ok,rfl⟩)
 rwa [show ([pingF].map putM).flatten=[1] by simp [ping_put]] at this
theorem sel_153:selE 1 5 3 1=0:=by unfold selE;rw [mb_153,rm_153];decide
theorem RF.ping (w:World) (B:Nat) (hB:B≤w.heap.size):RF (w.alloc (.cells #[.iface 93 (.agg #[])] 29)) B (.slice (some ⟨w.heap.size,0,none⟩) 1 1) [pingF]:=by
 refine ⟨[.iface 93 (.agg #[])],⟨rfl,.inr ⟨_,1,_,rfl,hB,heap_alloc_new _ _,Nat.le_refl _,by unfold maxLen;omega,rfl,rfl⟩⟩,fun i hi=>?_⟩
 obtain rfl:i=0:=by simpa using hi
 exact ⟨.slice none 0 0,rfl,RI.nil _ _ _ _⟩
end Go.Proofs.YtiollhmbdhepkaaGreatDoor
namespace Go.Proofs.YtiollhmbdhepkaaGreatDoor
open Go.RowKit Go.Proofs.YtiollhmbdhepkaaGreatDoor.Sh
set_option maxRecDepth 100000
def oneK:List Int:=1::List.replicate 31 0
theorem str_153:strB [1,5,3,1]=⟨#[1,5,3,1]⟩:=by decide
set_option maxHeartbeats 16000000 in
theorem pawake_any (w:World) (ht:Tb w) (hm:Mc.Tabs w):Calls Tryz.prog 18 #[] w fun e w'=>e = .returned (.bool true)∧Below w.heap.size w w':=by
 obtain ⟨W1,hW1⟩:∃W1,W1=w.alloc (.cells #[.iface 93 (.agg #[])] 29):=⟨_,rfl⟩
 have b1:Below w.heap.size w W1:=by rw [hW1];exact al_below _ _
 have HB1:Hid (Below w.heap.size w W1):=b1
 have HT:Hid (Tb w):=ht
 have HM:Hid (Mc.Tabs w):=hm
 have HKL:Hid (oneK.length=32):=rfl
 have HKB:Hid (Pl.Byt oneK):=byteList _ (by decide)
 have cp:=ppack_any 1 5 3 _ [pingF] W1 w.heap.size (ht.next b1) (by decide) (by rw [hW1];exact RF.ping w _ (Nat.le_refl _)) (fun p hp=>by rw [List.mem_singleton.1 hp];exact ping_fg) (by decide) (fun p hp sv w h1 h2 h3=>by obtain rfl:=List.mem_singleton.1 hp;exact putP_any sv w h1 h2 h3)
 rw [pk_153.1,pk_153.2] at cp
 simp only at cp
 have hku:u8s oneK=#[Value.int IntKind.u8 1,Value.int IntKind.u8 0,Value.int IntKind.u8 0,Value.int IntKind.u8 0,Value.int IntKind.u8 0,Value.int IntKind.u8 0,Value.int IntKind.u8 0,Value.int IntKind.u8 0,Value.int IntKind.u8 0,Value.int IntKind.u8 0,Value.int IntKind.u8 0,Value.int IntKind.u8 0,Value.int IntKind.u8 0,Value.int IntKind.u8 0,Value.int IntKind.u8 0,Value.int IntKind.u8 0,Value.int IntKind.u8 0,Value.int IntKind.u8 0,Value.int IntKind.u8 0,Value.int IntKind.u8 0,Value.int IntKind.u8 0,Value.int IntKind.u8 0,Value.int IntKind.u8 0,Value.int IntKind.u8 0,Value.int IntKind.u8 0,Value.int IntKind.u8 0,Value.int IntKind.u8 0,Value.int IntKind.u8 0,Value.int IntKind.u8 0,Value.int IntKind.u8 0,Value.int IntKind.u8 0,Value.int IntKind.u8 0]:=by rfl
 clear ht hm b1
 have HKU:Hid (u8s oneK=#[Value.int IntKind.u8 1,Value.int IntKind.u8 0,Value.int IntKind.u8 0,Value.int IntKind.u8 0,Value.int IntKind.u8 0,Value.int IntKind.u8 0,Value.int IntKind.u8 0,Value.int IntKind.u8 0,Value.int IntKind.u8 0,Value.int IntKind.u8 0,Value.int IntKind.u8 0,Value.int IntKind.u8 0,Value.int IntKind.u8 0,Value.int IntKind.u8 0,Value.int IntKind.u8 0,Value.int IntKind.u8 0,Value.int IntKind.u8 0,Value.int IntKind.u8 0,Value.int IntKind.u8 0,Value.int IntKind.u8 0,Value.int IntKind.u8 0,Value.int IntKind.u8 0,Value.int IntKind.u8 0,Value.int IntKind.u8 0,Value.int IntKind.u8 0,Value.int IntKind.u8 0,Value.int IntKind.u8 0,Value.int IntKind.u8 0,Value.int IntKind.u8 0,Value.int IntKind.u8 0,Value.int IntKind.u8 0,Value.int IntKind.u8 0]):=hku
 clear hku
 go_enter Tryz.func18,Tryz.ntmps18
 go_wp2_with fail
 try rw [←hW1]
 clear hW1
 refine cp.mono ?_
 rintro e w2 ⟨bv,rfl,o2,b2⟩
 obtain ⟨ba,bc,rfl,-⟩:=id o2.sl
 rw [show ([1]:List Int).length=1 from rfl] at o2 ⊢
 have HB2:Hid (Below w.heap.size w w2):=HB1.out.trans (b2.mono HB1.out.size)
 obtain ⟨w3,hw3⟩:∃w3,w3=w2.alloc (.cells #[.int .u8 1,.int .i64 5,.int .i64 3,.slice ba 1 bc] 51):=⟨_,rfl⟩
 have b3:Below w2.heap.size w2 w3:=by rw [hw3];exact al_below _ _
 have HD3:Hid (KB w3 w2.heap.size 1 5 3 (.slice ba 1 bc)):=by unfold Hid;rw [hw3];exact KB.new _ _ _ _ _
 have HB3:Hid (Below w.heap.size w w3):=HB2.out.trans (b3.mono HB2.out.size)
 have HX3:Hid (Sl w3 (.slice ba 1 bc) [1]):=o2.sl.kept b3
 have hst:(w2.alloc (.cells #[.int .u8 0,.int .i64 0,.int .i64 0,.slice none 0 0] 51)).setRow w2.heap.size #[.int .u8 1,.int .i64 5,.int .i64 3,.slice ba 1 bc]=w3:=by rw [hw3];exact World.setRow_alloc_new _ _ _ _
 have HG0:Hid (KB (w2.alloc (.cells #[.int .u8 0,.int .i64 0,.int .i64 0,.slice none 0 0] 51)) w2.heap.size 0 0 0 (.slice none 0 0)):=KB.new _ _ _ _ _
 have cs:=pseal_any oneK 1 5 3 ba 1 bc [1] w3 (HM.out.kept HB3.out) HKL.out HKB.out (by decide) HX3.out rfl
 have hse:selE 1 5 3 ([1]:List Int).length=0:=sel_153
 rw [hse] at cs
 have HSB:Hid (selL oneK 1 5 3 [1]=[1,5,3]++([1]++Mc.btag oneK [1,5,3] [1])):=by unfold Hid;rw [selL_yes hse,hd_153]
 have HRD:Hid ((rdM (selL oneK 1 5 3 [1])).body=[1]):=rdM_seal (by decide) hse
 have HOP:Hid (opM oneK (selL oneK 1 5 3 [1])=⟨1,5,3,[1],[pingF],0⟩):=opM_seal (by decide) hse all_1
 have hbl:(Mc.btag oneK [1,5,3] [1]).length=16:=Mc.tagB_len _ _
 have hbb:Pl.Byt (Mc.btag oneK [1,5,3] [1]):=Mc.tagB_byt _ _
 obtain ⟨BT,hBT⟩:∃BT,BT=Mc.btag oneK [1,5,3] [1]:=⟨_,rfl⟩
 rw [←hBT] at HSB hbl hbb
 have HSL:Hid ((selL oneK 1 5 3 [1]).length=20):=by unfold Hid;rw [HSB.out];simp [hbl]
 have HST:Hid ((selL oneK 1 5 3 [1]).take 4=[1,5,3,1]):=by unfold Hid;rw [HSB.out];rfl
 have HSY:Hid (Pl.Byt (selL oneK 1 5 3 [1])):=by unfold Hid;rw [HSB.out];exact byt_cat (byteList _ (by decide)) (byt_cat (byteList _ (by decide)) hbb)
 obtain ⟨S,hS⟩:∃S,S=selL oneK 1 5 3 [1]:=⟨_,rfl⟩
 rw [←hS] at HOP HSL HST HSY HRD cs
 rw [HSL.out] at cs
 rw [HKU.out] at cs
 clear cp o2 b2 b3 HSB hbl hbb hBT hS hse HB1 hw3
 go_upto_region 2 with (refine wpList_store_row rfl 51 _ _ rfl w2.heap.size #[.int .u8 1,.int .i64 5,.int .i64 3,.slice ba 1 bc] rfl rfl 51 _ HG0.out infoK rfl (k4_one _ _ _ _ _ _) ?_)
 try rw [hst]
 clear hst HG0
 go_wp2_with (refine wpList_load_row rfl 51 _ rfl w2.heap.size rfl 51 #[.int .u8 1,.int .i64 5,.int .i64 3,.slice ba 1 bc] (0,0) _ HD3.out Tryz.underlying51 rfl infoK ?_)
 refine cs.mono ?_
 rintro e w4 ⟨v4,rfl,o4,b4⟩
 have s4:Sl w4 v4 S:=sl_owned (n:=20) o4 HSY.out
 obtain ⟨sa,sc,rfl,hsc,-⟩:=id s4
 rw [HSL.out] at s4 hsc ⊢
 have HB4:Hid (Below w.heap.size w w4):=HB3.out.trans (b4.mono HB3.out.size)
 have HD4:Hid (KB w4 w2.heap.size 1 5 3 (.slice ba 1 bc)):=HD3.out.kept b4
 have HX4:Hid (Sl w4 (.slice ba 1 bc) [1]):=HX3.out.kept b4
 have HS4:Hid (Sl w4 (.slice sa 20 sc) S):=s4
 have co:=popen_any oneK _ S w4 (HT.out.next HB4.out) (HM.out.kept HB4.out) HKL.out HKB.out s4 (by rw [HSL.out];decide) (by rw [HRD.out];exact fun v w h1 h2=>allP_any v w h1 h2)
 rw [HOP.out] at co
 simp only at co
 rw [HKU.out] at co
 clear cs s4 o4 b4 HB3 HD3 HX3
 go_wp2_with fail
 refine co.mono ?_
 rintro e w5 ⟨dv,fv,rfl,s5,rf5,fr5,b5⟩
 obtain ⟨da,dc,rfl,-⟩:=id s5
 rw [show ([1]:List Int).length=1 from rfl] at s5 fr5 ⊢
 obtain ⟨fa,fc,rfl⟩:=rf5.shape
 rw [show [pingF].length=1 from rfl]
 have HB5:Hid (Below w.heap.size w w5):=HB4.out.trans (b5.mono HB4.out.size)
 obtain ⟨w6,hw6⟩:∃w6,w6=w5.alloc (.cells #[.int .u8 1,.int .i64 5,.int .i64 3,.slice da 1 dc] 51):=⟨_,rfl⟩
 have b6:Below w5.heap.size w5 w6:=by rw [hw6];exact al_below _ _
 have HE6:Hid (KB w6 w5.heap.size 1 5 3 (.slice da 1 dc)):=by unfold Hid;rw [hw6];exact KB.new _ _ _ _ _
 have HD6:Hid (KB w6 w2.heap.size 1 5 3 (.slice ba 1 bc)):=(HD4.out.kept b5).kept b6
 have HB6:Hid (Below w.heap.size w w6):=HB5.out.trans (b6.mono HB5.out.size)
 have HX6:Hid (Sl w6 (.slice ba 1 bc) [1]):=(HX4.out.kept b5).kept b6
 have HY6:Hid (Sl w6 (.slice da 1 dc) [1]):=s5.kept b6
 have HS6:Hid (Sl w6 (.slice sa 20 sc) S):=(HS4.out.kept b5).kept b6
 have hst:(w5.alloc (.cells #[.int .u8 0,.int .i64 0,.int .i64 0,.slice none 0 0] 51)).setRow w5.heap.size #[.int .u8 1,.int .i64 5,.int .i64 3,.slice da 1 dc]=w6:=by rw [hw6];exact World.setRow_alloc_new _ _ _ _
 have HG0:Hid (KB (w5.alloc (.cells #[.int .u8 0,.int .i64 0,.int .i64 0,.slice none 0 0] 51)) w5.heap.size 0 0 0 (.slice none 0 0)):=KB.new _ _ _ _ _
 have csm:=psame_any 1 5 3 da 1 dc [1] 1 5 3 ba 1 bc [1] w6 HY6.out HX6.out
 rw [smP_refl] at csm
 have cv:=(HS6.out.take 4 (by decide)).conv
 rw [HST.out,str_153] at cv
 have sx1:(4:Int)≤(sc:Int):=by omega
 clear co s5 rf5 fr5 b5 b6 HB4 HD4 HX4 HS4 HB5 hw6
 go_upto_region 4 with (refine wpList_store_row rfl 51 _ _ rfl w5.heap.size #[.int .u8 1,.int .i64 5,.int .i64 3,.slice da 1 dc] rfl rfl 51 _ HG0.out infoK rfl (k4_one _ _ _ _ _ _) ?_)
 try rw [hst]
 clear hst HG0
 obtain ⟨c0,c1,c2,c3⟩:=HE6.out.kc
 obtain ⟨d0,d1,d2,d3⟩:=HD6.out.kc
 go_wp2_with fail
 refine csm.mono ?_
 rintro e w7 ⟨rfl,b7⟩
 have HD7:Hid (KB w7 w2.heap.size 1 5 3 (.slice ba 1 bc)):=HD6.out.kept b7
 have HB7:Hid (Below w.heap.size w w7):=HB6.out.trans (b7.mono HB6.out.size)
 have cr:=room_any 1 5 3 ba 1 bc w7 (HT.out.next HB7.out).v (by decide)
 rw [rm_153] at cr
 clear csm cv b7 HE6 HD6 HB6 HX6 HY6 HS6 sx1 c0 c1 c2 c3 d0 d1 d2 d3
 obtain ⟨d0,d1,d2,d3⟩:=HD7.out.kc
 go_wp2_with fail
 refine cr.mono ?_
 rintro e w8 ⟨rfl,b8⟩
 have HB8:Hid (Below w.heap.size w w8):=HB7.out.trans (b8.mono HB7.out.size)
 clear cr b8 HD7 HB7 d0 d1 d2 d3
 go_wp2
 go_ret
 exact ⟨rfl,HB8.out⟩
end Go.Proofs.YtiollhmbdhepkaaGreatDoor
namespace Go.Proofs.YtiollhmbdhepkaaGreatDoor
open Go.RowKit Go.Proofs.YtiollhmbdhepkaaGreatDoor.Sh
set_option maxRecDepth 100000
def QB (w:World) (g:Nat) (k c n:Int) (v:Value):Prop:=w.heap[g]? = some (.cells #[.int .u8 k,.int .i64 c,.int .i64 n,v] 49 (0,0))
theorem QB.new (w:World) (k c n:Int) (v:Value):QB (w.alloc (.cells #[.int .u8 k,.int .i64 c,.int .i64 n,v] 49)) w.heap.size k c n v:=heap_alloc_new _ _
theorem QB.kept {w w' : World} {g : Nat} {k c n : Int} {v : Value} (h : QB w g k c n v) (hb : Below w.heap.size w w') : QB w' g k c n v := blk_kept h hb (blk_lt h)
theorem QB.kc {w : World} {g : Nat} {k c n : Int} {v : Value} (h : QB w g k c n v) : KC w g k c n v := by
  unfold QB at h
  refine ⟨?_, ?_, ?_, ?_⟩ <;> simp [World.cell?, h]
end Go.Proofs.YtiollhmbdhepkaaGreatDoor
namespace Go.Proofs.YtiollhmbdhepkaaGreatDoor
open Go.RowKit
set_option maxRecDepth 100000
theorem own_set {w:World} {B g L cap i:Nat} {S:List Int} {z:Int} (h:w.ownsRow B 5 1 (.slice (some ⟨g,0,none⟩) L cap) L (S.map (Value.int .u8))) :
 (w.setCell ⟨g,i,none⟩ (.int .u8 z)).ownsRow B 5 1 (.slice (some ⟨g,0,none⟩) L cap) L ((S.set i z).map (Value.int .u8)):=by
 obtain ⟨h1,h2⟩:=h
 rcases h2 with ⟨e,_⟩ | ⟨g',cap',cur,e,hg,hh,hc,hm,hs,ht⟩
 · cases e
 · cases e
   refine ⟨by rw [List.length_map,List.length_set];simpa using h1,.inr ⟨g,cap,cur.setIfInBounds i (.int .u8 z),rfl,hg,heap_setCell_same _ _ _ _ _ _ hh,hc,hm,by rw [Array.size_setIfInBounds];exact hs,?_⟩⟩
   rw [Nat.mul_one] at ht ⊢
   rw [Array.toList_setIfInBounds,List.take_set,ht,List.map_set]
theorem own_cell {w:World} {B g L cap i:Nat} {S:List Int} (h:w.ownsRow B 5 1 (.slice (some ⟨g,0,none⟩) L cap) L (S.map (Value.int .u8))) (hi:i<S.length):w.cell? ⟨g,i,none⟩=some (.int .u8 (S.getD i 0))∧w.frozen? ⟨g,i,none⟩=false:=by
 have hc:=h.cells (g:=g) rfl i (.int .u8 (S.getD i 0)) (by simp [List.getElem?_map,List.getElem?_eq_getElem hi,List.getD])
 rw [Addr.add_lit,Nat.zero_add] at hc
 refine ⟨hc,?_⟩
 rcases h.2 with ⟨e,_⟩ | ⟨g',cap',cur,e,hg,hh,_⟩
 · cases e
 · cases e
   exact frozen_of_row _ _ _ _ _ hh
theorem opE_other (K H X:List Int) (i:Nat) (z:Int) (h1:X.length≤i) (h2:i<X.length+16) (hz:z≠(X++Mc.btag K H X).getD i 0):Mc.opE K H ((X++Mc.btag K H X).set i z)=15:=by
 have ht:(Mc.btag K H X).length=16:=Mc.tagB_len _ _
 have hl:((X++Mc.btag K H X).set i z).length=X.length+16:=by rw [List.length_set,List.length_append,ht]
 have hs:(X++Mc.btag K H X).set i z=X++(Mc.btag K H X).set (i-X.length) z:=List.set_append_right _ _ h1
 unfold Mc.opE
 rw [if_neg (by rw [hl];omega),hl,Nat.add_sub_cancel,hs,List.drop_left,List.take_left,if_neg]
 intro e
 have e2:=congrArg (fun l=>l.getD (i-X.length) 0) e
 simp only [List.getD,List.getElem?_set,if_true] at e2
 rw [if_pos (by omega),Option.getD_some] at e2
 refine hz (e2.trans ?_)
 rw [List.getD,List.getElem?_append_right h1]
theorem fr_ok {L:List FV} (h:frB L=true):L.length≤20∧∀q∈L,Ok q.1∧q.1.sp.length≤70∧q.1.tx.size≤1200:=by
 unfold frB at h
 rw [Bool.and_eq_true,decide_eq_true_eq] at h
 refine ⟨h.1,fun q hq=>?_⟩
 have:=List.all_eq_true.1 h.2 q hq
 unfold okq at this
 rw [Bool.and_eq_true,Bool.and_eq_true,decide_eq_true_eq,decide_eq_true_eq,decide_eq_true_eq] at this
 exact ⟨chkM_ok this.2.2,this.2.1,this.1⟩
theorem lay_ok:∀{l:List Fm},(∀p∈l,Ok p)→layE l=0
 | [],_=>rfl
 | p::l,h=>by
   unfold layE
   rw [if_neg (fun q=>q (chkM_of (h p (List.mem_cons_self ..))))]
   exact lay_ok fun x hx=>h x (List.mem_cons_of_mem _ hx)
theorem lay_all {l:List Fm} (h:∀p∈l,Ok p∧p.nc.length=16):allM (layL l)=(l,0):=by
 unfold layL
 rw [if_pos (lay_ok fun p hp=>(h p hp).1)]
 exact allM_put l h
theorem hd_ge3 {k c n:Int} (h:mb k c n=true):3≤(hdL k c n).length:=by
 obtain ⟨-,hc,hn⟩:=mb_iff.1 h
 have key:∀m:Int,0≤m→m≤1099511627776→1≤(Fi.numB m).length:=fun m h0 h1=>by
  have:=Fi.numB_len m
  rcases Fi.lenOf_cases m with q | q | q | q | q | q<;>omega
 have:=key c hc.1 hc.2
 have:=key n hn.1 hn.2
 unfold hdL
 simp only [List.length_cons,List.length_append]
 omega
theorem pk_sel {k c n:Int} {l:List Fm} (h:pkE k c n l=0):selE k c n (layL l).length=0∧pkM k c n l=⟨k,c,n,layL l⟩:=by
 refine ⟨?_,by unfold pkM;rw [if_pos h]⟩
 unfold pkE at h
 by_cases h1:layE l=0
 · rw [if_neg (fun q=>q h1)] at h
   by_cases h2:rmI k c n<((layL l).length:Int)
   · rw [if_pos h2] at h;omega
   · rw [if_neg h2] at h
     cases h3:mb k c n
     · rw [if_pos h3] at h;omega
     · unfold selE
       rw [if_neg (by rw [h3];decide),if_neg h2]
 · rw [if_pos h1] at h;exact absurd h h1
theorem pk_err {k c n:Int} {l:List Fm} (h:pkE k c n l≠0):pkM k c n l=pkErr:=by unfold pkM;rw [if_neg h]
theorem rdM_short {k c n:Int} {Y:List Int} (h:mb k c n=true) (h16:Y.length<16):rdM (hdL k c n++Y)=rdErr 3:=by
 obtain ⟨h1,hc,hn⟩:=mb_iff.1 h
 have hl:=hdL_le k c n
 have hb:rBt (hdL k c n++Y) 0=(k,nB c++(nB n++Y),0):=by
  have e:hdL k c n++Y=k::(nB c++(nB n++Y)):=by simp [hdL]
  rw [e,rBt_cons]
 have e1:rNm 1099511627776 (nB c++(nB n++Y)) 0=(c,nB n++Y,0):=rN_num hc.1 (by omega) hc.2 _
 have e2:rNm 1099511627776 (nB n++Y) 0=(n,Y,0):=rN_num hn.1 (by omega) hn.2 _
 unfold rdM
 rw [if_neg (by rw [List.length_append];omega),hb]
 simp only
 rw [if_neg (by omega),e1]
 simp only
 rw [e2]
 simp only
 rw [if_neg (by decide),if_pos h16]
theorem opM_turn {K:List Int} {k c n:Int} {X:List Int} {z:Int} (hk:0≤k) (h:selE k c n X.length=0) (hz:z≠(selL K k c n X).getD ((selL K k c n X).length-1) 0):(opM K ((selL K k c n X).set ((selL K k c n X).length-1) z)).e=15:=by
 obtain ⟨q1,q2,q3⟩:=sel_len h
 have h0:(Mc.btag K (hdL k c n) X).length=16:=Mc.tagB_len _ _
 rw [selL_yes h] at hz ⊢
 have hl:(hdL k c n++(X++Mc.btag K (hdL k c n) X)).length-1=(hdL k c n).length+(X.length+15):=by simp only [List.length_append];omega
 rw [hl] at hz ⊢
 have hs:(hdL k c n++(X++Mc.btag K (hdL k c n) X)).set ((hdL k c n).length+(X.length+15)) z=hdL k c n++(X++Mc.btag K (hdL k c n) X).set (X.length+15) z:=by
  rw [List.set_append_right _ _ (by omega),Nat.add_sub_cancel_left]
 rw [hs]
 have hz2:z≠(X++Mc.btag K (hdL k c n) X).getD (X.length+15) 0:=by
  rwa [List.getD,List.getElem?_append_right (by omega),Nat.add_sub_cancel_left] at hz
 have ho:=opE_other K (hdL k c n) X (X.length+15) z (by omega) (by omega) hz2
 have hr:=rdM_head (k:=k) (c:=c) (n:=n) (Y:=(X++Mc.btag K (hdL k c n) X).set (X.length+15) z) q1 hk (by rw [List.length_set,List.length_append];omega) (by simp only [List.length_append,List.length_set];omega)
 unfold opM
 rw [hr]
 simp only
 rw [if_neg (by decide),ho,if_pos (by decide)]
 rfl
theorem opM_cut {K:List Int} {k c n:Int} {X:List Int} (hk:0≤k) (h:selE k c n X.length=0) (C:List Int) (hC:C=(selL K k c n X).take ((selL K k c n X).length-1)) :
 (opM K C).e=15∨((opM K C).e=3∧X=[])∨((rdM C).e=0∧selL K (rdM C).k (rdM C).c (rdM C).n (rdM C).body=C):=by
 obtain ⟨q1,q2,q3⟩:=sel_len h
 have h0:(Mc.btag K (hdL k c n) X).length=16:=Mc.tagB_len _ _
 rw [selL_yes h] at hC
 have hl:(hdL k c n++(X++Mc.btag K (hdL k c n) X)).length-1=(hdL k c n).length+(X.length+15):=by simp only [List.length_append];omega
 obtain ⟨Y,hY⟩:∃Y,Y=(X++Mc.btag K (hdL k c n) X).take (X.length+15):=⟨_,rfl⟩
 have hYl:Y.length=X.length+15:=by rw [hY,List.length_take,List.length_append];omega
 have hC2:C=hdL k c n++Y:=by rw [hC,hl,hY,List.take_length_add_append]
 clear hC hl hY
 subst hC2
 by_cases hx:X=[]
 · have hr:=rdM_short (k:=k) (c:=c) (n:=n) (Y:=Y) q1 (by rw [hYl,hx];decide)
   refine .inr (.inl ⟨?_,hx⟩)
   unfold opM
   rw [hr]
   rfl
 · have hxl:0<X.length:=List.length_pos_iff.2 hx
   have hr:=rdM_head (k:=k) (c:=c) (n:=n) (Y:=Y) q1 hk (by omega) (by rw [List.length_append];omega)
   by_cases he:Y.drop (Y.length-16)=Mc.btag K (hdL k c n) (Y.take (Y.length-16))
   · refine .inr (.inr ?_)
     rw [hr]
     refine ⟨rfl,?_⟩
     have hs:selE k c n (Y.take (Y.length-16)).length=0:=by
      unfold selE
      rw [if_neg (by rw [q1];decide),if_neg (by rw [List.length_take];omega)]
     show selL K k c n (Y.take (Y.length-16))=_
     rw [selL_yes hs,←he,List.take_append_drop]
   · left
     unfold opM
     rw [hr]
     simp only
     have ho:Mc.opE K (hdL k c n) Y=15:=by unfold Mc.opE;rw [if_neg (by omega),if_neg he]
     rw [if_neg (by decide),ho,if_pos (by decide)]
     rfl
end Go.Proofs.YtiollhmbdhepkaaGreatDoor
