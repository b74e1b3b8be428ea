/- Ytiollhmbdhepkaa: what PacketBack reaches, joined and cut (its parts: wip) -/
import Derived.Test.YtiollhmbdhepkaaGreatDoorVbh
import Derived.Test.YtiollhmbdhepkaaGreatDoorVbl
import Derived.Test.YtiollhmbdhepkaaGreatDoorVbi
import Derived.Test.YtiollhmbdhepkaaGreatDoorVbf
import Derived.Test.YtiollhmbdhepkaaGreatDoorVbj
import Derived.Test.YtiollhmbdhepkaaGreatDoorVbg
import Derived.Test.YtiollhmbdhepkaaGreatDoorVbk
import Derived.Test.YtiollhmbdhepkaaGreatDoorVbm
import Derived.Test.YtiollhmbdhepkaaGreatDoorVbq
import Derived.Test.YtiollhmbdhepkaaGreatDoorVbo
import Derived.Deep.WholeRow
import Derived.Test.YtiollhmbdhepkaaGreatDoorVbp
import Derived.Test.YtiollhmbdhepkaaGreatDoorVbn
import Derived.Test.YtiollhmbdhepkaaGreatDoorVbd
namespace Go.Proofs.YtiollhmbdhepkaaGreatDoor
open Go.RowKit Go.Shelf
set_option maxRecDepth 100000
theorem aheadF_any (v:Value) (xs:List Int) (w:World) (ht:Tb w) (h:Sl w v xs) (hl:xs.length≤100000) :
 Calls Tryz.prog 69 #[v] w fun e w'=>∃sv,e = .returned (.tuple #[.agg (plA (ahM xs).1 sv),.int .i64 (ahM xs).2.1,.int .i64 (ahM xs).2.2])∧RSp w' w.heap.size sv (ahM xs).1.sp∧Below w.heap.size w w':=by
 cases xs with
 | nil=>exact ahd0 v w ht h hl
 | cons x ys=>
   by_cases hx:isK x=false
   · exact ahdB v x ys hx w ht h hl
   · have hk:isK x=true:=by simpa using hx
     unfold isK at hk
     simp at hk
     rcases (by omega:x=1∨x=2∨x=3∨x=4∨x=5∨x=6∨x=7∨x=8∨x=9∨x=10) with e | e | e | e | e | e | e | e | e | e
     · subst e;exact ahd1 v ys w ht h hl
     · subst e;exact ahd2 v ys w ht h hl
     · subst e;exact ahd3 v ys w ht h hl
     · subst e;exact ahd4 v ys w ht h hl
     · subst e;exact ahd5 v ys w ht h hl
     · subst e;exact ahd6 v ys w ht h hl
     · subst e;exact ahd7 v ys w ht h hl
     · subst e;exact ahd8 v ys w ht h hl
     · subst e;exact ahd9 v ys w ht h hl
     · subst e;exact ahd10 v ys w ht h hl
end Go.Proofs.YtiollhmbdhepkaaGreatDoor
namespace Go.Proofs.YtiollhmbdhepkaaGreatDoor
open Go.RowKit
set_option maxRecDepth 100000
theorem flatF_any (p:Fm) (sv:Value) (w:World) (hK:isK p.k=true) (hb:¬badF p) (hn:p.nc.length=16) (hs:hS p.k=true→SSp w sv p.sp) (hl:p.sp.length≤100000) :
 Calls Tryz.prog 51 #[frV p sv] w fun e w'=>∃sv',e = .returned (.agg (plA p sv'))∧RSp w' w.heap.size sv' p.sp∧Below w.heap.size w w':=by
 have hnil:∀x,RSp x w.heap.size (.slice none 0 0) []:=fun x=>RI.nil _ _ _ _
 obtain ⟨k,id,n,cd,fin,tx,nc,sp⟩:=p
 simp only at hK hb hn hs hl
 unfold badF at hb
 simp only [not_or,not_and] at hb
 obtain ⟨b1,b2,b3,b4,b5,b6,b7⟩:=hb
 have hk:k=1∨k=2∨k=3∨k=4∨k=5∨k=6∨k=7∨k=8∨k=9∨k=10:=by unfold isK at hK;simp at hK;omega
 have d1:hI k=false→id=0:=fun q=>Classical.not_not.1 fun r=>b1 r q
 have d2:hN k=false→n=0:=fun q=>Classical.not_not.1 fun r=>b2 r q
 have d3:hF k=false→fin=false:=fun q=>by cases fin;rfl;exact absurd q (b3 rfl)
 have d4:hC k=false→cd=0:=fun q=>Classical.not_not.1 fun r=>b4 r q
 have d5:hO k=false→nc=zn:=fun q=>Classical.not_not.1 fun r=>b5 r q
 have d6:hT k=false→tx=⟨#[]⟩:=fun q=>Classical.not_not.1 fun r=>b6 r q
 have d7:hS k=false→sp=[]:=fun q=>Classical.not_not.1 fun r=>b7 r q
 clear b1 b2 b3 b4 b5 b6 b7 hK
 rcases hk with rfl | rfl | rfl | rfl | rfl | rfl | rfl | rfl | rfl | rfl
 · obtain rfl:=d1 rfl
   obtain rfl:=d2 rfl
   obtain rfl:=d3 rfl
   obtain rfl:=d4 rfl
   obtain rfl:=d5 rfl
   obtain rfl:=d6 rfl
   obtain rfl:=d7 rfl
   exact (flat1  w).mono fun _ w' ⟨e,b⟩=>⟨_,e,hnil w',b⟩
 · obtain rfl:=d1 rfl
   obtain rfl:=d3 rfl
   obtain rfl:=d4 rfl
   obtain rfl:=d5 rfl
   obtain rfl:=d6 rfl
   exact flat2 n sv sp w (hs rfl) hl
 · obtain rfl:=d4 rfl
   obtain rfl:=d5 rfl
   obtain rfl:=d7 rfl
   exact (flat3 id n fin tx w).mono fun _ w' ⟨e,b⟩=>⟨_,e,hnil w',b⟩
 · obtain rfl:=d3 rfl
   obtain rfl:=d5 rfl
   obtain rfl:=d6 rfl
   obtain rfl:=d7 rfl
   exact (flat4 id n cd w).mono fun _ w' ⟨e,b⟩=>⟨_,e,hnil w',b⟩
 · obtain rfl:=d2 rfl
   obtain rfl:=d3 rfl
   obtain rfl:=d5 rfl
   obtain rfl:=d6 rfl
   obtain rfl:=d7 rfl
   exact (flat5 id cd w).mono fun _ w' ⟨e,b⟩=>⟨_,e,hnil w',b⟩
 · obtain rfl:=d1 rfl
   obtain rfl:=d3 rfl
   obtain rfl:=d4 rfl
   obtain rfl:=d5 rfl
   obtain rfl:=d6 rfl
   obtain rfl:=d7 rfl
   exact (flat6 n w).mono fun _ w' ⟨e,b⟩=>⟨_,e,hnil w',b⟩
 · obtain rfl:=d3 rfl
   obtain rfl:=d4 rfl
   obtain rfl:=d5 rfl
   obtain rfl:=d6 rfl
   obtain rfl:=d7 rfl
   exact (flat7 id n w).mono fun _ w' ⟨e,b⟩=>⟨_,e,hnil w',b⟩
 · obtain rfl:=d1 rfl
   obtain rfl:=d3 rfl
   obtain rfl:=d4 rfl
   obtain rfl:=d5 rfl
   obtain rfl:=d6 rfl
   obtain rfl:=d7 rfl
   exact (flat8 n w).mono fun _ w' ⟨e,b⟩=>⟨_,e,hnil w',b⟩
 · obtain rfl:=d1 rfl
   obtain rfl:=d2 rfl
   obtain rfl:=d3 rfl
   obtain rfl:=d4 rfl
   obtain rfl:=d7 rfl
   obtain ⟨x0,x1,x2,x3,x4,x5,x6,x7,x8,x9,xa,xb,xc,xd,xe,xf,rfl⟩:=nc16 hn
   exact (flat9 x0 x1 x2 x3 x4 x5 x6 x7 x8 x9 xa xb xc xd xe xf tx w).mono fun _ w' ⟨e,b⟩=>⟨_,e,hnil w',b⟩
 · obtain rfl:=d1 rfl
   obtain rfl:=d2 rfl
   obtain rfl:=d3 rfl
   obtain rfl:=d5 rfl
   obtain rfl:=d7 rfl
   exact (flat10 cd tx w).mono fun _ w' ⟨e,b⟩=>⟨_,e,hnil w',b⟩
end Go.Proofs.YtiollhmbdhepkaaGreatDoor
namespace Go.Proofs.YtiollhmbdhepkaaGreatDoor
open Go.RowKit Go.Shelf
set_option maxRecDepth 100000
theorem layF_any (p:Fm) (sv:Value) (w:World) (ht:Tb w) (hi:FI w p sv) (hok:Ok p) :
 Calls Tryz.prog 52 #[.agg (plA p sv)] w fun e w'=>∃v,e = .returned v∧Ow w' w.heap.size v (putM p)∧Below w.heap.size w w':=by
 have hk:=hok.kk
 unfold isK at hk
 simp at hk
 rcases (by omega:p.k=1∨p.k=2∨p.k=3∨p.k=4∨p.k=5∨p.k=6∨p.k=7∨p.k=8∨p.k=9∨p.k=10) with e | e | e | e | e | e | e | e | e | e
 · exact lay1 p sv w ht hi hok e
 · exact lay2 p sv w ht hi hok e
 · exact lay3 p sv w ht hi hok e
 · exact lay4 p sv w ht hi hok e
 · exact lay5 p sv w ht hi hok e
 · exact lay6 p sv w ht hi hok e
 · exact lay7 p sv w ht hi hok e
 · exact lay8 p sv w ht hi hok e
 · exact lay9 p sv w ht hi hok e
 · exact lay10 p sv w ht hi hok e
theorem alloc_pl {w:World} {n:Nat} (p:Fm) (sv:Value) (t:TypeId) (old:Array Value) (hn:n=w.heap.size):(w.alloc (.cells old t)).setRow n (plA p sv)=w.alloc (.cells (plA p sv) t):=by subst hn;exact World.setRow_alloc_new _ _ _ _
def putR (p:Fm):List Int:=if chkM p=0 then putM p else []
structure FP (w:World) (p:Fm) (sv:Value):Prop where
 k:FK p
 kk:isK p.k=true
 nb:¬badF p
 s:hS p.k=true→SSp w sv p.sp
 l:p.sp.length≤100000
 t:p.tx.size≤140737488355328
set_option maxHeartbeats 8000000 in
theorem putF_any (p:Fm) (sv:Value) (w:World) (ht:Tb w) (hp:FP w p sv) (hv:∃t y,frV p sv = .iface t y) :
 Calls Tryz.prog 14 #[frV p sv] w fun e w'=>∃v,e = .returned (.tuple #[v,.int .i64 (chkM p)])∧Ow w' w.heap.size v (putR p)∧Below w.heap.size w w':=by
 have cf:=flatF_any p sv w hp.kk hp.nb hp.k.nl hp.s hp.l
 obtain ⟨ty,y,hy⟩:=hv
 rw [hy] at cf ⊢
 have HP:Hid (FP w p sv):=hp
 have HT:Hid (Tb w):=ht
 have HSZ:Hid (∀v,(Tryz.prog.info? 33).map (·.size)=some (plA p v).size):=fun v=>by rw [plA_size hp.k.nl];exact infoP
 have HSL:Hid (∀v,(Tryz.prog.info? 33).map (·.size)=some (plL p v).length):=fun v=>by rw [plL_len hp.k.nl];exact infoP
 have HON:Hid (∀(a:Option Addr) (m c:Nat),(plA p (.slice a m c)).all (·.oneCell')=true):=fun a m c=>all_oneCell_toArray (plL_one rfl)
 have HO23:Hid (∀v,(plA Fm.zero (.slice none 0 0)).size=(plA p v).size):=fun v=>by rw [plA_size hp.k.nl];rfl
 clear hp ht
 go_enter Tryz.func14,Tryz.ntmps14
 go_wp2_with fail
 refine cf.mono ?_
 rintro e w1 ⟨s1,rfl,r1,b1⟩
 obtain ⟨sa,sc,rfl,-,-,-⟩:=r1.is.shape
 obtain ⟨W2,hW2⟩:∃W2,W2=w1.alloc (.cells (plA p (.slice sa p.sp.length sc)) 33):=⟨_,rfl⟩
 have b2:Below w1.heap.size w1 W2:=by rw [hW2];exact al_below _ _
 have HB2:Hid (Below w.heap.size w W2):=b1.trans (b2.mono b1.size)
 have hal:=alloc_pl (w:=w1) p (.slice sa p.sp.length sc) 33 #[.int .u8 0,.int .i64 0,.int .i64 0,.int .i64 0,.bool false,.string ⟨#[]⟩,.int .u8 0,.int .u8 0,.int .u8 0,.int .u8 0,.int .u8 0,.int .u8 0,.int .u8 0,.int .u8 0,.int .u8 0,.int .u8 0,.int .u8 0,.int .u8 0,.int .u8 0,.int .u8 0,.int .u8 0,.int .u8 0,.slice none 0 0] rfl
 rw [←hW2] at hal
 have HAL:Hid ((w1.alloc (.cells #[.int .u8 0,.int .i64 0,.int .i64 0,.int .i64 0,.bool false,.string ⟨#[]⟩,.int .u8 0,.int .u8 0,.int .u8 0,.int .u8 0,.int .u8 0,.int .u8 0,.int .u8 0,.int .u8 0,.int .u8 0,.int .u8 0,.int .u8 0,.int .u8 0,.int .u8 0,.int .u8 0,.int .u8 0,.int .u8 0,.slice none 0 0] 33)).setRow w1.heap.size (plA p (.slice sa p.sp.length sc))=W2):=hal
 have HNEW:Hid ((w1.alloc (.cells #[.int .u8 0,.int .i64 0,.int .i64 0,.int .i64 0,.bool false,.string ⟨#[]⟩,.int .u8 0,.int .u8 0,.int .u8 0,.int .u8 0,.int .u8 0,.int .u8 0,.int .u8 0,.int .u8 0,.int .u8 0,.int .u8 0,.int .u8 0,.int .u8 0,.int .u8 0,.int .u8 0,.int .u8 0,.int .u8 0,.slice none 0 0] 33)).heap[w1.heap.size]? = some (.cells #[.int .u8 0,.int .i64 0,.int .i64 0,.int .i64 0,.bool false,.string ⟨#[]⟩,.int .u8 0,.int .u8 0,.int .u8 0,.int .u8 0,.int .u8 0,.int .u8 0,.int .u8 0,.int .u8 0,.int .u8 0,.int .u8 0,.int .u8 0,.int .u8 0,.int .u8 0,.int .u8 0,.int .u8 0,.int .u8 0,.slice none 0 0] 33 (0,0))):=heap_alloc_new _ _
 have g2:PF W2 w1.heap.size 33 p (.slice sa p.sp.length sc):=by rw [hW2];exact PF.new w1 _ p _
 have HG2:Hid (PF W2 w1.heap.size 33 p (.slice sa p.sp.length sc)):=g2
 have HI2:Hid (FI W2 p (.slice sa p.sp.length sc)):=⟨HP.out.k,(r1.is).kept b2,HP.out.l,HP.out.t⟩
 have cc:=checkF_any p _ W2 (HT.out.next HB2.out) HI2.out
 have HR2:Hid (W2.rangeAt w1.heap.size 0 (plL p (.slice sa p.sp.length sc))):=g2.range
 clear cf b1 r1 b2 hW2 hal g2
 go_wp2_with (refine wpList_store_row rfl 33 _ _ rfl w1.heap.size (plA p (.slice sa p.sp.length sc)) rfl rfl 33 _ HNEW.out (HSZ.out _) (HO23.out _) (HON.out _ _ _) (Hid.out ?_))
 unfold Hid
 rw [HAL.out]
 go_wp2_with (refine wpList_load_mid rfl 33 _ rfl w1.heap.size 0 rfl (plL p (.slice sa p.sp.length sc)) _ HR2.out Tryz.underlying33 rfl (HSL.out _) (Hid.out ?_))
 unfold Hid
 go_wp2_with fail
 refine cc.mono ?_
 rintro e w3 ⟨rfl,b3⟩
 have HB3:Hid (Below w.heap.size w w3):=HB2.out.trans (b3.mono HB2.out.size)
 have HR3:Hid (w3.rangeAt w1.heap.size 0 (plL p (.slice sa p.sp.length sc))):=(HG2.out.kept b3).range
 have HI3:Hid (FI w3 p (.slice sa p.sp.length sc)):=HI2.out.kept b3
 clear cc b3 HR2 HI2 HG2 HNEW HAL
 by_cases h0:chkM p=0
 · have cl:=layF_any p _ w3 (HT.out.next HB3.out) HI3.out (chkM_ok h0)
   have t0:(chkM p != 0)=false:=by rw [h0];rfl
   have HC0:Hid (chkM p=0):=h0
   clear h0
   go_wp2_with (refine wpList_load_mid rfl 33 _ rfl w1.heap.size 0 rfl (plL p (.slice sa p.sp.length sc)) _ HR3.out Tryz.underlying33 rfl (HSL.out _) (Hid.out ?_))
   unfold Hid
   go_wp2_with fail
   refine cl.mono ?_
   rintro e w4 ⟨v4,rfl,o4,b4⟩
   have HB4:Hid (Below w.heap.size w w4):=HB3.out.trans (b4.mono HB3.out.size)
   have HO4:Hid (Ow w4 w.heap.size v4 (putM p)):=o4.mono HB3.out.size
   clear cl b4 o4 HR3
   go_wp2
   go_ret2
   have HE:putR p=putM p:=by unfold putR;rw [if_pos HC0.out]
   exact ⟨_,(by first | rfl | (rw [HC0.out];rfl)),by rw [HE];exact HO4.out,HB4.out⟩
 · have t0:(chkM p != 0)=true:=by simpa using h0
   have HC0:Hid (¬chkM p=0):=h0
   have HNIL:Hid (Ow w3 w.heap.size (.slice none 0 0) []):=⟨World.ownsRow_nil _ _ _ _,fun k=>by simp⟩
   clear h0
   go_wp2
   go_ret2
   have HE:putR p=[]:=by unfold putR;rw [if_neg HC0.out]
   exact ⟨_,rfl,by rw [HE];exact HNIL.out,HB3.out⟩
end Go.Proofs.YtiollhmbdhepkaaGreatDoor
namespace Go.Proofs.YtiollhmbdhepkaaGreatDoor
open Go.RowKit Go.Shelf
set_option maxRecDepth 100000
set_option maxHeartbeats 8000000 in
theorem getF_any (v:Value) (xs:List Int) (w:World) (ht:Tb w) (h:Sl w v xs) (hl:xs.length≤9000000000000000000) :
 Calls Tryz.prog 33 #[v] w fun e w'=>∃sv,e = .returned (.tuple #[frV (getM xs).1 sv,.int .i64 (getM xs).2.1,.int .i64 (getM xs).2.2])∧RSp w' w.heap.size sv (spO (getM xs).1)∧Below w.heap.size w w':=by
 obtain ⟨a,c,rfl,hlc,hcm,hnn,-⟩:=id h
 obtain ⟨m,hm⟩:∃m,m=min xs.length 1150:=⟨_,rfl⟩
 have hxl:(xs.take 1150).length=m:=by rw [List.length_take,hm,Nat.min_comm]
 have hta:=h.take m (by omega)
 rw [show xs.take m=xs.take 1150 by rcases Nat.le_total xs.length 1150 with q | q
                                    · rw [hm,Nat.min_eq_left q,List.take_length,List.take_of_length_le q]
                                    · rw [hm,Nat.min_eq_right q]] at hta
 have ca:=aheadF_any (.slice a m c) (xs.take 1150) w ht hta (by omega)
 have HK:Hid (FK (ahM (xs.take 1150)).1∧(ahM (xs.take 1150)).1.sp.length≤100000∧(ahM (xs.take 1150)).1.tx.size≤140737488355328):=ahM_fk _ hta.bytes (by omega)
 have HGM:Hid (getM xs=if (ahM (xs.take 1150)).2.2≠0 then errM (ahM (xs.take 1150)).2.2 else endM (ahM (xs.take 1150)).1 (ahM (xs.take 1150)).2.1):=rfl
 have emin:min (xs.length:Int) 1150=(m:Int):=by omega
 have e1:(m:Int)≤(c:Int):=by omega
 have e2:0≤(m:Int):=by omega
 have hmx:c≤9223372036854775807:=by unfold maxLen at hcm;omega
 have hna:a=none→m=0∧c=0:=fun e=>by have:=hnn e;omega
 have HT:Hid (Tb w):=ht
 clear h hta ht hnn hm hxl hcm
 generalize ahM (xs.take 1150)=GA at *
 obtain ⟨p,gu,ge⟩:=GA
 simp only at ca HK HGM
 have HSZ:Hid (∀v,(Tryz.prog.info? 33).map (·.size)=some (plA p v).size):=fun v=>by rw [plA_size HK.out.1.nl];exact infoP
 have HSL:Hid (∀v,(Tryz.prog.info? 33).map (·.size)=some (plL p v).length):=fun v=>by rw [plL_len HK.out.1.nl];exact infoP
 have HON:Hid (∀(a:Option Addr) (m c:Nat),(plA p (.slice a m c)).all (·.oneCell')=true):=fun a m c=>all_oneCell_toArray (plL_one rfl)
 have HO23:Hid (∀v,(plA Fm.zero (.slice none 0 0)).size=(plA p v).size):=fun v=>by rw [plA_size HK.out.1.nl];rfl
 generalize xs.length=n9 at *
 cases a with
 | none=>
   obtain ⟨rfl,rfl⟩:=hna rfl
   clear hna
   go_enter Tryz.func33,Tryz.ntmps33
   go_wp2_with fail
   refine ca.mono ?_
   rintro e w1 ⟨s1,rfl,r1,b1⟩
   obtain ⟨sa,sc,rfl,-,-,-⟩:=r1.is.shape
   obtain ⟨W2,hW2⟩:∃W2,W2=w1.alloc (.cells (plA p (.slice sa p.sp.length sc)) 33):=⟨_,rfl⟩
   have b2:Below w1.heap.size w1 W2:=by rw [hW2];exact al_below _ _
   have HB2:Hid (Below w.heap.size w W2):=b1.trans (b2.mono b1.size)
   have hal:=alloc_pl (w:=w1) p (.slice sa p.sp.length sc) 33 #[.int .u8 0,.int .i64 0,.int .i64 0,.int .i64 0,.bool false,.string ⟨#[]⟩,.int .u8 0,.int .u8 0,.int .u8 0,.int .u8 0,.int .u8 0,.int .u8 0,.int .u8 0,.int .u8 0,.int .u8 0,.int .u8 0,.int .u8 0,.int .u8 0,.int .u8 0,.int .u8 0,.int .u8 0,.int .u8 0,.slice none 0 0] rfl
   rw [←hW2] at hal
   have HAL:Hid ((w1.alloc (.cells #[.int .u8 0,.int .i64 0,.int .i64 0,.int .i64 0,.bool false,.string ⟨#[]⟩,.int .u8 0,.int .u8 0,.int .u8 0,.int .u8 0,.int .u8 0,.int .u8 0,.int .u8 0,.int .u8 0,.int .u8 0,.int .u8 0,.int .u8 0,.int .u8 0,.int .u8 0,.int .u8 0,.int .u8 0,.int .u8 0,.slice none 0 0] 33)).setRow w1.heap.size (plA p (.slice sa p.sp.length sc))=W2):=hal
   have HNEW:Hid ((w1.alloc (.cells #[.int .u8 0,.int .i64 0,.int .i64 0,.int .i64 0,.bool false,.string ⟨#[]⟩,.int .u8 0,.int .u8 0,.int .u8 0,.int .u8 0,.int .u8 0,.int .u8 0,.int .u8 0,.int .u8 0,.int .u8 0,.int .u8 0,.int .u8 0,.int .u8 0,.int .u8 0,.int .u8 0,.int .u8 0,.int .u8 0,.slice none 0 0] 33)).heap[w1.heap.size]? = some (.cells #[.int .u8 0,.int .i64 0,.int .i64 0,.int .i64 0,.bool false,.string ⟨#[]⟩,.int .u8 0,.int .u8 0,.int .u8 0,.int .u8 0,.int .u8 0,.int .u8 0,.int .u8 0,.int .u8 0,.int .u8 0,.int .u8 0,.int .u8 0,.int .u8 0,.int .u8 0,.int .u8 0,.int .u8 0,.int .u8 0,.slice none 0 0] 33 (0,0))):=heap_alloc_new _ _
   have g2:PF W2 w1.heap.size 33 p (.slice sa p.sp.length sc):=by rw [hW2];exact PF.new w1 _ p _
   have HG2:Hid (PF W2 w1.heap.size 33 p (.slice sa p.sp.length sc)):=g2
   have HI2:Hid (FI W2 p (.slice sa p.sp.length sc)):=⟨HK.out.1,(r1.is).kept b2,HK.out.2.1,HK.out.2.2⟩
   have HR2:Hid (W2.rangeAt w1.heap.size 0 (plL p (.slice sa p.sp.length sc))):=g2.range
   clear ca b1 r1 b2 hW2 hal g2
   go_wp2_with (refine wpList_store_row rfl 33 _ _ rfl w1.heap.size (plA p (.slice sa p.sp.length sc)) rfl rfl 33 _ HNEW.out (HSZ.out _) (HO23.out _) (HON.out _ _ _) (Hid.out ?_))
   unfold Hid
   rw [HAL.out]
   by_cases h0:ge=0
   · have cc:=checkF_any p _ W2 (HT.out.next HB2.out) HI2.out
     have tg:(ge==0)=true:=by rw [h0];rfl
     have HG0:Hid (getM xs=endM p gu):=by unfold Hid;rw [HGM.out,h0];rfl
     clear h0 HGM HAL HNEW
     go_wp2_with (refine wpList_load_mid rfl 33 _ rfl w1.heap.size 0 rfl (plL p (.slice sa p.sp.length sc)) _ HR2.out Tryz.underlying33 rfl (HSL.out _) (Hid.out ?_))
     unfold Hid
     go_wp2_with fail
     refine cc.mono ?_
     rintro e w3 ⟨rfl,b3⟩
     have HB3:Hid (Below w.heap.size w w3):=HB2.out.trans (b3.mono HB2.out.size)
     have HR3:Hid (w3.rangeAt w1.heap.size 0 (plL p (.slice sa p.sp.length sc))):=(HG2.out.kept b3).range
     have HI3:Hid (FI w3 p (.slice sa p.sp.length sc)):=HI2.out.kept b3
     clear cc b3 HR2 HI2 HG2
     by_cases hc:chkM p=0
     · have cb:=buildF_any p _ w3 HI3.out
       have tc:(chkM p != 0)=false:=by rw [hc];rfl
       have HGG:Hid (getM xs=(p,gu,0)):=by unfold Hid;rw [HG0.out];unfold endM;rw [if_pos hc]
       clear hc HG0
       go_wp2_with (refine wpList_load_mid rfl 33 _ rfl w1.heap.size 0 rfl (plL p (.slice sa p.sp.length sc)) _ HR3.out Tryz.underlying33 rfl (HSL.out _) (Hid.out ?_))
       unfold Hid
       go_wp2_with fail
       refine cb.mono ?_
       rintro e w4 ⟨s4,rfl,r4,b4⟩
       have HB4:Hid (Below w.heap.size w w4):=HB3.out.trans (b4.mono HB3.out.size)
       have HR4:Hid (RSp w4 w.heap.size s4 (spO p)):=RSp.mono r4 HB3.out.size
       clear cb r4 b4 HR3
       go_wp2
       go_ret3
       exact ⟨s4,by rw [HGG.out];rfl,by rw [HGG.out];exact HR4.out,HB4.out⟩
     · have tc:(chkM p != 0)=true:=by simpa using hc
       have HGG:Hid (getM xs=errM (chkM p)):=by unfold Hid;rw [HG0.out];unfold endM;rw [if_neg hc]
       have HNIL:Hid (RSp w3 w.heap.size (.slice none 0 0) (spO (errM (chkM p)).1)):=RI.nil _ _ _ _
       clear hc HG0
       go_wp2
       go_ret3
       exact ⟨_,by rw [HGG.out];rfl,by rw [HGG.out];exact HNIL.out,HB3.out⟩
   · have tg:(ge==0)=false:=by simpa using h0
     have tg2:(ge != 0)=true:=by simpa using h0
     have HGG:Hid (getM xs=errM ge):=by unfold Hid;rw [HGM.out,if_pos h0]
     have HNIL:Hid (RSp W2 w.heap.size (.slice none 0 0) (spO (errM ge).1)):=RI.nil _ _ _ _
     clear h0 HGM HAL HNEW
     go_wp2
     go_ret3
     exact ⟨_,by rw [HGG.out];rfl,by rw [HGG.out];exact HNIL.out,HB2.out⟩
 | some x=>
   clear hna
   go_enter Tryz.func33,Tryz.ntmps33
   go_wp2_with fail
   refine ca.mono ?_
   rintro e w1 ⟨s1,rfl,r1,b1⟩
   obtain ⟨sa,sc,rfl,-,-,-⟩:=r1.is.shape
   obtain ⟨W2,hW2⟩:∃W2,W2=w1.alloc (.cells (plA p (.slice sa p.sp.length sc)) 33):=⟨_,rfl⟩
   have b2:Below w1.heap.size w1 W2:=by rw [hW2];exact al_below _ _
   have HB2:Hid (Below w.heap.size w W2):=b1.trans (b2.mono b1.size)
   have hal:=alloc_pl (w:=w1) p (.slice sa p.sp.length sc) 33 #[.int .u8 0,.int .i64 0,.int .i64 0,.int .i64 0,.bool false,.string ⟨#[]⟩,.int .u8 0,.int .u8 0,.int .u8 0,.int .u8 0,.int .u8 0,.int .u8 0,.int .u8 0,.int .u8 0,.int .u8 0,.int .u8 0,.int .u8 0,.int .u8 0,.int .u8 0,.int .u8 0,.int .u8 0,.int .u8 0,.slice none 0 0] rfl
   rw [←hW2] at hal
   have HAL:Hid ((w1.alloc (.cells #[.int .u8 0,.int .i64 0,.int .i64 0,.int .i64 0,.bool false,.string ⟨#[]⟩,.int .u8 0,.int .u8 0,.int .u8 0,.int .u8 0,.int .u8 0,.int .u8 0,.int .u8 0,.int .u8 0,.int .u8 0,.int .u8 0,.int .u8 0,.int .u8 0,.int .u8 0,.int .u8 0,.int .u8 0,.int .u8 0,.slice none 0 0] 33)).setRow w1.heap.size (plA p (.slice sa p.sp.length sc))=W2):=hal
   have HNEW:Hid ((w1.alloc (.cells #[.int .u8 0,.int .i64 0,.int .i64 0,.int .i64 0,.bool false,.string ⟨#[]⟩,.int .u8 0,.int .u8 0,.int .u8 0,.int .u8 0,.int .u8 0,.int .u8 0,.int .u8 0,.int .u8 0,.int .u8 0,.int .u8 0,.int .u8 0,.int .u8 0,.int .u8 0,.int .u8 0,.int .u8 0,.int .u8 0,.slice none 0 0] 33)).heap[w1.heap.size]? = some (.cells #[.int .u8 0,.int .i64 0,.int .i64 0,.int .i64 0,.bool false,.string ⟨#[]⟩,.int .u8 0,.int .u8 0,.int .u8 0,.int .u8 0,.int .u8 0,.int .u8 0,.int .u8 0,.int .u8 0,.int .u8 0,.int .u8 0,.int .u8 0,.int .u8 0,.int .u8 0,.int .u8 0,.int .u8 0,.int .u8 0,.slice none 0 0] 33 (0,0))):=heap_alloc_new _ _
   have g2:PF W2 w1.heap.size 33 p (.slice sa p.sp.length sc):=by rw [hW2];exact PF.new w1 _ p _
   have HG2:Hid (PF W2 w1.heap.size 33 p (.slice sa p.sp.length sc)):=g2
   have HI2:Hid (FI W2 p (.slice sa p.sp.length sc)):=⟨HK.out.1,(r1.is).kept b2,HK.out.2.1,HK.out.2.2⟩
   have HR2:Hid (W2.rangeAt w1.heap.size 0 (plL p (.slice sa p.sp.length sc))):=g2.range
   clear ca b1 r1 b2 hW2 hal g2
   go_wp2_with (refine wpList_store_row rfl 33 _ _ rfl w1.heap.size (plA p (.slice sa p.sp.length sc)) rfl rfl 33 _ HNEW.out (HSZ.out _) (HO23.out _) (HON.out _ _ _) (Hid.out ?_))
   unfold Hid
   rw [HAL.out]
   by_cases h0:ge=0
   · have cc:=checkF_any p _ W2 (HT.out.next HB2.out) HI2.out
     have tg:(ge==0)=true:=by rw [h0];rfl
     have HG0:Hid (getM xs=endM p gu):=by unfold Hid;rw [HGM.out,h0];rfl
     clear h0 HGM HAL HNEW
     go_wp2_with (refine wpList_load_mid rfl 33 _ rfl w1.heap.size 0 rfl (plL p (.slice sa p.sp.length sc)) _ HR2.out Tryz.underlying33 rfl (HSL.out _) (Hid.out ?_))
     unfold Hid
     go_wp2_with fail
     refine cc.mono ?_
     rintro e w3 ⟨rfl,b3⟩
     have HB3:Hid (Below w.heap.size w w3):=HB2.out.trans (b3.mono HB2.out.size)
     have HR3:Hid (w3.rangeAt w1.heap.size 0 (plL p (.slice sa p.sp.length sc))):=(HG2.out.kept b3).range
     have HI3:Hid (FI w3 p (.slice sa p.sp.length sc)):=HI2.out.kept b3
     clear cc b3 HR2 HI2 HG2
     by_cases hc:chkM p=0
     · have cb:=buildF_any p _ w3 HI3.out
       have tc:(chkM p != 0)=false:=by rw [hc];rfl
       have HGG:Hid (getM xs=(p,gu,0)):=by unfold Hid;rw [HG0.out];unfold endM;rw [if_pos hc]
       clear hc HG0
       go_wp2_with (refine wpList_load_mid rfl 33 _ rfl w1.heap.size 0 rfl (plL p (.slice sa p.sp.length sc)) _ HR3.out Tryz.underlying33 rfl (HSL.out _) (Hid.out ?_))
       unfold Hid
       go_wp2_with fail
       refine cb.mono ?_
       rintro e w4 ⟨s4,rfl,r4,b4⟩
       have HB4:Hid (Below w.heap.size w w4):=HB3.out.trans (b4.mono HB3.out.size)
       have HR4:Hid (RSp w4 w.heap.size s4 (spO p)):=RSp.mono r4 HB3.out.size
       clear cb r4 b4 HR3
       go_wp2
       go_ret3
       exact ⟨s4,by rw [HGG.out];rfl,by rw [HGG.out];exact HR4.out,HB4.out⟩
     · have tc:(chkM p != 0)=true:=by simpa using hc
       have HGG:Hid (getM xs=errM (chkM p)):=by unfold Hid;rw [HG0.out];unfold endM;rw [if_neg hc]
       have HNIL:Hid (RSp w3 w.heap.size (.slice none 0 0) (spO (errM (chkM p)).1)):=RI.nil _ _ _ _
       clear hc HG0
       go_wp2
       go_ret3
       exact ⟨_,by rw [HGG.out];rfl,by rw [HGG.out];exact HNIL.out,HB3.out⟩
   · have tg:(ge==0)=false:=by simpa using h0
     have tg2:(ge != 0)=true:=by simpa using h0
     have HGG:Hid (getM xs=errM ge):=by unfold Hid;rw [HGM.out,if_pos h0]
     have HNIL:Hid (RSp W2 w.heap.size (.slice none 0 0) (spO (errM ge).1)):=RI.nil _ _ _ _
     clear h0 HGM HAL HNEW
     go_wp2
     go_ret3
     exact ⟨_,by rw [HGG.out];rfl,by rw [HGG.out];exact HNIL.out,HB2.out⟩
end Go.Proofs.YtiollhmbdhepkaaGreatDoor
