/- Ytiollhmbdhepkaa: what PacketBack reaches, joined and cut (its parts: wip) -/
import Derived.Deep.RegionHeld3
import Derived.Test.YtiollhmbdhepkaaGreatDoorVbu
namespace Go.Proofs.YtiollhmbdhepkaaGreatDoor
open Go.RowKit Go.Proofs.YtiollhmbdhepkaaGreatDoor.Sh
set_option maxRecDepth 100000
set_option maxHeartbeats 16000000 in
theorem popen_any (K:List Int) (v:Value) (xs:List Int) (w:World) (ht:Tb w) (hm:Mc.Tabs w) (hK:K.length=32) (hKb:Pl.Byt K) (h:Sl w v xs) (hl:xs.length≤90000)
 (hall:∀(v:Value) (w:World),Tb w→Sl w v (rdM xs).body→Calls Tryz.prog 68 #[v] w fun e w'=>∃v',e = .returned (.tuple #[v',.int .i64 (allM (rdM xs).body).2])∧RF w' w.heap.size v' (allM (rdM xs).body).1∧Below w.heap.size w w') :
 Calls Tryz.prog 30 #[.agg (u8s K),v] w fun e w'=>∃bv fv,e = .returned (.tuple #[.agg #[.int .u8 (opM K xs).k,.int .i64 (opM K xs).c,.int .i64 (opM K xs).n,bv],fv,.int .i64 (opM K xs).e])∧Sl w' bv (opM K xs).body∧RF w' w.heap.size fv (opM K xs).fs∧(∀q,rowB bv=some q→w.heap.size≤q)∧Below w.heap.size w w':=by
 obtain ⟨W1,hW1⟩:∃W1,W1=w.alloc (.cells (u8s K) 47):=⟨_,rfl⟩
 obtain ⟨W2,hW2⟩:∃W2,W2=W1.alloc (.cells #[.int .u8 0,.int .i64 0,.int .i64 0,.slice none 0 0] 51):=⟨_,rfl⟩
 have b1:Below w.heap.size w W1:=by rw [hW1];exact al_below _ _
 have z1:W1.heap.size=w.heap.size+1:=by rw [hW1];simp
 have b12:Below W1.heap.size W1 W2:=by rw [hW2];exact al_below _ _
 have z2:W2.heap.size=w.heap.size+2:=by rw [hW2];simp;omega
 have b2:Below w.heap.size w W2:=b1.trans (b12.mono b1.size)
 have hg1:W1.heap[w.heap.size]? = some (.cells (u8s K) 47 (0,0)):=by rw [hW1];exact heap_alloc_new _ _
 have AW2:Hid (KB W2 (w.heap.size+1) 0 0 0 (.slice none 0 0)):=by unfold Hid;rw [←z1,hW2];exact KB.new _ _ _ _ _
 have KW2:Hid (W2.heap[w.heap.size]? = some (.cells (u8s K) 47 (0,0))):=blk_kept hg1 b12 (blk_lt hg1)
 have BW2:Hid (Below w.heap.size w W2):=b2
 have HT:Hid (Tb w):=ht
 have HM:Hid (Mc.Tabs w):=hm
 have HK:Hid (K.length=32∧Pl.Byt K):=⟨hK,hKb⟩
 have HV:Hid (Sl w v xs):=h
 have HBB:Hid (BB xs):=h.bytes
 have cr:=pread_any v xs W2 (hm.kept b2).2 (h.kept b2) hl
 have hbd:=rdM_bd xs h.bytes
 have hle:=rdM_le xs
 have hW2':W2=(w.alloc (.cells (u8s K) 47)).alloc (.cells #[.int .u8 0,.int .i64 0,.int .i64 0,.slice none 0 0] 51):=by rw [hW2,hW1]
 obtain ⟨R,hR⟩:∃R,R=rdM xs:=⟨_,rfl⟩
 have HR:Hid (rdM xs=R):=hR.symm
 have HAL:Hid (∀(v:Value) (w:World),Tb w→Sl w v R.body→Calls Tryz.prog 68 #[v] w fun e w'=>∃v',e = .returned (.tuple #[v',.int .i64 (allM R.body).2])∧RF w' w.heap.size v' (allM R.body).1∧Below w.heap.size w w'):=by rw [hR];exact hall
 clear hall
 rw [←hR] at cr hbd hle
 obtain ⟨k,c,n,B,S,er⟩:=R
 simp only at cr hbd hle HAL
 have HBD:Hid (0≤k∧k<256):=hbd
 have HLE:Hid (B.length≤90000∧S.length≤1200):=⟨by omega,hle.2.2⟩
 clear hW2 b1 b12 b2 hg1 z1 ht hm hK hKb h hR hbd hle
 have hW2:=hW2'
 clear hW2' hW1
 obtain ⟨av,mv,cv',rfl⟩:∃a m c,v = .slice a m c:=by
  obtain ⟨a,c,rfl,-⟩:=HV.out
  exact ⟨_,_,_,rfl⟩
 clear HV
 generalize hku:u8s K=KU at *
 go_enter Tryz.func30,Tryz.ntmps30
 go_upto_region 1 with fail
 rw [←hW2]
 clear hW2
 go_wp2_with fail
 refine cr.mono ?_
 rintro e w3 ⟨bv,sv,rfl,sb,ss,fb,b3⟩
 obtain ⟨ba,bc,rfl,-⟩:=id sb
 obtain ⟨sa,sc,rfl,-⟩:=id ss
 obtain ⟨bl,hbl⟩:∃l,l=B.length:=⟨_,rfl⟩
 obtain ⟨sl,hsl⟩:∃l,l=S.length:=⟨_,rfl⟩
 rw [←hbl] at sb fb ⊢
 rw [←hsl] at ss ⊢
 obtain ⟨w4,hw4⟩:∃w4,w4=w3.alloc (.cells #[.int .u8 k,.int .i64 c,.int .i64 n,.slice ba bl bc,.slice sa sl sc] 104):=⟨_,rfl⟩
 have b4:Below w3.heap.size w3 w4:=by rw [hw4];exact al_below _ _
 have A3:Hid (KB w3 (w.heap.size+1) 0 0 0 (.slice none 0 0)):=AW2.out.kept b3
 have A4:Hid (KB w4 (w.heap.size+1) 0 0 0 (.slice none 0 0)):=A3.out.kept b4
 have B3:Hid (Below w.heap.size w w3):=BW2.out.trans (b3.mono BW2.out.size)
 have B4:Hid (Below w.heap.size w w4):=B3.out.trans (b4.mono B3.out.size)
 have K4:Hid (w4.heap[w.heap.size]? = some (.cells KU 47 (0,0))):=blk_kept (blk_kept KW2.out b3 (blk_lt KW2.out)) b4 (Nat.lt_of_lt_of_le (blk_lt KW2.out) b3.size)
 have D4:Hid (GB w4 w3.heap.size k c n (.slice ba bl bc) (.slice sa sl sc)):=by unfold Hid;rw [hw4];exact GB.new _ _ _ _ _ _
 have SB4:Hid (Sl w4 (.slice ba bl bc) B):=sb.kept b4
 have SS4:Hid (Sl w4 (.slice sa sl sc) S):=ss.kept b4
 have FR:Hid (∀q,rowB (.slice ba bl bc)=some q→w.heap.size+2≤q):=fun q hq=>by have:=fb q hq;omega
 have Z3:Hid (w.heap.size+2≤w3.heap.size):=by unfold Hid;have:=b3.size;omega
 have hst:(w3.alloc (.cells #[.int .u8 0,.int .i64 0,.int .i64 0,.slice none 0 0,.slice none 0 0] 104)).setRow w3.heap.size #[.int .u8 k,.int .i64 c,.int .i64 n,.slice ba bl bc,.slice sa sl sc]=w4:=by rw [hw4];exact World.setRow_alloc_new _ _ _ _
 have g0:GB (w3.alloc (.cells #[.int .u8 0,.int .i64 0,.int .i64 0,.slice none 0 0,.slice none 0 0] 104)) w3.heap.size 0 0 0 (.slice none 0 0) (.slice none 0 0):=GB.new _ _ _ _ _ _
 have HG0:Hid (GB (w3.alloc (.cells #[.int .u8 0,.int .i64 0,.int .i64 0,.slice none 0 0,.slice none 0 0] 104)) w3.heap.size 0 0 0 (.slice none 0 0) (.slice none 0 0)):=g0
 clear cr sb ss fb b3 b4 AW2 BW2 KW2 A3 B3 z2 hw4 hbl hsl g0
 go_upto_region 2 with (refine wpList_store_row rfl 104 _ _ rfl w3.heap.size #[.int .u8 k,.int .i64 c,.int .i64 n,.slice ba bl bc,.slice sa sl sc] rfl rfl 104 _ HG0.out infoG rfl (g5_one _ _ _ _ _ _ _ _ _) ?_)
 clear hst HG0
 by_cases he:er=0
 rotate_left
 · have t1:(er != 0)=true:=by simpa using he
   have HE:Hid (opM K xs=opErr er):=by
    unfold Hid opM
    rw [HR.out]
    simp only
    rw [if_pos he]
   clear he HR HBB K4 D4 SB4 SS4 FR Z3 HT HM HK HBD HLE hku
   go_wp2_with (refine wpList_store_row rfl 51 _ _ rfl (w.heap.size+1) #[.int .u8 0,.int .i64 0,.int .i64 0,.slice none 0 0] rfl rfl 51 _ A4.out infoK rfl (k4_one _ _ _ _ _ _) (Hid.out ?_))
   unfold Hid
   go_wp2
   refine bodyPost_ret (retO rfl (setRow_heap _ _ _ _ _ _ A4.out) infoK) rfl ?_
   exact ⟨.slice none 0 0,.slice none 0 0,by rw [HE.out];rfl,by rw [HE.out];exact Sl.none _,by rw [HE.out];exact RF.nil _ _,(fun q hq=>by simp [rowB] at hq),below_setRow B4.out (Nat.le_succ _) _⟩
 have t1:(er != 0)=false:=by simpa using he
 have HEZ:Hid (er=0):=he
 clear he
 go_upto_region 4 with fail
 clear t1
 have FK:Hid (∀x,From w4 x→x.rangeAt w.heap.size 0 (K.map (Value.int .u8))):=fun x hx=>range_sumK (t:=47) (fr:=(0,0)) (by rw [hku];exact blk_kept K4.out hx (blk_lt K4.out))
 have FG:Hid (∀x,From w4 x→GB x w3.heap.size k c n (.slice ba bl bc) (.slice sa sl sc)):=fun x hx=>D4.out.kept hx
 have FA:Hid (∀x,From w4 x→KB x (w.heap.size+1) 0 0 0 (.slice none 0 0)):=fun x hx=>A4.out.kept hx
 have FT:Hid (∀x,From w4 x→Mc.Tabs x∧Tb x):=fun x hx=>⟨(HM.out.kept B4.out).kept hx,(HT.out.next B4.out).next hx⟩
 have FB:Hid (∀x,From w4 x→Below w.heap.size w x):=fun x hx=>B4.out.trans (Below.mono hx B4.out.size)
 have FS:Hid (∀x,From w4 x→Sl x (.slice sa sl sc) S):=fun x hx=>SS4.out.kept hx
 have FX:Hid (∀x,From w4 x→Sl x (.slice ba bl bc) B):=fun x hx=>SB4.out.kept hx
 have hiH:(Tryz.prog.info? 47).map (·.size)=some (K.map (Value.int .u8)).length:=by rw [List.length_map,HK.out.1];exact size26
 have HHB:Hid (Pl.Byt (hdL k c n)):=hdL_byt HBD.out.1 HBD.out.2
 have HHL:Hid ((hdL k c n).length≤17):=hdL_le k c n
 have HOP:Hid (∀(hv:Value) (x:World),Mc.Tabs x→Sl x hv (hdL k c n)→Sl x (.slice sa sl sc) S→Calls Tryz.prog 67 #[.agg (K.map (Value.int .u8)).toArray,hv,.slice sa sl sc] x fun e w'=>∃v',e = .returned (.tuple #[v',.int .i64 (Mc.opE K (hdL k c n) S)])∧Below x.heap.size x w'):=fun hv x h1 h2 h3=>(Mc.open_any K hv _ (hdL k c n) S x HK.out.1 HK.out.2 h1 h2 h3 (by have:=HHL.out;omega) (by have:=HLE.out.2;omega)).mono fun _ _ ⟨v',e1,_,e3⟩=>⟨v',e1,e3⟩
 have HHD:Hid (∀x,Mc.Tabs x→Calls Tryz.prog 57 #[.agg #[.int .u8 k,.int .i64 c,.int .i64 n,.slice ba bl bc]] x fun e w'=>∃v,e = .returned v∧w'.ownsRow x.heap.size 5 1 v (hdL k c n).length ((hdL k c n).map (Value.int .u8))∧Below x.heap.size x w'):=fun x hx=>head_any k c n ba bl bc x hx.2 HBD.out
 obtain ⟨OE,hOE⟩:∃OE,OE=Mc.opE K (hdL k c n) S:=⟨_,rfl⟩
 have HOE:Hid (Mc.opE K (hdL k c n) S=OE):=hOE.symm
 rw [←hOE] at HOP
 obtain ⟨HL,hHL⟩:∃HL,HL=hdL k c n:=⟨_,rfl⟩
 rw [←hHL] at HHB HHL HOP HHD
 clear hOE hHL hku A4 B4 K4 D4 SB4 SS4
 refine wp_region_held_drew (S:=From w4) (by kernel_rfl) ((Below.refl _ _).drew) (fun _=>?_)
 refine wpAnyH_on ((Below.refl _ _).drew) (fun u0 hu0 bu0=>?_)
 replace FK:=on FK bu0
 replace FG:=on FG bu0
 replace FA:=on FA bu0
 replace FT:=on FT bu0
 replace FB:=on FB bu0
 replace FS:=on FS bu0
 replace FX:=on FX bu0
 refine wpAnyH_take (i:=0) (oi:={ dst:=some 22,op:=Op.load 47 (Operand.tmp 2),type:=47,pos:="packet.go:64",after:=#[],guard:=none }) (v:=.agg (K.map (Value.int .u8)).toArray) rfl (by kernel_rfl) (by kernel_rfl) (by kernel_rfl) (fun _ _ _ h=>h) (yieldsIf_load_mid (by rfl) _ _ rfl w.heap.size 0 rfl _ _ (fun x h=>FK.out x h) Tryz.underlying47 rfl hiH) (Below.refl _ _) ?_
 try simp only [Act.put,List.setIfInBounds_toArray,List.set_cons_zero,List.set_cons_succ]
 refine wpAnyH_take (i:=1) (oi:={ dst:=some 23,op:=Op.fieldAddr 104 (Operand.tmp 7) 0,type:=0,pos:="packet.go:64",after:=#[],guard:=none }) (v:=?vo2) rfl (by kernel_rfl) (by kernel_rfl) (by kernel_rfl) (fun _ _ _ h=>h) (Or.inl ⟨by rfl,?yo2⟩) (Below.refl _ _) ?ro2
 case yo2=>(intro w hSw;go_simp;try with_reducible rfl)
 try simp only [Act.put,List.setIfInBounds_toArray,List.set_cons_zero,List.set_cons_succ]
 refine wpAnyH_take (i:=2) (oi:={ dst:=some 24,op:=Op.load 51 (Operand.tmp 23),type:=51,pos:="packet.go:64",after:=#[{ on:=1,ground:=Ground.data }],guard:=none }) (v:=.agg #[.int .u8 k,.int .i64 c,.int .i64 n,.slice ba bl bc]) rfl (by kernel_rfl) (by kernel_rfl) (by kernel_rfl) (fun _ _ _ h=>h) (yieldsIf_load_mid (by rfl) _ _ rfl w3.heap.size 0 rfl [.int .u8 k,.int .i64 c,.int .i64 n,.slice ba bl bc] _ (fun x h=>(FG.out x h).four) Tryz.underlying51 rfl infoK) (Below.refl _ _) ?_
 try simp only [Act.put,List.setIfInBounds_toArray,List.set_cons_zero,List.set_cons_succ]
 refine wpAnyH_take (i:=4) (oi:={ dst:=some 26,op:=Op.fieldAddr 104 (Operand.tmp 7) 1,type:=0,pos:="packet.go:64",after:=#[],guard:=none }) (v:=?vo4) rfl (by kernel_rfl) (by kernel_rfl) (by kernel_rfl) (fun _ _ _ h=>h) (Or.inl ⟨by rfl,?yo4⟩) (Below.refl _ _) ?ro4
 case yo4=>(intro w hSw;go_simp;try with_reducible rfl)
 try simp only [Act.put,List.setIfInBounds_toArray,List.set_cons_zero,List.set_cons_succ]
 refine wpAnyH_take (i:=5) (oi:={ dst:=some 27,op:=Op.load 34 (Operand.tmp 26),type:=34,pos:="packet.go:64",after:=#[{ on:=4,ground:=Ground.data }],guard:=none }) (v:=?vo5) rfl (by kernel_rfl) (by kernel_rfl) (by kernel_rfl) (fun _ _ _ h=>h) (Or.inl ⟨by rfl,?yo5⟩) (Below.refl _ _) ?ro5
 case yo5=>(intro w hSw;have t:=(FG.out w hSw).gc.c4;go_simp;try with_reducible rfl)
 try simp only [Act.put,List.setIfInBounds_toArray,List.set_cons_zero,List.set_cons_succ]
 refine wpAnyH_ready (rs:=[3]) (by kernel_rfl) (by simp) ?_
 refine AllReadyH.cons (o:={ dst:=some 25,op:=Op.call { callee:=Callee.value (Operand.func 57),args:=#[Operand.tmp 24],argTypes:=#[51] },type:=34,pos:="packet.go:64",after:=#[{ on:=2,ground:=Ground.data }],guard:=none }) rfl (fun KK hKK=>?_) ?_
 · go_simp
   refine (HHD.out _ (FT.out _ (Below.refl _ _)).1).mono ?_
   rintro e u6' ⟨v3,rfl,o3,bu6'⟩
   obtain ⟨a3,q3,rfl,-⟩:=sl_owned o3 HHB.out
   (try go_wp2_with fail)
   refine hKK.out _ _ (bu6') (fun _=>?_)
   clear hKK KK
   try simp only [Act.put,List.setIfInBounds_toArray,List.set_cons_zero,List.set_cons_succ]
   refine wpAnyH_on (bu6') (fun u6 hu6 bu6=>?_)
   replace FK:=on FK bu6
   replace FG:=on FG bu6
   replace FA:=on FA bu6
   replace FT:=on FT bu6
   replace FB:=on FB bu6
   replace FS:=on FS bu6
   replace FX:=on FX bu6
   have F3:Hid (∀x,From u6 x→Sl x (.slice a3 HL.length q3) HL):=fun x hx=>by rw [hu6.out] at hx;exact Sl.kept (sl_owned o3 HHB.out) hx
   clear o3
   obtain ⟨l3,hl3⟩:∃l,l=HL.length:=⟨_,rfl⟩
   rw [←hl3] at F3 ⊢
   clear hl3
   refine wpAnyH_ready (rs:=[6]) (by kernel_rfl) (by simp) ?_
   refine AllReadyH.cons (o:={ dst:=some 28,op:=Op.call { callee:=Callee.value (Operand.func 67),args:=#[Operand.tmp 22,Operand.tmp 25,Operand.tmp 27],argTypes:=#[47,34,34] },type:=39,pos:="packet.go:64",after:=#[{ on:=0,ground:=Ground.data },{ on:=3,ground:=Ground.data },{ on:=5,ground:=Ground.data },{ on:=3,ground:=Ground.chain }],guard:=none }) rfl (fun KK hKK=>?_) ?_
   · go_simp
     refine (HOP.out _ _ (FT.out _ (Below.refl _ _)).1 (F3.out _ (Below.refl _ _)) (FS.out _ (Below.refl _ _))).mono ?_
     rintro e u7' ⟨v6,rfl,bu7'⟩
     (try go_wp2_with fail)
     refine hKK.out _ _ (bu7') (fun _=>?_)
     clear hKK KK
     try simp only [Act.put,List.setIfInBounds_toArray,List.set_cons_zero,List.set_cons_succ]
     refine wpAnyH_on (bu7') (fun u7 hu7 bu7=>?_)
     replace FK:=on FK bu7
     replace FG:=on FG bu7
     replace FA:=on FA bu7
     replace FT:=on FT bu7
     replace FB:=on FB bu7
     replace FS:=on FS bu7
     replace FX:=on FX bu7
     replace F3:=on F3 bu7
     refine wpAnyH_take (i:=7) (oi:={ dst:=some 21,op:=Op.move (Operand.tmp 28),type:=39,pos:="packet.go:64",after:=#[{ on:=6,ground:=Ground.data }],guard:=none }) (v:=?vo8) rfl (by kernel_rfl) (by kernel_rfl) (by kernel_rfl) (fun _ _ _ h=>h) (Or.inl ⟨by rfl,?yo8⟩) (Below.refl _ _) ?ro8
     case yo8=>(intro w hSw;go_simp;try with_reducible rfl)
     try simp only [Act.put,List.setIfInBounds_toArray,List.set_cons_zero,List.set_cons_succ]
     refine wpAnyH_take (i:=8) (oi:={ dst:=some 29,op:=Op.extract (Operand.tmp 21) 0,type:=34,pos:="packet.go:64",after:=#[{ on:=7,ground:=Ground.data }],guard:=none }) (v:=?vo9) rfl (by kernel_rfl) (by kernel_rfl) (by kernel_rfl) (fun _ _ _ h=>h) (Or.inl ⟨by rfl,?yo9⟩) (Below.refl _ _) ?ro9
     case yo9=>(intro w hSw;go_simp;try with_reducible rfl)
     try simp only [Act.put,List.setIfInBounds_toArray,List.set_cons_zero,List.set_cons_succ]
     refine wpAnyH_take (i:=9) (oi:={ dst:=some 30,op:=Op.extract (Operand.tmp 21) 1,type:=30,pos:="packet.go:64",after:=#[{ on:=7,ground:=Ground.data },{ on:=10,ground:=Ground.gcOnly Departure.lateStores }],guard:=none }) (v:=?vo10) rfl (by kernel_rfl) (by kernel_rfl) (by kernel_rfl) (fun _ _ _ h=>h) (Or.inl ⟨by rfl,?yo10⟩) (Below.refl _ _) ?ro10
     case yo10=>(intro w hSw;go_simp;try with_reducible rfl)
     try simp only [Act.put,List.setIfInBounds_toArray,List.set_cons_zero,List.set_cons_succ]
     refine wpAnyH_take (i:=10) (oi:={ dst:=some 9,op:=Op.assign (Operand.tmp 29),type:=34,pos:="packet.go:64",after:=#[{ on:=8,ground:=Ground.data },{ on:=6,ground:=Ground.chain },{ on:=0,ground:=Ground.phase },{ on:=1,ground:=Ground.phase },{ on:=2,ground:=Ground.phase },{ on:=3,ground:=Ground.phase },{ on:=4,ground:=Ground.phase },{ on:=5,ground:=Ground.phase },{ on:=6,ground:=Ground.phase },{ on:=7,ground:=Ground.phase },{ on:=8,ground:=Ground.phase },{ on:=9,ground:=Ground.textOnly Departure.lateStores }],guard:=none }) (v:=?vo11) rfl (by kernel_rfl) (by kernel_rfl) (by kernel_rfl) (fun _ _ _ h=>h) (Or.inl ⟨by rfl,?yo11⟩) (Below.refl _ _) ?ro11
     case yo11=>(intro w hSw;go_simp;try with_reducible rfl)
     try simp only [Act.put,List.setIfInBounds_toArray,List.set_cons_zero,List.set_cons_succ]
     refine wpAnyH_take (i:=11) (oi:={ dst:=some 10,op:=Op.assign (Operand.tmp 30),type:=30,pos:="packet.go:64",after:=#[{ on:=9,ground:=Ground.data },{ on:=10,ground:=Ground.chain },{ on:=0,ground:=Ground.phase },{ on:=1,ground:=Ground.phase },{ on:=2,ground:=Ground.phase },{ on:=3,ground:=Ground.phase },{ on:=4,ground:=Ground.phase },{ on:=5,ground:=Ground.phase },{ on:=6,ground:=Ground.phase },{ on:=7,ground:=Ground.phase },{ on:=8,ground:=Ground.phase },{ on:=9,ground:=Ground.phase },{ on:=10,ground:=Ground.phase }],guard:=none }) (v:=?vo12) rfl (by kernel_rfl) (by kernel_rfl) (by kernel_rfl) (fun _ _ _ h=>h) (Or.inl ⟨by rfl,?yo12⟩) (Below.refl _ _) ?ro12
     case yo12=>(intro w hSw;go_simp;try with_reducible rfl)
     try simp only [Act.put,List.setIfInBounds_toArray,List.set_cons_zero,List.set_cons_succ]
     refine wpAnyH_done (by kernel_rfl) ?_ _
     skip
     by_cases ho:OE=0
     rotate_left
     · have t1:(OE != 0)=true:=by simpa using ho
       have HE:Hid (opM K xs=opErr OE):=by
        unfold Hid opM
        rw [HR.out]
        simp only
        rw [if_neg (by have:=HEZ.out;omega),HOE.out,if_pos ho]
       have A5:Hid (KB u7 (w.heap.size+1) 0 0 0 (.slice none 0 0)):=FA.out _ (Below.refl _ _)
       have B5:Hid (Below w.heap.size w u7):=FB.out _ (Below.refl _ _)
       clear ho HR HOE HOP HHD FK FG FA FT FB FS FX FR HT HM HK HBD HLE hiH HHB HHL HBB
       go_wp2_with (refine wpList_store_row rfl 51 _ _ rfl (w.heap.size+1) #[.int .u8 0,.int .i64 0,.int .i64 0,.slice none 0 0] rfl rfl 51 _ A5.out infoK rfl (k4_one _ _ _ _ _ _) (Hid.out ?_))
       unfold Hid
       go_wp2
       refine bodyPost_ret (retO rfl (setRow_heap _ _ _ _ _ _ A5.out) infoK) rfl ?_
       exact ⟨.slice none 0 0,.slice none 0 0,by rw [HE.out];rfl,by rw [HE.out];exact Sl.none _,by rw [HE.out];exact RF.nil _ _,(fun q hq=>by simp [rowB] at hq),below_setRow B5.out (Nat.le_succ _) _⟩
     have t1:(OE != 0)=false:=by simpa using ho
     have HOZ:Hid (OE=0):=ho
     clear ho
     have D5:Hid (GB u7 w3.heap.size k c n (.slice ba bl bc) (.slice sa sl sc)):=FG.out _ (Below.refl _ _)
     have A5:Hid (KB u7 (w.heap.size+1) 0 0 0 (.slice none 0 0)):=FA.out _ (Below.refl _ _)
     have B5:Hid (Below w.heap.size w u7):=FB.out _ (Below.refl _ _)
     have X5:Hid (Sl u7 (.slice ba bl bc) B):=FX.out _ (Below.refl _ _)
     have ca:=HAL.out _ u7 (FT.out _ (Below.refl _ _)).2 X5.out
     obtain ⟨Q,hQ⟩:∃Q,Q=allM B:=⟨_,rfl⟩
     have HQ:Hid (allM B=Q):=hQ.symm
     rw [←hQ] at ca
     obtain ⟨fs,ef⟩:=Q
     skip
     clear hQ HOP HHD FK FG FA FT FB FS FX HM HK hiH HHB HHL HBB
     have k3:=D5.out.gc.c3
     go_wp2_with fail
     refine ca.mono ?_
     rintro e w6 ⟨fv,rfl,rf6,b6⟩
     have A6:Hid (KB w6 (w.heap.size+1) 0 0 0 (.slice none 0 0)):=A5.out.kept b6
     have B6:Hid (Below w.heap.size w w6):=B5.out.trans (b6.mono B5.out.size)
     have D6:Hid (GB w6 w3.heap.size k c n (.slice ba bl bc) (.slice sa sl sc)):=D5.out.kept b6
     have X6:Hid (Sl w6 (.slice ba bl bc) B):=X5.out.kept b6
     have F6:Hid (RF w6 w.heap.size fv fs):=RF.mono rf6 B5.out.size
     obtain ⟨fa,fc,rfl⟩:=rf6.shape
     clear ca rf6 b6 A5 B5 D5 X5 k3 t1
     by_cases hf:ef=0
     rotate_left
     · have t1:(ef != 0)=true:=by simpa using hf
       have HE:Hid (opM K xs=opErr ef):=by
        unfold Hid opM
        rw [HR.out]
        simp only
        rw [if_neg (by have:=HEZ.out;omega),HOE.out,if_neg (by have:=HOZ.out;omega),HQ.out]
        simp only
        rw [if_pos hf]
       clear hf HR HOE FR HT HBD HLE HQ HEZ HOZ
       go_wp2_with (refine wpList_store_row rfl 51 _ _ rfl (w.heap.size+1) #[.int .u8 0,.int .i64 0,.int .i64 0,.slice none 0 0] rfl rfl 51 _ A6.out infoK rfl (k4_one _ _ _ _ _ _) (Hid.out ?_))
       unfold Hid
       go_wp2
       refine bodyPost_ret (retO rfl (setRow_heap _ _ _ _ _ _ A6.out) infoK) rfl ?_
       exact ⟨.slice none 0 0,.slice none 0 0,by rw [HE.out];rfl,by rw [HE.out];exact Sl.none _,by rw [HE.out];exact RF.nil _ _,(fun q hq=>by simp [rowB] at hq),below_setRow B6.out (Nat.le_succ _) _⟩
     have t1:(ef != 0)=false:=by simpa using hf
     have HE:Hid (opM K xs=⟨k,c,n,B,fs,0⟩):=by
      unfold Hid opM
      rw [HR.out]
      simp only
      rw [if_neg (by have:=HEZ.out;omega),HOE.out,if_neg (by have:=HOZ.out;omega),HQ.out]
      simp only
      rw [if_neg (by rw [hf];decide)]
     have RR:Hid (w6.rangeAt w3.heap.size 0 [.int .u8 k,.int .i64 c,.int .i64 n,.slice ba bl bc]):=D6.out.four
     have XZ:Hid (Sl (w6.setRow (w.heap.size+1) #[.int .u8 k,.int .i64 c,.int .i64 n,.slice ba bl bc]) (.slice ba bl bc) B):=sl_otherR2 X6.out (fun x hx=>by have:=FR.out x.block (by rw [hx];rfl);omega)
     have FZ:Hid (RF (w6.setRow (w.heap.size+1) #[.int .u8 k,.int .i64 c,.int .i64 n,.slice ba bl bc]) w.heap.size (.slice fa fs.length fc) fs):=F6.out.keep (fun j cs t ht hh=>by
      rw [setRow_other _ _ _ _ (fun e=>by
       have q:=A6.out
       unfold KB at q
       rw [e,q] at hh
       rcases ht with ht | ht<;>subst ht<;>cases hh)]
      exact hh)
     have FR2:Hid (∀q,rowB (.slice ba bl bc)=some q→w.heap.size≤q):=fun q hq=>Nat.le_trans (Nat.le_add_right _ _) (FR.out q hq)
     obtain ⟨fl,hfl⟩:∃l,l=fs.length:=⟨_,rfl⟩
     rw [←hfl] at FZ ⊢
     clear hf HR HOE HT HBD HLE HQ HEZ HOZ F6 X6 FR hfl
     go_wp2_with (first | refine wpList_load_mid rfl 51 _ rfl w3.heap.size 0 rfl [.int .u8 k,.int .i64 c,.int .i64 n,.slice ba bl bc] _ RR.out Tryz.underlying51 rfl infoK (Hid.out ?_) | refine wpList_store_row rfl 51 _ _ rfl (w.heap.size+1) #[.int .u8 k,.int .i64 c,.int .i64 n,.slice ba bl bc] rfl rfl 51 _ A6.out infoK rfl (k4_one _ _ _ _ _ _) (Hid.out ?_))
     unfold Hid
     go_wp2_with (first | refine wpList_load_mid rfl 51 _ rfl w3.heap.size 0 rfl [.int .u8 k,.int .i64 c,.int .i64 n,.slice ba bl bc] _ RR.out Tryz.underlying51 rfl infoK (Hid.out ?_) | refine wpList_store_row rfl 51 _ _ rfl (w.heap.size+1) #[.int .u8 k,.int .i64 c,.int .i64 n,.slice ba bl bc] rfl rfl 51 _ A6.out infoK rfl (k4_one _ _ _ _ _ _) (Hid.out ?_))
     unfold Hid
     go_wp2
     refine bodyPost_ret (retO rfl (setRow_heap _ _ _ _ _ _ A6.out) infoK) rfl ?_
     exact ⟨.slice ba bl bc,.slice fa fl fc,by rw [HE.out];rfl,by rw [HE.out];exact XZ.out,by rw [HE.out];exact FZ.out,FR2.out,below_setRow B6.out (Nat.le_succ _) _⟩
   exact AllReadyH.nil
 exact AllReadyH.nil
end Go.Proofs.YtiollhmbdhepkaaGreatDoor
