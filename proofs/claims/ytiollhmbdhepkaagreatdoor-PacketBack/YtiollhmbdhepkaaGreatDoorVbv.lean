/- Ytiollhmbdhepkaa: what PacketBack reaches, joined and cut (its parts: wip) -/
import Derived.Test.YtiollhmbdhepkaaGreatDoorVbr
import Derived.Test.YtiollhmbdhepkaaGreatDoorVbs
import Derived.Test.YtiollhmbdhepkaaGreatDoorVbu
import Derived.Deep.RegionHeld3
import Derived.Test.YtiollhmbdhepkaaGreatDoorVbc
namespace Go.Proofs.YtiollhmbdhepkaaGreatDoor
open Go.RowKit Go.Shelf
set_option maxRecDepth 100000
structure FG (p:Fm):Prop where
 k:FK p
 kk:isK p.k=true
 nb:¬badF p
 l:p.sp.length≤100000
 t:p.tx.size≤140737488355328
theorem FG.fp {w:World} {B:Nat} {p:Fm} {sv:Value} (h:FG p) (hs:RSp w B sv (spO p)):FP w p sv:=
 ⟨h.k,h.kk,h.nb,fun q=>by have:=hs.is;unfold spO at this;rwa [if_pos q] at this,h.l,h.t⟩
def layE:List Fm→Int
 | []=>0
 | p::l=>if chkM p≠0 then chkM p else layE l
def layL (l:List Fm):List Int:=if layE l=0 then (l.map putM).flatten else []
def atG (l:List Fm) (j:Nat):Fm:=l.getD j Fm.zero
theorem drop_at (l:List Fm) (j:Nat) (h:j<l.length):l.drop j=atG l j::l.drop (j+1):=by
 rw [List.drop_eq_getElem_cons h]
 simp [atG,List.getD,h]
theorem take_at (l:List Fm) (j:Nat) (h:j<l.length):l.take (j+1)=l.take j++[atG l j]:=by
 rw [List.take_add_one]
 simp [atG,List.getD,h]
theorem put_le {p:Fm} (h:Ok p) (hn:p.nc.length=16):(putM p).length≤1150:=by
 have:=hdB_len h hn
 rw [putM_eq,List.length_cons,List.length_append]
 omega
theorem puts_le:∀{l:List Fm},(∀p∈l,FG p)→layE l=0→(l.map putM).flatten.length≤1150*l.length
 | [],_,_=>by simp
 | p::l,h,he=>by
   have h1:=h p (List.mem_cons_self ..)
   unfold layE at he
   by_cases hc:chkM p=0
   · rw [if_neg (fun q=>q hc)] at he
     have h2:=puts_le (l:=l) (fun x hx=>h x (List.mem_cons_of_mem _ hx)) he
     have h3:=put_le (chkM_ok hc) h1.k.nl
     simp only [List.map_cons,List.flatten_cons,List.length_append,List.length_cons]
     omega
   · rw [if_pos hc] at he
     exact absurd he hc
theorem puts_byt {w:World} {B:Nat} {v:Value} {l:List (List Int)} (h:LQ w B v l):Sh.Pl.Byt l.flatten:=by
 obtain ⟨V,-,h⟩:=h
 have key:∀X∈l,Sh.Pl.Byt X:=fun X hX=>by
  obtain ⟨i,hi,rfl⟩:=List.mem_iff_getElem.1 hX
  obtain ⟨u,_,hp⟩:=h i hi
  have:=hp.1.bytes
  rwa [show l.getD i []=l[i] by simp [List.getD,hi]] at this
 clear h V
 induction l with
 | nil=>intro i;simp
 | cons X l ih=>rw [List.flatten_cons];exact byt_cat (key X (List.mem_cons_self ..)) (ih fun Y hY=>key Y (List.mem_cons_of_mem _ hY))
theorem RF.at2 {w:World} {B:Nat} {a:Option Addr} {n c:Nat} {l:List Fm} (h:RF w B (.slice a n c) l) (i:Nat) (hi:i<l.length) :
 ∃b sv,a=some ⟨b,0,none⟩∧w.cell? ⟨b,i,none⟩=some (frV (l.getD i Fm.zero) sv)∧RSp w B sv (spO (l.getD i Fm.zero)):=by
 obtain ⟨V,ho,h⟩:=h
 have ho':=ho
 obtain ⟨sv,h3,h4⟩:=h i hi
 rcases ho.2 with ⟨hv,h0⟩ | ⟨g,cap,cur,hv,_⟩
 · omega
 · cases hv
   refine ⟨g,sv,rfl,?_,h4⟩
   have:=ho'.cells (g:=g) rfl i _ h3
   rwa [Addr.add_lit,Nat.zero_add] at this
theorem LQ.nil (w:World) (B:Nat):LQ w B (.slice none 0 0) []:=⟨[],World.ownsRow_nil _ _ _ _,fun i hi=>by simp at hi⟩
theorem LQ.shape {w:World} {B:Nat} {v:Value} {l:List (List Int)} (h:LQ w B v l):∃a c,v = .slice a l.length c:=by
 obtain ⟨V,h1,-⟩:=h
 rcases h1.2 with ⟨e,h0⟩ | ⟨g,cap,cur,e,-⟩
 · exact ⟨none,0,by rw [h0];exact e⟩
 · exact ⟨_,_,e⟩
set_option maxHeartbeats 8000000 in
theorem play_any (v:Value) (l:List Fm) (w:World) (B:Nat) (ht:Tb w) (h:RF w B v l) (hg:∀p∈l,FG p) (hl:l.length≤100000)
 (hput:∀p∈l,∀(sv:Value) (w:World),Tb w→FP w p sv→(∃t y,frV p sv = .iface t y)→Calls Tryz.prog 14 #[frV p sv] w fun e w'=>∃v,e = .returned (.tuple #[v,.int .i64 (chkM p)])∧Ow w' w.heap.size v (putR p)∧Below w.heap.size w w') :
 Calls Tryz.prog 65 #[v] w fun e w'=>∃v',e = .returned (.tuple #[v',.int .i64 (layE l)])∧Ow w' w.heap.size v' (layL l)∧Below w.heap.size w w':=by
 have HT:Hid (Tb w):=ht
 have HR:Hid (RF w B v l):=h
 have HG:Hid (∀p∈l,FG p):=hg
 obtain ⟨a0,c0,rfl⟩:=h.shape
 have HPT:Hid (∀p∈l,∀(sv:Value) (w:World),Tb w→FP w p sv→(∃t y,frV p sv = .iface t y)→Calls Tryz.prog 14 #[frV p sv] w fun e w'=>∃v,e = .returned (.tuple #[v,.int .i64 (chkM p)])∧Ow w' w.heap.size v (putR p)∧Below w.heap.size w w'):=hput
 clear hput
 have HPL:Hid (layE l=0→(l.map putM).flatten.length≤1150*l.length):=fun q=>puts_le hg q
 obtain ⟨n,hn⟩:∃n,n=l.length:=⟨_,rfl⟩
 have HN:Hid (n=l.length):=hn
 rw [←hn] at hl ⊢
 obtain ⟨R,hR⟩:∃R,R=layE l:=⟨_,rfl⟩
 have HRE:Hid (layE l=R):=hR.symm
 obtain ⟨L,hL⟩:∃L,L=layL l:=⟨_,rfl⟩
 have HLE:Hid (layL l=L):=hL.symm
 rw [←hR,←hL]
 clear ht h hg hn hR hL
 go_enter Tryz.func65,Tryz.ntmps65
 go_wp2
 go_loopw [4,11] (fun p4 z wr=>∃j:Nat,j≤n∧z = .int .i64 j∧layE (l.drop j)=R∧LQ wr w.heap.size p4 ((l.take j).map putM)∧Below w.heap.size w wr) (fun _ z _=>n-(intOf z).toNat)
 case atStart=>exact ⟨0,by omega,rfl,HRE.out,LQ.nil _ _,Below.refl _ _⟩
 case round=>
  obtain ⟨j,hj,rfl,hd,hq,hb⟩:=hrel
  have HB:Hid (Below w.heap.size w wr):=hb
  have HQ:Hid (LQ wr w.heap.size u4 ((l.take j).map putM)):=hq
  have HD:Hid (layE (l.drop j)=R):=hd
  obtain ⟨qa,qc,rfl⟩:=LQ.shape hq
  have hql:((l.take j).map putM).length=j:=by rw [List.length_map,List.length_take,←HN.out];omega
  clear hd hq hb
  by_cases hlt:j<n
  · have lt2:(j:Int)<(n:Int):=by omega
    obtain ⟨bb,sv,rfl,hc,hsp⟩:=RF.at2 HR.out j (by rw [←HN.out];exact hlt)
    have hmem:FG (atG l j):=HG.out _ (by have h2:j<l.length:=by rw [←HN.out];exact hlt
                                         rw [show atG l j=l[j] by simp [atG,List.getD,h2]];exact List.getElem_mem h2)
    have hme:atG l j∈l:=by
     have h2:j<l.length:=by rw [←HN.out];exact hlt
     rw [show atG l j=l[j] by simp [atG,List.getD,h2]]
     exact List.getElem_mem h2
    have hda:=drop_at l j (by rw [←HN.out];exact hlt)
    have hta:=take_at l j (by rw [←HN.out];exact hlt)
    change w.cell? _=some (frV (atG l j) sv) at hc
    change RSp w B sv (spO (atG l j)) at hsp
    have hde:=HD.out
    rw [hda] at hde
    unfold layE at hde
    have hcr:=(HB.out.cell (World.block_lt_of_cell? _ _ hc)).trans hc
    obtain ⟨ty,y,hy⟩:=frV_iface hmem.kk sv
    have cp:=HPT.out (atG l j) hme sv wr (HT.out.next HB.out) (hmem.fp (hsp.below HB.out)) ⟨ty,y,hy⟩
    rw [hy] at cp hcr
    have HTA:Hid ((l.take (j+1)).map putM=(l.take j).map putM++[putM (atG l j)]):=by unfold Hid;rw [hta,List.map_append];rfl
    rw [hql]
    have HQL:Hid (((l.take j).map putM).length=j):=hql
    obtain ⟨AC,hAC⟩:∃AC,AC=(l.take j).map putM:=⟨_,rfl⟩
    rw [←hAC] at HQ HTA HQL
    rw [HQL.out] at HQ
    obtain ⟨p,hp⟩:∃p,p=atG l j:=⟨_,rfl⟩
    rw [←hp] at cp hde HTA
    clear hme hmem hda hta hc hsp hy hql hAC hp HD
    by_cases hz:chkM p=0
    · have hz':(chkM p != 0)=false:=by rw [hz];rfl
      rw [if_neg (fun q=>q hz)] at hde
      have HDE:Hid (layE (l.drop (j+1))=R):=hde
      have HPR:Hid (putR p=putM p):=by unfold Hid putR;rw [if_pos hz]
      clear hde hz
      generalize chkM p=ce at *
      go_wp2_with fail
      refine cp.mono ?_
      rintro e w1 ⟨v1,rfl,o1,b1⟩
      rw [HPR.out] at o1
      have hPt:=Pt.ow o1
      obtain ⟨oa,oc,rfl,-⟩:=id o1.sl
      obtain ⟨ol,hol⟩:∃ol,ol=(putM p).length:=⟨_,rfl⟩
      rw [←hol] at hPt ⊢
      obtain ⟨W2,hW2⟩:∃W2,W2=w1.alloc (.cells #[.slice oa ol oc] 34):=⟨_,rfl⟩
      have b2:Below w1.heap.size w1 W2:=by rw [hW2];exact al_below _ _
      have b12:Below wr.heap.size wr W2:=b1.trans (b2.mono b1.size)
      have HB2:Hid (Below w.heap.size w W2):=HB.out.trans (b12.mono HB.out.size)
      have HQ2:Hid (LQ W2 w.heap.size (.slice qa j qc) AC):=HQ.out.below b12
      have HPt:Hid (Pt W2 (.slice oa ol oc) (putM p)):=hPt.below b2
      have HC2:Hid (W2.cell? ⟨w1.heap.size,0,none⟩=some (.slice oa ol oc)):=by unfold Hid;rw [hW2,World.cell?_alloc_at _ _ _ _ rfl];rfl
      have HAL:Hid (AC.length≤100000):=by unfold Hid;rw [HQL.out];omega
      clear cp o1 b1 b2 b12 HQ HB hPt hol HPR hcr
      go_wp2_with (at_builtin;rw [←hW2];refine wpList_append_lq rfl _ _ rfl w.heap.size _ AC rfl HQ2.out w1.heap.size _ (putM p) 1 HPt.out rfl HC2.out HAL.out HB2.out.size (Hid.out ?_))
      unfold Hid
      intro v3 w3 r3 b3
      try rw [←hW2] at b3
      clear hW2
      have HB3:Hid (Below w.heap.size w w3):=HB2.out.trans b3
      have HQ3:Hid (LQ w3 w.heap.size v3 (AC++[putM p])):=r3
      obtain ⟨va,vc,rfl⟩:=LQ.shape r3
      have hk1:(j:Int)+1≤100000:=by omega
      clear b3 r3
      go_wp2
      go_roundw
      case rel=>exact ⟨j+1,by omega,rfl,HDE.out,by rw [HTA.out];exact HQ3.out,HB3.out⟩
      case measure=>(simp [intOf];omega)
    · have hz':(chkM p != 0)=true:=by simpa using hz
      rw [if_pos hz] at hde
      have HNE:Hid (chkM p=R):=hde
      have HLN:Hid (L=[]):=by unfold Hid;rw [←HLE.out];unfold layL;rw [if_neg (by rw [HRE.out,←hde];exact hz)]
      clear hde hz
      generalize chkM p=ce at *
      go_wp2_with fail
      refine cp.mono ?_
      rintro e w1 ⟨v1,rfl,o1,b1⟩
      have HB1:Hid (Below w.heap.size w w1):=HB.out.trans (b1.mono HB.out.size)
      clear cp o1 b1
      go_wp2
      go_ret2
      exact ⟨_,by rw [HNE.out];rfl,by rw [HLN.out];exact ⟨World.ownsRow_nil _ _ _ _,fun k=>by simp⟩,HB1.out⟩
  · obtain rfl:j=n:=by omega
    have lt2:¬(j:Int)<(j:Int):=by omega
    have hd0:=HD.out
    rw [show l.drop j=[] by rw [HN.out];exact List.drop_length] at hd0
    have hq:=HQ.out
    rw [show l.take j=l by rw [HN.out];exact List.take_length] at hq
    have HLN:Hid (L=(l.map putM).flatten):=by unfold Hid;rw [←HLE.out];unfold layL;rw [if_pos (by rw [HRE.out,←hd0];rfl)]
    have HR0:Hid (R=0):=hd0.symm
    have hbig:=HPL.out (by rw [HRE.out];exact HR0.out)
    have HBY:Hid (Sh.Pl.Byt (l.map putM).flatten):=puts_byt hq
    obtain ⟨pp,pc,e4,hP⟩:=LQ.parts hq (by rw [List.length_map,←HN.out];exact hl)
    have cj:=Fi.join_any pp pc ((l.map putM)) wr hP (by rw [←HN.out] at hbig;omega)
    rw [←e4] at cj
    rw [hql]
    rw [List.length_map,←HN.out] at cj
    clear hd0 hq hbig e4 hP hql HQ HD HR HG HPL
    go_wp2_with fail
    refine cj.mono ?_
    rintro e w1 ⟨v1,rfl,o1,b1⟩
    have O1:Hid (Ow w1 w.heap.size v1 (l.map putM).flatten):=⟨own_mono o1 HB.out.size,HBY.out⟩
    have HB1:Hid (Below w.heap.size w w1):=HB.out.trans (b1.mono HB.out.size)
    clear cj o1 b1
    go_wp2
    go_ret2
    exact ⟨_,by rw [HR0.out];rfl,by rw [HLN.out];exact O1.out,HB1.out⟩
end Go.Proofs.YtiollhmbdhepkaaGreatDoor
namespace Go.Proofs.YtiollhmbdhepkaaGreatDoor
open Go.RowKit
set_option maxRecDepth 100000
set_option maxHeartbeats 8000000 in
theorem sameFrames_any (v u:Value) (L:List FV) (w:World) (B:Nat) (h:RF w B v (L.map Prod.fst)) (hq:FQ w u L) (hok:∀q∈L,Ok q.1∧q.1.sp.length≤70) (hl:L.length≤20) :
 Calls Tryz.prog 31 #[v,u] w fun e w'=>e = .returned (.bool true)∧Below w.heap.size w w':=by
 obtain ⟨a,c,rfl,h2,h3,h4⟩:=hq.is.shape
 obtain ⟨va,vc,rfl⟩:=h.shape
 simp only [List.length_map] at h2 h hq ⊢
 have HFQ:Hid (∀W,Below w.heap.size w W→FQ W (.slice a L.length c) L):=fun W hb=>hq.kept hb
 have HFO:Hid (∀q∈L,FmI w q.1 q.2):=hq.ok
 have HOK:Hid (∀q∈L,Ok q.1∧q.1.sp.length≤70):=hok
 have HR:Hid (RF w B (.slice va L.length vc) (L.map Prod.fst)):=h
 obtain ⟨n,hn⟩:∃n,n=L.length:=⟨_,rfl⟩
 have HN:Hid (n=L.length):=hn
 rw [←hn] at h2 HFQ HR hl ⊢
 clear h hq hok h3 h4 hn
 go_enter Tryz.func31,Tryz.ntmps31
 go_wp2_with fail
 go_loopw [5] (fun z wr=>∃j:Nat,j≤n∧z = .int .i64 j∧Below w.heap.size w wr) (fun z _=>n-(intOf z).toNat)
 case atStart=>exact ⟨0,by omega,rfl,Below.refl _ _⟩
 case round=>
  obtain ⟨j,hj,rfl,hb⟩:=hrel
  have HB:Hid (Below w.heap.size w wr):=hb
  clear hb
  by_cases hlt:j<n
  · have lt2:(j:Int)<(n:Int):=by omega
    have lt3:(0:Int)≤(j:Int):=by omega
    have hjl:j<L.length:=by rw [←HN.out];exact hlt
    obtain ⟨b,off,rfl,hr⟩:=(HFQ.out wr HB.out).is.at j (by rw [List.length_map];exact hjl)
    rw [atC_plc L j hjl] at hr
    have hx:=(HFO.out _ (atF_mem L j hjl)).kept HB.out
    obtain ⟨ho,hsl⟩:=HOK.out _ (atF_mem L j hjl)
    obtain ⟨b2,sv,rfl,hc,hsp⟩:=RF.at2 HR.out j (by rw [List.length_map];exact hjl)
    rw [show (L.map Prod.fst).getD j Fm.zero=(atF L j).1 by simp [atF,List.getD,hjl]] at hc hsp
    have hcr:=(HB.out.cell (World.block_lt_of_cell? _ _ hc)).trans hc
    have hss:=hsp.below HB.out
    generalize atF L j=q at *
    obtain ⟨p,pv⟩:=q
    simp only at hx ho hsl hcr hss
    have hnl:=hx.nl
    have hK:=ho.kk
    obtain ⟨ty,y,hy⟩:=frV_iface hK sv
    rw [hy] at hcr
    have hr':wr.rangeAt b (off+j*23) (plL p pv):=hr
    have hlt3:b<wr.heap.size:=World.block_lt_of_cell? _ _ (hr' 0 _ rfl)
    have FR:Hid (∀x,From wr x→x.rangeAt b (off+j*23) (plL p pv)):=fun x hx k v hv=>(Below.cell hx (p:=⟨b,off+j*23+k,none⟩) hlt3).trans (hr' k v hv)
    have hlt4:=World.block_lt_of_cell? _ _ hcr
    have FC:Hid (∀x,From wr x→x.cell? ⟨b2,j,none⟩=some (.iface ty y)):=fun x hx=>(Below.cell hx hlt4).trans hcr
    have CF:Hid (∀x,From wr x→Calls Tryz.prog 50 #[.iface ty y] x fun e w'=>∃sv',e = .returned (.agg (plA p sv'))∧RSp w' x.heap.size sv' p.sp∧Below x.heap.size x w'):=fun x hx=>by
     have:=flatV_any p sv x hK ho.nb hnl (fun h=>by have q:=(hss.is).kept hx;unfold spO at q;rwa [if_pos h] at q) (by omega)
     rwa [hy] at this
    have CS:Hid (∀x u,From wr x→SSp x u p.sp→Calls Tryz.prog 49 #[.agg (plA p u),.agg (plA p pv)] x fun e w'=>e = .returned (.bool true)∧Below x.heap.size x w'):=fun x u h5 h=>rsameF_any p u pv x hnl h (hx.sp.kept h5) (by omega)
    have HSL:Hid ((Tryz.prog.info? 25).map (·.size)=some (plL p pv).length):=by unfold Hid;rw [plL_len hnl];kernel_rfl
    clear hr hr' hx ho hsl hc hsp hcr hss hnl hK hy hlt3 hlt4 hjl HFQ HFO HOK HR
    go_wp2_with fail
    refine wp_region_held_drew (S:=From wr) (by kernel_rfl) (Below.drew (Below.refl _ _)) (fun _=>?_)
    refine wpAnyH_name (fun u0 hu0=>?_)
    have bu0:Below wr.heap.size wr u0:=by rw [hu0.out];exact Below.drew (Below.refl _ _)
    refine wpAnyH_take (i:=0) (oi:={ dst:=some 17,op:=Op.move (Operand.tmp 0),type:=61,pos:="law.go:26",after:=#[],guard:=none }) (v:=?vs1) rfl (by kernel_rfl) (by kernel_rfl) (by kernel_rfl) (fun _ _ _ h=>h) (Or.inl ⟨by rfl,?ys1⟩) bu0 ?rs1
    case ys1=>(intro w hSw;go_simp;try with_reducible rfl)
    try simp only [Act.put,List.setIfInBounds_toArray,List.set_cons_zero,List.set_cons_succ]
    refine wpAnyH_take (i:=1) (oi:={ dst:=some 18,op:=Op.move (Operand.tmp 5),type:=3,pos:="law.go:26",after:=#[],guard:=none }) (v:=?vs2) rfl (by kernel_rfl) (by kernel_rfl) (by kernel_rfl) (fun _ _ _ h=>h) (Or.inl ⟨by rfl,?ys2⟩) bu0 ?rs2
    case ys2=>(intro w hSw;go_simp;try with_reducible rfl)
    try simp only [Act.put,List.setIfInBounds_toArray,List.set_cons_zero,List.set_cons_succ]
    refine wpAnyH_take (i:=2) (oi:={ dst:=some 19,op:=Op.indexAddr 61 (Operand.tmp 17) (Operand.tmp 18),type:=0,pos:="law.go:26",after:=#[{ on:=0,ground:=Ground.data },{ on:=1,ground:=Ground.data }],guard:=none }) (v:=?vs3) rfl (by kernel_rfl) (by kernel_rfl) (by kernel_rfl) (fun _ _ _ h=>h) (Or.inl ⟨by rfl,?ys3⟩) bu0 ?rs3
    case ys3=>(intro w hSw;go_simp;try with_reducible rfl)
    try simp only [Act.put,List.setIfInBounds_toArray,List.set_cons_zero,List.set_cons_succ]
    refine wpAnyH_take (i:=3) (oi:={ dst:=some 20,op:=Op.load 29 (Operand.tmp 19),type:=29,pos:="law.go:26",after:=#[{ on:=2,ground:=Ground.data }],guard:=none }) (v:=?vs4) rfl (by kernel_rfl) (by kernel_rfl) (by kernel_rfl) (fun _ _ _ h=>h) (Or.inl ⟨by rfl,?ys4⟩) bu0 ?rs4
    case ys4=>(intro w hSw;have t:=FC.out w hSw;go_simp;try with_reducible rfl)
    try simp only [Act.put,List.setIfInBounds_toArray,List.set_cons_zero,List.set_cons_succ]
    refine wpAnyH_take (i:=5) (oi:={ dst:=some 22,op:=Op.move (Operand.tmp 1),type:=60,pos:="law.go:26",after:=#[],guard:=none }) (v:=?vs5) rfl (by kernel_rfl) (by kernel_rfl) (by kernel_rfl) (fun _ _ _ h=>h) (Or.inl ⟨by rfl,?ys5⟩) bu0 ?rs5
    case ys5=>(intro w hSw;go_simp;try with_reducible rfl)
    try simp only [Act.put,List.setIfInBounds_toArray,List.set_cons_zero,List.set_cons_succ]
    refine wpAnyH_take (i:=6) (oi:={ dst:=some 23,op:=Op.move (Operand.tmp 5),type:=3,pos:="law.go:26",after:=#[],guard:=none }) (v:=?vs6) rfl (by kernel_rfl) (by kernel_rfl) (by kernel_rfl) (fun _ _ _ h=>h) (Or.inl ⟨by rfl,?ys6⟩) bu0 ?rs6
    case ys6=>(intro w hSw;go_simp;try with_reducible rfl)
    try simp only [Act.put,List.setIfInBounds_toArray,List.set_cons_zero,List.set_cons_succ]
    refine wpAnyH_take (i:=7) (oi:={ dst:=some 24,op:=Op.indexAddr 60 (Operand.tmp 22) (Operand.tmp 23),type:=0,pos:="law.go:26",after:=#[{ on:=5,ground:=Ground.data },{ on:=6,ground:=Ground.data }],guard:=none }) (v:=?vs7) rfl (by kernel_rfl) (by kernel_rfl) (by kernel_rfl) (fun _ _ _ h=>h) (Or.inl ⟨by rfl,?ys7⟩) bu0 ?rs7
    case ys7=>(intro w hSw;go_simp;try with_reducible rfl)
    try simp only [Act.put,List.setIfInBounds_toArray,List.set_cons_zero,List.set_cons_succ]
    refine wpAnyH_take (i:=8) (oi:={ dst:=some 25,op:=Op.load 25 (Operand.tmp 24),type:=25,pos:="law.go:26",after:=#[{ on:=7,ground:=Ground.data }],guard:=none }) (v:=.agg (plA p pv)) rfl (by kernel_rfl) (by kernel_rfl) (by kernel_rfl) (fun _ _ _ h=>h) (yieldsIf_load_mid (by rfl) 25 _ rfl b (off+j*23) rfl (plL p pv) _ (fun x hx=>FR.out x hx) Tryz.underlying25 rfl HSL.out) bu0 ?_
    try simp only [Act.put,List.setIfInBounds_toArray,List.set_cons_zero,List.set_cons_succ]
    refine wpAnyH_ready (rs:=[4]) (by kernel_rfl) (by simp) ?_
    refine AllReadyH.cons (o:={ dst:=some 21,op:=Op.call { callee:=Callee.value (Operand.func 50),args:=#[Operand.tmp 20],argTypes:=#[29] },type:=33,pos:="law.go:26",after:=#[{ on:=3,ground:=Ground.data }],guard:=none }) rfl (fun KK hKK=>?_) ?_
    · go_simp
      refine (CF.out _ bu0).mono ?_
      rintro e u9' ⟨vu9,rfl,ou9,bu9'⟩
      (try go_wp2_with fail)
      refine hKK.out _ _ (bu0.trans (Below.mono (bu9') bu0.size)) (fun _=>?_)
      clear hKK KK
      try simp only [Act.put,List.setIfInBounds_toArray,List.set_cons_zero,List.set_cons_succ]
      refine wpAnyH_name (fun u9 hu9=>?_)
      have bu9:Below wr.heap.size wr u9:=by rw [hu9.out];exact (bu0.trans (Below.mono (bu9') bu0.size))
      have OO:Hid (SSp u9 vu9 p.sp):=by unfold Hid;rw [hu9.out];exact RSp.is ou9
      refine wpAnyH_ready (rs:=[9]) (by kernel_rfl) (by simp) ?_
      refine AllReadyH.cons (o:={ dst:=some 26,op:=Op.call { callee:=Callee.value (Operand.func 49),args:=#[Operand.tmp 21,Operand.tmp 25],argTypes:=#[25,25] },type:=4,pos:="law.go:26",after:=#[{ on:=4,ground:=Ground.data },{ on:=8,ground:=Ground.data },{ on:=4,ground:=Ground.chain }],guard:=none }) rfl (fun KK hKK=>?_) ?_
      · have csu10:=CS.out _ _ bu9 OO.out
        go_simp
        refine csu10.mono ?_
        rintro e u10' ⟨rfl,bu10'⟩
        (try go_wp2_with fail)
        refine hKK.out _ _ (bu9.trans (Below.mono (bu10') bu9.size)) (fun _=>?_)
        clear hKK KK
        try simp only [Act.put,List.setIfInBounds_toArray,List.set_cons_zero,List.set_cons_succ]
        refine wpAnyH_name (fun u10 hu10=>?_)
        have bu10:Below wr.heap.size wr u10:=by rw [hu10.out];exact (bu9.trans (Below.mono (bu10') bu9.size))
        refine wpAnyH_take (i:=10) (oi:={ dst:=some 27,op:=Op.unOp UnOp.not 4 (Operand.tmp 26),type:=4,pos:="law.go:26",after:=#[{ on:=9,ground:=Ground.data }],guard:=none }) (v:=?vs11) rfl (by kernel_rfl) (by kernel_rfl) (by kernel_rfl) (fun _ _ _ h=>h) (Or.inl ⟨by rfl,?ys11⟩) bu10 ?rs11
        case ys11=>(intro w hSw;go_simp;try with_reducible rfl)
        try simp only [Act.put,List.setIfInBounds_toArray,List.set_cons_zero,List.set_cons_succ]
        refine wpAnyH_done (by kernel_rfl) ?_ _
        have BZ:Hid (Below w.heap.size w u10):=HB.out.trans (Below.mono bu10 HB.out.size)
        have hk1:(j:Int)+1≤100000:=by omega
        go_wp2
        go_roundw
        case rel=>exact ⟨j+1,by omega,rfl,BZ.out⟩
        case measure=>(simp [intOf];omega)
      exact AllReadyH.nil
    exact AllReadyH.nil
  · obtain rfl:j=n:=by omega
    have lt2:¬(j:Int)<(j:Int):=by omega
    clear HFQ HFO HOK HR HN
    go_wp2
    go_ret
    exact ⟨rfl,HB.out⟩
end Go.Proofs.YtiollhmbdhepkaaGreatDoor
namespace Go.Proofs.YtiollhmbdhepkaaGreatDoor
open Go.RowKit
set_option maxRecDepth 100000
structure Pkd where
 k:Int
 c:Int
 n:Int
 body:List Int
def pkErr:Pkd:=⟨0,0,0,[]⟩
def pkE (k c n:Int) (l:List Fm):Int:=if layE l≠0 then layE l else if rmI k c n<((layL l).length:Int) then 5 else if mb k c n=false then 2 else 0
def pkM (k c n:Int) (l:List Fm):Pkd:=if pkE k c n l=0 then ⟨k,c,n,layL l⟩ else pkErr
theorem retP {tmps:Array Value} {w:World} {g:Nat} {cs:Array Value} {t:TypeId} {fr:Nat × Nat} (hp:tmps.getD 8 undef = .pointer (some ⟨g,0,none⟩))
 (hg:w.heap[g]? = some (.cells cs t fr)) (hl:(Tryz.prog.info? 51).map (·.size)=some cs.size):(results Tryz.f28 tmps).run Tryz.prog w = .ok (.tuple #[.agg cs,tmps.getD 9 undef]) w:=by
 have hld:(loadVar 51 ⟨g,0,none⟩).run Tryz.prog w = .ok (.agg cs) w:=run_loadVar_row w g t 51 cs fr _ hg Tryz.underlying51 rfl hl
 have hr:Tryz.f28.results=#[.cell 8 51,.tmp 9]:=rfl
 have hp':tmps[8]?.getD undef = .pointer (some ⟨g,0,none⟩):=by simpa using hp
 simp [results,hp',asAddr,hld]
theorem own_row_other {w:World} {base n m c g:Nat} {a:Option Addr} {xs:List Value} {cs:Array Value} (h:w.ownsRow base 5 1 (.slice a m c) n xs) (hg:∀x,a=some x→x.block≠g):(w.setRow g cs).ownsRow base 5 1 (.slice a m c) n xs:=by
 obtain ⟨h1,h2⟩:=h
 rcases h2 with h2 | ⟨q,cap,cur,e1,e2,e3,e4⟩
 · exact ⟨h1,.inl h2⟩
 · refine ⟨h1,.inr ⟨q,cap,cur,e1,e2,?_,e4⟩⟩
   rw [setRow_other w g q cs (by cases e1;exact hg _ rfl)]
   exact e3
set_option maxHeartbeats 8000000 in
theorem ppack_any (k c n:Int) (v:Value) (l:List Fm) (w:World) (B:Nat) (ht:Tb w) (hk:0≤k∧k<256) (h:RF w B v l) (hg:∀p∈l,FG p) (hl:l.length≤100000)
 (hput:∀p∈l,∀(sv:Value) (w:World),Tb w→FP w p sv→(∃t y,frV p sv = .iface t y)→Calls Tryz.prog 14 #[frV p sv] w fun e w'=>∃v,e = .returned (.tuple #[v,.int .i64 (chkM p)])∧Ow w' w.heap.size v (putR p)∧Below w.heap.size w w') :
 Calls Tryz.prog 28 #[.int .u8 k,.int .i64 c,.int .i64 n,v] w fun e w'=>∃bv,e = .returned (.tuple #[.agg #[.int .u8 (pkM k c n l).k,.int .i64 (pkM k c n l).c,.int .i64 (pkM k c n l).n,bv],.int .i64 (pkE k c n l)])∧Ow w' w.heap.size bv (pkM k c n l).body∧Below w.heap.size w w':=by
 obtain ⟨W1,hW1⟩:∃W1,W1=w.alloc (.cells #[.int .u8 0,.int .i64 0,.int .i64 0,.slice none 0 0] 51):=⟨_,rfl⟩
 have b1:Below w.heap.size w W1:=by rw [hW1];exact al_below _ _
 have A1:Hid (KB W1 w.heap.size 0 0 0 (.slice none 0 0)):=by unfold Hid;rw [hW1];exact KB.new _ _ _ _ _
 have B1:Hid (Below w.heap.size w W1):=b1
 have HT:Hid (Tb w):=ht
 have HK:Hid (0≤k∧k<256):=hk
 have cl:=play_any v l W1 B (ht.next b1) (h.below b1) hg hl hput
 clear hput
 have HY:Hid (layE l=0→layL l=(l.map putM).flatten):=fun q=>by unfold layL;rw [if_pos q]
 obtain ⟨va,vc,rfl⟩:=h.shape
 obtain ⟨ll,hll⟩:∃ll,ll=l.length:=⟨_,rfl⟩
 rw [←hll] at cl ⊢
 obtain ⟨E,hE⟩:∃E,E=layE l:=⟨_,rfl⟩
 obtain ⟨L,hL⟩:∃L,L=layL l:=⟨_,rfl⟩
 have HE0:Hid (layE l=E):=hE.symm
 have HL0:Hid (layL l=L):=hL.symm
 rw [←hE,←hL] at cl
 clear ht hk h hg hl b1 hll hE hL HY
 go_enter Tryz.func28,Tryz.ntmps28
 go_upto_region 1 with fail
 rw [←hW1]
 clear hW1
 go_wp2_with fail
 refine cl.mono ?_
 rintro e w2 ⟨bv,rfl,o2,b2⟩
 have A2:Hid (KB w2 w.heap.size 0 0 0 (.slice none 0 0)):=A1.out.kept b2
 have B2:Hid (Below w.heap.size w w2):=B1.out.trans (b2.mono B1.out.size)
 have O2:Hid (Ow w2 W1.heap.size bv L):=o2
 have Z1:Hid (w.heap.size<W1.heap.size):=blk_lt A1.out
 obtain ⟨ba,bc,rfl,-⟩:=id o2.sl
 clear cl o2 b2 A1 B1
 by_cases he:E=0
 rotate_left
 · have t1:(E != 0)=true:=by simpa using he
   have HE:Hid (pkE k c n l=E):=by unfold Hid pkE;rw [HE0.out,if_pos he]
   have HX:Hid (pkM k c n l=pkErr):=by unfold Hid pkM;rw [HE.out,if_neg he]
   clear he HE0 HL0 O2 HT HK Z1
   generalize L.length=bl at *
   go_wp2_with (refine wpList_store_row rfl 51 _ _ rfl w.heap.size #[.int .u8 0,.int .i64 0,.int .i64 0,.slice none 0 0] rfl rfl 51 _ A2.out infoK rfl (k4_one _ _ _ _ _ _) (Hid.out ?_))
   unfold Hid
   go_wp2
   refine bodyPost_ret (retP rfl (setRow_heap _ _ _ _ _ _ A2.out) infoK) rfl ?_
   exact ⟨.slice none 0 0,by rw [HE.out,HX.out];rfl,by rw [HX.out];exact ⟨World.ownsRow_nil _ _ _ _,fun i=>by simp [pkErr]⟩,below_setRow B2.out (Nat.le_refl _) _⟩
 have t1:(E != 0)=false:=by simpa using he
 have HEZ:Hid (E=0):=he
 clear he
 obtain ⟨bl,hbl⟩:∃bl,bl=L.length:=⟨_,rfl⟩
 have HBL:Hid (bl=L.length):=hbl
 rw [←hbl] at O2 ⊢
 obtain ⟨w3,hw3⟩:∃w3,w3=w2.alloc (.cells #[.int .u8 k,.int .i64 c,.int .i64 n,.slice ba bl bc] 51):=⟨_,rfl⟩
 have b3:Below w2.heap.size w2 w3:=by rw [hw3];exact al_below _ _
 have A3:Hid (KB w3 w.heap.size 0 0 0 (.slice none 0 0)):=A2.out.kept b3
 have B3:Hid (Below w.heap.size w w3):=B2.out.trans (b3.mono B2.out.size)
 have D3:Hid (KB w3 w2.heap.size k c n (.slice ba bl bc)):=by unfold Hid;rw [hw3];exact KB.new _ _ _ _ _
 have O3:Hid (Ow w3 W1.heap.size (.slice ba bl bc) L):=⟨own_below O2.out.1 b3,O2.out.2⟩
 have hst:(w2.alloc (.cells #[.int .u8 0,.int .i64 0,.int .i64 0,.slice none 0 0] 51)).setRow w2.heap.size #[.int .u8 k,.int .i64 c,.int .i64 n,.slice ba bl bc]=w3:=by rw [hw3];exact World.setRow_alloc_new _ _ _ _
 have HG0:Hid (KB (w2.alloc (.cells #[.int .u8 0,.int .i64 0,.int .i64 0,.slice none 0 0] 51)) w2.heap.size 0 0 0 (.slice none 0 0)):=KB.new _ _ _ _ _
 have cl:=isLong_any k c n ba bl bc w3 (HT.out.next B3.out).v HK.out
 have cm:=pmay_any k c n ba bl bc
 clear b3 A2 B2 O2 hw3 hbl
 go_upto_region 5 with (refine wpList_store_row rfl 51 _ _ rfl w2.heap.size #[.int .u8 k,.int .i64 c,.int .i64 n,.slice ba bl bc] rfl rfl 51 _ HG0.out infoK rfl (k4_one _ _ _ _ _ _) ?_)
 rw [hst]
 clear hst HG0
 go_wp2_with (refine wpList_load_row rfl 51 _ rfl w2.heap.size rfl 51 #[.int .u8 k,.int .i64 c,.int .i64 n,.slice ba bl bc] (0,0) _ D3.out Tryz.underlying51 rfl infoK ?_)
 refine cl.mono ?_
 rintro e w4 ⟨rfl,b4⟩
 have A4:Hid (KB w4 w.heap.size 0 0 0 (.slice none 0 0)):=A3.out.kept b4
 have B4:Hid (Below w.heap.size w w4):=B3.out.trans (b4.mono B3.out.size)
 have D4:Hid (KB w4 w2.heap.size k c n (.slice ba bl bc)):=D3.out.kept b4
 have O4:Hid (Ow w4 W1.heap.size (.slice ba bl bc) L):=⟨own_below O3.out.1 b4,O3.out.2⟩
 clear cl b4 A3 B3 D3 O3 t1
 by_cases hlong:rmI k c n<(bl:Int)
 · have t2:decide (rmI k c n<(bl:Int))=true:=by simp [hlong]
   have HE:Hid (pkE k c n l=5):=by unfold Hid pkE;rw [HE0.out,if_neg (by have:=HEZ.out;omega),HL0.out,←HBL.out,if_pos hlong]
   have HX:Hid (pkM k c n l=pkErr):=by unfold Hid pkM;rw [HE.out,if_neg (by decide)]
   rw [t2]
   clear hlong t2 HE0 HL0 O4 HT HK Z1 HBL D4 cm HEZ
   go_wp2_with (refine wpList_store_row rfl 51 _ _ rfl w.heap.size #[.int .u8 0,.int .i64 0,.int .i64 0,.slice none 0 0] rfl rfl 51 _ A4.out infoK rfl (k4_one _ _ _ _ _ _) (Hid.out ?_))
   unfold Hid
   go_wp2
   refine bodyPost_ret (retP rfl (setRow_heap _ _ _ _ _ _ A4.out) infoK) rfl ?_
   exact ⟨.slice none 0 0,by rw [HE.out,HX.out];rfl,by rw [HX.out];exact ⟨World.ownsRow_nil _ _ _ _,fun i=>by simp [pkErr]⟩,below_setRow B4.out (Nat.le_refl _) _⟩
 have t2:decide (rmI k c n<(bl:Int))=false:=by simp;omega
 have HNL:Hid (¬rmI k c n<(bl:Int)):=hlong
 rw [t2]
 have cm4:=cm w4
 clear hlong t2 cm
 go_wp2_with (refine wpList_load_row rfl 51 _ rfl w2.heap.size rfl 51 #[.int .u8 k,.int .i64 c,.int .i64 n,.slice ba bl bc] (0,0) _ D4.out Tryz.underlying51 rfl infoK ?_)
 refine cm4.mono ?_
 rintro e w5 ⟨rfl,b5⟩
 have A5:Hid (KB w5 w.heap.size 0 0 0 (.slice none 0 0)):=A4.out.kept b5
 have B5:Hid (Below w.heap.size w w5):=B4.out.trans (b5.mono B4.out.size)
 have D5:Hid (KB w5 w2.heap.size k c n (.slice ba bl bc)):=D4.out.kept b5
 have O5:Hid (Ow w5 W1.heap.size (.slice ba bl bc) L):=⟨own_below O4.out.1 b5,O4.out.2⟩
 clear cm4 b5 A4 B4 D4 O4
 cases hmb:mb k c n
 · have HE:Hid (pkE k c n l=2):=by unfold Hid pkE;rw [HE0.out,if_neg (by have:=HEZ.out;omega),HL0.out,←HBL.out,if_neg (by have:=HNL.out;omega),if_pos hmb]
   have HX:Hid (pkM k c n l=pkErr):=by unfold Hid pkM;rw [HE.out,if_neg (by decide)]
   clear hmb HE0 HL0 O5 HT HK Z1 HBL D5 HEZ HNL
   go_wp2_with (refine wpList_store_row rfl 51 _ _ rfl w.heap.size #[.int .u8 0,.int .i64 0,.int .i64 0,.slice none 0 0] rfl rfl 51 _ A5.out infoK rfl (k4_one _ _ _ _ _ _) (Hid.out ?_))
   unfold Hid
   go_wp2
   refine bodyPost_ret (retP rfl (setRow_heap _ _ _ _ _ _ A5.out) infoK) rfl ?_
   exact ⟨.slice none 0 0,by rw [HE.out,HX.out];rfl,by rw [HX.out];exact ⟨World.ownsRow_nil _ _ _ _,fun i=>by simp [pkErr]⟩,below_setRow B5.out (Nat.le_refl _) _⟩
 · have HE:Hid (pkE k c n l=0):=by unfold Hid pkE;rw [HE0.out,if_neg (by have:=HEZ.out;omega),HL0.out,←HBL.out,if_neg (by have:=HNL.out;omega),if_neg (by rw [hmb];decide)]
   have HX:Hid (pkM k c n l=⟨k,c,n,L⟩):=by unfold Hid pkM;rw [HE.out,if_pos rfl,HL0.out]
   have OZ:Hid (Ow (w5.setRow w.heap.size #[.int .u8 k,.int .i64 c,.int .i64 n,.slice ba bl bc]) w.heap.size (.slice ba bl bc) L):=⟨own_row_other (own_mono O5.out.1 (Nat.le_of_lt Z1.out)) (fun x hx=>by have:=own_far O5.out.1 x hx;have:=Z1.out;omega),O5.out.2⟩
   clear hmb HE0 HL0 O5 HT HK Z1 HBL HEZ HNL
   go_wp2_with (first | refine wpList_load_row rfl 51 _ rfl w2.heap.size rfl 51 #[.int .u8 k,.int .i64 c,.int .i64 n,.slice ba bl bc] (0,0) _ D5.out Tryz.underlying51 rfl infoK (Hid.out ?_) | refine wpList_store_row rfl 51 _ _ rfl w.heap.size #[.int .u8 k,.int .i64 c,.int .i64 n,.slice ba bl bc] rfl rfl 51 _ A5.out infoK rfl (k4_one _ _ _ _ _ _) (Hid.out ?_))
   unfold Hid
   go_wp2_with (first | refine wpList_load_row rfl 51 _ rfl w2.heap.size rfl 51 #[.int .u8 k,.int .i64 c,.int .i64 n,.slice ba bl bc] (0,0) _ D5.out Tryz.underlying51 rfl infoK (Hid.out ?_) | refine wpList_store_row rfl 51 _ _ rfl w.heap.size #[.int .u8 k,.int .i64 c,.int .i64 n,.slice ba bl bc] rfl rfl 51 _ A5.out infoK rfl (k4_one _ _ _ _ _ _) (Hid.out ?_))
   refine bodyPost_ret (retP rfl (setRow_heap _ _ _ _ _ _ A5.out) infoK) rfl ?_
   exact ⟨.slice ba bl bc,by rw [HE.out,HX.out];rfl,by rw [HX.out];exact OZ.out,below_setRow B5.out (Nat.le_refl _) _⟩
end Go.Proofs.YtiollhmbdhepkaaGreatDoor
