/- Ytiollhmbdhepkaa: what PacketBack reaches, joined and cut (its parts: wip) -/
import Derived.Test.YtiollhmbdhepkaaGreatDoorVas
import Derived.Maps.OwnSet
namespace Go.Proofs.YtiollhmbdhepkaaGreatDoor
open Go.RowKit Go.Shelf
set_option maxRecDepth 100000
set_option maxHeartbeats 2000000 in
theorem equalS_any (w:World) (u v:Value) (l m:List Sp) (hu:SSp w u l) (hv:SSp w v m) (hl:l.length≤100000) :
 Calls Tryz.prog 73 #[u,v] w fun e w'=>e = .returned (.bool (decide (l=m)))∧Below w.heap.size w w':=by
 obtain ⟨a,c,rfl,h2,h3,h4⟩:=hu.shape
 obtain ⟨a',c',rfl,h2',h3',h4'⟩:=hv.shape
 by_cases hnk:l.length=m.length
 · have HAT:Hid (∀j,j<l.length→∀W,Below w.heap.size w W→∃b off b' off',a=some ⟨b,off,none⟩∧a'=some ⟨b',off',none⟩∧W.cell? ⟨b,off+j*2,none⟩=some (.int .i64 (atS l j).1)∧W.cell? ⟨b,off+j*2+1,none⟩=some (.int .i64 (atS l j).2)∧W.cell? ⟨b',off'+j*2,none⟩=some (.int .i64 (atS m j).1)∧W.cell? ⟨b',off'+j*2+1,none⟩=some (.int .i64 (atS m j).2)):=fun j hj W hb=>by
    obtain ⟨b,off,e,q⟩:=(hu.kept hb).at j hj
    obtain ⟨b',off',e',q'⟩:=(hv.kept hb).at j (by omega)
    exact ⟨b,off,b',off',e,e',(spC q).1,(spC q).2,(spC q').1,(spC q').2⟩
   have HYES:Hid ((∀k,k<l.length→atS l k=atS m k)→decide (l=m)=true):=fun h=>by
    rw [decide_eq_true_eq]
    refine List.ext_getElem hnk fun k h1 h2=>?_
    have:=h k h1
    rwa [atS_eq l k h1,atS_eq m k h2] at this
   have HNO:Hid (∀k,k<l.length→atS l k≠atS m k→decide (l=m)=false):=fun k hk h=>by
    rw [decide_eq_false_iff_not]
    exact fun e=>h (by rw [e])
   obtain ⟨r,hr⟩:∃r,r=decide (l=m):=⟨_,rfl⟩
   rw [←hr] at HYES HNO ⊢
   rw [←hnk]
   clear hu hv hr hnk h2 h3 h4 h2' h3' h4'
   obtain ⟨n,hn⟩:∃n,n=l.length:=⟨_,rfl⟩
   rw [←hn] at HAT HYES HNO hl ⊢
   clear hn
   have t0:((n:Int) != (n:Int))=false:=by simp
   go_enter Tryz.func73,Tryz.ntmps73
   go_wp2
   go_loopw [13] (fun u wr=>∃j:Nat,j≤n∧u = .int .i64 j∧(∀k,k<j→atS l k=atS m k)∧Below w.heap.size w wr) (fun u _=>n-(intOf u).toNat)
   case atStart=>exact ⟨0,by omega,rfl,fun k hk=>by omega,Below.refl _ _⟩
   case round=>
    obtain ⟨j,hj,rfl,ok,bel⟩:=hrel
    have OK:Hid (∀k,k<j→atS l k=atS m k):=ok
    have HB:Hid (Below w.heap.size w wr):=bel
    clear ok bel
    by_cases hjn:j<n
    · have lt2:(j:Int)<(n:Int):=by omega
      obtain ⟨b,off,b',off',rfl,rfl,k1,k2,k3,k4⟩:=HAT.out j hjn wr HB.out
      have HNX:Hid (atS l j=atS m j→∀k,k<j+1→atS l k=atS m k):=fun h k hk=>by
       rcases Nat.lt_or_ge k j with h' | h'
       · exact OK.out k h'
       · rw [show k=j by omega];exact h
      have HN:Hid (atS l j≠atS m j→r=false):=fun h=>HNO.out j hjn h
      have E1:=neq_sp (atS l j) (atS m j)
      have E2:=fun (a b:Operand)=>eqg_sp .neq (atS l j) (atS m j) a b
      have HE:Hid (sSp (atS l j) (atS m j)=true↔atS l j=atS m j):=sSp_iff _ _
      unfold spv at E1 E2
      generalize atS l j=x at *
      generalize atS m j=y at *
      obtain ⟨B,hB⟩:∃B,B=sSp x y:=⟨_,rfl⟩
      rw [←hB] at E1 HE
      clear hB
      cases B with
      | true=>
        have hxy:=HE.out.1 rfl
        have NX:=HNX.out hxy
        have HN1:Hid (∀k,k<j+1→atS l k=atS m k):=NX
        clear HNX HN HE hxy NX
        rw [Bool.not_true] at E1
        go_wp2_with fail
        go_quiet (fail)
        have BD:Hid (Below w.heap.size w (wr.drewN nq)):=HB.out.trans ((drn wr nq).mono HB.out.size)
        generalize wr.drewN nq=DW at *
        go_wp2
        go_roundw
        case rel=>exact ⟨j+1,by omega,by go_num,HN1.out,BD.out⟩
        case measure=>simp [intOf];omega
      | false=>
        have hxy:x≠y:=fun e=>by have:=HE.out.2 e;cases this
        have HR:Hid (r=false):=HN.out hxy
        clear HNX HN HE hxy
        rw [Bool.not_false] at E1
        go_wp2_with fail
        go_quiet (fail)
        have BD:Hid (Below w.heap.size w (wr.drewN nq)):=HB.out.trans ((drn wr nq).mono HB.out.size)
        generalize wr.drewN nq=DW at *
        go_wp2
        go_ret
        exact ⟨by rw [HR.out];rfl,BD.out⟩
    · obtain rfl:j=n:=by omega
      have HR:Hid (r=true):=HYES.out OK.out
      have lt2:¬(j:Int)<(j:Int):=by omega
      clear HYES HNO OK HAT
      go_wp2
      go_ret
      exact ⟨by rw [HR.out];rfl,HB.out⟩
 · have e:decide (l=m)=false:=by rw [decide_eq_false_iff_not];exact fun e=>hnk (by rw [e])
   rw [e]
   have HB:Hid (Below w.heap.size w w):=Below.refl _ _
   have t0:((l.length:Int) != (m.length:Int))=true:=by simp;omega
   clear hu hv e hnk
   generalize l.length=n at *
   generalize m.length=k at *
   go_enter Tryz.func73,Tryz.ntmps73
   go_wp2
   go_ret
   exact ⟨rfl,HB.out⟩
theorem su_below {n:Nat} {w0 w w':World} {g:Nat} {v v':Value} (h:SU w w' g v v') (b:Below n w0 w) (hn:n≤w.heap.size) (hg:n≤g) (ho:∀k,v.ownBlock=some k→n≤k):Below n w0 w':=
 b.trans ⟨h.os,h.tape,h.output,h.size,fun k hk=>h.block k (by omega) (by omega) (fun e=>by have:=ho k e;omega)⟩
theorem setL_take_len (l:List Sp) (j:Nat):(setL (l.take j)).length≤l.length:=Nat.le_trans setL_len (by rw [List.length_take];omega)
set_option maxHeartbeats 2000000 in
theorem setOf_any (w:World) (u:Value) (l:List Sp) (hu:SSp w u l) (hl:l.length≤900) :
 Calls Tryz.prog 74 #[u] w fun e w'=>∃v',e = .returned (.pointer (some ⟨w.heap.size,0,none⟩))∧ST w' w.heap.size w.heap.size v' (setL l)∧Below w.heap.size w w':=by
 obtain ⟨a,c,rfl,-,-,-⟩:=hu.shape
 have HAT:Hid (∀j,j<l.length→∀W,Below w.heap.size w W→∃b off,a=some ⟨b,off,none⟩∧W.cell? ⟨b,off+j*2,none⟩=some (.int .i64 (atS l j).1)∧W.cell? ⟨b,off+j*2+1,none⟩=some (.int .i64 (atS l j).2)):=fun j hj W hb=>by
  obtain ⟨b,off,e,q⟩:=(hu.kept hb).at j hj
  exact ⟨b,off,e,(spC q).1,(spC q).2⟩
 have HSN:Hid (∀j,j<l.length→setL (l.take (j+1))=adP (setL (l.take j)) (atS l j).1 (atS l j).2):=fun j hj=>by rw [take_snoc hj,setL_snoc]
 have HLN:Hid (∀j,(setL (l.take j)).length≤900):=fun j=>Nat.le_trans (setL_take_len l j) hl
 have HFN:Hid (setL (l.take l.length)=setL l):=by unfold Hid;rw [List.take_length]
 have HZ:Hid (setL (l.take 0)=[]):=rfl
 have cn:=new_any w
 obtain ⟨W0,hW0⟩:∃W0,W0=w.alloc (.cells #[.slice none 0 0] 179):=⟨_,rfl⟩
 have b0:Below w.heap.size w W0:=by rw [hW0];exact al_below _ _
 have s0:ST W0 w.heap.size w.heap.size (.slice none 0 0) []:=by rw [hW0];exact st_new w _
 rw [←hW0] at cn
 have HB0:Hid (Below w.heap.size w W0):=b0
 have HS0:Hid (ST W0 w.heap.size w.heap.size (.slice none 0 0) []):=s0
 clear hu hW0 b0 s0
 generalize hF:(fun j=>setL (l.take j))=F at *
 have HF:Hid (∀j,setL (l.take j)=F j):=fun j=>by rw [←hF]
 clear hF
 simp only [HF.out] at HSN HLN HFN HZ
 generalize setL l=C at *
 obtain ⟨n,hn⟩:∃n,n=l.length:=⟨_,rfl⟩
 rw [←hn] at HAT HSN HFN hl ⊢
 clear hn HF
 go_enter Tryz.func74,Tryz.ntmps74
 go_wp2_with fail
 refine cn.mono ?_
 rintro e w1 ⟨rfl,e1⟩
 subst e1
 clear cn
 go_wp2
 go_loopw [9] (fun v wr=>∃(j:Nat) (vv:Value),j≤n∧v = .int .i64 j∧ST wr w.heap.size w.heap.size vv (F j)∧Below w.heap.size w wr) (fun v _=>n-(intOf v).toNat)
 case atStart=>exact ⟨0,_,by omega,rfl,by rw [HZ.out];exact HS0.out,HB0.out⟩
 case round=>
  obtain ⟨j,vv,hj,rfl,hst,bel⟩:=hrel
  have HB:Hid (Below w.heap.size w wr):=bel
  have HS:Hid (ST wr w.heap.size w.heap.size vv (F j)):=hst
  clear hst bel
  by_cases hjn:j<n
  · have lt2:(j:Int)<(n:Int):=by omega
    obtain ⟨b,off,rfl,k1,k2⟩:=HAT.out j hjn wr HB.out
    have HN:Hid (F (j+1)=adP (F j) (atS l j).1 (atS l j).2):=HSN.out j hjn
    generalize atS l j=x at *
    have b1:Below wr.heap.size wr (wr.alloc (.cells #[.int .i64 x.1,.int .i64 x.2] 131)):=al_below _ _
    have BB1:Hid (Below w.heap.size w (wr.alloc (.cells #[.int .i64 x.1,.int .i64 x.2] 131))):=HB.out.trans (b1.mono HB.out.size)
    have HS1:Hid (ST (wr.alloc (.cells #[.int .i64 x.1,.int .i64 x.2] 131)) w.heap.size w.heap.size vv (F j)):=HS.out.below b1
    have ca:=add_any _ _ _ _ _ x.1 x.2 HS1.out (by have:=HLN.out j;omega) BB1.out.size
    clear b1
    generalize adB (F j) x.1 x.2=rb at *
    go_wp2_with fail
    refine ca.mono ?_
    rintro e w5 ⟨rfl,v5,s5,u5⟩
    have BB5:Hid (Below w.heap.size w w5):=su_below u5 BB1.out BB1.out.size (Nat.le_refl _) (own_base HS1.out.rs.1)
    have HS5:Hid (ST w5 w.heap.size w.heap.size v5 (F (j+1))):=by unfold Hid;rw [HN.out];exact s5
    clear ca s5 u5
    go_wp2
    go_roundw
    case rel=>exact ⟨j+1,v5,by omega,by go_num,HS5.out,BB5.out⟩
    case measure=>simp [intOf];omega
  · obtain rfl:j=n:=by omega
    have lt2:¬(j:Int)<(j:Int):=by omega
    have HR:Hid (ST wr w.heap.size w.heap.size vv C):=by unfold Hid;rw [←HFN.out];exact HS.out
    clear HS HFN
    go_wp2
    go_ret
    exact ⟨rfl,⟨_,HR.out⟩,HB.out⟩
set_option maxHeartbeats 2000000 in
theorem check_any (w:World) (u:Value) (l:List Sp) (hu:SSp w u l) (hl:l.length≤100000) :
 Calls Tryz.prog 48 #[u] w fun e w'=>e = .returned (.int .i64 (chkL l))∧Below w.heap.size w w':=by
 obtain ⟨a,c,rfl,-,-,-⟩:=id hu.shape
 by_cases h64:64<l.length
 · have e1:chkL l=5:=by unfold chkL;rw [if_pos h64]
   have t0:(64:Int)<(l.length:Int):=by omega
   rw [e1]
   clear hu e1
   generalize l.length=n at *
   go_enter Tryz.func48,Tryz.ntmps48
   go_wp2
   go_ret
   exact ⟨rfl,Below.refl _ _⟩
 · have t0:¬(64:Int)<(l.length:Int):=by omega
   by_cases hz:l=[]
   · have e1:chkL l=4:=by unfold chkL;rw [if_neg h64,if_pos (.inl hz)]
     have t1:((l.length:Int)==0)=true:=by rw [hz];rfl
     rw [e1]
     clear hu e1 hz
     generalize l.length=n at *
     go_enter Tryz.func48,Tryz.ntmps48
     go_wp2
     go_ret
     exact ⟨rfl,Below.refl _ _⟩
   · have t1:((l.length:Int)==0)=false:=by have:=List.length_pos_iff.2 hz;simp;omega
     have hs:=setOf_any w _ l hu (by omega)
     have HLL:Hid ((setL l).length≤64):=Nat.le_trans setL_len (by omega)
     have HU:Hid (SSp w (.slice a l.length c) l):=hu
     have HR:Hid (chkL l=if setL l=l then 0 else 4):=by
      unfold Hid chkL
      rw [if_neg h64]
      by_cases q:setL l=l
      · rw [if_pos q,if_neg (fun e=>e.elim hz (fun e=>e q))]
      · rw [if_neg q,if_pos (.inr q)]
     clear hu hz h64
     generalize chkL l=R at *
     generalize setL l=C at *
     obtain ⟨n,hn⟩:∃n,n=l.length:=⟨_,rfl⟩
     rw [←hn] at t0 t1 hs HU hl ⊢
     have HNL:Hid (n=l.length):=hn
     clear hn
     go_enter Tryz.func48,Tryz.ntmps48
     go_wp2_with fail
     refine hs.mono ?_
     rintro e w1 ⟨v1,rfl,s1,b1⟩
     have HB1:Hid (Below w.heap.size w w1):=b1
     have cs:=spans_any w1 _ C s1.sqA
     have HU1:Hid (SSp w1 (.slice a n c) l):=HU.out.kept b1
     clear hs s1 b1
     go_wp2_with fail
     refine cs.mono ?_
     rintro e w2 ⟨v2,rfl,r2,b2⟩
     have HB2:Hid (Below w.heap.size w w2):=HB1.out.trans (b2.mono HB1.out.size)
     have ce:=equalS_any w2 v2 (.slice a n c) C l r2.is (HU1.out.kept b2) (by have:=HLL.out;omega)
     obtain ⟨a2,c2,rfl,-,-,-⟩:=r2.is.shape
     clear cs r2 b2
     by_cases q:C=l
     · have HR2:Hid (R=0):=by unfold Hid;rw [HR.out,if_pos q]
       rw [decide_eq_true q] at ce
       clear HR q
       generalize C.length=n2 at *
       go_wp2_with fail
       refine ce.mono ?_
       rintro e w3 ⟨rfl,b3⟩
       have HB3:Hid (Below w.heap.size w w3):=HB2.out.trans (b3.mono HB2.out.size)
       clear ce b3
       go_wp2
       go_ret
       exact ⟨by rw [HR2.out];rfl,HB3.out⟩
     · have HR2:Hid (R=4):=by unfold Hid;rw [HR.out,if_neg q]
       rw [decide_eq_false q] at ce
       clear HR q
       generalize C.length=n2 at *
       go_wp2_with fail
       refine ce.mono ?_
       rintro e w3 ⟨rfl,b3⟩
       have HB3:Hid (Below w.heap.size w w3):=HB2.out.trans (b3.mono HB2.out.size)
       clear ce b3
       go_wp2
       go_ret
       exact ⟨by rw [HR2.out];rfl,HB3.out⟩
end Go.Proofs.YtiollhmbdhepkaaGreatDoor
namespace Go.Proofs.YtiollhmbdhepkaaGreatDoor
open Go.RowKit Go.Shelf
set_option maxRecDepth 100000
structure Bt (g:Nat) (w w':World):Prop where
 os:w'.os=w.os
 tape:w'.tape=w.tape
 output:w'.output=w.output
 size:w.heap.size≤w'.heap.size
 block:∀k,k<w.heap.size→k≠g→w'.heap[k]? = w.heap[k]?
theorem Bt.refl (g:Nat) (w:World):Bt g w w:=⟨rfl,rfl,rfl,Nat.le_refl _,fun _ _ _=>rfl⟩
theorem Bt.trans {g:Nat} {a b c:World} (h:Bt g a b) (k:Bt g b c):Bt g a c:=
 ⟨k.os.trans h.os,k.tape.trans h.tape,k.output.trans h.output,Nat.le_trans h.size k.size,fun i hi hn=>(k.block i (Nat.lt_of_lt_of_le hi h.size) hn).trans (h.block i hi hn)⟩
theorem Bt.of {g:Nat} {w w':World} (h:Below w.heap.size w w'):Bt g w w':=⟨h.os,h.tape,h.output,h.size,fun k hk _=>h.block k hk⟩
theorem Bt.off {g:Nat} {w w':World} (h:Fi.Off g w w'):Bt g w w':=⟨h.os,h.tape,h.output,Nat.le_of_eq h.size.symm,fun k _ hn=>h.block k hn⟩
theorem Bt.below {g n:Nat} {w a b:World} (h:Bt g a b) (hb:Below n w a) (hn:n≤g) (hs:n≤a.heap.size):Below n w b:=hb.trans ⟨h.os,h.tape,h.output,h.size,fun k hk=>h.block k (by omega) (by omega)⟩
theorem Bt.low {g:Nat} {w a b:World} (h:Bt g w a) (hb:Below w.heap.size a b):Bt g w b:=⟨hb.os.trans h.os,hb.tape.trans h.tape,hb.output.trans h.output,Nat.le_trans h.size hb.size,fun k hk hn=>(hb.block k hk).trans (h.block k hk hn)⟩
theorem wid_bt {g:Nat} {w w':World} (h:Fi.Wid w) (hb:Bt g w w') (hg:1<g):Fi.Wid w':=h.below (B:=2) ⟨hb.os,hb.tape,hb.output,hb.size,fun k hk=>hb.block k (by have:=h.pos;omega) (by omega)⟩ (by omega)
theorem RSp.bt {w w':World} {B g:Nat} {v:Value} {l:List Sp} (h:RSp w B v l) (hb:Bt g w w') (hg:v.ownBlock≠some g):RSp w' B v l:=h.keep fun k _ hk hh=>(hb.block k (blk_lt hh) (fun e=>hg (e▸hk))).trans hh
theorem infoS2:(Tryz.prog.info? 131).map (·.size)=some 2:=by kernel_rfl
set_option maxHeartbeats 1000000 in
theorem spanAhead_any (w:World) (g s:Nat) (xs:List Int) (e tt left:Int) (hw:Fi.Wid w) (h:Fi.Rd w g s xs e) (hs:s<w.heap.size) (h0:0≤left) (h1:left*2≤tt) (h2:tt≤1099511627776) :
 Calls Tryz.prog 119 #[.pointer (some ⟨g,0,none⟩),.int .i64 tt,.int .i64 left] w fun r w'=>r = .returned (.agg #[.int .i64 (gsp xs e tt left).1.1,.int .i64 (gsp xs e tt left).1.2])∧Fi.Rd w' g s (gsp xs e tt left).2.1 (gsp xs e tt left).2.2∧Bt g w w':=by
 have hgl:=Rd.lt h
 obtain ⟨w1,hw1⟩:∃w1,w1=w.alloc (.cells #[.int .i64 0,.int .i64 0] 131):=⟨_,rfl⟩
 have b1:Below w.heap.size w w1:=by rw [hw1];exact al_below _ _
 have g1:w1.heap[w.heap.size]? = some (.cells #[.int .i64 0,.int .i64 0] 131 (0,0)):=by rw [hw1];exact heap_alloc_new _ _
 have cn:=rdNum g s xs e (tt-left*2) w1 (hw.below b1 hw.pos) (h.kept b1)
 have hbd:=rN_bd xs e (tt-left*2) (by omega) (Fi.Rd.bytes h)
 have HG:Hid (gsp xs e tt left=((tt-(rN xs e (tt-left*2)).1,tt),(rN xs e (tt-left*2)).2)):=rfl
 have HB1:Hid (Below w.heap.size w w1):=b1
 have HG1:Hid (w1.heap[w.heap.size]? = some (.cells #[.int .i64 0,.int .i64 0] 131 (0,0))):=g1
 have HGL:Hid (g<w.heap.size):=hgl
 have sw1:IntKind.i64.wrap (left*2)=left*2:=by rw [IntKind.wrap_i64];omega
 have sw2:IntKind.i64.wrap (tt-left*2)=tt-left*2:=by rw [IntKind.wrap_i64];omega
 have sw3:IntKind.i64.wrap (tt-(rN xs e (tt-left*2)).1)=tt-(rN xs e (tt-left*2)).1:=by rw [IntKind.wrap_i64];omega
 have HNE:Hid (g≠w.heap.size∧s≠w.heap.size):=⟨by omega,by omega⟩
 clear hw h hs b1 g1 hgl hbd
 generalize gsp xs e tt left=G at *
 generalize rN xs e (tt-left*2)=R at *
 go_enter Tryz.func119,Tryz.ntmps119
 go_wp2_with fail
 rw [←hw1]
 clear hw1
 go_wp2_with fail
 refine cn.mono ?_
 rintro e w2 ⟨rfl,rd2,of2⟩
 have g2:=(of2.block w.heap.size (by have:=HGL.out;omega)).trans HG1.out
 have HG2:Hid (w2.heap[w.heap.size]? = some (.cells #[.int .i64 0,.int .i64 0] 131 (0,0))):=g2
 have k0:w2.cell? ⟨w.heap.size,0,none⟩=some (.int .i64 0):=by simp [World.cell?,g2]
 have k1:w2.cell? ⟨w.heap.size,1,none⟩=some (.int .i64 0):=by simp [World.cell?,g2]
 have k2:w2.frozen? ⟨w.heap.size,0,none⟩=false:=by simp [World.frozen?,g2]
 have k3:w2.frozen? ⟨w.heap.size,1,none⟩=false:=by simp [World.frozen?,g2]
 have HR2:Hid (Fi.Rd w2 g s R.2.1 R.2.2):=rd2
 have HO2:Hid (Fi.Off g w1 w2):=of2
 clear cn g2 rd2 of2
 go_wp2
 have HH:Hid (((w2.setCell ⟨w.heap.size,0,none⟩ (.int .i64 (tt-R.1))).setCell ⟨w.heap.size,1,none⟩ (.int .i64 tt)).heap[w.heap.size]? = some (.cells #[.int .i64 (tt-R.1),.int .i64 tt] 131 (0,0))):=by
  unfold Hid
  have:=HG2.out
  simp [World.setCell,Array.getElem?_modify,this]
 have HF:Hid (Below w.heap.size w2 ((w2.setCell ⟨w.heap.size,0,none⟩ (.int .i64 (tt-R.1))).setCell ⟨w.heap.size,1,none⟩ (.int .i64 tt))):=((Below.refl _ _).setCell (p:=⟨w.heap.size,0,none⟩) (Nat.le_refl _) _).setCell (p:=⟨w.heap.size,1,none⟩) (Nat.le_refl _) _
 have HE:Hid (Fi.Rd ((w2.setCell ⟨w.heap.size,0,none⟩ (.int .i64 (tt-R.1))).setCell ⟨w.heap.size,1,none⟩ (.int .i64 tt)) g s R.2.1 R.2.2):=by
  have o1:=Fi.Off.setCell w.heap.size 0 w2 (.int .i64 (tt-R.1))
  have o2:=Fi.Off.setCell w.heap.size 1 (w2.setCell ⟨w.heap.size,0,none⟩ (.int .i64 (tt-R.1))) (.int .i64 tt)
  exact HR2.out.off (o1.trans o2) HNE.out.1 HNE.out.2
 have HBT:Hid (Bt g w w2):=(Bt.of HB1.out).trans (Bt.off HO2.out)
 exact bodyPost_ret (v:=.agg #[.int .i64 (tt-R.1),.int .i64 tt]) (results_cell_row rfl _ _ w.heap.size 131 #[.int .i64 (tt-R.1),.int .i64 tt] (0,0) _ rfl HH.out Tryz.underlying131 rfl infoS2) rfl ⟨by rw [HG.out],by rw [HG.out];exact HE.out,HBT.out.low HF.out⟩
end Go.Proofs.YtiollhmbdhepkaaGreatDoor
namespace Go.Proofs.YtiollhmbdhepkaaGreatDoor
open Go.RowKit
set_option maxRecDepth 100000
theorem cellsP_cons (x:Sp) (l:List Sp):((x::l).map spc).flatten=[.int .i64 x.1,.int .i64 x.2]++(l.map spc).flatten:=rfl
theorem cellsP_get:∀(l:List Sp) (i:Nat),i<l.length→((l.map spc).flatten)[i*2]? = some (.int .i64 (atS l i).1)∧((l.map spc).flatten)[i*2+1]? = some (.int .i64 (atS l i).2)
 | [],i,h=>by simp at h
 | x::l,0,_=>⟨rfl,rfl⟩
 | x::l,i+1,h=>by
   obtain ⟨a,b⟩:=cellsP_get l i (by simpa using h)
   have e2:atS (x::l) (i+1)=atS l i:=by simp [atS,List.getD]
   rw [cellsP_cons,e2]
   refine ⟨?_,?_⟩
   · rw [List.getElem?_append_right (by simp;omega)];simpa [show (i+1)*2-2=i*2 by omega] using a
   · rw [List.getElem?_append_right (by simp;omega)];simpa [show (i+1)*2+1-2=i*2+1 by omega] using b
theorem cellsP_set:∀(l:List Sp) (i:Nat) (y:Sp),i<l.length→(((l.map spc).flatten).set (i*2) (.int .i64 y.1)).set (i*2+1) (.int .i64 y.2)=((l.set i y).map spc).flatten
 | [],i,_,h=>by simp at h
 | x::l,0,y,_=>rfl
 | x::l,i+1,y,h=>by
   have ih:=cellsP_set l i y (by simpa using h)
   rw [List.set_cons_succ,cellsP_cons,cellsP_cons,←ih]
   rw [show (i+1)*2=i*2+2 by omega,show i*2+2+1=(i*2+1)+2 by omega]
   rfl
def revK (l:List Sp) (k:Nat):List Sp:=(List.range l.length).map fun p=>if p<k∨l.length≤p+k then atS l (l.length-1-p) else atS l p
theorem revK_len (l:List Sp) (k:Nat):(revK l k).length=l.length:=by simp [revK]
theorem revK_at (l:List Sp) (k p:Nat) (h:p<l.length):atS (revK l k) p=if p<k∨l.length≤p+k then atS l (l.length-1-p) else atS l p:=by
 rw [atS_eq _ _ (by rw [revK_len];exact h)]
 simp [revK]
theorem revK_zero (l:List Sp):revK l 0=l:=by
 refine List.ext_getElem (revK_len l 0) fun i a b=>?_
 rw [←atS_eq _ _ a,revK_at l 0 i b,if_neg (by omega),atS_eq l i b]
theorem revK_end (l:List Sp) (k:Nat) (h:l.length≤k+k+1):revK l k=l.reverse:=by
 refine List.ext_getElem (by rw [revK_len,List.length_reverse]) fun i a b=>?_
 rw [revK_len] at a
 rw [←atS_eq _ _ (by rw [revK_len];exact a),revK_at l k i a,List.getElem_reverse,←atS_eq l _ (by omega)]
 by_cases hc:i<k∨l.length≤i+k
 · rw [if_pos hc]
 · rw [if_neg hc]
   congr 1
   omega
theorem revK_next (l:List Sp) (k:Nat) (h:k+k+1<l.length):((revK l k).set k (atS l (l.length-1-k))).set (l.length-1-k) (atS l k)=revK l (k+1):=by
 refine List.ext_getElem (by simp [revK_len]) fun i a b=>?_
 rw [revK_len] at b
 rw [List.getElem_set,List.getElem_set,←atS_eq (revK l (k+1)) _ (by rw [revK_len];exact b),revK_at l (k+1) i b]
 by_cases c1:l.length-1-k=i
 · rw [if_pos c1,if_pos (by omega)];congr 1;omega
 · rw [if_neg c1]
   by_cases c2:k=i
   · rw [if_pos c2,if_pos (by omega),c2]
   · rw [if_neg c2,←atS_eq (revK l k) _ (by rw [revK_len];exact b),revK_at l k i b]
     by_cases c3:i<k∨l.length≤i+k
     · rw [if_pos c3,if_pos (by omega)]
     · rw [if_neg c3,if_neg (by omega)]
theorem grow_trans {a b c:World} {o:Option Nat} (h1:a.grownBy b o) (h2:b.grownBy c o):a.grownBy c o:=
 ⟨h2.os.trans h1.os,h2.tape.trans h1.tape,h2.output.trans h1.output,Nat.le_trans h1.size h2.size,fun k hk hne=>(h2.block k (Nat.lt_of_lt_of_le hk h1.size) hne).trans (h1.block k hk hne)⟩
theorem grow_refl (a:World) (o:Option Nat):a.grownBy a o:=⟨rfl,rfl,rfl,Nat.le_refl _,fun _ _ _=>rfl⟩
theorem grow_drew {a b:World} {o:Option Nat} (h:a.grownBy b o):a.grownBy b.drew o:=⟨h.os,h.tape,h.output,h.size,h.block⟩
theorem swap_row {wr:World} {B g n c k m:Nat} {L:List Sp} {X Y:Sp} (h:wr.ownsRow B 131 2 (.slice (some ⟨g,0,none⟩) n c) n ((L.map spc).flatten)) (hk:k<L.length) (hm:m<L.length) :
 World.ownsRow (((((wr.setCell ⟨g,k*2,none⟩ (.int .i64 Y.1)).setCell ⟨g,k*2+1,none⟩ (.int .i64 Y.2)).setCell ⟨g,m*2,none⟩ (.int .i64 X.1)).setCell ⟨g,m*2+1,none⟩ (.int .i64 X.2)).drew) B 131 2 (.slice (some ⟨g,0,none⟩) n c) n ((((L.set k Y).set m X).map spc).flatten)∧
  wr.grownBy (((((wr.setCell ⟨g,k*2,none⟩ (.int .i64 Y.1)).setCell ⟨g,k*2+1,none⟩ (.int .i64 Y.2)).setCell ⟨g,m*2,none⟩ (.int .i64 X.1)).setCell ⟨g,m*2+1,none⟩ (.int .i64 X.2)).drew) (some g):=by
 obtain ⟨o1,g1⟩:=World.ownsRow.stored h (k*2) (.int .i64 Y.1)
 obtain ⟨o2,g2⟩:=World.ownsRow.stored o1 (k*2+1) (.int .i64 Y.2)
 obtain ⟨o3,g3⟩:=World.ownsRow.stored o2 (m*2) (.int .i64 X.1)
 obtain ⟨o4,g4⟩:=World.ownsRow.stored o3 (m*2+1) (.int .i64 X.2)
 rw [cellsP_set L k Y hk,cellsP_set (L.set k Y) m X (by rw [List.length_set];exact hm)] at o4
 exact ⟨World.ownsRow.drew o4,grow_drew (grow_trans g1 (grow_trans g2 (grow_trans g3 g4)))⟩
set_option maxHeartbeats 1000000 in
set_option maxRecDepth 100000 in
theorem reverse_any (B:Nat) (v:Value) (l:List Sp) (w:World) (h:RSp w B v l) (hl:l.length≤1000) :
 Calls Tryz.prog 120 #[v] w fun e w'=>e = .returned (.tuple #[])∧RSp w' B v l.reverse∧w.grownBy w' v.ownBlock:=by
 obtain ⟨a,c,rfl,-,-,-⟩:=h.is.shape
 have HO:Hid (RSp w B (.slice a l.length c) l):=h
 obtain ⟨n,hn⟩:∃n,n=l.length:=⟨_,rfl⟩
 have HN:Hid (n=l.length):=hn
 have HE:Hid (∀k,n≤k+k+1→revK l k=l.reverse):=fun k hk=>revK_end l k (by rw [←hn];exact hk)
 have q0:IntKind.i64.wrap ((n:Int)-1)=(n:Int)-1:=by rw [IntKind.wrap_i64];omega
 rw [←hn] at HO hl ⊢
 clear h hn
 go_enter Tryz.func120,Tryz.ntmps120
 go_wp2
 go_loopw [2,3] (fun p q wr=>∃k:Nat,k+k≤n∧p = .int .i64 k∧q = .int .i64 ((n:Int)-1-k)∧RSp wr B (.slice a n c) (revK l k)∧w.grownBy wr (Value.ownBlock (.slice a n c))) (fun p _ _=>n-(intOf p).toNat)
 case atStart=>exact ⟨0,by omega,rfl,by simp,by rw [revK_zero];exact HO.out,grow_refl _ _⟩
 case round=>
  obtain ⟨k,hk,rfl,rfl,sr,gr⟩:=hrel
  have HS:Hid (RSp wr B (.slice a n c) (revK l k)):=sr
  have HG:Hid (w.grownBy wr (Value.ownBlock (.slice a n c))):=gr
  clear sr gr
  by_cases hlt:k+k+1<n
  · have lt2:(k:Int)<(n:Int)-1-(k:Int):=by omega
    obtain ⟨m,hm⟩:∃m:Nat,m=n-1-k:=⟨_,rfl⟩
    have hmi:(n:Int)-1-(k:Int)=(m:Int):=by omega
    have HMI:Hid ((n:Int)-1-(k:Int)=(m:Int)):=hmi
    rw [hmi] at lt2 ⊢
    have hkm:k<m:=by omega
    have hmn:m<n:=by omega
    have ho:=HS.out
    replace ho:=ho.own
    rw [revK_len,←HN.out] at ho
    have HOW:Hid (wr.ownsRow B 131 2 (.slice a n c) n (((revK l k).map spc).flatten)):=ho
    obtain ⟨g,hga,hnc⟩:∃g,a=some ⟨g,0,none⟩∧n≤c:=by
     rcases ho.2 with ⟨_,h0⟩ | ⟨g,cap,cur,e,_,_,h1,_⟩
     · omega
     · cases e;exact ⟨g,rfl,h1⟩
    subst hga
    have cl:∀j,j<n*2→wr.cell? ⟨g,j,none⟩=(((revK l k).map spc).flatten)[j]?:=fun j hj=>ho.cellAt j hj
    have fz:∀j,wr.frozen? ⟨g,j,none⟩=false:=fun j=>ho.frozenAt j
    obtain ⟨x0,x1⟩:=cellsP_get (revK l k) k (by rw [revK_len,←HN.out];omega)
    obtain ⟨y0,y1⟩:=cellsP_get (revK l k) m (by rw [revK_len,←HN.out];omega)
    have hx:atS (revK l k) k=atS l k:=by rw [revK_at l k k (by rw [←HN.out];omega),if_neg (by rw [←HN.out];omega)]
    have hy:atS (revK l k) m=atS l m:=by rw [revK_at l k m (by rw [←HN.out];omega),if_neg (by rw [←HN.out];omega)]
    rw [hx] at x0 x1
    rw [hy] at y0 y1
    have X0:=(cl _ (by omega)).trans x0
    have X1:=(cl _ (by omega)).trans x1
    have Y0:=(cl _ (by omega)).trans y0
    have Y1:=(cl _ (by omega)).trans y1
    have F0:=fz (k*2)
    have F1:=fz (k*2+1)
    have E0:=fz (m*2)
    have E1:=fz (m*2+1)
    have HX:Hid (revK l (k+1)=((revK l k).set k (atS l m)).set m (atS l k)):=by
     unfold Hid
     have:=revK_next l k (by rw [←HN.out];exact hlt)
     rw [←HN.out,←hm] at this
     exact this.symm
    clear ho cl fz x0 x1 y0 y1 hx hy hm hmi
    generalize atS l k=X at *
    generalize atS l m=Y at *
    have q1:IntKind.i64.wrap ((k:Int)+1)=((k+1:Nat):Int):=by simp [IntKind.wrap,IntKind.bits,IntKind.signed];omega
    have q2:IntKind.i64.wrap ((m:Int)-1)=(m:Int)-1:=by rw [IntKind.wrap_i64];omega
    have HRES:Hid (RSp ((((wr.setCell ⟨g,k*2,none⟩ (.int .i64 Y.1)).setCell ⟨g,k*2+1,none⟩ (.int .i64 Y.2)).setCell ⟨g,m*2,none⟩ (.int .i64 X.1)).setCell ⟨g,m*2+1,none⟩ (.int .i64 X.2)).drew B (.slice (some ⟨g,0,none⟩) n c) (revK l (k+1))∧
     w.grownBy ((((wr.setCell ⟨g,k*2,none⟩ (.int .i64 Y.1)).setCell ⟨g,k*2+1,none⟩ (.int .i64 Y.2)).setCell ⟨g,m*2,none⟩ (.int .i64 X.1)).setCell ⟨g,m*2+1,none⟩ (.int .i64 X.2)).drew (some g)):=by
     have hn:=HN.out
     obtain ⟨o6,g6⟩:=swap_row (X:=X) (Y:=Y) HOW.out (k:=k) (m:=m) (by rw [revK_len];omega) (by rw [revK_len];omega)
     rw [←HX.out] at o6
     refine ⟨?_,grow_trans HG.out g6⟩
     refine RSp.of ?_
     rw [revK_len,←hn]
     exact o6
    clear HX HOW HS HG
    go_wp2
    go_region
    go_wp2
    go_roundw
    case rel=>exact ⟨k+1,by omega,by go_num,by
     have:=HMI.out
     rw [show (m:Int)-1=(n:Int)-1-((k+1:Nat):Int) by omega],HRES.out.1,HRES.out.2⟩
    case measure=>simp [intOf];omega
  · have hge:¬(k:Int)<(n:Int)-1-(k:Int):=by omega
    have HR:Hid (RSp wr B (.slice a n c) l.reverse):=by
     have h1:=HS.out
     rw [HE.out k (by omega)] at h1
     exact h1
    clear HE HS
    go_wp2
    go_end0
    exact ⟨rfl,HR.out,HG.out⟩
end Go.Proofs.YtiollhmbdhepkaaGreatDoor
namespace Go.Proofs.YtiollhmbdhepkaaGreatDoor
open Go.RowKit Go.Shelf
set_option maxRecDepth 100000
theorem rd_blk {w w':World} {g s:Nat} {xs:List Int} {e:Int} (h:Fi.Rd w g s xs e) (hg:w'.heap[g]? = w.heap[g]?) (hs:w'.heap[s]? = w.heap[s]?):Fi.Rd w' g s xs e:=by
 obtain ⟨a,cap,c0,c1,f0,f1,l1,l2,r,n,k,b⟩:=h
 refine ⟨a,cap,(World.cell?_of_block (a:=⟨g,0,none⟩) hg).trans c0,(World.cell?_of_block (a:=⟨g,1,none⟩) hg).trans c1,(World.frozen?_of_block (a:=⟨g,0,none⟩) hg).trans f0,(World.frozen?_of_block (a:=⟨g,1,none⟩) hg).trans f1,l1,l2,?_,n,k,b⟩
 rcases r with h | ⟨hp,b',off,rfl,hlc,hm,hc,hz⟩
 · exact .inl h
 · exact .inr ⟨hp,b',off,rfl,hlc,hm,fun i hi=>(World.cell?_of_block (a:=⟨b',off+i,none⟩) (by
    have e:b'=s:=(b ⟨b',off,none⟩ rfl).2
    show w'.heap[b']? = w.heap[b']?
    rw [e]
    exact hs)).trans (hc i hi),hz⟩
theorem Bt.grown {g:Nat} {w a b:World} {o:Option Nat} (h:Bt g w a) (hg:a.grownBy b o) (ho:∀k,o=some k→w.heap.size≤k):Bt g w b:=
 ⟨hg.os.trans h.os,hg.tape.trans h.tape,hg.output.trans h.output,Nat.le_trans h.size hg.size,fun k hk hn=>(hg.block k (by have:=h.size;omega) (fun e=>by have:=ho k e.symm;omega)).trans (h.block k hk hn)⟩
theorem rd_grown {w w':World} {g s N:Nat} {xs:List Int} {e:Int} {o:Option Nat} (h:Fi.Rd w g s xs e) (hg:w.grownBy w' o) (ho:∀k,o=some k→N≤k) (h1:g<N) (h2:s<N) (h3:N≤w.heap.size):Fi.Rd w' g s xs e:=
 rd_blk h (hg.block g (by omega) (fun e=>by have:=ho g e.symm;omega)) (hg.block s (by omega) (fun e=>by have:=ho s e.symm;omega))
theorem gsp_bd (xs:List Int) (e tt k:Int) (_:0≤k) (h1:k*2≤tt) (hb:∀i,0≤xs.getD i 0∧xs.getD i 0<256):2*k≤(gsp xs e tt k).1.1∧(gsp xs e tt k).1.1≤(gsp xs e tt k).1.2∧(gsp xs e tt k).1.2=tt:=by
 have:=rN_bd xs e (tt-k*2) (by omega) hb
 show 2*k≤tt-(rN xs e (tt-k*2)).1∧tt-(rN xs e (tt-k*2)).1≤tt∧tt=tt
 exact ⟨by omega,by omega,rfl⟩
structure GL (A:List Sp × List Int × Int) (w2 wr:World) (g s:Nat) (k:Nat) (v:Value):Prop where
 ex:∃L p xs e,RSp wr w2.heap.size v (L++[p])∧Fi.Rd wr g s xs e∧glp k L p xs e=A∧2*(k:Int)≤p.1∧p.1≤p.2∧p.2≤1099511627776∧L.length+k≤63
 bt:Bt g w2 wr
set_option maxHeartbeats 4000000 in
theorem get_any (w:World) (v:Value) (xs:List Int) (hw:Fi.Wid w) (h:Sl w v xs) (hl:xs.length≤9000000000000000000) :
 Calls Tryz.prog 99 #[v] w fun r w'=>∃v',r = .returned (.tuple #[v',.int .i64 (getP xs).2.1,.int .i64 (getP xs).2.2])∧RSp w' w.heap.size v' (getP xs).1∧Below w.heap.size w w':=by
 obtain ⟨a,c,rfl,hlc,hcm,hnn,-⟩:=id h
 obtain ⟨m,hm⟩:∃m,m=min xs.length 1032:=⟨_,rfl⟩
 have hxl:(xs.take 1032).length=m:=by rw [List.length_take,hm,Nat.min_comm]
 have ht:=h.take m (by omega)
 rw [show xs.take m=xs.take 1032 by rcases Nat.le_total xs.length 1032 with q | q
                                    · rw [hm,Nat.min_eq_left q,List.take_length,List.take_of_length_le q]
                                    · rw [hm,Nat.min_eq_right q]] at ht
 have cn:=Fi.new_any (.slice a m c) (xs.take 1032) w hw (fsl ht) (by omega)
 have HGP:Hid (getP xs=if (getA (xs.take 1032)).2.2=0 then ((getA (xs.take 1032)).1.reverse,(m:Int)-((getA (xs.take 1032)).2.1.length:Int),0) else if (getA (xs.take 1032)).2.2=3 then ([],0,3) else ([],0,4)):=by unfold Hid getP;rw [hxl]
 have HW:Hid (Fi.Wid w):=hw
 have emin:min (xs.length:Int) 1032=(m:Int):=by omega
 have e1:(m:Int)≤(c:Int):=by omega
 have e2:0≤(m:Int):=by omega
 have hmx:c≤9223372036854775807:=by unfold maxLen at hcm;omega
 have hna:a=none→m=0∧c=0:=fun e=>by have:=hnn e;omega
 have HXB:Hid (∀i,0≤(xs.take 1032).getD i 0∧(xs.take 1032).getD i 0<256):=ht.bytes
 have hm2:m≤1032:=by omega
 clear h ht hw hnn hm
 generalize getP xs=GP at *
 generalize xs.take 1032=ys at *
 generalize xs.length=n9 at *
 go_enter Tryz.func99,Tryz.ntmps99
 go_upto_region 1 with fail
 go_cut [0] from 10 (fun s0 wx=>s0 = .slice a m c∧wx=w)
 case first=>
  cases a with
  | none=>
    obtain ⟨rfl,rfl⟩:=hna rfl
    clear hna
    go_wp2
    go_meet
    exact ⟨rfl,rfl⟩
  | some x=>
    clear hna
    go_wp2
    go_meet
    exact ⟨rfl,rfl⟩
 case rest=>
  obtain ⟨rfl,e0⟩:=hcut
  rw [e0]
  clear e0 hna emin e1 e2
  go_wp2_with fail
  refine cn.mono ?_
  rintro e w2 ⟨g,s,rfl,hg1,hg2,hs,rd,b2⟩
  have HB2:Hid (Below w.heap.size w w2):=b2
  have hw2:=HW.out.below b2 HW.out.pos
  have HGS:Hid (w.heap.size≤g∧g<w2.heap.size∧s<w2.heap.size∧1<g):=⟨hg1,hg2,by have:=hw2.pos;omega,by have:=HW.out.pos;omega⟩
  have c1:=rdNum g s ys 0 1099511627776 w2 hw2 rd
  have bd1:=rN_bd ys 0 1099511627776 (by omega) HXB.out
  have HA:Hid (getA ys=(let b:=rN (rN ys 0 1099511627776).2.1 (rN ys 0 1099511627776).2.2 (min 63 ((rN ys 0 1099511627776).1 / 2));let q:=gsp b.2.1 b.2.2 (rN ys 0 1099511627776).1 b.1;glp b.1.toNat [] q.1 q.2.1 q.2.2)):=rfl
  clear cn b2 hg1 hg2 hs rd hw2 HXB
  generalize rN ys 0 1099511627776=R1 at *
  obtain ⟨n1,y1,e1⟩:=R1
  simp only at c1 bd1 HA
  go_wp2_with fail
  refine c1.mono ?_
  rintro e w3 ⟨rfl,rd3,of3⟩
  have HT3:Hid (Bt g w2 w3):=Bt.off of3
  have hw3:=wid_bt (HW.out.below HB2.out HW.out.pos) (Bt.off of3) HGS.out.2.2.2
  have c2:=rdNum g s y1 e1 (min 63 (n1 / 2)) w3 hw3 rd3
  have bd2:=rN_bd y1 e1 (min 63 (n1 / 2)) (by omega) bd1.2.2.2
  have t1:Int.tdiv n1 2=n1 / 2:=Int.tdiv_eq_ediv_of_nonneg bd1.1
  have t2:IntKind.i64.wrap (n1 / 2)=n1 / 2:=by rw [IntKind.wrap_i64];omega
  have hn1:n1≤1099511627776:=bd1.2.1
  have hn0:0≤n1:=bd1.1
  have hy1:y1.length≤ys.length:=bd1.2.2.1
  clear c1 rd3 of3 hw3 bd1
  generalize rN y1 e1 (min 63 (n1 / 2))=R2 at *
  obtain ⟨n2,y2,e2⟩:=R2
  simp only at c2 bd2 HA
  go_wp2_with fail
  refine c2.mono ?_
  rintro e w4 ⟨rfl,rd4,of4⟩
  have HT4:Hid (Bt g w2 w4):=HT3.out.trans (Bt.off of4)
  have hw4:=wid_bt (HW.out.below HB2.out HW.out.pos) HT4.out HGS.out.2.2.2
  have hn2:0≤n2:=bd2.1
  have hn3:n2≤63:=by have:=bd2.2.1;omega
  have hn4:n2*2≤n1:=by have:=bd2.2.1;omega
  have c3:=spanAhead_any w4 g s y2 e2 n1 n2 hw4 rd4 (by have:=HGS.out.2.2.1;have:=HT4.out.size;omega) hn2 hn4 hn1
  have bd3:=gsp_bd y2 e2 n1 n2 hn2 hn4 bd2.2.2.2
  clear c2 rd4 of4 hw4 bd2 HT3 t1 t2
  generalize gsp y2 e2 n1 n2=R3 at *
  obtain ⟨p0,y3,e3⟩:=R3
  simp only at c3 bd3 HA
  go_wp2_with fail
  refine c3.mono ?_
  rintro e w5 ⟨rfl,rd5,bt5⟩
  obtain ⟨k0,hk0⟩:∃k0:Nat,n2=k0:=⟨n2.toNat,by omega⟩
  subst hk0
  rw [Int.toNat_natCast] at HA
  have HGL0:Hid (GL (getA ys) w2 (w5.alloc (.cells #[.int .i64 p0.1,.int .i64 p0.2] 131)) g s k0 (.slice (some ⟨w5.heap.size,0,none⟩) 1 1)):=by
   have hz:w2.heap.size≤w5.heap.size:=Nat.le_trans HT4.out.size bt5.size
   refine ⟨⟨[],p0,y3,e3,?_,rd5.kept (al_below _ _),by rw [HA.out],bd3.1,bd3.2.1,by rw [bd3.2.2];exact hn1,by simp;omega⟩,(HT4.out.trans bt5).trans (Bt.of (al_below _ _))⟩
   exact RSp.of ⟨rfl,.inr ⟨w5.heap.size,1,#[.int .i64 p0.1,.int .i64 p0.2],rfl,hz,heap_alloc_new _ _,Nat.le_refl _,by unfold maxLen;omega,rfl,rfl⟩⟩
  have HK0:Hid (k0≤63):=by unfold Hid;omega
  clear c3 rd5 bt5 HA HT4 bd3 hn1 hn0 hn2 hn3 hn4 hy1
  generalize getA ys=GA at *
  go_wp2
  go_loopw [7,8] (fun lf l wr=>∃(k:Nat),k≤63∧lf = .int .i64 k∧GL GA w2 wr g s k l) (fun lf _ _=>(intOf lf).toNat)
  case atStart=>exact ⟨k0,HK0.out,rfl,HGL0.out⟩
  case round=>
   obtain ⟨k,hk,rfl,hgl⟩:=hrel
   obtain ⟨⟨L,p,xs,e,hr,hrd,hglp,hp1,hp2,hp3,hlk⟩,hbt⟩:=hgl
   have HBT:Hid (Bt g w2 wr):=hbt
   have HR:Hid (RSp wr w2.heap.size u8 (L++[p])):=hr
   have HRD:Hid (Fi.Rd wr g s xs e):=hrd
   have hwr:=wid_bt (HW.out.below HB2.out HW.out.pos) hbt HGS.out.2.2.2
   have hlen:(L++[p]).length=L.length+1:=by simp
   obtain ⟨la,lc,rfl,-,-,-⟩:=hr.is.shape
   by_cases hkz:0<k
   · obtain ⟨j,rfl⟩:∃j,k=j+1:=⟨k-1,by omega⟩
     obtain ⟨bb,off,rfl,hrr⟩:=hr.is.at L.length (by rw [hlen];omega)
     have hat:atS (L++[p]) L.length=p:=by simp [atS,List.getD]
     rw [hat] at hrr
     have k1:=(spC hrr).1
     have lt1:(0:Int)<((j+1:Nat):Int):=by omega
     have jw:IntKind.i64.wrap (((j+1:Nat):Int)-1)=(j:Int):=by rw [IntKind.wrap_i64];omega
     have bnd:=rN_bd xs e (p.1-2-(j:Int)*2) (by omega) (Fi.Rd.bytes hrd)
     have c4:=rdNum g s xs e (p.1-2-(j:Int)*2) wr hwr hrd
     have HGLP:Hid (GA=glp j (L++[p]) (gsp (rN xs e (p.1-2-(j:Int)*2)).2.1 (rN xs e (p.1-2-(j:Int)*2)).2.2 (p.1-2-(rN xs e (p.1-2-(j:Int)*2)).1) j).1 (gsp (rN xs e (p.1-2-(j:Int)*2)).2.1 (rN xs e (p.1-2-(j:Int)*2)).2.2 (p.1-2-(rN xs e (p.1-2-(j:Int)*2)).1) j).2.1 (gsp (rN xs e (p.1-2-(j:Int)*2)).2.1 (rN xs e (p.1-2-(j:Int)*2)).2.2 (p.1-2-(rN xs e (p.1-2-(j:Int)*2)).1) j).2.2):=hglp.symm
     have HP:Hid (p.1≤p.2∧p.2≤1099511627776∧2*((j+1:Nat):Int)≤p.1):=⟨hp2,hp3,hp1⟩
     rw [hlen] at HR ⊢
     have wl1:IntKind.i64.wrap (((L.length+1:Nat):Int)-1)=(L.length:Int):=by rw [IntKind.wrap_i64];omega
     have wl2:(L.length:Int)<((L.length+1:Nat):Int):=by omega
     have wl3:IntKind.i64.wrap (p.1-2)=p.1-2:=by rw [IntKind.wrap_i64];omega
     have wl4:IntKind.i64.wrap ((j:Int)*2)=(j:Int)*2:=by rw [IntKind.wrap_i64];omega
     have wl5:IntKind.i64.wrap (p.1-2-(j:Int)*2)=p.1-2-(j:Int)*2:=by rw [IntKind.wrap_i64];omega
     have hb1:=bnd.1
     have hb2:=bnd.2.1
     have HB3:Hid (∀i,0≤(rN xs e (p.1-2-(j:Int)*2)).2.1.getD i 0∧(rN xs e (p.1-2-(j:Int)*2)).2.1.getD i 0<256):=bnd.2.2.2
     clear hr hrd hglp hwr hat hrr bnd hbt
     obtain ⟨z,hz⟩:∃z,z=L.length:=⟨_,rfl⟩
     have HZ:Hid (z=L.length):=hz
     rw [←hz] at HR hlk k1 wl1 wl2 ⊢
     clear hz hlen
     generalize rN xs e (p.1-2-(j:Int)*2)=R4 at *
     obtain ⟨n4,y4,e4⟩:=R4
     simp only at c4 hb1 hb2 HB3 HGLP
     have wl6:IntKind.i64.wrap (p.1-2-n4)=p.1-2-n4:=by rw [IntKind.wrap_i64];omega
     have hq1:(j:Int)*2≤p.1-2-n4:=by omega
     have hq2:p.1-2-n4≤1099511627776:=by omega
     go_wp2_with fail
     refine c4.mono ?_
     rintro e w6 ⟨rfl,rd6,of6⟩
     have HT6:Hid (Bt g w2 w6):=HBT.out.trans (Bt.off of6)
     have HR6:Hid (RSp w6 w2.heap.size (.slice (some ⟨bb,off,none⟩) (z+1) lc) (L++[p])):=HR.out.bt (Bt.off of6) (fun e=>by have:=own_ge HR.out _ e;have:=HGS.out.2.1;omega)
     have hw6:=wid_bt (HW.out.below HB2.out HW.out.pos) HT6.out HGS.out.2.2.2
     have hs6:s<w6.heap.size:=Nat.lt_of_lt_of_le HGS.out.2.2.1 HT6.out.size
     have c5:=spanAhead_any w6 g s y4 e4 (p.1-2-n4) (j:Int) hw6 rd6 hs6 (by omega) hq1 hq2
     have bd5:=gsp_bd y4 e4 (p.1-2-n4) (j:Int) (by omega) hq1 HB3.out
     clear c4 rd6 of6 hw6 hs6 HR HB3 k1
     generalize gsp y4 e4 (p.1-2-n4) (j:Int)=R5 at *
     obtain ⟨p5,y5,e5⟩:=R5
     simp only at c5 bd5 HGLP
     have HP5:Hid (2*(j:Int)≤p5.1∧p5.1≤p5.2∧p5.2≤1099511627776):=⟨bd5.1,bd5.2.1,by rw [bd5.2.2];exact hq2⟩
     clear bd5
     go_wp2_with fail
     refine c5.mono ?_
     rintro e w7 ⟨rfl,rd7,bt7⟩
     obtain ⟨W7,hW7⟩:∃W7,W7=w7.alloc (.cells #[.int .i64 p5.1,.int .i64 p5.2] 131):=⟨_,rfl⟩
     have b7:Below w7.heap.size w7 W7:=by rw [hW7];exact al_below _ _
     have HR7:Hid (RSp W7 w2.heap.size (.slice (some ⟨bb,off,none⟩) (z+1) lc) (L++[p])):=(HR6.out.bt bt7 (fun e=>by have:=own_ge HR6.out _ e;have:=HGS.out.2.1;omega)).below b7
     have HC7:Hid (W7.rangeAt w7.heap.size 0 (spc p5)):=by unfold Hid;rw [hW7];exact sp_new w7 p5
     have HT7:Hid (Bt g w2 W7):=(HT6.out.trans bt7).trans (Bt.of b7)
     have HD7:Hid (Fi.Rd W7 g s y5 e5):=rd7.kept b7
     obtain ⟨M,hM⟩:∃M,M=L++[p]:=⟨_,rfl⟩
     have HLZ:Hid (M.length=z+1):=by unfold Hid;rw [hM,List.length_append,List.length_singleton,HZ.out]
     rw [←hM] at HR7 HGLP
     clear c5 rd7 bt7 b7 HR6 HT6 hM
     go_wp2_with (at_builtin;rw [←hW7];refine wpList_append_sp rfl _ _ rfl w2.heap.size _ M rfl HR7.out w7.heap.size p5 rfl HC7.out (by rw [HLZ.out];omega) HT7.out.size (Hid.out ?_))
     unfold Hid
     intro v8 w8 r8 g8
     try rw [←hW7] at g8
     clear hW7
     have HT8:Hid (Bt g w2 w8):=HT7.out.grown g8 (own_ge HR7.out)
     have HD8:Hid (Fi.Rd w8 g s y5 e5):=rd_grown (N:=w2.heap.size) HD7.out g8 (own_ge HR7.out) HGS.out.2.1 HGS.out.2.2.1 HT7.out.size
     have HGLn:Hid (GL GA w2 w8 g s j v8):=⟨⟨M,p5,y5,e5,r8,HD8.out,HGLP.out.symm,HP5.out.1,HP5.out.2.1,HP5.out.2.2,by rw [HLZ.out];omega⟩,HT8.out⟩
     obtain ⟨a8,c8,rfl,-,-,-⟩:=r8.is.shape
     have hl8:(M++[p5]).length=z+2:=by rw [List.length_append,List.length_singleton,HLZ.out]
     rw [hl8] at HGLn ⊢
     clear r8 g8 HD8 HT8 hl8
     go_wp2
     go_roundw
     case rel=>exact ⟨j,by omega,rfl,HGLn.out⟩
     case measure=>simp [intOf]
   · obtain rfl:k=0:=by omega
     obtain rfl:GA=(L++[p],xs,e):=hglp.symm
     simp only at HGP
     have HBW:Hid (Below w.heap.size w wr):=hbt.below HB2.out HGS.out.1 HB2.out.size
     have ce:=Fi.err_any g s xs e wr hrd
     have hnle:w2.heap.size≤wr.heap.size:=hbt.size
     have hLL:(L++[p]).length≤1000:=by rw [hlen];omega
     have hxm:xs.length≤maxLen:=by
      obtain ⟨a',cap,c0,c1,f0,f1,l1,l2,-⟩:=hrd
      omega
     have wl:IntKind.i64.wrap ((m:Int)-(xs.length:Int))=(m:Int)-(xs.length:Int):=by unfold maxLen at hxm;rw [IntKind.wrap_i64];omega
     clear hglp hwr hlk hp1 hp2 hp3 hkz hxm
     by_cases he:e=0
     · subst he
       have HG2:Hid (GP=((L++[p]).reverse,(m:Int)-(xs.length:Int),0)):=by unfold Hid;rw [HGP.out,if_pos rfl]
       have cr:=reverse_any w2.heap.size _ (L++[p]) wr hr hLL
       clear HGP hr hrd hbt
       obtain ⟨N,hN⟩:∃N,N=(L++[p]).length:=⟨_,rfl⟩
       rw [←hN] at cr hLL HR ⊢
       have hcl:∀W,Fi.Rd W g s xs 0→Calls Tryz.prog 92 #[.pointer (some ⟨g,0,none⟩)] W fun r w'=>r = .returned (.int .i64 xs.length)∧w'=W:=fun W q=>Fi.left_any g s xs 0 W q
       have HCL:Hid (∀W,Fi.Rd W g s xs 0→Calls Tryz.prog 92 #[.pointer (some ⟨g,0,none⟩)] W fun r w'=>r = .returned (.int .i64 xs.length)∧w'=W):=hcl
       clear hcl hN hlen
       generalize (L++[p]).reverse=LR at *
       go_wp2_with fail
       refine ce.mono ?_
       rintro e wq ⟨rfl,eq⟩
       rw [eq]
       clear ce eq wq
       go_wp2_with fail
       refine cr.mono ?_
       rintro e w9 ⟨rfl,r9,g9⟩
       have HR9:Hid (RSp w9 w.heap.size _ LR):=r9.mono HB2.out.size
       have HB9:Hid (Below w.heap.size w w9):=(HBT.out.grown g9 (own_ge HR.out)).below HB2.out HGS.out.1 HB2.out.size
       have HD9:Hid (Fi.Rd w9 g s xs 0):=rd_grown (N:=w2.heap.size) HRD.out g9 (own_ge HR.out) HGS.out.2.1 HGS.out.2.2.1 HBT.out.size
       have cl:=HCL.out w9 HD9.out
       clear cr r9 g9 HCL HD9 HR HRD
       generalize xs.length=xl at *
       go_wp2_with fail
       refine cl.mono ?_
       rintro e wq ⟨rfl,eq⟩
       rw [eq]
       clear cl eq wq
       go_wp2
       refine bodyPost_ret (results_tmp3 rfl _ _ _ ) rfl ?_
       exact ⟨_,by rw [HG2.out];rfl,by rw [HG2.out];exact HR9.out,HB9.out⟩
     · by_cases he3:e=3
       · subst he3
         have HG2:Hid (GP=([],0,3)):=by unfold Hid;rw [HGP.out,if_neg (by decide),if_pos rfl]
         clear HGP hr hrd HRD HR hbt wl he
         go_wp2_with fail
         refine ce.mono ?_
         rintro e wq ⟨rfl,eq⟩
         rw [eq]
         clear ce eq wq
         go_wp2
         refine bodyPost_ret (results_tmp3 rfl _ _ _ ) rfl ?_
         exact ⟨_,by rw [HG2.out];rfl,by rw [HG2.out];exact RSp.nil _ _,HBW.out⟩
       · have HG2:Hid (GP=([],0,4)):=by unfold Hid;rw [HGP.out,if_neg he,if_neg he3]
         have t0:(e==0)=false:=by simpa using he
         have t3:(e==3)=false:=by simpa using he3
         clear HGP hr hrd HRD HR hbt wl he he3
         go_wp2_with fail
         refine ce.mono ?_
         rintro e wq ⟨rfl,eq⟩
         rw [eq]
         clear ce eq wq
         go_wp2
         refine bodyPost_ret (results_tmp3 rfl _ _ _ ) rfl ?_
         exact ⟨_,by rw [HG2.out];rfl,by rw [HG2.out];exact RSp.nil _ _,HBW.out⟩
end Go.Proofs.YtiollhmbdhepkaaGreatDoor
