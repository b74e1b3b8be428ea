/- Ytiollhmbdhepkaa: what PacketBack reaches, joined and cut (its parts: wip) -/
import Derived.Defers
import Derived.Recover
import Derived.Deep.RegionWith
import Derived.Stop.IfaceNil
import Derived.WideLaws
import Derived.Test.YtiollhmbdhepkaaGreatDoorVbm
import Derived.Test.YtiollhmbdhepkaaGreatDoorVbr
namespace Go.Proofs.YtiollhmbdhepkaaGreatDoor
open Go.RowKit Go.Shelf
set_option maxRecDepth 100000
def ofP (p:Fm):Fm:=if chkM p=0 then p else Fm.zero
set_option maxHeartbeats 4000000 in
theorem ofF_any (p:Fm) (sv:Value) (w:World) (ht:Tb w) (hi:FI w p sv) :
 Calls Tryz.prog 10 #[.agg (plA p sv)] w fun e w'=>∃sv',e = .returned (.tuple #[frV (ofP p) sv',.int .i64 (chkM p)])∧RSp w' w.heap.size sv' (spO (ofP p))∧Below w.heap.size w w':=by
 obtain ⟨W1,hW1⟩:∃W1,W1=w.alloc (.cells (plA p sv) 33):=⟨_,rfl⟩
 have b1:Below w.heap.size w W1:=by rw [hW1];exact al_below _ _
 have g1:PF W1 w.heap.size 33 p sv:=by rw [hW1];exact PF.new w _ p sv
 have HG1:Hid (PF W1 w.heap.size 33 p sv):=g1
 have HB1:Hid (Below w.heap.size w W1):=b1
 have HI1:Hid (FI W1 p sv):=hi.kept b1
 have HT:Hid (Tb w):=ht
 have HR1:Hid (W1.rangeAt w.heap.size 0 (plL p sv)):=g1.range
 have HSL:Hid ((Tryz.prog.info? 33).map (·.size)=some (plL p sv).length):=by unfold Hid;rw [plL_len hi.k.nl];exact infoP
 have cc:=checkF_any p sv W1 (ht.next b1) HI1.out
 clear ht hi b1 g1
 go_enter Tryz.func10,Tryz.ntmps10
 go_upto_region 1 with fail
 rw [←hW1]
 clear hW1
 go_wp2_with (refine wpList_load_mid rfl 33 _ rfl w.heap.size 0 rfl (plL p sv) _ HR1.out Tryz.underlying33 rfl HSL.out (Hid.out ?_))
 unfold Hid
 go_wp2_with fail
 refine cc.mono ?_
 rintro e w3 ⟨rfl,b3⟩
 have HB3:Hid (Below w.heap.size w w3):=HB1.out.trans (b3.mono HB1.out.size)
 have HR3:Hid (w3.rangeAt w.heap.size 0 (plL p sv)):=(HG1.out.kept b3).range
 have HI3:Hid (FI w3 p sv):=HI1.out.kept b3
 clear cc b3 HR1 HI1 HG1
 by_cases hc:chkM p=0
 · have cb:=buildF_any p _ w3 HI3.out
   have tc:(chkM p != 0)=false:=by rw [hc];rfl
   have HO:Hid (ofP p=p):=by unfold Hid ofP;rw [if_pos hc]
   have HC:Hid (chkM p=0):=hc
   clear hc
   go_wp2_with (refine wpList_load_mid rfl 33 _ rfl w.heap.size 0 rfl (plL p sv) _ HR3.out Tryz.underlying33 rfl HSL.out (Hid.out ?_))
   unfold Hid
   go_wp2_with fail
   refine cb.mono ?_
   rintro e w4 ⟨s4,rfl,r4,b4⟩
   have HB4:Hid (Below w.heap.size w w4):=HB3.out.trans (b4.mono HB3.out.size)
   have HR4:Hid (RSp w4 w.heap.size s4 (spO p)):=RSp.mono r4 HB3.out.size
   clear cb r4 b4 HR3
   go_wp2
   go_ret2
   exact ⟨s4,by rw [HO.out];first | rfl | (rw [HC.out];rfl),by rw [HO.out];exact HR4.out,HB4.out⟩
 · have tc:(chkM p != 0)=true:=by simpa using hc
   have HO:Hid (ofP p=Fm.zero):=by unfold Hid ofP;rw [if_neg hc]
   have HNIL:Hid (RSp w3 w.heap.size (.slice none 0 0) (spO Fm.zero)):=RI.nil _ _ _ _
   clear hc
   go_wp2
   go_ret2
   exact ⟨_,by rw [HO.out];rfl,by rw [HO.out];exact HNIL.out,HB3.out⟩
end Go.Proofs.YtiollhmbdhepkaaGreatDoor
namespace Go.Proofs.YtiollhmbdhepkaaGreatDoor
open Go.RowKit Go.Shelf
set_option maxRecDepth 100000
theorem getP_le (xs:List Int):(getP xs).2.1≤xs.length:=by
 unfold getP
 simp only
 have h2:(xs.take 1032).length≤xs.length:=by rw [List.length_take];omega
 split
 · simp only;omega
 · split<;>simp<;>omega
theorem ahM_used (ys:List Int) (h:BB ys) (he:(ahM ys).2.2=0):1≤(ahM ys).2.1∧(ahM ys).2.1≤ys.length:=by
 cases ys with
 | nil=>rw [ahM_nil] at he;cases he
 | cons k l=>
   by_cases hk:isK k=true
   · obtain ⟨q1,q2,_⟩:=ahR_rl k l 0 (h.drop 1)
     have hu:=getP_used (ahR k l 0).2.1
     have hv:=getP_le (ahR k l 0).2.1
     rw [ahM_cons k l hk] at he ⊢
     split at he
     · rename_i h1
       rw [if_pos h1]
       exfalso
       unfold errM fltE at he
       simp only at he
       split at he
       · omega
       · exact h1 he
     · rename_i h1
       rw [if_neg h1]
       split at he
       · rename_i h2
         rw [if_pos h2]
         split at he
         · rename_i h3
           exact absurd he h3
         · rename_i h3
           rw [if_neg h3]
           simp only [List.length_cons]
           omega
       · rename_i h2
         rw [if_neg h2]
         simp only [List.length_cons]
         omega
   · rw [ahM_bad k l (by simpa using hk)] at he
     cases he
theorem getM_used (xs:List Int) (h:BB xs) (he:(getM xs).2.2=0):1≤(getM xs).2.1∧(getM xs).2.1≤xs.length:=by
 unfold getM at he ⊢
 simp only at he ⊢
 split at he
 · rename_i h1
   exact absurd he h1
 · rename_i h1
   rw [if_neg h1]
   have h0:(ahM (xs.take 1150)).2.2=0:=Classical.not_not.1 h1
   obtain ⟨q1,q2⟩:=ahM_used _ (h.take 1150) h0
   rw [List.length_take] at q2
   unfold endM at he ⊢
   split at he
   · rename_i h2
     rw [if_pos h2]
     simp only
     omega
   · rename_i h2
     exact absurd he h2
theorem getM_okk (xs:List Int) (he:(getM xs).2.2=0):chkM (getM xs).1=0:=by
 unfold getM at he ⊢
 simp only at he ⊢
 split at he
 · rename_i h1
   exact absurd he h1
 · rename_i h1
   rw [if_neg h1]
   unfold endM at he ⊢
   split at he
   · rename_i h2
     rw [if_pos h2]
     exact h2
   · rename_i h2
     exact absurd he h2
theorem frV_iface {p:Fm} (h:isK p.k=true) (sv:Value):∃t y,frV p sv = .iface t y:=by
 have hk:=h
 unfold isK at hk
 simp at hk
 unfold frV
 rcases (by omega:p.k=1∨p.k=2∨p.k=3∨p.k=4∨p.k=5∨p.k=6∨p.k=7∨p.k=8∨p.k=9∨p.k=10) with e | e | e | e | e | e | e | e | e | e<;>(rw [e];exact ⟨_,_,rfl⟩)
def RF (w:World) (B:Nat) (v:Value) (l:List Fm):Prop:=
 ∃V:List Value,w.ownsRow B 29 1 v l.length V∧∀i,i<l.length→∃sv,V[i]? = some (frV (l.getD i Fm.zero) sv)∧RSp w B sv (spO (l.getD i Fm.zero))
theorem RF.nil (w:World) (B:Nat):RF w B (.slice none 0 0) []:=⟨[],World.ownsRow_nil _ _ _ _,fun i hi=>by simp at hi⟩
theorem RF.below {w w':World} {B:Nat} {v:Value} {l:List Fm} (h:RF w B v l) (hb:Below w.heap.size w w'):RF w' B v l:=by
 obtain ⟨V,h1,h2⟩:=h
 refine ⟨V,own_below h1 hb,fun i hi=>?_⟩
 obtain ⟨sv,h3,h4⟩:=h2 i hi
 exact ⟨sv,h3,h4.below hb⟩
theorem RF.shape {w:World} {B:Nat} {v:Value} {l:List Fm} (h:RF w B v l):∃a c,v = .slice a l.length c:=by
 obtain ⟨V,h1,_⟩:=h
 exact own_shape h1
theorem frV_one (p:Fm) (sv:Value):(frV p sv).oneCell'=true:=by
 unfold frV
 repeat (split;rfl)
 rfl
theorem infoFr:(Tryz.prog.info? 29).map (fun i=>(i.zero,i.size,i.bytes))=some (some .nilIface,1,16):=by kernel_rfl
theorem wpList_append_fr {w:World} {ops:Array Oper} {rest:List Oper} {o:Oper} {a:Act} {Q:Exit→Act→World→Prop} (hgd:o.guard=none) (s x:Operand)
 (ho:o.op = .call { callee:=.builtin .append,args:=#[s,x],argTypes:=#[61,61] })
 (B:Nat) (v:Value) (l:List Fm) (hs:a.eval s=v) (hown:RF w B v l) (g:Nat) (p:Fm) (sv:Value) (cap:Nat) (hX:RSp w B sv (spO p))
 (hx:a.eval x = .slice (some ⟨g,0,none⟩) 1 cap) (hc:w.cell? ⟨g,0,none⟩=some (frV p sv)) (hbig:l.length≤100000) (hbase:B≤w.heap.size)
 (h:∀v' w',RF w' B v' (l++[p])→Below B w w'→wpList Tryz.prog ops Q rest (a.put o.dst v') w'):wpList Tryz.prog ops Q (o::rest) a w:=by
 obtain ⟨i0,hi,hz0,hz1,hz2⟩:=info_parts infoFr
 obtain ⟨V,hV,hall⟩:=hown
 refine wpList_append_own_wide w hgd s x 61 ho B 29 i0 .nilIface 1 16 Tryz.underlying61 hi hz0 hz1 hz2 rfl (by decide) v l.length V hs hV ⟨g,0,none⟩ 1 cap [frV p sv] hx rfl ?_ ?_ (by unfold maxLen;omega) (by omega) hbase ?_
 · intro j z hj
   rw [Addr.add_lit]
   cases j with
   | zero=>simp at hj;subst hj;exact hc
   | succ j=>simp at hj
 · intro z hz
   simp at hz
   subst hz
   exact frV_one p sv
 · intro v' w' ho' hg _
   have ap:∀{y:Value} {Y:List Sp},RSp w B y Y→RSp w' B y Y:=fun {y Y} hy=>hy.keep fun k cs hk hh=>(hg.block k (blk_lt hh) (fun e=>by
    rcases hV.2 with ⟨rfl,_⟩ | ⟨g',cap',cur,rfl,_,hh',_⟩
    · cases e
    · cases e
      rw [hh'] at hh
      cases hh)).trans hh
   have hVl:V.length=l.length:=by have:=hV.1;simpa using this
   refine h v' w' ⟨V++[frV p sv],by rw [List.length_append];exact ho',fun i hi=>?_⟩ ((Below.refl B w).grown hg hbase (own_base hV))
   rw [List.length_append,List.length_singleton] at hi
   rcases Nat.lt_or_ge i l.length with h' | h'
   · obtain ⟨z,hz,oz⟩:=hall i h'
     have e:(l++[p]).getD i Fm.zero=l.getD i Fm.zero:=by simp [List.getD,List.getElem?_append_left h']
     rw [e]
     exact ⟨z,by rw [List.getElem?_append_left (by omega)];exact hz,ap oz⟩
   · obtain rfl:i=l.length:=by omega
     have e:(l++[p]).getD l.length Fm.zero=p:=by simp [List.getD]
     rw [e]
     exact ⟨sv,by rw [List.getElem?_append_right (by omega),hVl];simp,ap hX⟩
end Go.Proofs.YtiollhmbdhepkaaGreatDoor
namespace Go.Proofs.YtiollhmbdhepkaaGreatDoor
open Go.RowKit Go.Shelf
set_option maxRecDepth 100000
def lnV:Value→Nat
 | .slice _ n _=>n
 | _=>0
set_option maxHeartbeats 8000000 in
theorem allF_any (v:Value) (xs:List Int) (w:World) (ht:Tb w) (h:Sl w v xs) (hl:xs.length≤90000) :
 Calls Tryz.prog 68 #[v] w fun e w'=>∃v',e = .returned (.tuple #[v',.int .i64 (allM xs).2])∧RF w' w.heap.size v' (allM xs).1∧Below w.heap.size w w':=by
 have HT:Hid (Tb w):=ht
 have HS:Hid (Sl w v xs):=h
 obtain ⟨a0,c0,rfl,-,-,-,-⟩:=id h
 obtain ⟨R,hR⟩:∃R,R=allM xs:=⟨_,rfl⟩
 have HR:Hid (allA xs.length [] xs=R):=hR.symm
 rw [←hR]
 clear ht h hR
 go_enter Tryz.func68,Tryz.ntmps68
 go_wp2
 go_loopw [0,4] (fun b l wr=>∃(acc:List Fm) (ys:List Int) (f:Nat) (a:Option Addr) (n c:Nat),b = .slice a n c∧Sl w (.slice a n c) ys∧RF wr w.heap.size l acc∧allA f acc ys=R∧(ys.length≤f∧acc.length+ys.length≤90000)∧Below w.heap.size w wr) (fun b _ _=>lnV b)
 case atStart=>exact ⟨[],xs,xs.length,a0,xs.length,c0,rfl,HS.out,RF.nil _ _,HR.out,⟨Nat.le_refl _,by simpa using hl⟩,Below.refl _ _⟩
 case round=>
  obtain ⟨acc,ys,f,a,n,c,rfl,hs,hf,hA,⟨hyf,hal⟩,hb⟩:=hrel
  obtain ⟨a',c',e',hlc,hcm,hnn,hrow⟩:=id hs
  cases e'
  have HB:Hid (Below w.heap.size w wr):=hb
  have HSR:Hid (Sl w (.slice a ys.length c) ys):=hs
  have HFR:Hid (RF wr w.heap.size u4 acc):=hf
  have HAR:Hid (allA f acc ys=R):=hA
  have HAL:Hid (acc.length+ys.length≤90000):=hal
  have hbb:BB ys:=hs.bytes
  obtain ⟨la,lc,rfl⟩:=RF.shape hf
  clear hs hf hA hb HS HR
  by_cases hn0:ys.length=0
  · have hy:ys=[]:=List.length_eq_zero_iff.1 hn0
    have HRE:Hid (R=(acc,0)):=by unfold Hid;rw [←HAR.out,hy,allA_nil]
    have t0:¬(0:Int)<(ys.length:Int):=by omega
    clear hrow hbb hyf hal hn0 hy
    generalize ys.length=n at *
    go_wp2
    go_ret2
    exact ⟨_,by rw [HRE.out];rfl,by rw [HRE.out];exact HFR.out,HB.out⟩
  · have t0:(0:Int)<(ys.length:Int):=by omega
    obtain ⟨f',rfl⟩:∃f',f=f'+1:=⟨f-1,by omega⟩
    have hne:ys≠[]:=fun e=>hn0 (by rw [e];rfl)
    have hAS:=HAR.out
    rw [allA_succ,if_neg hne] at hAS
    have cg:=getF_any _ ys wr (HT.out.next HB.out) (HSR.out.kept HB.out) (by omega)
    have hus:=getM_used ys hbb
    have hok:=getM_okk ys
    generalize getM ys=G at *
    obtain ⟨p,gu,ge⟩:=G
    simp only at cg hAS hus hok
    by_cases hge:ge=0
    · obtain ⟨hu1,hu2⟩:=hus hge
      rw [if_neg (fun q=>q hge)] at hAS
      obtain ⟨U,rfl⟩:∃U:Nat,gu=U:=⟨gu.toNat,by omega⟩
      rw [Int.toNat_natCast] at hAS
      obtain ⟨bb,off,rfl⟩:∃bb off,a=some ⟨bb,off,none⟩:=by
       rcases hrow with h0 | ⟨-,bb,off,e2,-⟩
       · exact absurd h0 hn0
       · exact ⟨bb,off,e2⟩
      have hUn:U≤ys.length:=by omega
      obtain ⟨zs,hzs⟩:∃zs,zs=ys.drop U:=⟨_,rfl⟩
      have hzl:zs.length=ys.length-U:=by rw [hzs,List.length_drop]
      have HRR:Hid (allA f' (acc++[p]) zs=R):=by rw [hzs];exact hAS
      have HZL:Hid (zs.length≤f'∧(acc++[p]).length+zs.length≤90000):=by
       unfold Hid
       rw [List.length_append,List.length_singleton]
       omega
      have HZA:Hid (c=U→Sl w (.slice (some ⟨bb,off,none⟩) 0 0) zs):=fun hc=>by
       have:zs=[]:=List.length_eq_zero_iff.1 (by omega)
       rw [this]
       exact ⟨_,0,rfl,Nat.le_refl _,by unfold maxLen;omega,fun e=>(by cases e),.inl rfl⟩
      have hdrop:=HSR.out.drop U hUn
      rw [←hzs] at hdrop
      have HZB:Hid (Sl w (.slice (some ⟨bb,off+U,none⟩) (ys.length-U) (c-U)) zs):=hdrop
      have HAL2:Hid (acc.length≤100000):=by have:=HAL.out;unfold Hid;omega
      have hge':(ge != 0)=false:=by rw [hge];rfl
      have hcm2:c≤9223372036854775807:=by unfold maxLen at hcm;omega
      have sx1:0≤(U:Int):=by omega
      have sx2:(U:Int)≤(ys.length:Int):=by omega
      have sx3:(ys.length:Int)≤(c:Int):=by omega
      have HOKP:Hid (chkM p=0):=hok hge
      have HU0:Hid (0<U):=by unfold Hid;omega
      clear hok hAS hus hzs hrow hne hbb hyf hal HAR HT hl hge hu1 hu2 hdrop HAL hcm HSR hnn hzl
      generalize ys.length=n at *
      go_wp2_with fail
      refine cg.mono ?_
      rintro e w1 ⟨s1,rfl,r1,b1⟩
      obtain ⟨ty,y,hy⟩:=frV_iface (chkM_ok HOKP.out).kk s1
      rw [hy]
      have HY:Hid (frV p s1 = .iface ty y):=hy
      clear hy
      obtain ⟨W2,hW2⟩:∃W2,W2=w1.alloc (.cells #[.iface ty y] 29):=⟨_,rfl⟩
      have b2:Below w1.heap.size w1 W2:=by rw [hW2];exact al_below _ _
      have b12:Below wr.heap.size wr W2:=b1.trans (b2.mono b1.size)
      have HB2:Hid (Below w.heap.size w W2):=HB.out.trans (b12.mono HB.out.size)
      have HF2:Hid (RF W2 w.heap.size (.slice la acc.length lc) acc):=HFR.out.below b12
      have HS2:Hid (RSp W2 w.heap.size s1 (spO p)):=(RSp.mono r1 HB.out.size).below b2
      have HC2:Hid (W2.cell? ⟨w1.heap.size,0,none⟩=some (frV p s1)):=by unfold Hid;rw [HY.out,hW2,World.cell?_alloc_at _ _ _ _ rfl];rfl
      clear cg r1 b1 b2 b12 HFR HB
      by_cases hcU:c=U
      · have HS0:Hid (Sl w (.slice (some ⟨bb,off,none⟩) 0 0) zs):=HZA.out hcU
        clear HZA HZB
        subst hcU
        obtain rfl:n=c:=by omega
        clear sx2 sx3 hUn
        go_wp2_with (at_builtin;rw [←hW2];refine wpList_append_fr rfl _ _ rfl w.heap.size _ acc rfl HF2.out w1.heap.size p s1 1 HS2.out rfl HC2.out HAL2.out HB2.out.size (Hid.out ?_))
        unfold Hid
        intro v3 w3 r3 b3
        try rw [←hW2] at b3
        clear hW2
        have HB3:Hid (Below w.heap.size w w3):=HB2.out.trans b3
        have HF3:Hid (RF w3 w.heap.size v3 (acc++[p])):=r3
        obtain ⟨va,vc,rfl⟩:=RF.shape r3
        clear b3 r3
        go_wp2
        go_roundw
        case rel=>exact ⟨acc++[p],zs,f',some ⟨bb,off,none⟩,0,0,rfl,HS0.out,HF3.out,HRR.out,HZL.out,HB3.out⟩
        case measure=>(have:=HU0.out;simp [lnV];omega)
      · have HS0:Hid (Sl w (.slice (some ⟨bb,off+U,none⟩) (n-U) (c-U)) zs):=HZB.out
        clear HZA HZB
        go_wp2_with (at_builtin;rw [←hW2];refine wpList_append_fr rfl _ _ rfl w.heap.size _ acc rfl HF2.out w1.heap.size p s1 1 HS2.out rfl HC2.out HAL2.out HB2.out.size (Hid.out ?_))
        unfold Hid
        intro v3 w3 r3 b3
        try rw [←hW2] at b3
        clear hW2
        have HB3:Hid (Below w.heap.size w w3):=HB2.out.trans b3
        have HF3:Hid (RF w3 w.heap.size v3 (acc++[p])):=r3
        obtain ⟨va,vc,rfl⟩:=RF.shape r3
        clear b3 r3
        go_wp2
        go_roundw
        case rel=>exact ⟨acc++[p],zs,f',some ⟨bb,off+U,none⟩,n-U,c-U,rfl,HS0.out,HF3.out,HRR.out,HZL.out,HB3.out⟩
        case measure=>(have:=HU0.out;simp [lnV];omega)
    · rw [if_pos hge] at hAS
      have HRE:Hid (R=([],ge)):=hAS.symm
      have tge:(ge != 0)=true:=by simpa using hge
      clear hok hAS hus hge hrow hne hbb hyf hal HAR HAL
      generalize ys.length=n at *
      go_wp2_with fail
      refine cg.mono ?_
      rintro e w1 ⟨s1,rfl,r1,b1⟩
      have HB1:Hid (Below w.heap.size w w1):=HB.out.trans (b1.mono HB.out.size)
      clear cg r1 b1
      go_wp2
      go_ret2
      exact ⟨_,by rw [HRE.out];rfl,by rw [HRE.out];exact RF.nil _ _,HB1.out⟩
end Go.Proofs.YtiollhmbdhepkaaGreatDoor
