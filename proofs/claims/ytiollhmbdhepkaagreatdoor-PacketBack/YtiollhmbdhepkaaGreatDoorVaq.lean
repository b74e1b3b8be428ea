/- Ytiollhmbdhepkaa: what PacketBack reaches, joined and cut (its parts: wip) -/
import Derived.Test.YtiollhmbdhepkaaGreatDoorVan
namespace Go.Proofs.YtiollhmbdhepkaaGreatDoor.Sh
open Go.RowKit
set_option maxRecDepth 100000
def Apart (g:Nat) (v:Value):Prop:=∀a l c,v = .slice (some a) l c→0<l→a.block≠g
theorem upto_next (T:List Int) (k:Nat):Pl.comp (Pl.upto T k) ((T.drop (64*k)).take 64)=Pl.upto T (k+1):=(Pl.upto_succ T k).symm
theorem ok_upto (T:List Int) (k:Nat):Pl.ok (Pl.upto T k):=Pl.ok_blocks k _ _ Pl.ok_init
theorem hsof_end {w:World} {G:Nat} {T R:List Int} {k:Nat} (hk:k=T.length / 64) (hh:Hs w G (Pl.words (Pl.upto T k)) (over R 0 ((T.drop (64*k)).take 64)) T.length) (hb:Pl.Byt R) (hR:R.length=64) (hT:Pl.Byt (T.drop (64*k))):HsOf w G T:=by
 subst hk
 have hl:(T.drop (64*(T.length / 64))).length=T.length % 64:=by rw [List.length_drop];omega
 have h64:T.length % 64<64:=Nat.mod_lt _ (by omega)
 rw [List.take_of_length_le (by omega)] at hh
 refine ⟨_,hh,byt_over hb hT (by omega),fun i hi=>?_⟩
 rw [over_get _ _ _ _ (by omega),if_pos (by omega),getD_drop]
 simp
def lenOf':Value→Nat
 | .slice _ n _=>n
 | _=>0
set_option maxHeartbeats 2000000 in
set_option maxRecDepth 100000 in
theorem write_any (G:Nat) (l:List Int) (v:Value) (xs:List Int) (w:World) (ht:Tab w) (hh:HsOf w G l) (sl:Sl w v xs) (ap:Apart G v) (hg:4≤G) (hbig:l.length+xs.length≤1000000000000000000) :
 Calls Tryz.prog 135 #[.pointer (some ⟨G,0,none⟩),v] w fun e w'=>(∃u,e = .returned u)∧HsOf w' G (l++xs)∧But G w w':=by
 obtain ⟨R,h1,hbR,htl⟩:=hh
 have hnum:=h1.num
 have hfz:=h1.frozen 72
 have hL:64*(l.length / 64)+l.length % 64=l.length:=Nat.div_add_mod ..
 have hH:l.length % 64<64:=Nat.mod_lt _ (by omega)
 have e1:Int.tmod (l.length:Int) 64=((l.length % 64:Nat):Int):=by rw [Int.tmod_eq_emod_of_nonneg (by omega)];omega
 have HW1:Hid (Hs (w.setCell ⟨G,72,none⟩ (.int .i64 ((l.length+xs.length:Nat):Int))) G (Pl.words (Pl.absorb l)) R (l.length+xs.length)):=h1.setNum _
 have BW1:Hid (But G w (w.setCell ⟨G,72,none⟩ (.int .i64 ((l.length+xs.length:Nat):Int)))):=But.set _ _ _ _
 have AP:Hid (Apart G v):=ap
 have SV:Hid (Sl (w.setCell ⟨G,72,none⟩ (.int .i64 ((l.length+xs.length:Nat):Int))) v xs):=sl.but BW1.out ap
 have HT:Hid (Tab w):=ht
 have hxb:Pl.Byt xs:=sl.bytes
 have HXB:Hid (Pl.Byt xs):=hxb
 have HRB:Hid (Pl.Byt R):=hbR
 have HTL:Hid (∀i,i<l.length % 64→R.getD i 0=l.getD (64*(l.length / 64)+i) 0):=htl
 have HR:Hid (R.length=64):=h1.2.2
 obtain ⟨a,cap,rfl,k1,k2,k3,k4⟩:=sl
 have hcm:cap≤9223372036854775807:=by unfold maxLen at k2;omega
 obtain ⟨T,hT⟩:∃T,T=l++xs:=⟨_,rfl⟩
 have HTT:Hid (T=l++xs):=hT
 have HTE:Hid (l++xs=T):=hT.symm
 have HTn:Hid (T.length=l.length+xs.length):=by unfold Hid;rw [hT,List.length_append]
 obtain ⟨K0,hK0⟩:∃K0,K0=l.length / 64:=⟨_,rfl⟩
 have HK0:Hid (K0=l.length / 64):=hK0
 have HAB:Hid (Pl.absorb l=Pl.upto T K0):=by unfold Hid;rw [Pl.absorb_eq,hT,hK0];exact (Pl.upto_append l xs _ (by omega)).symm
 have HDR:Hid (l.length % 64=0→T.drop (64*K0)=xs):=fun h0=>by
  rw [hT,hK0,List.drop_append,List.drop_eq_nil_of_le (by omega)]
  simp [show 64*(l.length / 64)-l.length=0 by omega]
 have HDR2:Hid (∀t,t=64-l.length % 64→0<l.length % 64→T.drop (64*(K0+1))=xs.drop t):=fun t e h0=>by
  rw [hT,hK0,e,List.drop_append,List.drop_eq_nil_of_le (by omega)]
  simp only [List.nil_append]
  congr 1
  omega
 obtain ⟨L,hLL⟩:∃L,L=l.length:=⟨_,rfl⟩
 obtain ⟨m,hm⟩:∃m,m=xs.length:=⟨_,rfl⟩
 have HLL:Hid (L=l.length):=hLL
 have HM:Hid (m=xs.length):=hm
 rw [←hLL,←hm] at HW1 BW1 SV HTn hbig
 rw [←hLL] at hnum e1 hL hH HTL HDR HDR2 HK0
 rw [←hm] at k1 k4 AP ⊢
 obtain ⟨hd,hhd⟩:∃hd,hd=L % 64:=⟨_,rfl⟩
 have HHD:Hid (hd=L % 64):=hhd
 rw [←hhd] at e1 hL hH HTL HDR HDR2
 rw [HTE.out]
 have QQ:Hid (l++xs=T):=HTE.out
 obtain ⟨w1,hw1⟩:∃w1,w1=w.setCell ⟨G,72,none⟩ (.int .i64 ((L+m:Nat):Int)):=⟨_,rfl⟩
 have hset:w.setCell ⟨G,72,none⟩ (.int .i64 ((L:Int)+(m:Int)))=w1:=by rw [←Int.natCast_add];exact hw1.symm
 rw [←hw1] at HW1 BW1 SV
 clear hT hK0 hLL hm hhd hw1 ht hxb hbR htl h1 ap k4
 have hL64:64*K0+hd=L:=by have:=HK0.out;have:=HHD.out;omega
 clear hL
 obtain ⟨n,hn⟩:∃n,n=L+m:=⟨_,rfl⟩
 rw [←hn] at HW1 HTn
 have HN:Hid (n=L+m):=hn
 clear hn
 by_cases h0:hd=0
 · subst h0
   have lt0:¬(0:Int)<((0:Nat):Int):=by omega
   clear lt0
   go_enter Tryz.func135,Tryz.ntmps135
   go_wp2_with fail
   go_loopw [1] (fun b wr=>∃k:Nat,64*k≤n∧L≤64*k∧Sl wr b (T.drop (64*k))∧Hs wr G (Pl.words (Pl.upto T k)) R n∧But G w wr∧Apart G b) (fun b _=>lenOf' b)
   case atStart=>exact ⟨K0,by have:=HN.out;omega,by omega,by rw [HDR.out (by trivial)];exact SV.out,by rw [←HAB.out];exact HW1.out,BW1.out,AP.out⟩
   case round=>
    obtain ⟨k,hk,hLk,sl,hs,hb,ap⟩:=hrel
    have hdl:(T.drop (64*k)).length=n-64*k:=by rw [List.length_drop,HTn.out]
    have HSL:Hid (Sl wr u1 (T.drop (64*k))):=sl
    have HHS:Hid (Hs wr G (Pl.words (Pl.upto T k)) R n):=hs
    have HBB:Hid (But G w wr):=hb
    have HAP:Hid (Apart G u1):=ap
    have HTB:Hid (Pl.Byt (T.drop (64*k))):=sl.bytes
    obtain ⟨ad,cp,hv,q1,q2,q3,q4⟩:=sl
    rw [hdl] at hv q1 q4
    have qm:cp≤9223372036854775807:=by unfold maxLen at q2;omega
    clear hs hb ap
    by_cases hlt:64≤n-64*k
    · rcases q4 with q4 | ⟨-,bb,off,rfl,-,-,-,-⟩
      · omega
      subst hv
      have sub:Hid (Sl wr (.slice (some ⟨bb,off,none⟩) 64 cp) ((T.drop (64*k)).take 64)):=HSL.out.take 64 (by omega)
      have cw:=work_any G (Pl.upto T k) R n _ _ wr (HT.out.but HBB.out hg) HHS.out (ok_upto T k) sub.out (by rw [List.length_take,hdl];omega)
      rw [upto_next] at cw
      have lt1:(64:Int)≤((n-64*k:Nat):Int):=by omega
      have lt2:(64:Int)≤(cp:Int):=by omega
      have lt3:64≤cp:=by omega
      have DR:Hid (∀w2,But G wr w2→Sl w2 (.slice (some ⟨bb,off+64,none⟩) (n-64*k-64) (cp-64)) (T.drop (64*(k+1)))):=fun w2 b2=>by
       have:=(HSL.out.but b2 HAP.out).drop 64 (by omega)
       rw [List.drop_drop] at this
       exact this
      have DA:Hid (Apart G (.slice (some ⟨bb,off+64,none⟩) (n-64*k-64) (cp-64))):=fun a' l' c' e' hl'=>by
       cases e'
       exact HAP.out ⟨bb,off,none⟩ _ _ rfl (by omega)
      have DZ:Hid (cp=64→∀w2,Sl w2 (.slice (some ⟨bb,off,none⟩) (n-64*k-64) 0) (T.drop (64*(k+1)))∧Apart G (.slice (some ⟨bb,off,none⟩) (n-64*k-64) 0)):=fun hc w2=>by
       have e0:n-64*k-64=0:=by omega
       have en:T.drop (64*(k+1))=[]:=List.drop_eq_nil_of_le (by rw [HTn.out];omega)
       rw [e0,en]
       exact ⟨⟨_,_,rfl,by simp,by unfold maxLen;omega,(fun h=>by cases h),.inl rfl⟩,fun a' l' c' e' hl'=>by cases e';omega⟩
      obtain ⟨d,hd'⟩:∃d,d=n-64*k:=⟨_,rfl⟩
      have HD:Hid (d=n-64*k):=hd'
      rw [←hd'] at lt1 DR DA DZ ⊢
      clear hd' hlt
      go_wp2_with fail
      refine cw.mono ?_
      rintro e w2 ⟨⟨r2,rfl⟩,hs2,hb2⟩
      have HS2:Hid (Hs w2 G (Pl.words (Pl.upto T (k+1))) R n):=hs2
      have HB2:Hid (But G wr w2):=hb2
      clear cw hs2 hb2
      by_cases hc:cp=64
      · have hz:=DZ.out hc w2
        have HZ:Hid (Sl w2 (.slice (some ⟨bb,off,none⟩) (d-64) 0) (T.drop (64*(k+1)))∧Apart G (.slice (some ⟨bb,off,none⟩) (d-64) 0)):=hz
        clear hz
        go_wp2
        go_roundw
        case rel=>exact ⟨k+1,by have:=HD.out;omega,by omega,HZ.out.1,HS2.out,HBB.out.trans HB2.out,HZ.out.2⟩
        case measure=>have:=HD.out;simp [lenOf'];omega
      · have hc':¬cp-64=0:=by omega
        go_wp2
        go_roundw
        case rel=>exact ⟨k+1,by have:=HD.out;omega,by omega,DR.out _ HB2.out,HS2.out,HBB.out.trans HB2.out,DA.out⟩
        case measure=>have:=HD.out;simp [lenOf'];omega
    · have hke:k=n / 64:=by omega
      have HKE:Hid (k=T.length / 64):=by unfold Hid;rw [HTn.out];exact hke
      have lt1:¬(64:Int)≤((n-64*k:Nat):Int):=by omega
      clear hdl q1 q3 q4 hke
      obtain ⟨d,hd'⟩:∃d,d=n-64*k:=⟨_,rfl⟩
      rw [←hd'] at lt1 hv
      subst hv
      clear hd' hlt
      go_wp2_with (refine wpList_copy_hs rfl _ _ rfl G 0 64 (by omega) rfl _ (T.drop (64*k)) rfl HSL.out (Pl.words (Pl.upto T k)) R n HHS.out (Hid.out ?_))
      unfold Hid
      intro w2 hs2 hb2
      have HS2:Hid (HsOf w2 G T):=hsof_end HKE.out (by rw [HTn.out];exact hs2) HRB.out HR.out HTB.out
      have HB2:Hid (But G w w2):=HBB.out.trans hb2
      clear hs2 hb2
      go_wp2
      refine bodyPost_end (v:=.tuple #[]) (by simp [results,Tryz.results135]) rfl ⟨⟨_,rfl⟩,HS2.out,HB2.out⟩
 · have lt0:(0:Int)<(hd:Int):=by omega
   have hne:¬hd=64:=by omega
   have hne2:¬64=hd:=by omega
   have le1:(hd:Int)≤64:=by omega
   have le2:hd≤64:=by omega
   by_cases hB:hd+m<64
   · have mn:min xs.length (64-hd)=m:=by rw [←HM.out];omega
     have hlt:(hd:Int)+(m:Int)<64:=by omega
     go_enter Tryz.func135,Tryz.ntmps135
     go_wp2_with (refine wpList_copy_hs rfl _ _ rfl G hd (64-hd) le2 rfl _ xs rfl SV.out (Pl.words (Pl.absorb l)) R n HW1.out (Hid.out ?_))
     unfold Hid
     intro w2 hs2 hb2
     have HS2:Hid (HsOf w2 G T):=by
      unfold Hid
      rw [HTT.out]
      have e3:l.length % 64=hd:=by rw [HHD.out,HLL.out]
      refine ⟨_,?_,byt_over HRB.out (bytes_take _ _ HXB.out) (by rw [List.length_take,HR.out];omega),held_more HR.out (by rw [e3,←HLL.out];exact HTL.out) (by rw [e3,←HM.out];exact hB)⟩
      rw [absorb_held (by rw [e3,←HM.out];exact hB),List.length_append,←HLL.out,←HM.out,←HN.out,show L % 64=hd from HHD.out.symm]
      exact hs2
     have HB2:Hid (But G w w2):=BW1.out.trans hb2
     clear hs2 hb2 hset
     go_wp2
     refine bodyPost_ret (v:=.tuple #[]) (by simp [results,Tryz.results135]) rfl ⟨⟨_,rfl⟩,HS2.out,HB2.out⟩
   · obtain ⟨tk,htk⟩:∃tk,tk=64-hd:=⟨_,rfl⟩
     have mn:min xs.length tk=tk:=by rw [←HM.out];omega
     have e3:l.length % 64=hd:=by rw [HHD.out,HLL.out]
     have HR1:Hid (over R hd (xs.take tk)=(T.drop (64*K0)).take 64):=by
      have:=block_full (xs:=xs) HR.out (by rw [e3,←HLL.out];exact HTL.out) (by rw [e3,←HM.out];omega)
      rw [e3,←htk,HTE.out,←HLL.out,←HK0.out] at this
      exact this
     have HRL:Hid ((over R hd (xs.take tk)).length=64):=by unfold Hid;rw [over_len,HR.out]
     have HRB1:Hid (Pl.Byt (over R hd (xs.take tk))):=byt_over HRB.out (bytes_take _ _ HXB.out) (by rw [List.length_take,HR.out];omega)
     generalize hR1:over R hd (xs.take tk)=R1 at *
     obtain ⟨a',cap',e',-,-,-,q4⟩:=SV.out
     rw [←HM.out] at e' q4
     cases e'
     rcases q4 with q4 | ⟨-,bb,off,rfl,-,-,-,-⟩
     · omega
     have hlt:¬(hd:Int)+(tk:Int)<64:=by omega
     have hs64:(hd:Int)+(tk:Int)=64:=by omega
     have lt1:(tk:Int)≤(m:Int):=by omega
     have lt2:(tk:Int)≤(cap:Int):=by omega
     have lt3:tk≤cap:=by omega
     have lt4:tk≤m:=by omega
     have DR:Hid (∀w2,But G w1 w2→Sl w2 (.slice (some ⟨bb,off+tk,none⟩) (m-tk) (cap-tk)) (T.drop (64*(K0+1)))):=fun w2 b2=>by
      have:=(SV.out.but b2 AP.out).drop tk (by omega)
      rw [HDR2.out tk htk (by omega)]
      exact this
     have DA:Hid (Apart G (.slice (some ⟨bb,off+tk,none⟩) (m-tk) (cap-tk))):=fun a' l' c' e' hl'=>by
      cases e'
      exact AP.out ⟨bb,off,none⟩ _ _ rfl (by omega)
     have DZ:Hid (cap=tk→∀w2,Sl w2 (.slice (some ⟨bb,off,none⟩) 0 0) (T.drop (64*(K0+1)))∧Apart G (.slice (some ⟨bb,off,none⟩) 0 0)):=fun hc w2=>by
      have en:T.drop (64*(K0+1))=[]:=List.drop_eq_nil_of_le (by rw [HTn.out];have:=HN.out;omega)
      rw [en]
      exact ⟨⟨_,_,rfl,by simp,by unfold maxLen;omega,(fun h=>by cases h),.inl rfl⟩,fun a' l' c' e' hl'=>by cases e';omega⟩
     have HHR:Hid (hd+tk=64):=by unfold Hid;omega
     have HTK:Hid (tk=64-hd):=htk
     have HMX:Hid (64-hd=tk):=htk.symm
     have HR1e:Hid (over R hd (xs.take (64-hd))=R1):=by unfold Hid;rw [HMX.out];exact hR1
     have mn2:min xs.length (64-hd)=tk:=by rw [HMX.out];exact mn
     clear htk hR1 mn e3
     go_enter Tryz.func135,Tryz.ntmps135
     go_wp2_with (refine wpList_copy_hs rfl _ _ rfl G hd (64-hd) le2 rfl _ xs rfl SV.out (Pl.words (Pl.absorb l)) R n HW1.out (Hid.out ?_))
     unfold Hid
     intro w2 hs2 hb2
     rw [HR1e.out,HAB.out] at hs2
     have cw:=work_any G (Pl.upto T K0) R1 n _ _ w2 (HT.out.but (BW1.out.trans hb2) hg) hs2 (ok_upto T K0) (sl_rest hs2 HRB1.out) HRL.out
     rw [show Pl.comp (Pl.upto T K0) R1=Pl.upto T (K0+1) by rw [HR1.out];exact upto_next T K0] at cw
     have HB2:Hid (But G w1 w2):=hb2
     clear hs2 hb2 hset mn2
     go_wp2_with fail
     refine cw.mono ?_
     rintro e w3 ⟨⟨r3,rfl⟩,hs3,hb3⟩
     have HS3:Hid (Hs w3 G (Pl.words (Pl.upto T (K0+1))) R1 n):=hs3
     have HB3:Hid (But G w1 w3):=HB2.out.trans hb3
     clear cw hs3 hb3 HB2
     by_cases hc:cap=tk
     · have hz:=DZ.out hc w3
       have HZ:Hid (Sl w3 (.slice (some ⟨bb,off,none⟩) 0 0) (T.drop (64*(K0+1)))∧Apart G (.slice (some ⟨bb,off,none⟩) 0 0)):=hz
       clear hz
       subst hc
       go_wp2_with fail
       go_loopw [1] (fun b wr=>∃k:Nat,64*k≤n∧L≤64*k∧Sl wr b (T.drop (64*k))∧Hs wr G (Pl.words (Pl.upto T k)) R1 n∧But G w wr∧Apart G b) (fun b _=>lenOf' b)
       case atStart=>exact ⟨K0+1,by have:=HN.out;have:=HHR.out;omega,by have:=HHR.out;omega,HZ.out.1,HS3.out,BW1.out.trans HB3.out,HZ.out.2⟩
       case round=>
        obtain ⟨k,hk,hLk,sl,hs,hb,ap⟩:=hrel
        have hdl:(T.drop (64*k)).length=n-64*k:=by rw [List.length_drop,HTn.out]
        have HSL:Hid (Sl wr u1 (T.drop (64*k))):=sl
        have HHS:Hid (Hs wr G (Pl.words (Pl.upto T k)) R1 n):=hs
        have HBB:Hid (But G w wr):=hb
        have HAP:Hid (Apart G u1):=ap
        have HTB:Hid (Pl.Byt (T.drop (64*k))):=sl.bytes
        obtain ⟨ad,cp,hv,q1,q2,q3,q4⟩:=sl
        rw [hdl] at hv q1 q4
        have qm:cp≤9223372036854775807:=by unfold maxLen at q2;omega
        clear hs hb ap
        by_cases hlt:64≤n-64*k
        · rcases q4 with q4 | ⟨-,bb,off,rfl,-,-,-,-⟩
          · omega
          subst hv
          have sub:Hid (Sl wr (.slice (some ⟨bb,off,none⟩) 64 cp) ((T.drop (64*k)).take 64)):=HSL.out.take 64 (by omega)
          have cw:=work_any G (Pl.upto T k) R1 n _ _ wr (HT.out.but HBB.out hg) HHS.out (ok_upto T k) sub.out (by rw [List.length_take,hdl];omega)
          rw [upto_next] at cw
          have lt1:(64:Int)≤((n-64*k:Nat):Int):=by omega
          have lt2:(64:Int)≤(cp:Int):=by omega
          have lt3:64≤cp:=by omega
          have DR:Hid (∀w2,But G wr w2→Sl w2 (.slice (some ⟨bb,off+64,none⟩) (n-64*k-64) (cp-64)) (T.drop (64*(k+1)))):=fun w2 b2=>by
           have:=(HSL.out.but b2 HAP.out).drop 64 (by omega)
           rw [List.drop_drop] at this
           exact this
          have DA:Hid (Apart G (.slice (some ⟨bb,off+64,none⟩) (n-64*k-64) (cp-64))):=fun a' l' c' e' hl'=>by
           cases e'
           exact HAP.out ⟨bb,off,none⟩ _ _ rfl (by omega)
          have DZ:Hid (cp=64→∀w2,Sl w2 (.slice (some ⟨bb,off,none⟩) (n-64*k-64) 0) (T.drop (64*(k+1)))∧Apart G (.slice (some ⟨bb,off,none⟩) (n-64*k-64) 0)):=fun hc w2=>by
           have e0:n-64*k-64=0:=by omega
           have en:T.drop (64*(k+1))=[]:=List.drop_eq_nil_of_le (by rw [HTn.out];omega)
           rw [e0,en]
           exact ⟨⟨_,_,rfl,by simp,by unfold maxLen;omega,(fun h=>by cases h),.inl rfl⟩,fun a' l' c' e' hl'=>by cases e';omega⟩
          obtain ⟨d,hd'⟩:∃d,d=n-64*k:=⟨_,rfl⟩
          have HD:Hid (d=n-64*k):=hd'
          rw [←hd'] at lt1 DR DA DZ ⊢
          clear hd' hlt
          go_wp2_with fail
          refine cw.mono ?_
          rintro e w2 ⟨⟨r2,rfl⟩,hs2,hb2⟩
          have HS2:Hid (Hs w2 G (Pl.words (Pl.upto T (k+1))) R1 n):=hs2
          have HB2:Hid (But G wr w2):=hb2
          clear cw hs2 hb2
          by_cases hc:cp=64
          · have hz:=DZ.out hc w2
            have HZ:Hid (Sl w2 (.slice (some ⟨bb,off,none⟩) (d-64) 0) (T.drop (64*(k+1)))∧Apart G (.slice (some ⟨bb,off,none⟩) (d-64) 0)):=hz
            clear hz
            go_wp2
            go_roundw
            case rel=>exact ⟨k+1,by have:=HD.out;omega,by omega,HZ.out.1,HS2.out,HBB.out.trans HB2.out,HZ.out.2⟩
            case measure=>have:=HD.out;simp [lenOf'];omega
          · have hc':¬cp-64=0:=by omega
            go_wp2
            go_roundw
            case rel=>exact ⟨k+1,by have:=HD.out;omega,by omega,DR.out _ HB2.out,HS2.out,HBB.out.trans HB2.out,DA.out⟩
            case measure=>have:=HD.out;simp [lenOf'];omega
        · have hke:k=n / 64:=by omega
          have HKE:Hid (k=T.length / 64):=by unfold Hid;rw [HTn.out];exact hke
          have lt1:¬(64:Int)≤((n-64*k:Nat):Int):=by omega
          clear hdl q1 q3 q4 hke
          obtain ⟨d,hd'⟩:∃d,d=n-64*k:=⟨_,rfl⟩
          rw [←hd'] at lt1 hv
          subst hv
          clear hd' hlt
          go_wp2_with (refine wpList_copy_hs rfl _ _ rfl G 0 64 (by omega) rfl _ (T.drop (64*k)) rfl HSL.out (Pl.words (Pl.upto T k)) R1 n HHS.out (Hid.out ?_))
          unfold Hid
          intro w2 hs2 hb2
          have HS2:Hid (HsOf w2 G T):=hsof_end HKE.out (by rw [HTn.out];exact hs2) HRB1.out HRL.out HTB.out
          have HB2:Hid (But G w w2):=HBB.out.trans hb2
          clear hs2 hb2
          go_wp2
          refine bodyPost_end (v:=.tuple #[]) (by simp [results,Tryz.results135]) rfl ⟨⟨_,rfl⟩,HS2.out,HB2.out⟩
     · have hc':¬tk=cap:=by omega
       have hc2:¬cap-tk=0:=by omega
       go_wp2_with fail
       go_loopw [1] (fun b wr=>∃k:Nat,64*k≤n∧L≤64*k∧Sl wr b (T.drop (64*k))∧Hs wr G (Pl.words (Pl.upto T k)) R1 n∧But G w wr∧Apart G b) (fun b _=>lenOf' b)
       case atStart=>exact ⟨K0+1,by have:=HN.out;have:=HHR.out;omega,by have:=HHR.out;omega,DR.out _ HB3.out,HS3.out,BW1.out.trans HB3.out,DA.out⟩
       case round=>
        obtain ⟨k,hk,hLk,sl,hs,hb,ap⟩:=hrel
        have hdl:(T.drop (64*k)).length=n-64*k:=by rw [List.length_drop,HTn.out]
        have HSL:Hid (Sl wr u1 (T.drop (64*k))):=sl
        have HHS:Hid (Hs wr G (Pl.words (Pl.upto T k)) R1 n):=hs
        have HBB:Hid (But G w wr):=hb
        have HAP:Hid (Apart G u1):=ap
        have HTB:Hid (Pl.Byt (T.drop (64*k))):=sl.bytes
        obtain ⟨ad,cp,hv,q1,q2,q3,q4⟩:=sl
        rw [hdl] at hv q1 q4
        have qm:cp≤9223372036854775807:=by unfold maxLen at q2;omega
        clear hs hb ap
        by_cases hlt:64≤n-64*k
        · rcases q4 with q4 | ⟨-,bb,off,rfl,-,-,-,-⟩
          · omega
          subst hv
          have sub:Hid (Sl wr (.slice (some ⟨bb,off,none⟩) 64 cp) ((T.drop (64*k)).take 64)):=HSL.out.take 64 (by omega)
          have cw:=work_any G (Pl.upto T k) R1 n _ _ wr (HT.out.but HBB.out hg) HHS.out (ok_upto T k) sub.out (by rw [List.length_take,hdl];omega)
          rw [upto_next] at cw
          have lt1:(64:Int)≤((n-64*k:Nat):Int):=by omega
          have lt2:(64:Int)≤(cp:Int):=by omega
          have lt3:64≤cp:=by omega
          have DR:Hid (∀w2,But G wr w2→Sl w2 (.slice (some ⟨bb,off+64,none⟩) (n-64*k-64) (cp-64)) (T.drop (64*(k+1)))):=fun w2 b2=>by
           have:=(HSL.out.but b2 HAP.out).drop 64 (by omega)
           rw [List.drop_drop] at this
           exact this
          have DA:Hid (Apart G (.slice (some ⟨bb,off+64,none⟩) (n-64*k-64) (cp-64))):=fun a' l' c' e' hl'=>by
           cases e'
           exact HAP.out ⟨bb,off,none⟩ _ _ rfl (by omega)
          have DZ:Hid (cp=64→∀w2,Sl w2 (.slice (some ⟨bb,off,none⟩) (n-64*k-64) 0) (T.drop (64*(k+1)))∧Apart G (.slice (some ⟨bb,off,none⟩) (n-64*k-64) 0)):=fun hc w2=>by
           have e0:n-64*k-64=0:=by omega
           have en:T.drop (64*(k+1))=[]:=List.drop_eq_nil_of_le (by rw [HTn.out];omega)
           rw [e0,en]
           exact ⟨⟨_,_,rfl,by simp,by unfold maxLen;omega,(fun h=>by cases h),.inl rfl⟩,fun a' l' c' e' hl'=>by cases e';omega⟩
          obtain ⟨d,hd'⟩:∃d,d=n-64*k:=⟨_,rfl⟩
          have HD:Hid (d=n-64*k):=hd'
          rw [←hd'] at lt1 DR DA DZ ⊢
          clear hd' hlt
          go_wp2_with fail
          refine cw.mono ?_
          rintro e w2 ⟨⟨r2,rfl⟩,hs2,hb2⟩
          have HS2:Hid (Hs w2 G (Pl.words (Pl.upto T (k+1))) R1 n):=hs2
          have HB2:Hid (But G wr w2):=hb2
          clear cw hs2 hb2
          by_cases hc:cp=64
          · have hz:=DZ.out hc w2
            have HZ:Hid (Sl w2 (.slice (some ⟨bb,off,none⟩) (d-64) 0) (T.drop (64*(k+1)))∧Apart G (.slice (some ⟨bb,off,none⟩) (d-64) 0)):=hz
            clear hz
            go_wp2
            go_roundw
            case rel=>exact ⟨k+1,by have:=HD.out;omega,by omega,HZ.out.1,HS2.out,HBB.out.trans HB2.out,HZ.out.2⟩
            case measure=>have:=HD.out;simp [lenOf'];omega
          · have hc':¬cp-64=0:=by omega
            go_wp2
            go_roundw
            case rel=>exact ⟨k+1,by have:=HD.out;omega,by omega,DR.out _ HB2.out,HS2.out,HBB.out.trans HB2.out,DA.out⟩
            case measure=>have:=HD.out;simp [lenOf'];omega
        · have hke:k=n / 64:=by omega
          have HKE:Hid (k=T.length / 64):=by unfold Hid;rw [HTn.out];exact hke
          have lt1:¬(64:Int)≤((n-64*k:Nat):Int):=by omega
          clear hdl q1 q3 q4 hke
          obtain ⟨d,hd'⟩:∃d,d=n-64*k:=⟨_,rfl⟩
          rw [←hd'] at lt1 hv
          subst hv
          clear hd' hlt
          go_wp2_with (refine wpList_copy_hs rfl _ _ rfl G 0 64 (by omega) rfl _ (T.drop (64*k)) rfl HSL.out (Pl.words (Pl.upto T k)) R1 n HHS.out (Hid.out ?_))
          unfold Hid
          intro w2 hs2 hb2
          have HS2:Hid (HsOf w2 G T):=hsof_end HKE.out (by rw [HTn.out];exact hs2) HRB1.out HRL.out HTB.out
          have HB2:Hid (But G w w2):=HBB.out.trans hb2
          clear hs2 hb2
          go_wp2
          refine bodyPost_end (v:=.tuple #[]) (by simp [results,Tryz.results135]) rfl ⟨⟨_,rfl⟩,HS2.out,HB2.out⟩
end Go.Proofs.YtiollhmbdhepkaaGreatDoor.Sh
