/- Ytiollhmbdhepkaa: what PacketBack reaches, joined and cut (its parts: wip) -/
import Derived.Deep.QuietTactic
import Derived.BigQuiet
import Derived.Test.YtiollhmbdhepkaaGreatDoorVah
namespace Go.Proofs.YtiollhmbdhepkaaGreatDoor.Sh
open Go.RowKit
set_option maxRecDepth 100000
def mix (t s:List Nat) (i:Nat):List Nat:=t.take i++s.drop i
theorem mix_get (t s:List Nat) (i:Nat) (h:t.length=s.length) (hi:i<s.length):(mix t s i).getD i 0=s.getD i 0:=by
 unfold mix
 simp only [List.getD]
 rw [List.getElem?_append_right (by simp;omega)]
 simp [Nat.min_eq_left (show i≤t.length by omega)]
theorem mix_set (t s:List Nat) (i:Nat) (h:t.length=s.length) (hi:i<s.length):(mix t s i).set i (t.getD i 0)=mix t s (i+1):=by
 unfold mix
 rw [List.set_append_right _ _ (by simp;omega)]
 simp only [List.length_take,Nat.min_eq_left (show i≤t.length by omega),Nat.sub_self]
 rw [List.drop_eq_getElem_cons hi,List.set_cons_zero,List.take_add_one,List.getElem?_eq_getElem (show i<t.length by omega),List.append_assoc]
 simp [List.getD,List.getElem?_eq_getElem (show i<t.length by omega)]
theorem mix_zero (t s:List Nat):mix t s 0=s:=by simp [mix]
theorem mix_all (t s:List Nat) (h:t.length=s.length):mix t s t.length=t:=by unfold mix;rw [List.take_length,h];simp
theorem words_add (s t:Pl.S8) (i:Nat) (hi:i<8):(Pl.words (Pl.add s t)).getD i 0=((Pl.words s).getD i 0+(Pl.words t).getD i 0) % 4294967296:=by
 match i,hi with
 | 0,_=>rfl
 | 1,_=>rfl
 | 2,_=>rfl
 | 3,_=>rfl
 | 4,_=>rfl
 | 5,_=>rfl
 | 6,_=>rfl
 | 7,_=>rfl
theorem run_index_agg {P:Program} (w:World) (t e:TypeId) (n j:Nat) (k:IntKind) (cs:Array Value) (v:Value) (d:TypeDesc) (hu:P.underlying t=some (.array n e)) (hd:P.underlying e=some d) (hr:d.isRow=false)
 (hi:(P.info? e).map (·.size)=some 1) (hj:j<n) (hc:cs[j]? = some v):(Instr.index t (.agg cs) (.int k (j:Int))).run P w = .ok v w:=by
 cases hq:P.info? e with
 | none=>simp [hq] at hi
 | some i=>
   have hs:i.size=1:=by simpa [hq] using hi
   have hagg:(isAgg e).run P w = .ok false w:=by
    unfold isAgg
    rw [Sem.run_bind,run_underlying hd w]
    cases d<;>simp_all
   simp [Instr.index,asIntOf,run_underlying hu,hj,sizeOf,typeInfo,hq,hs,part,hagg,hc]
theorem info46:(Tryz.prog.info? 191).map (fun i=>i.size)=some 1:=by kernel_rfl
theorem not32 (c:Nat) (h:c<4294967296):bits .xor .u32 IntKind.u32.max (c:Int)=(Pl.no c:Nat):=by
 have e:IntKind.u32.max=((4294967295:Nat):Int):=by decide
 rw [e]
 exact u32_xor_nat 4294967295 c (by omega) h
theorem chs (e f g:Nat) (he:e<4294967296) (hf:f<4294967296) (hg:g<4294967296) :
 bits .xor .u32 (bits .and .u32 (e:Int) (f:Int)) (bits .and .u32 (bits .xor .u32 IntKind.u32.max (e:Int)) (g:Int))=(Pl.ch e f g:Nat):=by
 rw [not32 e he,u32_and_nat e f he hf,u32_and_nat _ g (Pl.no_lt he) hg,u32_xor_nat _ _ (Pl.and_lt he) (Pl.and_lt (Pl.no_lt he))]
 rfl
theorem majs (a b c:Nat) (ha:a<4294967296) (hb:b<4294967296) (hc:c<4294967296) :
 bits .xor .u32 (bits .xor .u32 (bits .and .u32 (a:Int) (b:Int)) (bits .and .u32 (a:Int) (c:Int))) (bits .and .u32 (b:Int) (c:Int))=(Pl.maj a b c:Nat):=by
 rw [u32_and_nat a b ha hb,u32_and_nat a c ha hc,u32_and_nat b c hb hc,u32_xor_nat _ _ (Pl.and_lt ha) (Pl.and_lt ha),u32_xor_nat _ _ (Pl.xor_lt (Pl.and_lt ha) (Pl.and_lt ha)) (Pl.and_lt hb)]
 rfl
set_option maxHeartbeats 2000000 in
set_option maxRecDepth 100000 in
theorem work_any (G:Nat) (s:Pl.S8) (R:List Int) (n:Nat) (v:Value) (xs:List Int) (w:World) (ht:Tab w) (hh:Hs w G (Pl.words s) R n) (hs:Pl.ok s) (sl:Sl w v xs) (hl:xs.length=64) :
 Calls Tryz.prog 150 #[.pointer (some ⟨G,0,none⟩),v] w fun e w'=>(∃v,e = .returned v)∧Hs w' G (Pl.words (Pl.comp s xs)) R n∧But G w w':=by
 have csp:=spread_any v xs w sl hl
 have HX:Hid (Pl.comp s xs=Pl.add s (Pl.rnd Pl.K (Pl.sched xs) s 64)):=rfl
 have HWL:Hid (∀i,(Pl.sched xs).getD i 0<4294967296):=Pl.sched_lt sl.bytes
 have HLW:Hid ((Pl.sched xs).length=64):=Pl.sched_len xs
 generalize Pl.sched xs=W at *
 have HI:Hid ((Tryz.prog.info? 195).map (·.size)=some (u32s W).size):=by unfold Hid;rw [u32s_size,HLW.out];exact size50
 have HO:Hid ((u32s W).size=64):=by unfold Hid;rw [u32s_size,HLW.out]
 have HT:Hid (Tab w):=ht
 have HH:Hid (Hs w G (Pl.words s) R n):=hh
 have HOK:Hid (Pl.ok s):=hs
 clear ht hh hs sl hl
 go_enter Tryz.func150,Tryz.ntmps150
 go_wp2_with fail
 refine csp.mono ?_
 rintro e w1 ⟨rfl,bel1⟩
 have BEL1:Hid (Below w.heap.size w w1):=bel1
 clear csp bel1
 go_wp2_with (refine wpList_store_row rfl 195 _ _ rfl w1.heap.size (u32s W) rfl rfl 195 _ (heap_alloc_new _ _) HI.out (by rw [HO.out];rfl) (u32s_one W) ?_;rw [World.setRow_alloc_new];obtain ⟨w2,hw2⟩:∃w2,w2=w1.alloc (.cells (u32s W) 195):=⟨_,rfl⟩;rw [←hw2];have HW2:Hid (w2=w1.alloc (.cells (u32s W) 195)):=hw2;clear hw2)
 have HV:Hid (∀i,i<64→w2.cell? ⟨w1.heap.size,i,none⟩=some (.int .u32 (W.getD i 0:Nat))):=fun i hi=>by
  rw [HW2.out,cell_of_row _ _ _ _ _ _ (heap_alloc_new _ _)]
  exact u32s_get W i (by rw [HLW.out];exact hi)
 have BEL:Hid (Below w.heap.size w w2):=by unfold Hid;rw [HW2.out];exact BEL1.out.alloc BEL1.out.size _
 have HVL:Hid (w1.heap.size<w2.heap.size):=World.block_lt_of_cell? _ _ (HV.out 0 (by omega))
 have HT2:Hid (Tab w2):=HT.out.below BEL.out HT.out.size
 have HH2:Hid (Hs w2 G (Pl.words s) R n):=HH.out.kept BEL.out
 clear HW2 BEL1
 have c0:=HH2.out.word 0 (by omega)
 have c1:=HH2.out.word 1 (by omega)
 have c2:=HH2.out.word 2 (by omega)
 have c3:=HH2.out.word 3 (by omega)
 have c4:=HH2.out.word 4 (by omega)
 have c5:=HH2.out.word 5 (by omega)
 have c6:=HH2.out.word 6 (by omega)
 have c7:=HH2.out.word 7 (by omega)
 obtain ⟨V,hV⟩:∃V,V=w1.heap.size:=⟨_,rfl⟩
 rw [←hV] at HV HVL ⊢
 clear hV
 change w2.cell? ⟨G,0,none⟩=some (.int .u32 (s.a:Nat)) at c0
 change w2.cell? ⟨G,1,none⟩=some (.int .u32 (s.b:Nat)) at c1
 change w2.cell? ⟨G,2,none⟩=some (.int .u32 (s.c:Nat)) at c2
 change w2.cell? ⟨G,3,none⟩=some (.int .u32 (s.d:Nat)) at c3
 change w2.cell? ⟨G,4,none⟩=some (.int .u32 (s.e:Nat)) at c4
 change w2.cell? ⟨G,5,none⟩=some (.int .u32 (s.f:Nat)) at c5
 change w2.cell? ⟨G,6,none⟩=some (.int .u32 (s.g:Nat)) at c6
 change w2.cell? ⟨G,7,none⟩=some (.int .u32 (s.h:Nat)) at c7
 go_wp2_with fail
 go_quiet (fail)
 go_wp2_with fail
 clear c0 c1 c2 c3 c4 c5 c6 c7
 go_loopw [6,7,8,9,10,11,12,13,56] (fun A B C D E F H L i wr=>∃(j:Nat) (r:Pl.S8),j≤64∧r=Pl.rnd Pl.K W s j∧i = .int .i64 j∧A = .int .u32 (r.a:Nat)∧B = .int .u32 (r.b:Nat)∧C = .int .u32 (r.c:Nat)∧D = .int .u32 (r.d:Nat)∧E = .int .u32 (r.e:Nat)∧F = .int .u32 (r.f:Nat)∧H = .int .u32 (r.g:Nat)∧L = .int .u32 (r.h:Nat)∧Below w2.heap.size w2 wr) (fun _ _ _ _ _ _ _ _ i _=>64-(intOf i).toNat)
 case atStart=>exact ⟨0,s,by omega,rfl,rfl,rfl,rfl,rfl,rfl,rfl,rfl,rfl,rfl,⟨rfl,rfl,rfl,Nat.le_refl _,fun _ _=>rfl⟩⟩
 case round=>
  obtain ⟨j,⟨a,b,c,d,e,f,g,h⟩,hj,hr,rfl,rfl,rfl,rfl,rfl,rfl,rfl,rfl,rfl,bel⟩:=hrel
  have HR:Hid (Pl.S8.mk a b c d e f g h=Pl.rnd Pl.K W s j):=hr
  have BW:Hid (Below w2.heap.size w2 wr):=bel
  have okr:=Pl.ok_rnd (K:=Pl.K) (W:=W) HOK.out j
  rw [←hr] at okr
  obtain ⟨oa,ob,oc,od,oe,of,og,oh⟩:=okr
  dsimp only at oa ob oc od oe of og oh
  clear hr bel
  dsimp only
  by_cases hlt:j<64
  · have k1:=(BW.out.cell (p:=⟨3,j,none⟩) (show 3<_ by have:=HT2.out.size;omega)).trans (HT2.out.2 j hlt)
    have k2:=(BW.out.cell (p:=⟨V,j,none⟩) HVL.out).trans (HV.out j hlt)
    have t1:=fun w'=>turned_any e 6 11 25 w' (by omega) (by omega) (by omega) oe
    have t2:=fun w'=>turned_any a 2 13 22 w' (by omega) (by omega) (by omega) oa
    have x1:=chs e f g oe of og
    have x2:=majs a b c oa ob oc
    have HN:Hid (Pl.rnd Pl.K W s (j+1)=⟨((h+Pl.tri 6 11 25 e+Pl.ch e f g+Pl.K.getD j 0+W.getD j 0) % 4294967296+(Pl.tri 2 13 22 a+Pl.maj a b c) % 4294967296) % 4294967296,a,b,c,(d+(h+Pl.tri 6 11 25 e+Pl.ch e f g+Pl.K.getD j 0+W.getD j 0) % 4294967296) % 4294967296,e,f,g⟩):=by
     show Pl.step _ _ (Pl.rnd Pl.K W s j)=_
     rw [←HR.out];rfl
    clear HR
    generalize Pl.K.getD j 0=kj at *
    generalize W.getD j 0=wj at *
    generalize Pl.ch e f g=q1 at *
    generalize Pl.maj a b c=q2 at *
    generalize Pl.tri 6 11 25 e=q3 at *
    generalize Pl.tri 2 13 22 a=q4 at *
    have T1:Hid (∀w',Calls Tryz.prog 158 #[.int .u32 e,.int .i64 6,.int .i64 11,.int .i64 25] w' fun x y=>x = .returned (.int .u32 (q3:Nat))∧y=w'):=t1
    have T2:Hid (∀w',Calls Tryz.prog 158 #[.int .u32 a,.int .i64 2,.int .i64 13,.int .i64 22] w' fun x y=>x = .returned (.int .u32 (q4:Nat))∧y=w'):=t2
    clear t1 t2
    have lt2:(j:Int)<64:=by omega
    go_wp2_with fail
    go_quiet ((go_at_call 158;exact Calls.quiet_of_same (T1.out _)))
    go_wp2_with fail
    refine (T2.out _).mono ?_
    rintro x y ⟨rfl,rfl⟩
    go_wp2_with fail
    exact ⟨⟨j+1,_,by omega,HN.out.symm,by go_num,by simp,rfl,rfl,rfl,by simp,rfl,rfl,rfl,⟨BW.out.os,BW.out.tape,BW.out.output,BW.out.size,BW.out.block⟩⟩,by simp [intOf];omega⟩
  · obtain rfl:j=64:=by omega
    have HC:Hid (Pl.words (Pl.comp s xs)=Pl.words (Pl.add s ⟨a,b,c,d,e,f,g,h⟩)):=by unfold Hid;rw [HX.out,HR.out]
    have HW':Hid (Pl.words ⟨a,b,c,d,e,f,g,h⟩=[a,b,c,d,e,f,g,h]):=rfl
    have HA:Hid (∀i,i<8→(Pl.words (Pl.comp s xs)).getD i 0=((Pl.words s).getD i 0+[a,b,c,d,e,f,g,h].getD i 0) % 4294967296):=fun i hi=>by rw [HC.out,words_add _ _ i hi,HW'.out]
    have HCL:Hid ((Pl.words (Pl.comp s xs)).length=8):=rfl
    have HSL:Hid ((Pl.words s).length=8):=rfl
    have HB:Hid (Hs wr G (Pl.words s) R n∧But G w wr):=⟨HH2.out.kept BW.out,(But.of BEL.out).trans (But.of BW.out)⟩
    obtain ⟨T,hT⟩:∃T,T=[a,b,c,d,e,f,g,h]:=⟨_,rfl⟩
    have hTA:(#[.int .u32 a,.int .u32 b,.int .u32 c,.int .u32 d,.int .u32 e,.int .u32 f,.int .u32 g,.int .u32 h]:Array Value)=u32s T:=by rw [hT];rfl
    have HTL:Hid (T.length=8):=by unfold Hid;rw [hT];rfl
    rw [←hT] at HA
    clear hT HW' HC HR HX
    obtain ⟨Y,hY⟩:∃Y,Y=Pl.words (Pl.comp s xs):=⟨_,rfl⟩
    have HY:Hid (Pl.words (Pl.comp s xs)=Y):=hY.symm
    rw [←hY] at HA HCL
    clear hY
    generalize Pl.words s=X at *
    go_wp2_with fail
    go_loopw [116] (fun i wr=>∃j:Nat,j≤8∧i = .int .i64 j∧Hs wr G (mix Y X j) R n∧But G w wr) (fun i _=>8-(intOf i).toNat)
    case atStart=>exact ⟨0,by omega,rfl,by rw [mix_zero];exact HB.out.1,HB.out.2⟩
    case round=>
     obtain ⟨j,hj,rfl,hs1,hb1⟩:=hrel
     have H1:Hid (Hs wr G (mix Y X j) R n):=hs1
     have B1:Hid (But G w wr):=hb1
     clear hs1 hb1
     by_cases hlt:j<8
     · have k:=H1.out.word j hlt
       rw [mix_get _ _ _ (by rw [HCL.out,HSL.out]) (by rw [HSL.out];exact hlt)] at k
       have kf:=H1.out.frozen j
       have ti:=u32s_get T j (by rw [HTL.out];exact hlt)
       have hix:=run_index_agg (P:=Tryz.prog) wr 192 191 8 j .i64 (u32s T) _ _ Tryz.underlying192 Tryz.underlying191 rfl info46 hlt ti
       clear ti
       have NS:Hid (∀z:Int,z=((X.getD j 0:Nat)+(T.getD j 0:Nat):Int) % 4294967296→Hs (wr.setCell ⟨G,j,none⟩ (.int .u32 z)).drew G (mix Y X (j+1)) R n):=by
        rintro z rfl
        have e:=H1.out.setWord j hlt (Y.getD j 0)
        rw [mix_set _ _ _ (by rw [HCL.out,HSL.out]) (by rw [HSL.out];exact hlt),HA.out j hlt] at e
        rw [Int.natCast_emod,Int.natCast_add] at e
        exact e
       have NB:Hid (∀z,But G w (wr.setCell ⟨G,j,none⟩ z).drew):=fun z=>(B1.out.trans (But.set G j wr z)).drew
       generalize X.getD j 0=xj at *
       generalize T.getD j 0=tj at *
       have lt2:(j:Int)<8:=by omega
       clear HA
       go_wp2_with fail
       go_region
       go_wp2
       go_roundw
       case rel=>exact ⟨j+1,by omega,by go_num,NS.out _ rfl,NB.out _⟩
       case measure=>simp [intOf];omega
     · obtain rfl:j=8:=by omega
       have HF:Hid (Hs wr G Y R n):=by
        have:=H1.out
        rwa [show mix Y X 8=Y by rw [←HCL.out];exact mix_all _ _ (by rw [HCL.out,HSL.out])] at this
       have HG:Hid (Hs wr G (Pl.words (Pl.comp s xs)) R n):=by unfold Hid;rw [HY.out];exact HF.out
       go_wp2
       refine bodyPost_end (v:=.tuple #[]) (by simp [results,Tryz.results150]) rfl ⟨⟨_,rfl⟩,HG.out,B1.out⟩
end Go.Proofs.YtiollhmbdhepkaaGreatDoor.Sh
