/- Ytiollhmbdhepkaa: what PacketBack reaches, joined and cut (its parts: wip) -/
import Derived.Test.YtiollhmbdhepkaaGreatDoorVbb
import Derived.Test.YtiollhmbdhepkaaGreatDoorVbe
import Derived.Test.YtiollhmbdhepkaaGreatDoorVbs
import Derived.Test.YtiollhmbdhepkaaGreatDoorVbt
import Derived.Deep.Slices
namespace Go.Proofs.YtiollhmbdhepkaaGreatDoor.Mc
open Go.Proofs.YtiollhmbdhepkaaGreatDoor.Sh Go.Proofs.YtiollhmbdhepkaaGreatDoor.Fi
set_option maxRecDepth 100000
open Go.RowKit
def opE (K H S:List Int):Int:=if S.length<16 then 3 else if S.drop (S.length-16)=btag K H (S.take (S.length-16)) then 0 else 15
def opX (K H S:List Int):List Int:=if opE K H S=0 then S.take (S.length-16) else []
set_option maxHeartbeats 4000000 in
set_option maxRecDepth 100000 in
theorem open_any (KB:List Int) (h v:Value) (H S:List Int) (w:World) (hK:KB.length=32) (hKb:Pl.Byt KB) (ht:Tabs w) (sh:Sl w h H) (sv:Sl w v S) (hH:H.length≤140737488351232) (hS:S.length≤140737488351232) :
 Calls Tryz.prog 67 #[.agg (u8s KB),h,v] w fun e w'=>∃v',e = .returned (.tuple #[v',.int .i64 (opE KB H S)])∧Sl w' v' (opX KB H S)∧Below w.heap.size w w':=by
 obtain ⟨wa,hwa⟩:∃wa,wa=w.alloc (.cells (u8s KB) 47):=⟨_,rfl⟩
 have ba:Below w.heap.size w wa:=by rw [hwa];exact al_below _ _
 have hwz:w.alloc (.cells (u8s KB) 47)=wa:=hwa.symm
 have HGA:Hid (wa.heap[w.heap.size]? = some (.cells (u8s KB) 47 (0,0))):=by unfold Hid;rw [hwa];exact heap_alloc_new _ _
 have HI:Hid ((Tryz.prog.info? 47).map (·.size)=some (u8s KB).size):=by unfold Hid;rw [u8s_size,hK];exact size26
 have sva:=sv.kept ba
 obtain ⟨a,cap,rfl,h1,h2,h3,h4⟩:=id sva
 by_cases hs:S.length<16
 · have e1:opE KB H S=3:=by unfold opE;rw [if_pos hs]
   have e2:opX KB H S=[]:=by unfold opX;rw [e1];rfl
   rw [e1,e2]
   have HBA:Hid (Below w.heap.size w wa):=ba
   obtain ⟨ah,ch,rfl,-⟩:=sh
   clear e1 e2 sv sva h4 h3 hwa ba hK hKb ht
   generalize S.length=L at *
   generalize H.length=hl at *
   generalize u8s KB=KU at *
   go_enter Tryz.func67,Tryz.ntmps67
   go_wp2
   go_ret2
   exact ⟨_,rfl,Sl.none _,HBA.out⟩
 · obtain ⟨b,off,rfl⟩:∃b off,a=some ⟨b,off,none⟩:=by
    rcases h4 with h | ⟨_,b,off,e,_⟩
    · omega
    · exact ⟨b,off,e⟩
   have st:=sva.take (S.length-16) (by omega)
   have sd:=sva.drop (S.length-16) (by omega)
   have hX:Hid (opE KB H S=if S.drop (S.length-16)=btag KB H (S.take (S.length-16)) then 0 else 15):=by unfold Hid opE;rw [if_neg hs]
   have hY:Hid (opX KB H S=if opE KB H S=0 then S.take (S.length-16) else []):=rfl
   have hA:(S.take (S.length-16)).length≤140737488351232:=by rw [List.length_take];omega
   have HAB:Hid (Pl.Byt (S.take (S.length-16))):=bytes_take S (S.length-16) sv.bytes
   generalize opX KB H S=X at *
   generalize opE KB H S=E at *
   generalize S.take (S.length-16)=A at *
   generalize S.drop (S.length-16)=D at *
   have HC27:Hid (∀W,Below wa.heap.size wa W→Calls Tryz.prog 84 #[.agg (u8s KB),h,.slice (some ⟨b,off,none⟩) (S.length-16) cap] W fun e w'=>∃v',e = .returned v'∧w'.ownsRow W.heap.size 5 1 v' 16 ((btag KB H A).map (Value.int .u8))∧Below W.heap.size W w'):=fun W hW=>
    btag_any KB h _ H A W hK hKb ((ht.kept ba).kept hW) ((sh.kept ba).kept hW) (st.kept hW) hH hA
   have HD:Hid (∀W,Below wa.heap.size wa W→Sl W (.slice (some ⟨b,off+(S.length-16),none⟩) (S.length-(S.length-16)) (cap-(S.length-16))) D):=fun W hW=>sd.kept hW
   have HA:Hid (∀W,Below wa.heap.size wa W→Sl W (.slice (some ⟨b,off,none⟩) (S.length-16) cap) A):=fun W hW=>st.kept hW
   have HBA:Hid (∀W,Below wa.heap.size wa W→Below w.heap.size w W):=fun W hW=>ba.trans (hW.mono ba.size)
   have HTB:Hid (Pl.Byt (btag KB H A)):=tagB_byt _ _
   have HTL:Hid ((btag KB H A).length=16):=tagB_len _ _
   have HAL:Hid (A.length≤200000000000000):=Nat.le_trans hA (by omega)
   obtain ⟨ah,ch,rfl,-⟩:=sh
   clear hwa ba ht hK hKb sv sva h4 h3 st sd hA
   generalize btag KB H A=T at *
   obtain ⟨M,hM⟩:∃M,S.length=M+16:=⟨S.length-16,by omega⟩
   rw [hM] at HC27 HD HA h1 hS hs ⊢
   rw [show M+16-16=M by omega,show M+16-M=16 by omega] at HD
   rw [show M+16-16=M by omega] at HA HC27
   clear hM hs
   generalize H.length=hl at *
   generalize u8s KB=KU at *
   unfold maxLen at h2
   have hcM:¬cap=M:=by omega
   have g1:(M:Int)≤(cap:Int):=by omega
   have g2:(M:Int)≤((M+16:Nat):Int):=by omega
   go_enter Tryz.func67,Tryz.ntmps67
   go_wp2
   go_quiet (fail)
   have BD:Below wa.heap.size wa (wa.drewN nq):=⟨rfl,rfl,rfl,Nat.le_refl _,fun _ _=>rfl⟩
   have HGD:Hid ((wa.drewN nq).heap[w.heap.size]? = some (.cells KU 47 (0,0))):=HGA.out
   have c27:=HC27.out _ BD
   generalize wa.drewN nq=wd at *
   have HBD:Hid (Below wa.heap.size wa wd):=BD
   clear BD HC27 HGA
   go_wp2_with (refine wpList_load_row rfl 47 _ rfl w.heap.size rfl 47 KU (0,0) _ HGD.out Tryz.underlying47 rfl HI.out ?_)
   refine c27.mono ?_
   rintro e w1 ⟨v1,rfl,own1,b1⟩
   have s1:=sl_owned own1 HTB.out
   have B1:Hid (Below wa.heap.size wa w1):=HBD.out.trans (b1.mono HBD.out.size)
   have c3:=equal_any _ v1 D T w1 (HD.out w1 B1.out) s1
   obtain ⟨a1,k1,rfl,-⟩:=id s1
   rw [HTL.out] at c3 ⊢
   clear c27 own1 b1 s1 HTB
   by_cases hq:D=T
   · have hE:E=0:=by rw [hX.out,if_pos hq]
     have hXA:X=A:=by rw [hY.out,if_pos hE]
     have hb:(D==T)=true:=by simp [hq]
     rw [hb] at c3
     subst hE
     subst hXA
     clear hq hX hY hb HTL
     go_wp2_with fail
     refine c3.mono ?_
     rintro e w2 ⟨rfl,b2⟩
     have B2:Hid (Below wa.heap.size wa w2):=B1.out.trans (b2.mono B1.out.size)
     have c4:=clone_any _ X w2 (HA.out w2 B2.out) HAL.out
     clear c3 b2
     go_wp2_with fail
     refine c4.mono ?_
     rintro e w3 ⟨v3,rfl,own3,b3⟩
     have S3:Hid (Sl w3 v3 X):=sl_owned own3 HAB.out
     have B3:Hid (Below w.heap.size w w3):=HBA.out _ (B2.out.trans (b3.mono B2.out.size))
     clear c4 own3 b3
     go_wp2
     go_ret2
     exact ⟨_,rfl,S3.out,B3.out⟩
   · have hE:E=15:=by rw [hX.out,if_neg hq]
     have hXA:X=[]:=by rw [hY.out,hE];rfl
     have hb:(D==T)=false:=by simp [hq]
     rw [hb] at c3
     subst hE
     subst hXA
     clear hq hX hY hb HTL
     go_wp2_with fail
     refine c3.mono ?_
     rintro e w2 ⟨rfl,b2⟩
     have B2:Hid (Below w.heap.size w w2):=HBA.out _ (B1.out.trans (b2.mono B1.out.size))
     clear c3 b2
     go_wp2
     go_ret2
     exact ⟨_,rfl,Sl.none _,B2.out⟩
end Go.Proofs.YtiollhmbdhepkaaGreatDoor.Mc
namespace Go.Proofs.YtiollhmbdhepkaaGreatDoor
open Go.RowKit Go.Proofs.YtiollhmbdhepkaaGreatDoor.Sh
set_option maxRecDepth 100000
structure Opn where
 k:Int
 c:Int
 n:Int
 body:List Int
 fs:List Fm
 e:Int
def opErr (e:Int):Opn:=⟨0,0,0,[],[],e⟩
def opM (K xs:List Int):Opn:=
 let r:=rdM xs
 if r.e≠0 then opErr r.e
 else if Mc.opE K (hdL r.k r.c r.n) r.sld≠0 then opErr (Mc.opE K (hdL r.k r.c r.n) r.sld)
 else if (allM r.body).2≠0 then opErr (allM r.body).2
 else ⟨r.k,r.c,r.n,r.body,(allM r.body).1,0⟩
theorem rdM_bd (xs:List Int) (h:BB xs):0≤(rdM xs).k∧(rdM xs).k<256:=by
 unfold rdM
 split
 · exact ⟨by decide,by decide⟩
 · split
   · exact ⟨by decide,by decide⟩
   · simp only
     split
     · exact ⟨Int.le_refl 0,show (0:Int)<256 by decide⟩
     · split
       · exact ⟨Int.le_refl 0,show (0:Int)<256 by decide⟩
       · exact (rBt_len xs h).2.2
theorem rdM_le (xs:List Int):(rdM xs).body.length≤xs.length∧(rdM xs).sld.length≤xs.length∧(rdM xs).sld.length≤1200:=by
 unfold rdM
 split
 · exact ⟨Nat.zero_le _,Nat.zero_le _,Nat.zero_le _⟩
 · rename_i hl
   split
   · exact ⟨Nat.zero_le _,Nat.zero_le _,Nat.zero_le _⟩
   · simp only
     split
     · exact ⟨Nat.zero_le _,Nat.zero_le _,Nat.zero_le _⟩
     · split
       · exact ⟨Nat.zero_le _,Nat.zero_le _,Nat.zero_le _⟩
       · simp only [List.length_take,List.length_drop]
         omega
theorem RF.keep {W W':World} {B:Nat} {v:Value} {l:List Fm} (h:RF W B v l) (hk:∀(k:Nat) (cs:Array Value) (t:TypeId),t=29∨t=131→W.heap[k]? = some (.cells cs t (0,0))→W'.heap[k]? = some (.cells cs t (0,0))):RF W' B v l:=by
 obtain ⟨V,h1,h2⟩:=h
 refine ⟨V,⟨h1.1,?_⟩,fun i hi=>?_⟩
 · rcases h1.2 with h3 | ⟨g,cap,cur,e1,e2,e3,e4⟩
   · exact .inl h3
   · exact .inr ⟨g,cap,cur,e1,e2,hk _ _ _ (.inl rfl) e3,e4⟩
 · obtain ⟨sv,h3,h4⟩:=h2 i hi
   exact ⟨sv,h3,h4.keep fun k cs _ hh=>hk _ _ _ (.inr rfl) hh⟩
theorem RF.mono {w:World} {B B':Nat} {v:Value} {l:List Fm} (h:RF w B v l) (hB:B'≤B):RF w B' v l:=by
 obtain ⟨V,h1,h2⟩:=h
 refine ⟨V,own_mono h1 hB,fun i hi=>?_⟩
 obtain ⟨sv,h3,h4⟩:=h2 i hi
 exact ⟨sv,h3,RSp.mono h4 hB⟩
theorem GB.four {w:World} {g:Nat} {k c n:Int} {bv sv:Value} (h:GB w g k c n bv sv):w.rangeAt g 0 [.int .u8 k,.int .i64 c,.int .i64 n,bv]:=by
 obtain ⟨c0,c1,c2,c3,-⟩:=h.gc
 intro j v hv
 rw [Nat.zero_add]
 match j,hv with
 | 0,hv=>cases hv;exact c0
 | 1,hv=>cases hv;exact c1
 | 2,hv=>cases hv;exact c2
 | 3,hv=>cases hv;exact c3
 | j+4,hv=>simp at hv
theorem range_sumK {w:World} {g:Nat} {K:List Int} {t:TypeId} {fr:Nat × Nat} (h:w.heap[g]? = some (.cells (u8s K) t fr)):w.rangeAt g 0 (K.map (Value.int .u8)):=Mc.range_sum h
theorem retO {tmps:Array Value} {w:World} {g:Nat} {cs:Array Value} {t:TypeId} {fr:Nat × Nat} (hp:tmps.getD 4 undef = .pointer (some ⟨g,0,none⟩))
 (hg:w.heap[g]? = some (.cells cs t fr)) (hl:(Tryz.prog.info? 51).map (·.size)=some cs.size):(results Tryz.f30 tmps).run Tryz.prog w = .ok (.tuple #[.agg cs,tmps.getD 5 undef,tmps.getD 6 undef]) w:=by
 have hld:(loadVar 51 ⟨g,0,none⟩).run Tryz.prog w = .ok (.agg cs) w:=run_loadVar_row w g t 51 cs fr _ hg Tryz.underlying51 rfl hl
 have hr:Tryz.f30.results=#[.cell 4 51,.tmp 5,.tmp 6]:=rfl
 have hp':tmps[4]?.getD undef = .pointer (some ⟨g,0,none⟩):=by simpa using hp
 simp [results,hp',asAddr,hld]
end Go.Proofs.YtiollhmbdhepkaaGreatDoor
namespace Go.Proofs.YtiollhmbdhepkaaGreatDoor
open Go.RowKit Go.Shelf
set_option maxRecDepth 100000
set_option maxHeartbeats 4000000 in
theorem flatV_any (p:Fm) (sv:Value) (w:World) (hK:isK p.k=true) (hb:¬badF p) (hn:p.nc.length=16) (hs:hS p.k=true→SSp w sv p.sp) (hl:p.sp.length≤100000) :
 Calls Tryz.prog 50 #[frV p sv] w fun e w'=>∃sv',e = .returned (.agg (plA p sv'))∧RSp w' w.heap.size sv' p.sp∧Below w.heap.size w w':=by
 obtain ⟨ty,y,hy⟩:=frV_iface hK sv
 obtain ⟨W1,hW1⟩:∃W1,W1=w.alloc (.cells #[.int .u8 0,.int .i64 0,.int .i64 0,.int .i64 0,.bool false,.string ⟨#[]⟩,.int .u8 0,.int .u8 0,.int .u8 0,.int .u8 0,.int .u8 0,.int .u8 0,.int .u8 0,.int .u8 0,.int .u8 0,.int .u8 0,.int .u8 0,.int .u8 0,.int .u8 0,.int .u8 0,.int .u8 0,.int .u8 0,.slice none 0 0] 33):=⟨_,rfl⟩
 have b1:Below w.heap.size w W1:=by rw [hW1];exact al_below _ _
 have g1:W1.heap[w.heap.size]? = some (.cells #[.int .u8 0,.int .i64 0,.int .i64 0,.int .i64 0,.bool false,.string ⟨#[]⟩,.int .u8 0,.int .u8 0,.int .u8 0,.int .u8 0,.int .u8 0,.int .u8 0,.int .u8 0,.int .u8 0,.int .u8 0,.int .u8 0,.int .u8 0,.int .u8 0,.int .u8 0,.int .u8 0,.int .u8 0,.int .u8 0,.slice none 0 0] 33 (0,0)):=by rw [hW1];exact heap_alloc_new _ _
 have cf:=flatF_any p sv W1 hK hb hn (fun h=>(hs h).kept b1) hl
 rw [hy] at cf ⊢
 have HB1:Hid (Below w.heap.size w W1):=b1
 have HG1:Hid (W1.heap[w.heap.size]? = some (.cells #[.int .u8 0,.int .i64 0,.int .i64 0,.int .i64 0,.bool false,.string ⟨#[]⟩,.int .u8 0,.int .u8 0,.int .u8 0,.int .u8 0,.int .u8 0,.int .u8 0,.int .u8 0,.int .u8 0,.int .u8 0,.int .u8 0,.int .u8 0,.int .u8 0,.int .u8 0,.int .u8 0,.int .u8 0,.int .u8 0,.slice none 0 0] 33 (0,0))):=g1
 have HNL:Hid (p.nc.length=16):=hn
 have HSZ:Hid (∀v,(Tryz.prog.info? 33).map (·.size)=some (plA p v).size):=fun v=>by rw [plA_size hn];exact infoP
 have HON:Hid (∀(a:Option Addr) (m c:Nat),(plA p (.slice a m c)).all (·.oneCell')=true):=fun a m c=>all_oneCell_toArray (plL_one rfl)
 have HO23:Hid (∀v,(plA Fm.zero (.slice none 0 0)).size=(plA p v).size):=fun v=>by rw [plA_size hn];rfl
 clear b1 g1 hK hb hn hs hl hy
 go_enter Tryz.func50,Tryz.ntmps50
 go_upto_region 1 with fail
 rw [←hW1]
 clear hW1
 go_wp2_with fail
 refine cf.mono ?_
 rintro e w2 ⟨s2,rfl,r2,b2⟩
 obtain ⟨sa,sc,rfl,-,-,-⟩:=r2.is.shape
 have HG2:Hid (w2.heap[w.heap.size]? = some (.cells #[.int .u8 0,.int .i64 0,.int .i64 0,.int .i64 0,.bool false,.string ⟨#[]⟩,.int .u8 0,.int .u8 0,.int .u8 0,.int .u8 0,.int .u8 0,.int .u8 0,.int .u8 0,.int .u8 0,.int .u8 0,.int .u8 0,.int .u8 0,.int .u8 0,.int .u8 0,.int .u8 0,.int .u8 0,.int .u8 0,.slice none 0 0] 33 (0,0))):=blk_kept HG1.out b2 (blk_lt HG1.out)
 have HB2:Hid (Below w.heap.size w w2):=HB1.out.trans (b2.mono HB1.out.size)
 have HR2:Hid (RSp w2 w.heap.size (.slice sa p.sp.length sc) p.sp):=RSp.mono r2 HB1.out.size
 have HRZ:Hid (RSp (w2.setRow w.heap.size (plA p (.slice sa p.sp.length sc))) w.heap.size (.slice sa p.sp.length sc) p.sp):=HR2.out.keep (fun k cs hk hh=>by rw [setRow_other _ _ _ _ (fun e=>by rw [e,HG2.out] at hh;cases hh)];exact hh)
 clear cf r2 b2
 go_wp2_with (refine wpList_store_row rfl 33 _ _ rfl w.heap.size (plA p (.slice sa p.sp.length sc)) rfl rfl 33 _ HG2.out (HSZ.out _) (HO23.out _) (HON.out _ _ _) (Hid.out ?_))
 unfold Hid
 go_wp2
 refine bodyPost_ret (v:=.agg (plA p (.slice sa p.sp.length sc))) (results_cell_row rfl _ _ w.heap.size 33 (plA p (.slice sa p.sp.length sc)) (0,0) _ rfl (setRow_heap _ _ _ _ _ _ HG2.out) Tryz.underlying33 rfl (HSZ.out _)) rfl ⟨_,rfl,HRZ.out,below_setRow HB2.out (Nat.le_refl _) _⟩
end Go.Proofs.YtiollhmbdhepkaaGreatDoor
namespace Go.Proofs.YtiollhmbdhepkaaGreatDoor
open Go.ChangeShapes Go.WideShapes Go.ChangeAt Go.RowKit Go.Deep
set_option maxRecDepth 100000
theorem cells27:Tryz.prog.cellsOf 22=16:=by kernel_rfl
theorem cells28:Tryz.prog.cellsOf 23=1:=by kernel_rfl
theorem cells4:Tryz.prog.cellsOf 4=1:=by kernel_rfl
theorem cells30:Tryz.prog.cellsOf 25=23:=by kernel_rfl
theorem cellsSp:Tryz.prog.cellsOf 131=2:=by kernel_rfl
theorem sps_trod {H:Type} {enc:TypeId × Value→H} {W:World} {fuel:Nat} {cs:List Value} {x:DataW H × List MemPlace}
 (h:DataW.trod enc Tryz.prog W 0 (fun _=>true) true fuel 23 cs=some x):∃sv l,cs=[sv]∧SSp W sv l:=by
 rcases open_slice Tryz.underlying23 h with ⟨hcs,_⟩ | ⟨a,len0,cap0,m,n,D,Pl,hcs,_,hl,hm,hmm,_,hall⟩
 · exact ⟨_,[],hcs,SSp.nil W⟩
 · simp only [if_true] at hmm
   have each:∀i,i<len0→∃q:Sp,∀j v,(spc q)[j]? = some v→W.cell? (a.add (i*2+j))=some v:=by
    intro i hi
    obtain ⟨cs',h1,h2⟩:=hall i (by omega)
    rw [cellsSp] at h1
    obtain ⟨_,hlen,hcell⟩:=World.cells?_some h1
    obtain ⟨y0,y1,k,_,hl2,q0,q1⟩:=trod_struct2 Tryz.underlying131 h2
    obtain ⟨a0,e0,_,_⟩:=DataW.trod_int Tryz.underlying3 q0
    obtain ⟨a1,e1,_,_⟩:=DataW.trod_int Tryz.underlying3 q1
    refine ⟨(a0,a1),fun j v hv=>?_⟩
    have hj:j<2:=(List.getElem?_eq_some_iff.1 hv).1
    have c0:=hcell j (by omega)
    rw [add_add] at c0
    rw [c0]
    have u0:=congrArg (·[0]?) e0
    have u1:=congrArg (·[0]?) e1
    simp only [List.getElem?_take,List.getElem?_drop,cells3] at u0 u1
    rcases (by omega:j=0∨j=1) with rfl | rfl
    · have:v = .int .i64 a0:=by simpa [spc] using hv.symm
      rw [this]
      simpa using u0
    · have:v = .int .i64 a1:=by simpa [spc] using hv.symm
      rw [this]
      simpa using u1
   obtain ⟨q,hq⟩:=choose_lt each
   have hlen:((List.range len0).map q).length=len0:=by simp
   refine ⟨_,(List.range len0).map q,hcs,⟨some a,cap0,by rw [List.length_map,hlen],by rw [List.length_map,hlen];exact hl,hm,(fun e=>by cases e),spc_cl _,?_⟩⟩
   rcases Nat.eq_zero_or_pos len0 with h0 | h0
   · subst h0;exact .inl rfl
   · obtain ⟨b,off,spot⟩:=a
     have hspot:spot=none:=by simpa [Addr.add] using World.cell?_spot (hq 0 h0 0 _ rfl)
     subst hspot
     refine .inr ⟨b,off,rfl,fun i hi=>?_⟩
     rw [List.length_map,hlen] at hi
     have e:atC (((List.range len0).map q).map spc) i=spc (q i):=by simp [atC,List.getD,hi]
     rw [e]
     intro j v hv
     have:=hq i hi j v hv
     rw [Addr.add_lit,←Nat.add_assoc] at this
     exact this
theorem nc_trod {H:Type} {enc:TypeId × Value→H} {W:World} {fuel:Nat} {cs:List Value} {x:DataW H × List MemPlace}
 (h:DataW.trod enc Tryz.prog W 0 (fun _=>true) true fuel 22 cs=some x) (hsz:cs.length=16):∃nc:List Int,cs=nc.map (Value.int .u8)∧nc.length=16∧BB nc:=by
 cases fuel with
 | zero=>simp [DataW.trod] at h
 | succ m=>
   rw [DataW.trod_step] at h
   unfold DataW.trodStep at h
   simp only [Tryz.underlying22] at h
   rw [if_pos (by rw [cells27];exact hsz)] at h
   simp only [Option.map_eq_some_iff] at h
   obtain ⟨ys,hy,_⟩:=h
   have cell:∀i,i<16→∃a:Int,cs[i]? = some (.int .u8 a)∧(Lit.int .u8 a).wf=true:=fun i hi=>by
    obtain ⟨y,hyi⟩:=mapM_each _ _ hy i (by simpa using hi)
    obtain ⟨a,ea,_,wa⟩:=DataW.trod_int Tryz.underlying5 hyi
    refine ⟨a,?_,wa⟩
    rw [cells5,Nat.mul_one] at ea
    have h0:=congrArg (·[0]?) ea
    simpa [List.getElem?_take,List.getElem?_drop] using h0
   obtain ⟨q,hq⟩:=choose_lt cell
   refine ⟨(List.range 16).map q,?_,by simp,fun i=>?_⟩
   · apply List.ext_getElem?
     intro i
     by_cases hi:i<16
     · rw [(hq i hi).1]
       simp [hi]
     · rw [List.getElem?_eq_none (by omega),List.getElem?_eq_none (by simp;omega)]
   · rw [List.getD_eq_getElem?_getD,List.getElem?_map]
     by_cases hi:i<16
     · rw [List.getElem?_range hi]
       have:=bounds_u8 (hq i hi).2
       simp
       omega
     · rw [List.getElem?_eq_none (by simp;omega)]
       simp
end Go.Proofs.YtiollhmbdhepkaaGreatDoor
namespace Go.Proofs.YtiollhmbdhepkaaGreatDoor
open Go.ChangeShapes Go.WideShapes Go.ChangeAt Go.RowKit Go.Deep
set_option maxRecDepth 100000
theorem trod_struct8 {H:Type} {enc:TypeId × Value→H} {P:Program} {w:World} {base:Nat} {spare:Nat→Bool} {held:Bool} {t:TypeId} {f0 f1 f2 f3 f4 f5 f6 f7:Field} {fuel:Nat} {cs:List Value} {x:DataW H × List MemPlace} (ht:P.underlying t=some (.struct #[f0,f1,f2,f3,f4,f5,f6,f7])) (h:DataW.trod enc P w base spare held fuel t cs=some x) :
 ∃y0 y1 y2 y3 y4 y5 y6 y7 n,cs.length=P.cellsOf t∧DataW.trod enc P w base spare held n f0.type ((cs.drop f0.offset).take (P.cellsOf f0.type))=some y0∧
  DataW.trod enc P w base spare held n f1.type ((cs.drop f1.offset).take (P.cellsOf f1.type))=some y1∧DataW.trod enc P w base spare held n f2.type ((cs.drop f2.offset).take (P.cellsOf f2.type))=some y2∧
  DataW.trod enc P w base spare held n f3.type ((cs.drop f3.offset).take (P.cellsOf f3.type))=some y3∧DataW.trod enc P w base spare held n f4.type ((cs.drop f4.offset).take (P.cellsOf f4.type))=some y4∧
  DataW.trod enc P w base spare held n f5.type ((cs.drop f5.offset).take (P.cellsOf f5.type))=some y5∧DataW.trod enc P w base spare held n f6.type ((cs.drop f6.offset).take (P.cellsOf f6.type))=some y6∧
  DataW.trod enc P w base spare held n f7.type ((cs.drop f7.offset).take (P.cellsOf f7.type))=some y7:=by
 obtain ⟨xs,n,_,rfl,hl,hlen,hf⟩:=DataW.trod_struct ht h
 match xs,hlen with
 | [y0,y1,y2,y3,y4,y5,y6,y7],_=>exact ⟨y0,y1,y2,y3,y4,y5,y6,y7,n,hl,by simpa using hf 0 f0 rfl,by simpa using hf 1 f1 rfl,by simpa using hf 2 f2 rfl,by simpa using hf 3 f3 rfl,by simpa using hf 4 f4 rfl,by simpa using hf 5 f5 rfl,by simpa using hf 6 f6 rfl,by simpa using hf 7 f7 rfl⟩
theorem nine (cs:List Value) (h:cs.length=23):∃v0 v1 v2 v3 v4 v5 r v22,cs=v0::v1::v2::v3::v4::v5::(r++[v22])∧r.length=16:=by
 match cs,h with
 | v0::v1::v2::v3::v4::v5::rest,h=>
   have hr:rest.length=17:=by simpa using h
   have h1:(rest.drop 16).length=1:=by rw [List.length_drop,hr]
   match hd:rest.drop 16,h1 with
   | [v22],_=>
     refine ⟨v0,v1,v2,v3,v4,v5,rest.take 16,v22,?_,by rw [List.length_take,hr];rfl⟩
     rw [←hd,List.take_append_drop]
structure FmI (W:World) (p:Fm) (sv:Value):Prop where
 k:0≤p.k∧p.k≤255
 id:-9223372036854775808≤p.id∧p.id≤9223372036854775807
 n:-9223372036854775808≤p.n∧p.n≤9223372036854775807
 cd:-9223372036854775808≤p.cd∧p.cd≤9223372036854775807
 nl:p.nc.length=16
 nb:BB p.nc
 sp:SSp W sv p.sp
theorem fm_trod {H:Type} {enc:TypeId × Value→H} {W:World} {fuel:Nat} {cs:List Value} {x:DataW H × List MemPlace}
 (h:DataW.trod enc Tryz.prog W 0 (fun _=>true) true fuel 25 cs=some x):∃p sv,cs=plL p sv∧FmI W p sv:=by
 obtain ⟨y0,y1,y2,y3,y4,y5,y6,y7,n,hl,h0,h1,h2,h3,h4,h5,h6,h7⟩:=trod_struct8 Tryz.underlying25 h
 rw [cells30] at hl
 obtain ⟨v0,v1,v2,v3,v4,v5,r,v22,rfl,hr⟩:=nine cs hl
 simp only [cells9,cells5,cells3,cells4,cells27,cells28] at h0 h1 h2 h3 h4 h5 h6 h7
 obtain ⟨k,e0,_,wk⟩:=DataW.trod_int Tryz.underlying5 h0
 obtain ⟨i,e1,_,wi⟩:=DataW.trod_int Tryz.underlying3 h1
 obtain ⟨m,e2,_,wm⟩:=DataW.trod_int Tryz.underlying3 h2
 obtain ⟨c,e3,_,wc⟩:=DataW.trod_int Tryz.underlying3 h3
 obtain ⟨b,e4,_⟩:=DataW.trod_bool Tryz.underlying4 h4
 obtain ⟨s,e5,_,hs⟩:=DataW.trod_string Tryz.underlying9 h5
 have e6:((v0::v1::v2::v3::v4::v5::(r++[v22])).drop 6).take 16=r:=by
  show (r++[v22]).take 16=r
  exact List.take_left' hr
 rw [e6] at h6
 obtain ⟨nc,rfl,hn,hb⟩:=nc_trod h6 hr
 have e7:((v0::v1::v2::v3::v4::v5::(nc.map (Value.int .u8)++[v22])).drop 22).take 1=[v22]:=by
  show ((nc.map (Value.int .u8)++[v22]).drop 16).take 1=[v22]
  rw [List.drop_left' hr]
  rfl
 rw [e7] at h7
 obtain ⟨sv,l,e8,hsp⟩:=sps_trod h7
 simp at e0 e1 e2 e3 e4 e5 e8
 subst e0 e1 e2 e3 e4 e5 e8
 have bk:=bounds_u8 wk
 have bi:=bounds_i64 wi
 have bm:=bounds_i64 wm
 have bc:=bounds_i64 wc
 exact ⟨⟨k,i,m,c,b,s,nc,l⟩,_,rfl,⟨by show 0≤k∧k≤255;omega,by show _≤i∧i≤_;omega,by show _≤m∧m≤_;omega,by show _≤c∧c≤_;omega,hn,hb,hsp⟩⟩
end Go.Proofs.YtiollhmbdhepkaaGreatDoor
namespace Go.Proofs.YtiollhmbdhepkaaGreatDoor
open Go.ChangeShapes Go.WideShapes Go.ChangeAt Go.RowKit Go.Deep
set_option maxRecDepth 100000
def plc (q:Fm × Value):List Value:=plL q.1 q.2
theorem ssp_one {W:World} {v:Value} {l:List Sp} (h:SSp W v l):v.oneCell'=true:=by
 obtain ⟨a,c,rfl,_⟩:=IS.shape h
 rfl
theorem plc_cl {W:World} {l:List (Fm × Value)} (h:∀q∈l,FmI W q.1 q.2):CL 23 (l.map plc):=fun c hc=>by
 obtain ⟨q,hq,rfl⟩:=List.mem_map.1 hc
 exact ⟨plL_len (h q hq).nl _,fun v hv=>plL_one (ssp_one (h q hq).sp) v hv⟩
theorem FmI.kept {W W':World} {p:Fm} {sv:Value} (h:FmI W p sv) (hb:Below W.heap.size W W'):FmI W' p sv:=⟨h.k,h.id,h.n,h.cd,h.nl,h.nb,h.sp.kept hb⟩
structure FQ (W:World) (v:Value) (l:List (Fm × Value)):Prop where
 is:IS 23 W v (l.map plc)
 ok:∀q∈l,FmI W q.1 q.2
theorem FQ.kept {W W':World} {v:Value} {l:List (Fm × Value)} (h:FQ W v l) (hb:Below W.heap.size W W'):FQ W' v l:=⟨h.is.kept hb,fun q hq=>(h.ok q hq).kept hb⟩
theorem fms_in {H:Type} {enc:TypeId × Value→H} {W:World} {base:Nat} {v:Value} {d:DataW H} {p:List MemPlace}
 (hval:Value.okWide Tryz.prog W .any base 60 v) (h:DataW.Trod enc Tryz.prog W 0 (fun _=>true) true 60 v d p):∃l,FQ W v l:=by
 obtain ⟨a0,len0,cap0,rfl⟩:=okWide_slice Tryz.underlying60 hval
 obtain ⟨fuel,hf⟩:=h
 rcases open_slice Tryz.underlying60 hf with ⟨hcs,_⟩ | ⟨x,l,c,m,n,D,Pl,hcs,_,hl,hm,hmm,_,hall⟩
 · simp [Value.cells] at hcs
   obtain ⟨rfl,rfl,rfl⟩:=hcs
   exact ⟨[],⟨IS.nil 23 W,by simp⟩⟩
 · simp [Value.cells] at hcs
   obtain ⟨rfl,rfl,rfl⟩:=hcs
   simp only [if_true] at hmm
   have each:∀i,i<len0→∃q:Fm × Value,(∀j v,(plc q)[j]? = some v→W.cell? (x.add (i*23+j))=some v)∧FmI W q.1 q.2:=by
    intro i hi
    obtain ⟨cs',h1,h2⟩:=hall i (by omega)
    rw [cells30] at h1
    obtain ⟨_,hlen,hcell⟩:=World.cells?_some h1
    obtain ⟨y,sv,rfl,hy⟩:=fm_trod h2
    refine ⟨(y,sv),fun j v hv=>?_,hy⟩
    have hj:j<23:=by have:=(List.getElem?_eq_some_iff.1 hv).1;unfold plc at this;rw [plL_len hy.nl] at this;exact this
    have c0:=hcell j (by omega)
    rw [add_add] at c0
    rw [c0]
    unfold plc at hv
    simpa using hv
   have:Inhabited (Fm × Value):=⟨(Fm.zero,.slice none 0 0)⟩
   obtain ⟨q,hq⟩:=choose_lt each
   have hlen:((List.range len0).map q).length=len0:=by simp
   have hok:∀y∈(List.range len0).map q,FmI W y.1 y.2:=fun y hy=>by
    obtain ⟨i,hi,rfl⟩:=List.mem_map.1 hy
    exact (hq i (List.mem_range.1 hi)).2
   refine ⟨(List.range len0).map q,⟨⟨some x,cap0,by rw [List.length_map,hlen],by rw [List.length_map,hlen];exact hl,hm,(fun e=>by cases e),plc_cl hok,?_⟩,hok⟩⟩
   rcases Nat.eq_zero_or_pos len0 with h0 | h0
   · subst h0;exact .inl rfl
   · obtain ⟨b,off,spot⟩:=x
     have hspot:spot=none:=by simpa [Addr.add] using World.cell?_spot ((hq 0 h0).1 0 _ rfl)
     subst hspot
     refine .inr ⟨b,off,rfl,fun i hi=>?_⟩
     rw [List.length_map,hlen] at hi
     have e:atC (((List.range len0).map q).map plc) i=plc (q i):=by simp [atC,List.getD,hi]
     rw [e]
     intro j v hv
     have:=(hq i hi).1 j v hv
     rw [Addr.add_lit,←Nat.add_assoc] at this
     exact this
end Go.Proofs.YtiollhmbdhepkaaGreatDoor
namespace Go.Proofs.YtiollhmbdhepkaaGreatDoor
open Go.RowKit
set_option maxRecDepth 100000
abbrev FV:=Fm × Value
def atF (L:List FV) (j:Nat):FV:=L.getD j (Fm.zero,.slice none 0 0)
theorem atF_eq (L:List FV) (j:Nat) (h:j<L.length):atF L j=L[j]:=by simp [atF,List.getD,h]
theorem atF_mem (L:List FV) (j:Nat) (h:j<L.length):atF L j∈L:=by rw [atF_eq L j h];exact List.getElem_mem h
theorem atC_plc (L:List FV) (j:Nat) (h:j<L.length):atC (L.map plc) j=plc (atF L j):=by rw [atF_eq L j h];simp [atC,List.getD,h]
theorem dropF (L:List FV) (j:Nat) (h:j<L.length):L.drop j=atF L j::L.drop (j+1):=by rw [List.drop_eq_getElem_cons h,atF_eq L j h]
theorem takeF (L:List FV) (j:Nat) (h:j<L.length):L.take (j+1)=L.take j++[atF L j]:=by rw [List.take_add_one];simp [atF,List.getD,h]
def okq (q:FV):Bool:=decide (q.1.tx.size≤1200)&&(decide (q.1.sp.length≤70)&&decide (chkM q.1=0))
def frA (L:List FV):Bool:=L.all okq
def frB (L:List FV):Bool:=decide (L.length≤20)&&frA L
def frL (b:Bool) (L:List FV):List Fm:=if b=true then L.map Prod.fst else []
theorem frA_cons (q:FV) (L:List FV):frA (q::L)=(okq q&&frA L):=rfl
theorem plL_22 {p:Fm} (h:p.nc.length=16) (sv:Value):(plL p sv)[22]? = some sv:=by
 unfold plL
 rw [List.getElem?_append_right (by simp),List.getElem?_append_right (by simp [h])]
 simp [h]
theorem fm_fk {W:World} {p:Fm} {sv:Value} (h:FmI W p sv):FK p:=⟨h.k.1,by have:=h.k.2;omega,h.id.1,h.id.2,h.n.1,h.n.2,h.cd.1,h.cd.2,h.nl,h.nb⟩
set_option maxHeartbeats 8000000 in
theorem frames_any (v:Value) (L:List FV) (w:World) (ht:Tb w) (h:FQ w v L) :
 Calls Tryz.prog 27 #[v] w fun e w'=>∃fv,e = .returned (.tuple #[fv,.bool (frB L)])∧RF w' w.heap.size fv (frL (frB L) L)∧Below w.heap.size w w':=by
 obtain ⟨a,c,rfl,h2,h3,h4⟩:=h.is.shape
 rw [List.length_map] at h2 h ⊢
 have HT:Hid (Tb w):=ht
 have HFQ:Hid (∀W,Below w.heap.size w W→FQ W (.slice a L.length c) L):=fun W hb=>h.kept hb
 have HFO:Hid (∀q∈L,FmI w q.1 q.2):=h.ok
 obtain ⟨n,hn⟩:∃n,n=L.length:=⟨_,rfl⟩
 have HN:Hid (n=L.length):=hn
 rw [←hn] at h2 HFQ ⊢
 obtain ⟨R,hR⟩:∃R,R=frB L:=⟨_,rfl⟩
 have HR:Hid (frB L=R):=hR.symm
 rw [←hR]
 clear h h3 h4 hR ht
 by_cases h20:20<n
 · have t0:(20:Int)<(n:Int):=by omega
   have HF:Hid (R=false):=by unfold Hid;rw [←HR.out];unfold frB;rw [decide_eq_false (by rw [←hn];omega),Bool.false_and]
   clear h20 hn HFQ HFO HR HN HT
   go_enter Tryz.func27,Tryz.ntmps27
   go_wp2
   go_ret2
   exact ⟨_,by rw [HF.out];rfl,by rw [HF.out];exact RF.nil _ _,Below.refl _ _⟩
 have t0:¬(20:Int)<(n:Int):=by omega
 have HA0:Hid (frA L=R):=by unfold Hid;rw [←HR.out];unfold frB;rw [decide_eq_true (by rw [←hn];omega),Bool.true_and]
 have hn20:n≤20:=by omega
 clear hn h20 HR
 go_enter Tryz.func27,Tryz.ntmps27
 go_wp2_with fail
 go_loopw [4,5] (fun p4 z wr=>∃j:Nat,j≤n∧z = .int .i64 j∧frA (L.drop j)=R∧RF wr w.heap.size p4 ((L.take j).map Prod.fst)∧Below w.heap.size w wr) (fun _ z _=>n-(intOf z).toNat)
 case atStart=>exact ⟨0,by omega,rfl,HA0.out,RF.nil _ _,Below.refl _ _⟩
 case round=>
  obtain ⟨j,hj,rfl,hd,hq,hb⟩:=hrel
  have HB:Hid (Below w.heap.size w wr):=hb
  have HQ:Hid (RF wr w.heap.size u4 ((L.take j).map Prod.fst)):=hq
  have HD:Hid (frA (L.drop j)=R):=hd
  obtain ⟨qa,qc,rfl⟩:=RF.shape hq
  have hql:((L.take j).map Prod.fst).length=j:=by rw [List.length_map,List.length_take,←HN.out];omega
  clear hd hq hb HA0
  by_cases hlt:j<n
  · have lt2:(j:Int)<(n:Int):=by omega
    have lt3:(0:Int)≤(j:Int):=by omega
    have hjl:j<L.length:=by rw [←HN.out];exact hlt
    obtain ⟨b,off,rfl,hr⟩:=(HFQ.out wr HB.out).is.at j (by rw [List.length_map];exact hjl)
    rw [atC_plc L j hjl] at hr
    have hx:=(HFO.out _ (atF_mem L j hjl)).kept HB.out
    have hda:=dropF L j hjl
    have hta:=takeF L j hjl
    have hde:=HD.out
    rw [hda,frA_cons] at hde
    have HTA:Hid ((L.take (j+1)).map Prod.fst=(L.take j).map Prod.fst++[(atF L j).1]):=by unfold Hid;rw [hta,List.map_append];rfl
    rw [hql]
    have HQL:Hid (((L.take j).map Prod.fst).length=j):=hql
    obtain ⟨AC,hAC⟩:∃AC,AC=(L.take j).map Prod.fst:=⟨_,rfl⟩
    rw [←hAC] at HQ HTA HQL
    rw [HQL.out] at HQ
    generalize atF L j=q at *
    obtain ⟨p,u⟩:=q
    simp only at hx hde HTA
    have hnl:=hx.nl
    have hr':wr.rangeAt b (off+j*23) (plL p u):=hr
    have RN:Hid (wr.rangeAt b (off+j*23) (plL p u)):=hr'
    have ZQ:Hid ((Tryz.prog.info? 25).map (·.size)=some (plL p u).length):=by unfold Hid;rw [plL_len hnl];kernel_rfl
    obtain ⟨sa,sc,rfl,-,-,-⟩:=hx.sp.shape
    have k5:wr.cell? ⟨b,off+j*23+5,none⟩=some (.string p.tx):=hr' 5 _ (by simp [plL])
    have k22:wr.cell? ⟨b,off+j*23+22,none⟩=some (.slice sa p.sp.length sc):=hr' 22 _ (plL_22 hnl _)
    have HX:Hid (FmI wr p (.slice sa p.sp.length sc)):=hx
    clear hda hta hql hAC hr hr' hx hjl HD
    by_cases ht1:1200<p.tx.size
    · have t1:decide ((1200:Int)<(p.tx.size:Int))=true:=by simp;omega
      have HF:Hid (R=false):=by unfold Hid;rw [←hde];unfold okq;rw [decide_eq_false (by simp only;omega),Bool.false_and,Bool.false_and]
      clear ht1 hde HTA HQ HX RN ZQ HQL HFQ HFO HT HN
      go_wp2
      go_ret2
      exact ⟨_,by rw [HF.out];rfl,by rw [HF.out];exact RF.nil _ _,HB.out⟩
    have t1:¬(1200:Int)<(p.tx.size:Int):=by omega
    by_cases ht2:70<p.sp.length
    · have t2:(70:Int)<(p.sp.length:Int):=by omega
      have HF:Hid (R=false):=by unfold Hid;rw [←hde];unfold okq;rw [decide_eq_false (p:=p.sp.length≤70) (by omega),Bool.false_and,Bool.and_false,Bool.false_and]
      clear ht1 ht2 hde HTA HQ HX RN ZQ HQL HFQ HFO HT HN
      generalize p.sp.length=sl at *
      go_wp2
      go_ret2
      exact ⟨_,by rw [HF.out];rfl,by rw [HF.out];exact RF.nil _ _,HB.out⟩
    have t2:¬(70:Int)<(p.sp.length:Int):=by omega
    have HFI:Hid (FI wr p (.slice sa p.sp.length sc)):=⟨fm_fk HX.out,HX.out.sp,by omega,by omega⟩
    have co:=ofF_any p _ wr (HT.out.next HB.out) HFI.out
    unfold plA at co
    have HOK:Hid (okq (p,Value.slice sa p.sp.length sc)=decide (chkM p=0)):=by unfold Hid okq;rw [decide_eq_true (by simp only;omega),decide_eq_true (p:=p.sp.length≤70) (by omega),Bool.true_and,Bool.true_and]
    rw [HOK.out] at hde
    clear ht1 ht2 HX HOK
    by_cases hck:chkM p=0
    · have hok:=chkM_ok hck
      have eo:ofP p=p:=by unfold ofP;rw [if_pos hck]
      rw [hck,eo] at co
      rw [decide_eq_true hck,Bool.true_and] at hde
      have HDE:Hid (frA (L.drop (j+1))=R):=hde
      have HAL:Hid (AC.length≤100000):=by unfold Hid;rw [HQL.out];omega
      have HKK:Hid (isK p.k=true):=hok.kk
      clear hde eo hok hck
      go_wp2_with (refine wpList_load_mid rfl 25 _ rfl b (off+j*23) rfl (plL p (.slice sa p.sp.length sc)) _ RN.out Tryz.underlying25 rfl ZQ.out ?_)
      refine co.mono ?_
      rintro e w1 ⟨s1,rfl,r1,b1⟩
      obtain ⟨ty,y,hy⟩:=frV_iface HKK.out s1
      rw [hy]
      have HY:Hid (frV p s1 = .iface ty y):=hy
      clear hy
      obtain ⟨W2,hW2⟩:∃W2,W2=w1.alloc (.cells #[.iface ty y] 29):=⟨_,rfl⟩
      have b2:Below w1.heap.size w1 W2:=by rw [hW2];exact al_below _ _
      have b12:Below wr.heap.size wr W2:=b1.trans (b2.mono b1.size)
      have HB2:Hid (Below w.heap.size w W2):=HB.out.trans (b12.mono HB.out.size)
      have HF2:Hid (RF W2 w.heap.size (.slice qa j qc) AC):=HQ.out.below b12
      have HS2:Hid (RSp W2 w.heap.size s1 (spO p)):=(RSp.mono r1 HB.out.size).below b2
      have HC2:Hid (W2.cell? ⟨w1.heap.size,0,none⟩=some (frV p s1)):=by unfold Hid;rw [HY.out,hW2,World.cell?_alloc_at _ _ _ _ rfl];rfl
      clear co r1 b1 b2 b12 HQ HB k5 k22 RN ZQ t1 t2 HFI
      go_wp2_with (at_builtin;rw [←hW2];refine wpList_append_fr rfl _ _ rfl w.heap.size _ AC rfl HF2.out w1.heap.size p s1 1 HS2.out rfl HC2.out HAL.out HB2.out.size (Hid.out ?_))
      unfold Hid
      intro v3 w3 r3 b3
      try rw [←hW2] at b3
      clear hW2
      have HB3:Hid (Below w.heap.size w w3):=HB2.out.trans b3
      have HF3:Hid (RF w3 w.heap.size v3 (AC++[p])):=r3
      obtain ⟨va,vc,rfl⟩:=RF.shape r3
      clear b3 r3
      go_wp2
      go_roundw
      case rel=>exact ⟨j+1,by omega,rfl,HDE.out,by rw [HTA.out];exact HF3.out,HB3.out⟩
      case measure=>(simp [intOf];omega)
    · have hck':(chkM p != 0)=true:=by simpa using hck
      rw [decide_eq_false hck,Bool.false_and] at hde
      have HF:Hid (R=false):=hde.symm
      clear hde hck
      generalize chkM p=ce at *
      go_wp2_with (refine wpList_load_mid rfl 25 _ rfl b (off+j*23) rfl (plL p (.slice sa p.sp.length sc)) _ RN.out Tryz.underlying25 rfl ZQ.out ?_)
      refine co.mono ?_
      rintro e w1 ⟨s1,rfl,r1,b1⟩
      have HB1:Hid (Below w.heap.size w w1):=HB.out.trans (b1.mono HB.out.size)
      clear co r1 b1 k5 k22
      go_wp2
      go_ret2
      exact ⟨_,by rw [HF.out];rfl,by rw [HF.out];exact RF.nil _ _,HB1.out⟩
  · obtain rfl:j=n:=by omega
    have lt2:¬(j:Int)<(j:Int):=by omega
    have hd0:=HD.out
    rw [show L.drop j=[] by rw [HN.out];exact List.drop_length] at hd0
    have HF:Hid (R=true):=hd0.symm
    have hq:=HQ.out
    rw [show L.take j=L by rw [HN.out];exact List.take_length] at hq
    have HQ2:Hid (RF wr w.heap.size (.slice qa j qc) (L.map Prod.fst)):=by unfold Hid;rw [List.length_map,←HN.out] at hq;exact hq
    rw [hql]
    clear hd0 hq hql HQ HD HFQ HFO HT HN
    go_wp2
    go_ret2
    exact ⟨_,by rw [HF.out];rfl,by rw [HF.out];exact HQ2.out,HB.out⟩
end Go.Proofs.YtiollhmbdhepkaaGreatDoor
