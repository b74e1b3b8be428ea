/- Ytiollhmbdhepkaa: what PacketBack reaches, joined and cut (its parts: wip) -/
import Derived.Test.YtiollhmbdhepkaaGreatDoorVbd
namespace Go.Proofs.YtiollhmbdhepkaaGreatDoor
open Go.RowKit Go.Shelf
set_option maxRecDepth 100000
set_option maxHeartbeats 8000000 in
theorem pread_any (v:Value) (xs:List Int) (w:World) (hw:Fi.Wid w) (h:Sl w v xs) (hl:xs.length≤90000) :
 Calls Tryz.prog 66 #[v] w fun e w'=>∃bv sv,e = .returned (.tuple #[.agg (x5 (rdM xs).k (rdM xs).c (rdM xs).n bv sv),.int .i64 (rdM xs).e])∧Sl w' bv (rdM xs).body∧Sl w' sv (rdM xs).sld∧(∀q,rowB bv=some q→w.heap.size≤q)∧Below w.heap.size w w':=by
 obtain ⟨W1,hW1⟩:∃W1,W1=w.alloc (.cells #[.int .u8 0,.int .i64 0,.int .i64 0,.slice none 0 0,.slice none 0 0] 104):=⟨_,rfl⟩
 have b1:Below w.heap.size w W1:=by rw [hW1];exact al_below _ _
 have z1:W1.heap.size=w.heap.size+1:=by rw [hW1];simp
 have AW1:Hid (GB W1 w.heap.size 0 0 0 (.slice none 0 0) (.slice none 0 0)):=by unfold Hid;rw [hW1];exact GB.new _ _ _ _ _ _
 have BW1:Hid (Below w.heap.size w W1):=b1
 obtain ⟨a,c,rfl,hlc,hcm,hnn,hrow⟩:=id h
 have HSL:Hid (Sl w (.slice a xs.length c) xs):=h
 have HBB:Hid (BB xs):=h.bytes
 have HW:Hid (Fi.Wid w):=hw
 have hpos:=hw.pos
 clear h hrow hnn hw b1
 by_cases hlong:1200<xs.length
 · have HE:Hid (rdM xs=rdErr 5):=by unfold Hid rdM;rw [if_pos hlong]
   obtain ⟨n,hn⟩:∃n,n=xs.length:=⟨_,rfl⟩
   rw [←hn] at hlong ⊢
   have t1:decide ((n:Int) > 1200)=true:=by simp;omega
   clear hn hlong hl HSL HBB HW hlc hcm hpos z1
   go_enter Tryz.func66,Tryz.ntmps66
   go_upto_region 1 with fail
   rw [←hW1]
   clear hW1
   go_wp2_with (refine wpList_store_row rfl 104 _ _ rfl w.heap.size #[.int .u8 0,.int .i64 0,.int .i64 0,.slice none 0 0,.slice none 0 0] rfl rfl 104 _ AW1.out infoG rfl (g5_one _ _ _ _ _ _ _ _ _) (Hid.out ?_))
   unfold Hid
   go_wp2
   refine bodyPost_ret (retR rfl (setRow_heap _ _ _ _ _ _ AW1.out) infoG) rfl ?_
   exact ⟨.slice none 0 0,.slice none 0 0,by rw [HE.out];rfl,by rw [HE.out];exact Sl.none _,by rw [HE.out];exact Sl.none _,(fun q hq=>by simp [rowB] at hq),below_setRow BW1.out (Nat.le_refl _) _⟩
 have t1:decide ((xs.length:Int) > 1200)=false:=by simp;omega
 obtain ⟨W2,hW2⟩:∃W2,W2=W1.alloc (.cells #[.int .u8 0,.int .i64 0,.int .i64 0,.slice none 0 0,.slice none 0 0] 104):=⟨_,rfl⟩
 have b2:Below W1.heap.size W1 W2:=by rw [hW2];exact al_below _ _
 have z2:W2.heap.size=w.heap.size+2:=by rw [hW2];simp;omega
 have AW2:Hid (GB W2 w.heap.size 0 0 0 (.slice none 0 0) (.slice none 0 0)):=AW1.out.kept b2
 have DW2:Hid (GB W2 (w.heap.size+1) 0 0 0 (.slice none 0 0) (.slice none 0 0)):=by unfold Hid;rw [←z1,hW2];exact GB.new _ _ _ _ _ _
 have BW2:Hid (Below w.heap.size w W2):=BW1.out.trans (b2.mono BW1.out.size)
 have cn:=Fi.new_any _ xs W2 ((HW.out.below BW1.out HW.out.pos).below b2 (Nat.lt_of_lt_of_le HW.out.pos BW1.out.size)) (fsl (HSL.out.kept BW2.out)) (by omega)
 have HNL:Hid (¬1200<xs.length):=hlong
 obtain ⟨n,hn⟩:∃n,n=xs.length:=⟨_,rfl⟩
 have HN:Hid (n=xs.length):=hn
 rw [←hn] at hl cn hlc hlong t1 ⊢
 have sz1:W1.alloc (.cells #[.int .u8 0,.int .i64 0,.int .i64 0,.slice none 0 0,.slice none 0 0] 104)=W2:=hW2.symm
 clear hn b2 hW2
 go_enter Tryz.func66,Tryz.ntmps66
 go_upto_region 1 with fail
 rw [←hW1]
 clear hW1
 go_upto_region 4 with fail
 clear sz1 t1 z1 AW1 BW1
 go_wp2_with fail
 refine cn.mono ?_
 rintro e w2 ⟨g,s,rfl,hg1,hg2,hs,rd2,b2⟩
 have HG:Hid (g≠w.heap.size∧s≠w.heap.size∧g≠(w.heap.size+1)∧s≠(w.heap.size+1)∧w.heap.size<g∧1<g):=⟨by omega,by omega,by omega,by omega,by omega,by omega⟩
 have Aw2:Hid (GB w2 w.heap.size 0 0 0 (.slice none 0 0) (.slice none 0 0)):=AW2.out.kept b2
 have Dw2:Hid (GB w2 (w.heap.size+1) 0 0 0 (.slice none 0 0) (.slice none 0 0)):=DW2.out.kept b2
 have Bw2:Hid (Below w.heap.size w w2):=BW2.out.trans (b2.mono BW2.out.size)
 have cb:=rdByte g s xs 0 w2 rd2
 have HBL:Hid (BB (rBt xs 0).2.1∧(rBt xs 0).2.1.length≤xs.length∧0≤(rBt xs 0).1∧(rBt xs 0).1<256):=rBt_len xs HBB.out
 obtain ⟨R,hR⟩:∃R,R=rBt xs 0:=⟨_,rfl⟩
 have HRB:Hid (rBt xs 0=R):=hR.symm
 rw [←hR] at cb HBL
 obtain ⟨k,yB,eB⟩:=R
 simp only at cb HBL
 clear cn hg1 hg2 hs rd2 b2 AW2 DW2 BW2 z2 hR
 go_wp2_with fail
 refine cb.mono ?_
 rintro e w3 ⟨rfl,rd3,bt3⟩
 have Aw3:Hid (GB w3 w.heap.size 0 0 0 (.slice none 0 0) (.slice none 0 0)):=Aw2.out.bt bt3 (Ne.symm HG.out.1)
 have Dw3:Hid (GB w3 (w.heap.size+1) 0 0 0 (.slice none 0 0) (.slice none 0 0)):=Dw2.out.bt bt3 (Ne.symm HG.out.2.2.1)
 have Bw3:Hid (Below w.heap.size w w3):=bt3.below Bw2.out (Nat.le_of_lt HG.out.2.2.2.2.1) Bw2.out.size
 have Rw3:Hid (Fi.Rd w3 g s yB eB):=rd3
 clear cb rd3 bt3 Aw2 Dw2 Bw2
 have kq:=Dw3.out.gc.c0
 have kf:=Dw3.out.frz 0
 obtain ⟨w4,hw4⟩:∃x,x=w3.setCell ⟨w.heap.size+1,0,none⟩ (.int .u8 k):=⟨_,rfl⟩
 have Aw4:Hid (GB w4 w.heap.size 0 0 0 (.slice none 0 0) (.slice none 0 0)):=by unfold Hid;rw [hw4];exact other_set Aw3.out (by omega)
 have Dw4:Hid (GB w4 (w.heap.size+1) k 0 0 (.slice none 0 0) (.slice none 0 0)):=by unfold Hid;rw [hw4];exact Dw3.out.set 0 _ rfl
 have Bw4:Hid (Below w.heap.size w w4):=by unfold Hid;rw [hw4];exact bt_set Bw3.out (Nat.le_succ _)
 have Rw4:Hid (Fi.Rd w4 g s yB eB):=by unfold Hid;rw [hw4];exact rd_set Rw3.out HG.out.2.2.1 HG.out.2.2.2.1
 clear Aw3 Dw3 Bw3 Rw3
 go_upto_region 6 with fail
 rw [←hw4]
 clear hw4 kq kf
 have k0:=Dw4.out.gc.c0
 by_cases hk:1<k
 · have tk:decide (k > 1)=true:=by simp;omega
   have HE:Hid (rdM xs=rdErr 4):=by unfold Hid rdM;rw [if_neg HNL.out,if_pos (by rw [HRB.out];exact hk)]
   clear hk HRB HBL HSL HBB HW HNL HN Rw4 Dw4
   go_wp2_with (refine wpList_store_row rfl 104 _ _ rfl w.heap.size #[.int .u8 0,.int .i64 0,.int .i64 0,.slice none 0 0,.slice none 0 0] rfl rfl 104 _ Aw4.out infoG rfl (g5_one _ _ _ _ _ _ _ _ _) (Hid.out ?_))
   unfold Hid
   go_wp2
   refine bodyPost_ret (retR rfl (setRow_heap _ _ _ _ _ _ Aw4.out) infoG) rfl ?_
   exact ⟨.slice none 0 0,.slice none 0 0,by rw [HE.out];rfl,by rw [HE.out];exact Sl.none _,by rw [HE.out];exact Sl.none _,(fun q hq=>by simp [rowB] at hq),below_setRow Bw4.out (Nat.le_refl _) _⟩
 have tk:decide (k > 1)=false:=by simp;omega
 have HK:Hid (¬1<k):=hk
 clear hk
 go_upto_region 8 with fail
 clear tk k0
 have cmC:=rdNm g s yB eB 1099511627776 w4 (HW.out.below Bw4.out HW.out.pos) Rw4.out
 have hrlC:=rNm_rl 1099511627776 (by omega) yB eB (Rd_bb Rw4.out)
 obtain ⟨R,hR⟩:∃R,R=rNm 1099511627776 yB eB:=⟨_,rfl⟩
 rw [←hR] at cmC hrlC
 obtain ⟨cv,yC,eC⟩:=R
 have HRC:Hid (rNm 1099511627776 yB eB=(cv,yC,eC)):=hR.symm
 simp only at cmC hrlC
 have HLC:Hid (yC.length≤yB.length):=hrlC.2.1
 clear hR hrlC
 go_wp2_with fail
 refine cmC.mono ?_
 rintro e w5 ⟨rfl,rdw5,btw5⟩
 have Aw5:Hid (GB w5 w.heap.size 0 0 0 (.slice none 0 0) (.slice none 0 0)):=Aw4.out.bt btw5 (Ne.symm HG.out.1)
 have Dw5:Hid (GB w5 (w.heap.size+1) k 0 0 (.slice none 0 0) (.slice none 0 0)):=Dw4.out.bt btw5 (Ne.symm HG.out.2.2.1)
 have Bw5:Hid (Below w.heap.size w w5):=btw5.below Bw4.out (Nat.le_of_lt HG.out.2.2.2.2.1) Bw4.out.size
 have Rw5:Hid (Fi.Rd w5 g s yC eC):=rdw5
 clear cmC rdw5 btw5 Aw4 Dw4 Bw4 Rw4
 have kq:=Dw5.out.gc.c1
 have kf:=Dw5.out.frz 1
 obtain ⟨w6,hw6⟩:∃x,x=w5.setCell ⟨w.heap.size+1,1,none⟩ (.int .i64 cv):=⟨_,rfl⟩
 have Aw6:Hid (GB w6 w.heap.size 0 0 0 (.slice none 0 0) (.slice none 0 0)):=by unfold Hid;rw [hw6];exact other_set Aw5.out (by omega)
 have Dw6:Hid (GB w6 (w.heap.size+1) k cv 0 (.slice none 0 0) (.slice none 0 0)):=by unfold Hid;rw [hw6];exact Dw5.out.set 1 _ rfl
 have Bw6:Hid (Below w.heap.size w w6):=by unfold Hid;rw [hw6];exact bt_set Bw5.out (Nat.le_succ _)
 have Rw6:Hid (Fi.Rd w6 g s yC eC):=by unfold Hid;rw [hw6];exact rd_set Rw5.out HG.out.2.2.1 HG.out.2.2.2.1
 clear Aw5 Dw5 Bw5 Rw5
 go_upto_region 9 with fail
 rw [←hw6]
 clear hw6 kq kf
 have cmN:=rdNm g s yC eC 1099511627776 w6 (HW.out.below Bw6.out HW.out.pos) Rw6.out
 have hrlN:=rNm_rl 1099511627776 (by omega) yC eC (Rd_bb Rw6.out)
 obtain ⟨R,hR⟩:∃R,R=rNm 1099511627776 yC eC:=⟨_,rfl⟩
 rw [←hR] at cmN hrlN
 obtain ⟨nv,yN,eN⟩:=R
 have HRN:Hid (rNm 1099511627776 yC eC=(nv,yN,eN)):=hR.symm
 simp only at cmN hrlN
 have HLN:Hid (yN.length≤yC.length):=hrlN.2.1
 clear hR hrlN
 go_wp2_with fail
 refine cmN.mono ?_
 rintro e w7 ⟨rfl,rdw7,btw7⟩
 have Aw7:Hid (GB w7 w.heap.size 0 0 0 (.slice none 0 0) (.slice none 0 0)):=Aw6.out.bt btw7 (Ne.symm HG.out.1)
 have Dw7:Hid (GB w7 (w.heap.size+1) k cv 0 (.slice none 0 0) (.slice none 0 0)):=Dw6.out.bt btw7 (Ne.symm HG.out.2.2.1)
 have Bw7:Hid (Below w.heap.size w w7):=btw7.below Bw6.out (Nat.le_of_lt HG.out.2.2.2.2.1) Bw6.out.size
 have Rw7:Hid (Fi.Rd w7 g s yN eN):=rdw7
 clear cmN rdw7 btw7 Aw6 Dw6 Bw6 Rw6
 have kq:=Dw7.out.gc.c2
 have kf:=Dw7.out.frz 2
 obtain ⟨w8,hw8⟩:∃x,x=w7.setCell ⟨w.heap.size+1,2,none⟩ (.int .i64 nv):=⟨_,rfl⟩
 have Aw8:Hid (GB w8 w.heap.size 0 0 0 (.slice none 0 0) (.slice none 0 0)):=by unfold Hid;rw [hw8];exact other_set Aw7.out (by omega)
 have Dw8:Hid (GB w8 (w.heap.size+1) k cv nv (.slice none 0 0) (.slice none 0 0)):=by unfold Hid;rw [hw8];exact Dw7.out.set 2 _ rfl
 have Bw8:Hid (Below w.heap.size w w8):=by unfold Hid;rw [hw8];exact bt_set Bw7.out (Nat.le_succ _)
 have Rw8:Hid (Fi.Rd w8 g s yN eN):=by unfold Hid;rw [hw8];exact rd_set Rw7.out HG.out.2.2.1 HG.out.2.2.2.1
 clear Aw7 Dw7 Bw7 Rw7
 go_upto_region 10 with fail
 rw [←hw8]
 clear hw8 kq kf
 have cx:=pfault_any g s yN eN w8 Rw8.out
 go_wp2_with fail
 refine cx.mono ?_
 rintro e wq ⟨rfl,eq⟩
 rw [eq]
 clear cx eq wq
 by_cases he:fltE eN=0
 rotate_left
 · have tx0:(fltE eN != 0)=true:=by simpa using he
   have HE:Hid (rdM xs=rdErr (fltE eN)):=by
    unfold Hid rdM
    rw [if_neg HNL.out,HRB.out]
    simp only
    rw [if_neg (by have:=HK.out;omega),HRC.out]
    simp only
    rw [HRN.out]
    simp only
    rw [if_pos he]
   clear he HRB HBL HSL HBB HW HNL HN Rw8 Dw8 HRC HRN
   generalize fltE eN=ee at *
   go_wp2_with (refine wpList_store_row rfl 104 _ _ rfl w.heap.size #[.int .u8 0,.int .i64 0,.int .i64 0,.slice none 0 0,.slice none 0 0] rfl rfl 104 _ Aw8.out infoG rfl (g5_one _ _ _ _ _ _ _ _ _) (Hid.out ?_))
   unfold Hid
   go_wp2
   refine bodyPost_ret (retR rfl (setRow_heap _ _ _ _ _ _ Aw8.out) infoG) rfl ?_
   exact ⟨.slice none 0 0,.slice none 0 0,by rw [HE.out];rfl,by rw [HE.out];exact Sl.none _,by rw [HE.out];exact Sl.none _,(fun q hq=>by simp [rowB] at hq),below_setRow Bw8.out (Nat.le_refl _) _⟩
 have tx0:(fltE eN != 0)=false:=by simpa using he
 have HEZ:Hid (fltE eN=0):=he
 clear he
 have cl:=Fi.left_any g s yN eN w8 Rw8.out
 have hlz:(yN.length:Int)≤9223372036854775807:=Rd_len Rw8.out
 obtain ⟨zl,hzl⟩:∃zl,zl=yN.length:=⟨_,rfl⟩
 have HZL:Hid (zl=yN.length):=hzl
 have hzn:zl≤n:=by have:=HLN.out;have:=HLC.out;have:=HBL.out.2.1;have:=HN.out;omega
 rw [←hzl] at cl hlz
 clear hzl
 have sw3:IntKind.i64.wrap ((zl:Int)-16)=(zl:Int)-16:=wrP (by omega) (by omega)
 go_upto_region 13 with fail
 have cl2:=cl
 go_wp2_with fail
 refine cl.mono ?_
 rintro e wq ⟨rfl,eq⟩
 rw [eq]
 clear cl eq wq tx0
 by_cases hz:zl<16
 · have t2:decide ((zl:Int)-16<0)=true:=by simp;omega
   have HE:Hid (rdM xs=rdErr 3):=by
    unfold Hid rdM
    rw [if_neg HNL.out,HRB.out]
    simp only
    rw [if_neg (by have:=HK.out;omega),HRC.out]
    simp only
    rw [HRN.out]
    simp only
    rw [if_neg (by rw [HEZ.out];decide),if_pos (by rw [←HZL.out];exact hz)]
   clear hz HRB HBL HSL HBB HW HNL HN Rw8 Dw8 HRC HRN cl2
   go_wp2_with (refine wpList_store_row rfl 104 _ _ rfl w.heap.size #[.int .u8 0,.int .i64 0,.int .i64 0,.slice none 0 0,.slice none 0 0] rfl rfl 104 _ Aw8.out infoG rfl (g5_one _ _ _ _ _ _ _ _ _) (Hid.out ?_))
   unfold Hid
   go_wp2
   refine bodyPost_ret (retR rfl (setRow_heap _ _ _ _ _ _ Aw8.out) infoG) rfl ?_
   exact ⟨.slice none 0 0,.slice none 0 0,by rw [HE.out];rfl,by rw [HE.out];exact Sl.none _,by rw [HE.out];exact Sl.none _,(fun q hq=>by simp [rowB] at hq),below_setRow Bw8.out (Nat.le_refl _) _⟩
 have hsl:=HSL.out.kept Bw8.out
 obtain ⟨bb,off,rfl⟩:∃bb off,a=some ⟨bb,off,none⟩:=by
  obtain ⟨a',c',e',-,-,-,hrw⟩:=hsl
  cases e'
  rcases hrw with h0 | ⟨-,bb,off,e2,-⟩
  · have:=HN.out;omega
  · exact ⟨bb,off,e2⟩
 obtain ⟨U,hU⟩:∃U,U=n-zl:=⟨_,rfl⟩
 obtain ⟨M,hM⟩:∃M,M=zl-16:=⟨_,rfl⟩
 have hUn:U≤n:=by omega
 have HXN:Hid (xs.length≤90000):=by unfold Hid;rw [←HN.out];exact hl
 rw [←HN.out] at hsl
 have hd0:=hsl.drop U hUn
 have hdt:=hd0.take M (by omega)
 have hcU:¬c=U:=by omega
 have hnl:(n:Int)≤90000:=by omega
 have sw4:IntKind.i64.wrap ((n:Int)-(zl:Int))=(U:Int):=by rw [wrP (by omega) (by omega)];omega
 clear sw3
 have sw3:IntKind.i64.wrap ((zl:Int)-16)=(M:Int):=by rw [wrP (by omega) (by omega)];omega
 have t2:decide ((M:Int)<0)=false:=by simp
 have HE:Hid (rdM xs=⟨k,cv,nv,(xs.drop U).take M,xs.drop U,0⟩):=by
  unfold Hid rdM
  rw [if_neg HNL.out,HRB.out]
  simp only
  rw [if_neg (by have:=HK.out;omega),HRC.out]
  simp only
  rw [HRN.out]
  simp only
  rw [if_neg (by rw [HEZ.out];decide),if_neg (by rw [←HZL.out];exact hz),←HZL.out,←HN.out,←hU,←hM]
 have HS8:Hid (Sl w8 (.slice (some ⟨bb,off+U,none⟩) (n-U) (c-U)) (xs.drop U)):=hd0
 have HT8:Hid (Sl w8 (.slice (some ⟨bb,off+U,none⟩) M (c-U)) ((xs.drop U).take M)):=hdt
 have hbk:bb<w.heap.size:=by
  obtain ⟨a',c',e',-,-,-,hrw⟩:=HSL.out
  cases e'
  rcases hrw with h0 | ⟨h0,bb',off',e2,-,-,hc2,-⟩
  · have:=HN.out;omega
  · cases e2
    exact World.block_lt_of_cell? _ _ (hc2 0 (by omega))
 have sx1:0≤(U:Int):=by omega
 have sx2:(U:Int)≤(n:Int):=by omega
 have sx3:(n:Int)≤(c:Int):=by omega
 have sx4:0≤(M:Int):=by omega
 have sx5:(M:Int)≤((c-U:Nat):Int):=by omega
 have sx6:((c-U:Nat):Int)≤9223372036854775807:=by unfold maxLen at hcm;omega
 have cmx:c≤9223372036854775807:=by unfold maxLen at hcm;omega
 have HQ:Hid (bb≠w.heap.size+1∧bb≠w.heap.size):=⟨by omega,by omega⟩
 clear hz hsl hd0 hdt hU hM hUn hlc hcm hlz HRB HBL HSL HBB HNL HRC HRN HEZ HK HLC HLN HZL HN hzn hnl hl hbk
 go_upto_region 16 with fail
 go_wp2_with fail
 refine cl2.mono ?_
 rintro e wq ⟨rfl,eq⟩
 rw [eq]
 clear cl2 eq wq t2
 have kq:=Dw8.out.gc.c4
 have kf:=Dw8.out.frz 4
 obtain ⟨w9,hw9⟩:∃x,x=w8.setCell ⟨w.heap.size+1,4,none⟩ (.slice (some ⟨bb,off+U,none⟩) (n-U) (c-U)):=⟨_,rfl⟩
 have Aw9:Hid (GB w9 w.heap.size 0 0 0 (.slice none 0 0) (.slice none 0 0)):=by unfold Hid;rw [hw9];exact other_set Aw8.out (by omega)
 have Dw9:Hid (GB w9 (w.heap.size+1) k cv nv (.slice none 0 0) (.slice (some ⟨bb,off+U,none⟩) (n-U) (c-U))):=by unfold Hid;rw [hw9];exact Dw8.out.set 4 _ rfl
 have Bw9:Hid (Below w.heap.size w w9):=by unfold Hid;rw [hw9];exact bt_set Bw8.out (Nat.le_succ _)
 have Rw9:Hid (Fi.Rd w9 g s yN eN):=by unfold Hid;rw [hw9];exact rd_set Rw8.out HG.out.2.2.1 HG.out.2.2.2.1
 have HS9:Hid (Sl w9 (.slice (some ⟨bb,off+U,none⟩) (n-U) (c-U)) (xs.drop U)):=by unfold Hid;rw [hw9];exact sl_other HS8.out HQ.out.1
 have HT9:Hid (Sl w9 (.slice (some ⟨bb,off+U,none⟩) M (c-U)) ((xs.drop U).take M)):=by unfold Hid;rw [hw9];exact sl_other HT8.out HQ.out.1
 clear HS8 HT8
 clear Aw8 Dw8 Bw8 Rw8
 go_upto_region 17 with fail
 rw [←hw9]
 clear hw9 kq kf
 have k4:=Dw9.out.gc.c4
 have cc:=clone_any _ _ w9 HT9.out (by rw [List.length_take,List.length_drop];have:=HXN.out;omega)
 go_wp2_with fail
 refine cc.mono ?_
 rintro e w10 ⟨v10,rfl,o10,b10⟩
 have hby:=HT9.out.bytes
 have s10:=sl_owned o10 hby
 obtain ⟨a10,c10,rfl,-⟩:=id s10
 obtain ⟨l10,hl10⟩:∃l,l=((xs.drop U).take M).length:=⟨_,rfl⟩
 rw [←hl10] at s10 ⊢
 have A10:Hid (GB w10 w.heap.size 0 0 0 (.slice none 0 0) (.slice none 0 0)):=Aw9.out.kept b10
 have D10:Hid (GB w10 (w.heap.size+1) k cv nv (.slice none 0 0) (.slice (some ⟨bb,off+U,none⟩) (n-U) (c-U))):=Dw9.out.kept b10
 have B10:Hid (Below w.heap.size w w10):=Bw9.out.trans (b10.mono Bw9.out.size)
 have S10:Hid (Sl w10 (.slice (some ⟨bb,off+U,none⟩) (n-U) (c-U)) (xs.drop U)):=HS9.out.kept b10
 have T10:Hid (Sl w10 (.slice a10 l10 c10) ((xs.drop U).take M)):=s10
 have hlt:∀x,a10=some x→x.block≠w.heap.size+1∧x.block≠w.heap.size:=fun x hx=>by have:=own_far o10 x hx;have:=blk_lt Dw9.out;omega
 have HLT:Hid (∀x,a10=some x→x.block≠w.heap.size+1∧x.block≠w.heap.size):=hlt
 have HFR:Hid (∀q,rowB (.slice a10 l10 c10)=some q→w.heap.size≤q):=fun q hq=>by
  cases a10 with
  | none=>simp [rowB] at hq
  | some x=>
    obtain rfl:x.block=q:=by simpa [rowB] using hq
    have:=own_far o10 x rfl
    have:=Bw9.out.size
    omega
 have kq:=D10.out.gc.c3
 have kf:=D10.out.frz 3
 obtain ⟨w11,hw11⟩:∃x,x=w10.setCell ⟨w.heap.size+1,3,none⟩ (.slice a10 l10 c10):=⟨_,rfl⟩
 have A11:Hid (GB w11 w.heap.size 0 0 0 (.slice none 0 0) (.slice none 0 0)):=by unfold Hid;rw [hw11];exact other_set A10.out (by omega)
 have D11:Hid (GB w11 (w.heap.size+1) k cv nv (.slice a10 l10 c10) (.slice (some ⟨bb,off+U,none⟩) (n-U) (c-U))):=by unfold Hid;rw [hw11];exact D10.out.set 3 _ rfl
 have B11:Hid (Below w.heap.size w w11):=by unfold Hid;rw [hw11];exact bt_set B10.out (Nat.le_succ _)
 have S11:Hid (Sl w11 (.slice (some ⟨bb,off+U,none⟩) (n-U) (c-U)) (xs.drop U)):=by unfold Hid;rw [hw11];exact sl_other S10.out HQ.out.1
 have T11:Hid (Sl w11 (.slice a10 l10 c10) ((xs.drop U).take M)):=by unfold Hid;rw [hw11];exact sl_other2 T10.out (fun x hx=>(HLT.out x hx).1)
 clear cc hby s10 o10 b10 hl10 hlt k4 Aw9 Dw9 Bw9 Rw9 HS9 HT9 A10 D10 B10 S10 T10
 go_upto_region 18 with fail
 rw [←hw11]
 clear hw11 kq kf
 have RR:Hid (w11.rangeAt (w.heap.size+1) 0 (x5 k cv nv (.slice a10 l10 c10) (.slice (some ⟨bb,off+U,none⟩) (n-U) (c-U))).toList):=blk_range D11.out
 have S12:Hid (Sl (w11.setRow w.heap.size (x5 k cv nv (.slice a10 l10 c10) (.slice (some ⟨bb,off+U,none⟩) (n-U) (c-U)))) (.slice (some ⟨bb,off+U,none⟩) (n-U) (c-U)) (xs.drop U)):=sl_otherR S11.out HQ.out.2
 have T12:Hid (Sl (w11.setRow w.heap.size (x5 k cv nv (.slice a10 l10 c10) (.slice (some ⟨bb,off+U,none⟩) (n-U) (c-U)))) (.slice a10 l10 c10) ((xs.drop U).take M)):=sl_otherR2 T11.out (fun x hx=>(HLT.out x hx).2)
 clear S11 T11
 go_wp2_with (first | refine wpList_load_row rfl 104 _ rfl (w.heap.size+1) rfl 104 (x5 k cv nv (.slice a10 l10 c10) (.slice (some ⟨bb,off+U,none⟩) (n-U) (c-U))) (0,0) _ D11.out Tryz.underlying104 rfl infoG (Hid.out ?_) | refine wpList_store_row rfl 104 _ _ rfl w.heap.size (x5 k cv nv (.slice a10 l10 c10) (.slice (some ⟨bb,off+U,none⟩) (n-U) (c-U))) rfl rfl 104 _ A11.out infoG rfl (g5_one _ _ _ _ _ _ _ _ _) (Hid.out ?_))
 unfold Hid
 go_wp2_with (first | refine wpList_load_row rfl 104 _ rfl (w.heap.size+1) rfl 104 (x5 k cv nv (.slice a10 l10 c10) (.slice (some ⟨bb,off+U,none⟩) (n-U) (c-U))) (0,0) _ D11.out Tryz.underlying104 rfl infoG (Hid.out ?_) | refine wpList_store_row rfl 104 _ _ rfl w.heap.size (x5 k cv nv (.slice a10 l10 c10) (.slice (some ⟨bb,off+U,none⟩) (n-U) (c-U))) rfl rfl 104 _ A11.out infoG rfl (g5_one _ _ _ _ _ _ _ _ _) (Hid.out ?_))
 refine bodyPost_ret (retR rfl (setRow_heap _ _ _ _ _ _ A11.out) infoG) rfl ?_
 exact ⟨.slice a10 l10 c10,(.slice (some ⟨bb,off+U,none⟩) (n-U) (c-U)),by rw [HE.out];rfl,by rw [HE.out];exact T12.out,by rw [HE.out];exact S12.out,HFR.out,below_setRow B11.out (Nat.le_refl _) _⟩
end Go.Proofs.YtiollhmbdhepkaaGreatDoor
