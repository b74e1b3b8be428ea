/- Ytiollhmbdhepkaa: what PacketBack reaches, joined and cut (its parts: wip) -/
import Derived.Deep.RegionHeld3
import Derived.Test.YtiollhmbdhepkaaGreatDoorVay
import Derived.Test.YtiollhmbdhepkaaGreatDoorVbb
namespace Go.Proofs.YtiollhmbdhepkaaGreatDoor
open Go.RowKit
set_option maxRecDepth 100000
theorem pmay_any (k c n:Int) (a:Option Addr) (m cp:Nat) (w:World):Calls Tryz.prog 55 #[.agg #[.int .u8 k,.int .i64 c,.int .i64 n,.slice a m cp]] w fun e w'=>e = .returned (.bool (mb k c n))∧Below w.heap.size w w':=by
 obtain ⟨W1,hW1⟩:∃W1,W1=w.alloc (.cells #[.int .u8 k,.int .i64 c,.int .i64 n,.slice a m cp] 51):=⟨_,rfl⟩
 have b1:Below w.heap.size w W1:=by rw [hW1];exact al_below _ _
 have g1:KB W1 w.heap.size k c n (.slice a m cp):=by rw [hW1];exact KB.new _ _ _ _ _
 have HB:Hid (Below w.heap.size w W1):=b1
 have HG:Hid (KB W1 w.heap.size k c n (.slice a m cp)):=g1
 obtain ⟨c0,c1,c2,c3⟩:=g1.kc
 have u1:=up_any c W1
 have u2:=up_any n W1
 unfold mb
 generalize (decide (0≤c)&&decide (c≤1099511627776))=B1 at u1 ⊢
 generalize (decide (0≤n)&&decide (n≤1099511627776))=B2 at u2 ⊢
 clear b1 g1
 by_cases hk:k≤1
 · have tk:decide (k≤1)=true:=by simp [hk]
   rw [tk]
   cases B1
   · go_enter Tryz.func55,Tryz.ntmps55
     go_upto_region 1 with fail
     rw [←hW1]
     clear hW1
     go_wp2_with fail
     refine u1.mono ?_
     rintro e w2 ⟨rfl,rfl⟩
     clear u1 u2
     go_wp2
     go_ret
     exact ⟨rfl,HB.out⟩
   · go_enter Tryz.func55,Tryz.ntmps55
     go_upto_region 1 with fail
     rw [←hW1]
     clear hW1
     go_wp2_with fail
     refine u1.mono ?_
     rintro e w2 ⟨rfl,rfl⟩
     clear u1
     go_wp2_with fail
     refine u2.mono ?_
     rintro e w2 ⟨rfl,rfl⟩
     clear u2
     go_wp2
     go_ret
     exact ⟨by simp,HB.out⟩
 · have tk:decide (k≤1)=false:=by simp;omega
   rw [tk]
   go_enter Tryz.func55,Tryz.ntmps55
   go_upto_region 1 with fail
   rw [←hW1]
   clear hW1
   clear u1 u2
   go_wp2
   go_ret
   exact ⟨by simp,HB.out⟩
set_option maxHeartbeats 4000000 in
theorem head_any (k c n:Int) (a:Option Addr) (m cp:Nat) (w:World) (hw:Fi.Wid w) (hk:0≤k∧k<256):Calls Tryz.prog 57 #[.agg #[.int .u8 k,.int .i64 c,.int .i64 n,.slice a m cp]] w fun e w'=>∃v,e = .returned v∧w'.ownsRow w.heap.size 5 1 v (hdL k c n).length ((hdL k c n).map (Value.int .u8))∧Below w.heap.size w w':=by
 obtain ⟨W1,hW1⟩:∃W1,W1=w.alloc (.cells #[.int .u8 k,.int .i64 c,.int .i64 n,.slice a m cp] 51):=⟨_,rfl⟩
 have b1:Below w.heap.size w W1:=by rw [hW1];exact al_below _ _
 have g1:KB W1 w.heap.size k c n (.slice a m cp):=by rw [hW1];exact KB.new _ _ _ _ _
 have HB:Hid (Below w.heap.size w W1):=b1
 have HG:Hid (KB W1 w.heap.size k c n (.slice a m cp)):=g1
 have FP:Hid (∀x,From W1 x→KB x w.heap.size k c n (.slice a m cp)):=fun x hx=>g1.kept hx
 have FW:Hid (∀x,From W1 x→Fi.Wid x):=fun x hx=>(hw.below b1 hw.pos).below hx (Nat.lt_of_lt_of_le hw.pos b1.size)
 have FB:Hid (∀x,From W1 x→Below w.heap.size w x):=fun x hx=>b1.trans (Below.mono hx b1.size)
 have HK:Hid (0≤k∧k<256):=hk
 have HLE:Hid ([k].length+((Fi.numB c).length+(Fi.numB n).length)≤200000000000000):=by unfold Hid;have:=numB_le c;have:=numB_le n;simp only [List.length_cons,List.length_nil];omega
 clear b1 g1 hw hk HB HG
 go_enter Tryz.func57,Tryz.ntmps57
 go_upto_region 1 with fail
 rw [←hW1]
 clear hW1
 go_wp2_with fail
 refine wp_region_held_drew (S:=From W1) (by kernel_rfl) ((Below.refl _ _).drew) (fun _=>?_)
 refine wpAnyH_on ((Below.refl _ _).drew) (fun u0 hu0 bu0=>?_)
 replace FP:=on FP bu0
 replace FW:=on FW bu0
 replace FB:=on FB bu0
 refine wpAnyH_take (i:=0) (oi:={ dst:=some 3,op:=Op.fieldAddr 51 (Operand.tmp 1) 0,type:=0,pos:="packet.go:119",after:=#[],guard:=none }) (v:=?vh1) rfl (by kernel_rfl) (by kernel_rfl) (by kernel_rfl) (fun _ _ _ h=>h) (Or.inl ⟨by rfl,?yh1⟩) (Below.refl _ _) ?rh1
 case yh1=>(intro w hSw;go_simp;try with_reducible rfl)
 try simp only [Act.put,List.setIfInBounds_toArray,List.set_cons_zero,List.set_cons_succ]
 refine wpAnyH_take (i:=1) (oi:={ dst:=some 4,op:=Op.load 5 (Operand.tmp 3),type:=5,pos:="packet.go:119",after:=#[{ on:=0,ground:=Ground.data }],guard:=none }) (v:=?vh2) rfl (by kernel_rfl) (by kernel_rfl) (by kernel_rfl) (fun _ _ _ h=>h) (Or.inl ⟨by rfl,?yh2⟩) (Below.refl _ _) ?rh2
 case yh2=>(intro w hSw;have t:=(FP.out w hSw).kc.c0;go_simp;try with_reducible rfl)
 try simp only [Act.put,List.setIfInBounds_toArray,List.set_cons_zero,List.set_cons_succ]
 refine wpAnyH_take (i:=3) (oi:={ dst:=some 6,op:=Op.fieldAddr 51 (Operand.tmp 1) 1,type:=0,pos:="packet.go:119",after:=#[],guard:=none }) (v:=?vh3) rfl (by kernel_rfl) (by kernel_rfl) (by kernel_rfl) (fun _ _ _ h=>h) (Or.inl ⟨by rfl,?yh3⟩) (Below.refl _ _) ?rh3
 case yh3=>(intro w hSw;go_simp;try with_reducible rfl)
 try simp only [Act.put,List.setIfInBounds_toArray,List.set_cons_zero,List.set_cons_succ]
 refine wpAnyH_take (i:=4) (oi:={ dst:=some 7,op:=Op.load 3 (Operand.tmp 6),type:=3,pos:="packet.go:119",after:=#[{ on:=3,ground:=Ground.data }],guard:=none }) (v:=?vh4) rfl (by kernel_rfl) (by kernel_rfl) (by kernel_rfl) (fun _ _ _ h=>h) (Or.inl ⟨by rfl,?yh4⟩) (Below.refl _ _) ?rh4
 case yh4=>(intro w hSw;have t:=(FP.out w hSw).kc.c1;go_simp;try with_reducible rfl)
 try simp only [Act.put,List.setIfInBounds_toArray,List.set_cons_zero,List.set_cons_succ]
 refine wpAnyH_take (i:=6) (oi:={ dst:=some 9,op:=Op.fieldAddr 51 (Operand.tmp 1) 2,type:=0,pos:="packet.go:119",after:=#[],guard:=none }) (v:=?vh5) rfl (by kernel_rfl) (by kernel_rfl) (by kernel_rfl) (fun _ _ _ h=>h) (Or.inl ⟨by rfl,?yh5⟩) (Below.refl _ _) ?rh5
 case yh5=>(intro w hSw;go_simp;try with_reducible rfl)
 try simp only [Act.put,List.setIfInBounds_toArray,List.set_cons_zero,List.set_cons_succ]
 refine wpAnyH_take (i:=7) (oi:={ dst:=some 10,op:=Op.load 3 (Operand.tmp 9),type:=3,pos:="packet.go:119",after:=#[{ on:=6,ground:=Ground.data }],guard:=none }) (v:=?vh6) rfl (by kernel_rfl) (by kernel_rfl) (by kernel_rfl) (fun _ _ _ h=>h) (Or.inl ⟨by rfl,?yh6⟩) (Below.refl _ _) ?rh6
 case yh6=>(intro w hSw;have t:=(FP.out w hSw).kc.c2;go_simp;try with_reducible rfl)
 try simp only [Act.put,List.setIfInBounds_toArray,List.set_cons_zero,List.set_cons_succ]
 refine wpAnyH_ready (rs:=[2,5]) (by kernel_rfl) (by simp) ?_
 refine AllReadyH.cons (o:={ dst:=some 5,op:=Op.buildSlice 34 1 #[(0,Operand.tmp 4)],type:=34,pos:="packet.go:119",after:=#[{ on:=1,ground:=Ground.data }],guard:=none }) rfl (fun KK hKK=>?_) ?_
 · go_simp
   refine hKK.out _ _ (al_below _ _) (fun _=>?_)
   clear hKK KK
   try simp only [Act.put,List.setIfInBounds_toArray,List.set_cons_zero,List.set_cons_succ]
   refine wpAnyH_on (al_below _ _) (fun u7 hu7 bu7=>?_)
   replace FP:=on FP bu7
   replace FW:=on FW bu7
   replace FB:=on FB bu7
   have F2:Hid (∀x,From u7 x→Sl x (.slice (some ⟨u0.heap.size,0,none⟩) 1 1) [k]):=fun x hx=>Sl.kept (by rw [hu7.out];exact (Pt.byte u0 k HK.out).1) hx
   refine wpAnyH_ready (rs:=[5]) (by kernel_rfl) (by simp) ?_
   refine AllReadyH.cons (o:={ dst:=some 8,op:=Op.call { callee:=Callee.value (Operand.func 77),args:=#[Operand.tmp 7],argTypes:=#[3] },type:=34,pos:="packet.go:119",after:=#[{ on:=4,ground:=Ground.data }],guard:=none }) rfl (fun KK hKK=>?_) ?_
   · go_simp
     refine (Fi.fnum_any c _ (FW.out _ (Below.refl _ _))).mono ?_
     rintro e u8' ⟨v5,rfl,s5,bu8'⟩
     obtain ⟨a5,q5,rfl,-⟩:=id s5
     (try go_wp2_with fail)
     refine hKK.out _ _ (bu8') (fun _=>?_)
     clear hKK KK
     try simp only [Act.put,List.setIfInBounds_toArray,List.set_cons_zero,List.set_cons_succ]
     refine wpAnyH_on (bu8') (fun u8 hu8 bu8=>?_)
     replace FP:=on FP bu8
     replace FW:=on FW bu8
     replace FB:=on FB bu8
     replace F2:=on F2 bu8
     have F5:Hid (∀x,From u8 x→Sl x (.slice a5 (Fi.numB c).length q5) (Fi.numB c)):=fun x hx=>by rw [hu8.out] at hx;exact Sl.kept s5 hx
     clear s5
     obtain ⟨l5,hl5⟩:∃l,l=(Fi.numB c).length:=⟨_,rfl⟩
     rw [←hl5] at F5 ⊢
     clear hl5
     refine wpAnyH_ready (rs:=[8]) (by kernel_rfl) (by simp) ?_
     refine AllReadyH.cons (o:={ dst:=some 11,op:=Op.call { callee:=Callee.value (Operand.func 77),args:=#[Operand.tmp 10],argTypes:=#[3] },type:=34,pos:="packet.go:119",after:=#[{ on:=7,ground:=Ground.data },{ on:=5,ground:=Ground.chain }],guard:=none }) rfl (fun KK hKK=>?_) ?_
     · go_simp
       refine (Fi.fnum_any n _ (FW.out _ (Below.refl _ _))).mono ?_
       rintro e u9' ⟨v8,rfl,s8,bu9'⟩
       obtain ⟨a8,q8,rfl,-⟩:=id s8
       (try go_wp2_with fail)
       refine hKK.out _ _ (bu9') (fun _=>?_)
       clear hKK KK
       try simp only [Act.put,List.setIfInBounds_toArray,List.set_cons_zero,List.set_cons_succ]
       refine wpAnyH_on (bu9') (fun u9 hu9 bu9=>?_)
       replace FP:=on FP bu9
       replace FW:=on FW bu9
       replace FB:=on FB bu9
       replace F2:=on F2 bu9
       replace F5:=on F5 bu9
       have F8:Hid (∀x,From u9 x→Sl x (.slice a8 (Fi.numB n).length q8) (Fi.numB n)):=fun x hx=>by rw [hu9.out] at hx;exact Sl.kept s8 hx
       clear s8
       obtain ⟨l8,hl8⟩:∃l,l=(Fi.numB n).length:=⟨_,rfl⟩
       rw [←hl8] at F8 ⊢
       clear hl8
       refine wpAnyH_ready (rs:=[9]) (by kernel_rfl) (by simp) ?_
       refine AllReadyH.cons (o:={ dst:=some 12,op:=Op.buildSlice 100 3 #[(0,Operand.tmp 5),(1,Operand.tmp 8),(2,Operand.tmp 11)],type:=100,pos:="packet.go:119",after:=#[{ on:=2,ground:=Ground.data },{ on:=5,ground:=Ground.data },{ on:=8,ground:=Ground.data }],guard:=none }) rfl (fun KK hKK=>?_) ?_
       · have FB0:Hid (Below w.heap.size w u9):=FB.out _ (Below.refl _ _)
         have pu10:=parts3 u9 _ _ _ [k] (Fi.numB c) (Fi.numB n) (F2.out _ (Below.refl _ _)) (F5.out _ (Below.refl _ _)) (F8.out _ (Below.refl _ _))
         go_simp
         refine hKK.out _ _ (al_below _ _) (fun _=>?_)
         clear hKK KK
         try simp only [Act.put,List.setIfInBounds_toArray,List.set_cons_zero,List.set_cons_succ]
         refine wpAnyH_on (al_below _ _) (fun u10 hu10 bu10=>?_)
         replace FP:=on FP bu10
         replace FW:=on FW bu10
         replace FB:=on FB bu10
         replace F2:=on F2 bu10
         replace F5:=on F5 bu10
         replace F8:=on F8 bu10
         have FPP:Hid (∀x,From u10 x→Parts x (some ⟨u9.heap.size,0,none⟩) [[k],Fi.numB c,Fi.numB n]):=fun x hx=>parts_kept (by rw [hu10.out];exact pu10) hx
         clear pu10
         refine wpAnyH_ready (rs:=[10]) (by kernel_rfl) (by simp) ?_
         refine AllReadyH.cons (o:={ dst:=some 13,op:=Op.call { callee:=Callee.value (Operand.func 58),args:=#[Operand.tmp 12],argTypes:=#[100] },type:=34,pos:="packet.go:119",after:=#[{ on:=9,ground:=Ground.data },{ on:=8,ground:=Ground.chain }],guard:=none }) rfl (fun KK hKK=>?_) ?_
         · go_simp
           refine (join3_any _ _ _ _ _ (FPP.out _ (Below.refl _ _)) HLE.out).mono ?_
           rintro e u11' ⟨v10,rfl,own10,bu11'⟩
           (try go_wp2_with fail)
           refine hKK.out _ _ (bu11') (fun _=>?_)
           clear hKK KK
           try simp only [Act.put,List.setIfInBounds_toArray,List.set_cons_zero,List.set_cons_succ]
           refine wpAnyH_on (bu11') (fun u11 hu11 bu11=>?_)
           replace FP:=on FP bu11
           replace FW:=on FW bu11
           replace FB:=on FB bu11
           replace F2:=on F2 bu11
           replace F5:=on F5 bu11
           replace F8:=on F8 bu11
           replace FPP:=on FPP bu11
           have O10:Hid (u11.ownsRow w.heap.size 5 1 v10 (hdL k c n).length ((hdL k c n).map (Value.int .u8))):=by unfold Hid;rw [hu11.out];exact own_mono own10 (Nat.le_trans FB0.out.size (by rw [hu10.out];simp))
           have B10:Hid (Below w.heap.size w u11):=FB.out _ (Below.refl _ _)
           clear own10
           refine wpAnyH_take (i:=11) (oi:={ dst:=some 2,op:=Op.assign (Operand.tmp 13),type:=34,pos:="packet.go:119",after:=#[{ on:=10,ground:=Ground.data },{ on:=10,ground:=Ground.chain },{ on:=0,ground:=Ground.phase },{ on:=1,ground:=Ground.phase },{ on:=2,ground:=Ground.phase },{ on:=3,ground:=Ground.phase },{ on:=4,ground:=Ground.phase },{ on:=5,ground:=Ground.phase },{ on:=6,ground:=Ground.phase },{ on:=7,ground:=Ground.phase },{ on:=8,ground:=Ground.phase },{ on:=9,ground:=Ground.phase },{ on:=10,ground:=Ground.phase }],guard:=none }) (v:=?vh12) rfl (by kernel_rfl) (by kernel_rfl) (by kernel_rfl) (fun _ _ _ h=>h) (Or.inl ⟨by rfl,?yh12⟩) (Below.refl _ _) ?rh12
           case yh12=>(intro w hSw;go_simp;try with_reducible rfl)
           try simp only [Act.put,List.setIfInBounds_toArray,List.set_cons_zero,List.set_cons_succ]
           refine wpAnyH_done (by kernel_rfl) ?_ _
           go_wp2
           go_ret
           exact ⟨_,rfl,O10.out,B10.out⟩
         exact AllReadyH.nil
       exact AllReadyH.nil
     exact AllReadyH.nil
   exact AllReadyH.nil
 refine AllReadyH.cons (o:={ dst:=some 8,op:=Op.call { callee:=Callee.value (Operand.func 77),args:=#[Operand.tmp 7],argTypes:=#[3] },type:=34,pos:="packet.go:119",after:=#[{ on:=4,ground:=Ground.data }],guard:=none }) rfl (fun KK hKK=>?_) ?_
 · go_simp
   refine (Fi.fnum_any c _ (FW.out _ (Below.refl _ _))).mono ?_
   rintro e u13' ⟨v5,rfl,s5,bu13'⟩
   obtain ⟨a5,q5,rfl,-⟩:=id s5
   (try go_wp2_with fail)
   refine hKK.out _ _ (bu13') (fun _=>?_)
   clear hKK KK
   try simp only [Act.put,List.setIfInBounds_toArray,List.set_cons_zero,List.set_cons_succ]
   refine wpAnyH_on (bu13') (fun u13 hu13 bu13=>?_)
   replace FP:=on FP bu13
   replace FW:=on FW bu13
   replace FB:=on FB bu13
   have F5:Hid (∀x,From u13 x→Sl x (.slice a5 (Fi.numB c).length q5) (Fi.numB c)):=fun x hx=>by rw [hu13.out] at hx;exact Sl.kept s5 hx
   clear s5
   obtain ⟨l5,hl5⟩:∃l,l=(Fi.numB c).length:=⟨_,rfl⟩
   rw [←hl5] at F5 ⊢
   clear hl5
   refine wpAnyH_ready (rs:=[2,8]) (by kernel_rfl) (by simp) ?_
   refine AllReadyH.cons (o:={ dst:=some 5,op:=Op.buildSlice 34 1 #[(0,Operand.tmp 4)],type:=34,pos:="packet.go:119",after:=#[{ on:=1,ground:=Ground.data }],guard:=none }) rfl (fun KK hKK=>?_) ?_
   · go_simp
     refine hKK.out _ _ (al_below _ _) (fun _=>?_)
     clear hKK KK
     try simp only [Act.put,List.setIfInBounds_toArray,List.set_cons_zero,List.set_cons_succ]
     refine wpAnyH_on (al_below _ _) (fun u14 hu14 bu14=>?_)
     replace FP:=on FP bu14
     replace FW:=on FW bu14
     replace FB:=on FB bu14
     replace F5:=on F5 bu14
     have F2:Hid (∀x,From u14 x→Sl x (.slice (some ⟨u13.heap.size,0,none⟩) 1 1) [k]):=fun x hx=>Sl.kept (by rw [hu14.out];exact (Pt.byte u13 k HK.out).1) hx
     refine wpAnyH_ready (rs:=[8]) (by kernel_rfl) (by simp) ?_
     refine AllReadyH.cons (o:={ dst:=some 11,op:=Op.call { callee:=Callee.value (Operand.func 77),args:=#[Operand.tmp 10],argTypes:=#[3] },type:=34,pos:="packet.go:119",after:=#[{ on:=7,ground:=Ground.data },{ on:=5,ground:=Ground.chain }],guard:=none }) rfl (fun KK hKK=>?_) ?_
     · go_simp
       refine (Fi.fnum_any n _ (FW.out _ (Below.refl _ _))).mono ?_
       rintro e u15' ⟨v8,rfl,s8,bu15'⟩
       obtain ⟨a8,q8,rfl,-⟩:=id s8
       (try go_wp2_with fail)
       refine hKK.out _ _ (bu15') (fun _=>?_)
       clear hKK KK
       try simp only [Act.put,List.setIfInBounds_toArray,List.set_cons_zero,List.set_cons_succ]
       refine wpAnyH_on (bu15') (fun u15 hu15 bu15=>?_)
       replace FP:=on FP bu15
       replace FW:=on FW bu15
       replace FB:=on FB bu15
       replace F5:=on F5 bu15
       replace F2:=on F2 bu15
       have F8:Hid (∀x,From u15 x→Sl x (.slice a8 (Fi.numB n).length q8) (Fi.numB n)):=fun x hx=>by rw [hu15.out] at hx;exact Sl.kept s8 hx
       clear s8
       obtain ⟨l8,hl8⟩:∃l,l=(Fi.numB n).length:=⟨_,rfl⟩
       rw [←hl8] at F8 ⊢
       clear hl8
       refine wpAnyH_ready (rs:=[9]) (by kernel_rfl) (by simp) ?_
       refine AllReadyH.cons (o:={ dst:=some 12,op:=Op.buildSlice 100 3 #[(0,Operand.tmp 5),(1,Operand.tmp 8),(2,Operand.tmp 11)],type:=100,pos:="packet.go:119",after:=#[{ on:=2,ground:=Ground.data },{ on:=5,ground:=Ground.data },{ on:=8,ground:=Ground.data }],guard:=none }) rfl (fun KK hKK=>?_) ?_
       · have FB0:Hid (Below w.heap.size w u15):=FB.out _ (Below.refl _ _)
         have pu16:=parts3 u15 _ _ _ [k] (Fi.numB c) (Fi.numB n) (F2.out _ (Below.refl _ _)) (F5.out _ (Below.refl _ _)) (F8.out _ (Below.refl _ _))
         go_simp
         refine hKK.out _ _ (al_below _ _) (fun _=>?_)
         clear hKK KK
         try simp only [Act.put,List.setIfInBounds_toArray,List.set_cons_zero,List.set_cons_succ]
         refine wpAnyH_on (al_below _ _) (fun u16 hu16 bu16=>?_)
         replace FP:=on FP bu16
         replace FW:=on FW bu16
         replace FB:=on FB bu16
         replace F5:=on F5 bu16
         replace F2:=on F2 bu16
         replace F8:=on F8 bu16
         have FPP:Hid (∀x,From u16 x→Parts x (some ⟨u15.heap.size,0,none⟩) [[k],Fi.numB c,Fi.numB n]):=fun x hx=>parts_kept (by rw [hu16.out];exact pu16) hx
         clear pu16
         refine wpAnyH_ready (rs:=[10]) (by kernel_rfl) (by simp) ?_
         refine AllReadyH.cons (o:={ dst:=some 13,op:=Op.call { callee:=Callee.value (Operand.func 58),args:=#[Operand.tmp 12],argTypes:=#[100] },type:=34,pos:="packet.go:119",after:=#[{ on:=9,ground:=Ground.data },{ on:=8,ground:=Ground.chain }],guard:=none }) rfl (fun KK hKK=>?_) ?_
         · go_simp
           refine (join3_any _ _ _ _ _ (FPP.out _ (Below.refl _ _)) HLE.out).mono ?_
           rintro e u17' ⟨v10,rfl,own10,bu17'⟩
           (try go_wp2_with fail)
           refine hKK.out _ _ (bu17') (fun _=>?_)
           clear hKK KK
           try simp only [Act.put,List.setIfInBounds_toArray,List.set_cons_zero,List.set_cons_succ]
           refine wpAnyH_on (bu17') (fun u17 hu17 bu17=>?_)
           replace FP:=on FP bu17
           replace FW:=on FW bu17
           replace FB:=on FB bu17
           replace F5:=on F5 bu17
           replace F2:=on F2 bu17
           replace F8:=on F8 bu17
           replace FPP:=on FPP bu17
           have O10:Hid (u17.ownsRow w.heap.size 5 1 v10 (hdL k c n).length ((hdL k c n).map (Value.int .u8))):=by unfold Hid;rw [hu17.out];exact own_mono own10 (Nat.le_trans FB0.out.size (by rw [hu16.out];simp))
           have B10:Hid (Below w.heap.size w u17):=FB.out _ (Below.refl _ _)
           clear own10
           refine wpAnyH_take (i:=11) (oi:={ dst:=some 2,op:=Op.assign (Operand.tmp 13),type:=34,pos:="packet.go:119",after:=#[{ on:=10,ground:=Ground.data },{ on:=10,ground:=Ground.chain },{ on:=0,ground:=Ground.phase },{ on:=1,ground:=Ground.phase },{ on:=2,ground:=Ground.phase },{ on:=3,ground:=Ground.phase },{ on:=4,ground:=Ground.phase },{ on:=5,ground:=Ground.phase },{ on:=6,ground:=Ground.phase },{ on:=7,ground:=Ground.phase },{ on:=8,ground:=Ground.phase },{ on:=9,ground:=Ground.phase },{ on:=10,ground:=Ground.phase }],guard:=none }) (v:=?vh18) rfl (by kernel_rfl) (by kernel_rfl) (by kernel_rfl) (fun _ _ _ h=>h) (Or.inl ⟨by rfl,?yh18⟩) (Below.refl _ _) ?rh18
           case yh18=>(intro w hSw;go_simp;try with_reducible rfl)
           try simp only [Act.put,List.setIfInBounds_toArray,List.set_cons_zero,List.set_cons_succ]
           refine wpAnyH_done (by kernel_rfl) ?_ _
           go_wp2
           go_ret
           exact ⟨_,rfl,O10.out,B10.out⟩
         exact AllReadyH.nil
       exact AllReadyH.nil
     exact AllReadyH.nil
   refine AllReadyH.cons (o:={ dst:=some 11,op:=Op.call { callee:=Callee.value (Operand.func 77),args:=#[Operand.tmp 10],argTypes:=#[3] },type:=34,pos:="packet.go:119",after:=#[{ on:=7,ground:=Ground.data },{ on:=5,ground:=Ground.chain }],guard:=none }) rfl (fun KK hKK=>?_) ?_
   · go_simp
     refine (Fi.fnum_any n _ (FW.out _ (Below.refl _ _))).mono ?_
     rintro e u19' ⟨v8,rfl,s8,bu19'⟩
     obtain ⟨a8,q8,rfl,-⟩:=id s8
     (try go_wp2_with fail)
     refine hKK.out _ _ (bu19') (fun _=>?_)
     clear hKK KK
     try simp only [Act.put,List.setIfInBounds_toArray,List.set_cons_zero,List.set_cons_succ]
     refine wpAnyH_on (bu19') (fun u19 hu19 bu19=>?_)
     replace FP:=on FP bu19
     replace FW:=on FW bu19
     replace FB:=on FB bu19
     replace F5:=on F5 bu19
     have F8:Hid (∀x,From u19 x→Sl x (.slice a8 (Fi.numB n).length q8) (Fi.numB n)):=fun x hx=>by rw [hu19.out] at hx;exact Sl.kept s8 hx
     clear s8
     obtain ⟨l8,hl8⟩:∃l,l=(Fi.numB n).length:=⟨_,rfl⟩
     rw [←hl8] at F8 ⊢
     clear hl8
     refine wpAnyH_ready (rs:=[2]) (by kernel_rfl) (by simp) ?_
     refine AllReadyH.cons (o:={ dst:=some 5,op:=Op.buildSlice 34 1 #[(0,Operand.tmp 4)],type:=34,pos:="packet.go:119",after:=#[{ on:=1,ground:=Ground.data }],guard:=none }) rfl (fun KK hKK=>?_) ?_
     · go_simp
       refine hKK.out _ _ (al_below _ _) (fun _=>?_)
       clear hKK KK
       try simp only [Act.put,List.setIfInBounds_toArray,List.set_cons_zero,List.set_cons_succ]
       refine wpAnyH_on (al_below _ _) (fun u20 hu20 bu20=>?_)
       replace FP:=on FP bu20
       replace FW:=on FW bu20
       replace FB:=on FB bu20
       replace F5:=on F5 bu20
       replace F8:=on F8 bu20
       have F2:Hid (∀x,From u20 x→Sl x (.slice (some ⟨u19.heap.size,0,none⟩) 1 1) [k]):=fun x hx=>Sl.kept (by rw [hu20.out];exact (Pt.byte u19 k HK.out).1) hx
       refine wpAnyH_ready (rs:=[9]) (by kernel_rfl) (by simp) ?_
       refine AllReadyH.cons (o:={ dst:=some 12,op:=Op.buildSlice 100 3 #[(0,Operand.tmp 5),(1,Operand.tmp 8),(2,Operand.tmp 11)],type:=100,pos:="packet.go:119",after:=#[{ on:=2,ground:=Ground.data },{ on:=5,ground:=Ground.data },{ on:=8,ground:=Ground.data }],guard:=none }) rfl (fun KK hKK=>?_) ?_
       · have FB0:Hid (Below w.heap.size w u20):=FB.out _ (Below.refl _ _)
         have pu21:=parts3 u20 _ _ _ [k] (Fi.numB c) (Fi.numB n) (F2.out _ (Below.refl _ _)) (F5.out _ (Below.refl _ _)) (F8.out _ (Below.refl _ _))
         go_simp
         refine hKK.out _ _ (al_below _ _) (fun _=>?_)
         clear hKK KK
         try simp only [Act.put,List.setIfInBounds_toArray,List.set_cons_zero,List.set_cons_succ]
         refine wpAnyH_on (al_below _ _) (fun u21 hu21 bu21=>?_)
         replace FP:=on FP bu21
         replace FW:=on FW bu21
         replace FB:=on FB bu21
         replace F5:=on F5 bu21
         replace F8:=on F8 bu21
         replace F2:=on F2 bu21
         have FPP:Hid (∀x,From u21 x→Parts x (some ⟨u20.heap.size,0,none⟩) [[k],Fi.numB c,Fi.numB n]):=fun x hx=>parts_kept (by rw [hu21.out];exact pu21) hx
         clear pu21
         refine wpAnyH_ready (rs:=[10]) (by kernel_rfl) (by simp) ?_
         refine AllReadyH.cons (o:={ dst:=some 13,op:=Op.call { callee:=Callee.value (Operand.func 58),args:=#[Operand.tmp 12],argTypes:=#[100] },type:=34,pos:="packet.go:119",after:=#[{ on:=9,ground:=Ground.data },{ on:=8,ground:=Ground.chain }],guard:=none }) rfl (fun KK hKK=>?_) ?_
         · go_simp
           refine (join3_any _ _ _ _ _ (FPP.out _ (Below.refl _ _)) HLE.out).mono ?_
           rintro e u22' ⟨v10,rfl,own10,bu22'⟩
           (try go_wp2_with fail)
           refine hKK.out _ _ (bu22') (fun _=>?_)
           clear hKK KK
           try simp only [Act.put,List.setIfInBounds_toArray,List.set_cons_zero,List.set_cons_succ]
           refine wpAnyH_on (bu22') (fun u22 hu22 bu22=>?_)
           replace FP:=on FP bu22
           replace FW:=on FW bu22
           replace FB:=on FB bu22
           replace F5:=on F5 bu22
           replace F8:=on F8 bu22
           replace F2:=on F2 bu22
           replace FPP:=on FPP bu22
           have O10:Hid (u22.ownsRow w.heap.size 5 1 v10 (hdL k c n).length ((hdL k c n).map (Value.int .u8))):=by unfold Hid;rw [hu22.out];exact own_mono own10 (Nat.le_trans FB0.out.size (by rw [hu21.out];simp))
           have B10:Hid (Below w.heap.size w u22):=FB.out _ (Below.refl _ _)
           clear own10
           refine wpAnyH_take (i:=11) (oi:={ dst:=some 2,op:=Op.assign (Operand.tmp 13),type:=34,pos:="packet.go:119",after:=#[{ on:=10,ground:=Ground.data },{ on:=10,ground:=Ground.chain },{ on:=0,ground:=Ground.phase },{ on:=1,ground:=Ground.phase },{ on:=2,ground:=Ground.phase },{ on:=3,ground:=Ground.phase },{ on:=4,ground:=Ground.phase },{ on:=5,ground:=Ground.phase },{ on:=6,ground:=Ground.phase },{ on:=7,ground:=Ground.phase },{ on:=8,ground:=Ground.phase },{ on:=9,ground:=Ground.phase },{ on:=10,ground:=Ground.phase }],guard:=none }) (v:=?vh23) rfl (by kernel_rfl) (by kernel_rfl) (by kernel_rfl) (fun _ _ _ h=>h) (Or.inl ⟨by rfl,?yh23⟩) (Below.refl _ _) ?rh23
           case yh23=>(intro w hSw;go_simp;try with_reducible rfl)
           try simp only [Act.put,List.setIfInBounds_toArray,List.set_cons_zero,List.set_cons_succ]
           refine wpAnyH_done (by kernel_rfl) ?_ _
           go_wp2
           go_ret
           exact ⟨_,rfl,O10.out,B10.out⟩
         exact AllReadyH.nil
       exact AllReadyH.nil
     exact AllReadyH.nil
   exact AllReadyH.nil
 exact AllReadyH.nil
theorem room_any (k c n:Int) (a:Option Addr) (m cp:Nat) (w:World) (hw:Fi.Wid w) (hk:0≤k∧k<256):Calls Tryz.prog 21 #[.agg #[.int .u8 k,.int .i64 c,.int .i64 n,.slice a m cp]] w fun e w'=>e = .returned (.int .i64 (rmI k c n))∧Below w.heap.size w w':=by
 obtain ⟨W1,hW1⟩:∃W1,W1=w.alloc (.cells #[.int .u8 k,.int .i64 c,.int .i64 n,.slice a m cp] 51):=⟨_,rfl⟩
 have b1:Below w.heap.size w W1:=by rw [hW1];exact al_below _ _
 have g1:KB W1 w.heap.size k c n (.slice a m cp):=by rw [hW1];exact KB.new _ _ _ _ _
 have HB:Hid (Below w.heap.size w W1):=b1
 have HG:Hid (KB W1 w.heap.size k c n (.slice a m cp)):=g1
 have cm:=pmay_any k c n a m cp W1
 have HW:Hid (Fi.Wid W1):=hw.below b1 hw.pos
 have HK:Hid (0≤k∧k<256):=hk
 clear b1 g1 hw hk
 cases hm:mb k c n
 · rw [hm] at cm
   rw [rmI_no hm]
   go_enter Tryz.func21,Tryz.ntmps21
   go_upto_region 1 with fail
   rw [←hW1]
   clear hW1
   go_wp2_with (refine wpList_load_row rfl 51 _ rfl w.heap.size rfl 51 #[.int .u8 k,.int .i64 c,.int .i64 n,.slice a m cp] (0,0) _ HG.out Tryz.underlying51 rfl infoK ?_)
   refine cm.mono ?_
   rintro e w2 ⟨rfl,b2⟩
   have HB2:Hid (Below w.heap.size w w2):=HB.out.trans (b2.mono HB.out.size)
   clear b2 cm
   go_wp2
   go_ret
   exact ⟨rfl,HB2.out⟩
 · rw [hm] at cm
   obtain ⟨hl,hhl⟩:∃hl,hl=(hdL k c n).length:=⟨_,rfl⟩
   obtain ⟨R,hR⟩:∃R:Int,R=1184-(hl:Int):=⟨_,rfl⟩
   have l1:=hdL_le k c n
   rw [rmI_yes hm,←hhl,←hR]
   rw [←hhl] at l1
   go_enter Tryz.func21,Tryz.ntmps21
   go_upto_region 1 with fail
   rw [←hW1]
   clear hW1
   go_wp2_with (refine wpList_load_row rfl 51 _ rfl w.heap.size rfl 51 #[.int .u8 k,.int .i64 c,.int .i64 n,.slice a m cp] (0,0) _ HG.out Tryz.underlying51 rfl infoK ?_)
   refine cm.mono ?_
   rintro e w2 ⟨rfl,b2⟩
   have HB2:Hid (Below w.heap.size w w2):=HB.out.trans (b2.mono HB.out.size)
   have HG2:Hid (KB w2 w.heap.size k c n (.slice a m cp)):=HG.out.kept b2
   have ch:=head_any k c n a m cp w2 (HW.out.below b2 HW.out.pos) HK.out
   clear b2 cm HB HG HW
   go_wp2_with (refine wpList_load_row rfl 51 _ rfl w.heap.size rfl 51 #[.int .u8 k,.int .i64 c,.int .i64 n,.slice a m cp] (0,0) _ HG2.out Tryz.underlying51 rfl infoK ?_)
   refine ch.mono ?_
   rintro e w3 ⟨v3,rfl,o3,b3⟩
   have HB3:Hid (Below w.heap.size w w3):=HB2.out.trans (b3.mono HB2.out.size)
   obtain ⟨a3,q3,rfl,-⟩:=sl_owned o3 (hdL_byt HK.out.1 HK.out.2)
   rw [←hhl]
   have k1:=wrP (x:=1200-(hl:Int)) (by omega) (by omega)
   have k2:IntKind.i64.wrap (1200-(hl:Int)-16)=R:=by rw [wrP (by omega) (by omega)];omega
   clear b3 ch o3 HB2 HG2 hhl hR l1
   go_wp2
   go_ret
   exact ⟨rfl,HB3.out⟩
set_option maxHeartbeats 4000000 in
theorem isLong_any (k c n:Int) (a:Option Addr) (m cp:Nat) (w:World) (hw:Fi.Wid w) (hk:0≤k∧k<256):Calls Tryz.prog 56 #[.agg #[.int .u8 k,.int .i64 c,.int .i64 n,.slice a m cp]] w fun e w'=>e = .returned (.bool (decide (rmI k c n<(m:Int))))∧Below w.heap.size w w':=by
 obtain ⟨W1,hW1⟩:∃W1,W1=w.alloc (.cells #[.int .u8 k,.int .i64 c,.int .i64 n,.slice a m cp] 51):=⟨_,rfl⟩
 have b1:Below w.heap.size w W1:=by rw [hW1];exact al_below _ _
 have g1:KB W1 w.heap.size k c n (.slice a m cp):=by rw [hW1];exact KB.new _ _ _ _ _
 have HB:Hid (Below w.heap.size w W1):=b1
 have HG:Hid (KB W1 w.heap.size k c n (.slice a m cp)):=g1
 have cr:=room_any k c n a m cp
 obtain ⟨R,hR⟩:∃R,R=rmI k c n:=⟨_,rfl⟩
 rw [←hR] at cr ⊢
 clear hR
 have FP:Hid (∀x,From W1 x→KB x w.heap.size k c n (.slice a m cp)):=fun x hx=>g1.kept hx
 have FW:Hid (∀x,From W1 x→Fi.Wid x):=fun x hx=>(hw.below b1 hw.pos).below hx (Nat.lt_of_lt_of_le hw.pos b1.size)
 have FB:Hid (∀x,From W1 x→Below w.heap.size w x):=fun x hx=>b1.trans (Below.mono hx b1.size)
 have HK:Hid (0≤k∧k<256):=hk
 clear b1 g1 hw hk HB HG
 go_enter Tryz.func56,Tryz.ntmps56
 go_upto_region 1 with fail
 rw [←hW1]
 clear hW1
 go_wp2_with fail
 refine wp_region_held_drew (S:=From W1) (by kernel_rfl) ((Below.refl _ _).drew) (fun _=>?_)
 refine wpAnyH_on ((Below.refl _ _).drew) (fun u0 hu0 bu0=>?_)
 replace FP:=on FP bu0
 replace FW:=on FW bu0
 replace FB:=on FB bu0
 refine wpAnyH_take (i:=0) (oi:={ dst:=some 3,op:=Op.fieldAddr 51 (Operand.tmp 1) 3,type:=0,pos:="packet.go:114",after:=#[],guard:=none }) (v:=?vl1) rfl (by kernel_rfl) (by kernel_rfl) (by kernel_rfl) (fun _ _ _ h=>h) (Or.inl ⟨by rfl,?yl1⟩) (Below.refl _ _) ?rl1
 case yl1=>(intro w hSw;go_simp;try with_reducible rfl)
 try simp only [Act.put,List.setIfInBounds_toArray,List.set_cons_zero,List.set_cons_succ]
 refine wpAnyH_take (i:=1) (oi:={ dst:=some 4,op:=Op.load 34 (Operand.tmp 3),type:=34,pos:="packet.go:114",after:=#[{ on:=0,ground:=Ground.data }],guard:=none }) (v:=?vl2) rfl (by kernel_rfl) (by kernel_rfl) (by kernel_rfl) (fun _ _ _ h=>h) (Or.inl ⟨by rfl,?yl2⟩) (Below.refl _ _) ?rl2
 case yl2=>(intro w hSw;have t:=(FP.out w hSw).kc.c3;go_simp;try with_reducible rfl)
 try simp only [Act.put,List.setIfInBounds_toArray,List.set_cons_zero,List.set_cons_succ]
 refine wpAnyH_take (i:=2) (oi:={ dst:=some 5,op:=Op.call { callee:=Callee.builtin Builtin.len,args:=#[Operand.tmp 4],argTypes:=#[34] },type:=3,pos:="packet.go:114",after:=#[{ on:=1,ground:=Ground.data }],guard:=none }) (v:=?vl3) rfl (by kernel_rfl) (by kernel_rfl) (by kernel_rfl) (fun _ _ _ h=>h) (Or.inl ⟨by rfl,?yl3⟩) (Below.refl _ _) ?rl3
 case yl3=>(intro w hSw;go_simp;try with_reducible rfl)
 try simp only [Act.put,List.setIfInBounds_toArray,List.set_cons_zero,List.set_cons_succ]
 refine wpAnyH_take (i:=3) (oi:={ dst:=some 6,op:=Op.load 51 (Operand.tmp 1),type:=51,pos:="packet.go:114",after:=#[],guard:=none }) (v:=.agg #[.int .u8 k,.int .i64 c,.int .i64 n,.slice a m cp]) rfl (by kernel_rfl) (by kernel_rfl) (by kernel_rfl) (fun _ _ _ h=>h) (yieldsIf_load_mid (by rfl) _ _ rfl w.heap.size 0 rfl _ _ (fun x h=>blk_range (FP.out x h)) Tryz.underlying51 rfl infoK) (Below.refl _ _) ?_
 try simp only [Act.put,List.setIfInBounds_toArray,List.set_cons_zero,List.set_cons_succ]
 refine wpAnyH_ready (rs:=[4]) (by kernel_rfl) (by simp) ?_
 refine AllReadyH.cons (o:={ dst:=some 7,op:=Op.call { callee:=Callee.value (Operand.func 21),args:=#[Operand.tmp 6],argTypes:=#[51] },type:=3,pos:="packet.go:114",after:=#[{ on:=3,ground:=Ground.data }],guard:=none }) rfl (fun KK hKK=>?_) ?_
 · go_simp
   refine (cr _ (FW.out _ (Below.refl _ _)) HK.out).mono ?_
   rintro e u5' ⟨rfl,bu5'⟩
   (try go_wp2_with fail)
   refine hKK.out _ _ (bu5') (fun _=>?_)
   clear hKK KK
   try simp only [Act.put,List.setIfInBounds_toArray,List.set_cons_zero,List.set_cons_succ]
   refine wpAnyH_on (bu5') (fun u5 hu5 bu5=>?_)
   replace FP:=on FP bu5
   replace FW:=on FW bu5
   replace FB:=on FB bu5
   have B4:Hid (Below w.heap.size w u5):=FB.out _ (Below.refl _ _)
   refine wpAnyH_take (i:=5) (oi:={ dst:=some 8,op:=Op.binOp BinOp.gtr 3 (Operand.tmp 5) (Operand.tmp 7) 3,type:=4,pos:="packet.go:114",after:=#[{ on:=2,ground:=Ground.data },{ on:=4,ground:=Ground.data }],guard:=none }) (v:=?vl6) rfl (by kernel_rfl) (by kernel_rfl) (by kernel_rfl) (fun _ _ _ h=>h) (Or.inl ⟨by rfl,?yl6⟩) (Below.refl _ _) ?rl6
   case yl6=>(intro w hSw;go_simp;try with_reducible rfl)
   try simp only [Act.put,List.setIfInBounds_toArray,List.set_cons_zero,List.set_cons_succ]
   refine wpAnyH_take (i:=6) (oi:={ dst:=some 2,op:=Op.assign (Operand.tmp 8),type:=4,pos:="packet.go:114",after:=#[{ on:=5,ground:=Ground.data },{ on:=4,ground:=Ground.chain },{ on:=0,ground:=Ground.phase },{ on:=1,ground:=Ground.phase },{ on:=2,ground:=Ground.phase },{ on:=3,ground:=Ground.phase },{ on:=4,ground:=Ground.phase },{ on:=5,ground:=Ground.phase }],guard:=none }) (v:=?vl7) rfl (by kernel_rfl) (by kernel_rfl) (by kernel_rfl) (fun _ _ _ h=>h) (Or.inl ⟨by rfl,?yl7⟩) (Below.refl _ _) ?rl7
   case yl7=>(intro w hSw;go_simp;try with_reducible rfl)
   try simp only [Act.put,List.setIfInBounds_toArray,List.set_cons_zero,List.set_cons_succ]
   refine wpAnyH_done (by kernel_rfl) ?_ _
   go_wp2
   go_ret
   exact ⟨rfl,B4.out⟩
 exact AllReadyH.nil
end Go.Proofs.YtiollhmbdhepkaaGreatDoor
namespace Go.Proofs.YtiollhmbdhepkaaGreatDoor
open Go.RowKit Go.Proofs.YtiollhmbdhepkaaGreatDoor.Sh
set_option maxRecDepth 100000
def selE (k c n:Int) (m:Nat):Int:=if mb k c n=false then 2 else if rmI k c n<(m:Int) then 5 else 0
def selL (K:List Int) (k c n:Int) (X:List Int):List Int:=if selE k c n X.length=0 then hdL k c n++(X++Mc.btag K (hdL k c n) X) else []
theorem selE_cases (k c n:Int) (m:Nat):(mb k c n=false∧selE k c n m=2)∨(mb k c n=true∧rmI k c n<(m:Int)∧selE k c n m=5)∨(mb k c n=true∧(m:Int)≤rmI k c n∧selE k c n m=0):=by
 unfold selE
 cases mb k c n
 · exact .inl ⟨rfl,by simp⟩
 · by_cases h:rmI k c n<(m:Int)
   · exact .inr (.inl ⟨rfl,h,by simp [h]⟩)
   · exact .inr (.inr ⟨rfl,by omega,by simp [h]⟩)
theorem selL_no {K:List Int} {k c n:Int} {X:List Int} (h:selE k c n X.length≠0):selL K k c n X=[]:=by unfold selL;rw [if_neg h]
theorem selL_yes {K:List Int} {k c n:Int} {X:List Int} (h:selE k c n X.length=0):selL K k c n X=hdL k c n++(X++Mc.btag K (hdL k c n) X):=by unfold selL;rw [if_pos h]
set_option maxHeartbeats 8000000 in
theorem pseal_any (K:List Int) (k c n:Int) (a:Option Addr) (m cp:Nat) (X:List Int) (w:World) (ht:Mc.Tabs w) (hK:K.length=32) (hKb:Pl.Byt K) (hk:0≤k∧k<256) (sx:Sl w (.slice a m cp) X) (hm:m=X.length) :
 Calls Tryz.prog 19 #[.agg (u8s K),.agg #[.int .u8 k,.int .i64 c,.int .i64 n,.slice a m cp]] w fun e w'=>∃v,e = .returned (.tuple #[v,.int .i64 (selE k c n X.length)])∧w'.ownsRow w.heap.size 5 1 v (selL K k c n X).length ((selL K k c n X).map (Value.int .u8))∧Below w.heap.size w w':=by
 obtain ⟨W1,hW1⟩:∃W1,W1=w.alloc (.cells (u8s K) 47):=⟨_,rfl⟩
 obtain ⟨W2,hW2⟩:∃W2,W2=W1.alloc (.cells #[.int .u8 k,.int .i64 c,.int .i64 n,.slice a m cp] 51):=⟨_,rfl⟩
 have b1:Below w.heap.size w W1:=by rw [hW1];exact al_below _ _
 have z1:W1.heap.size=w.heap.size+1:=by rw [hW1];simp
 have b12:Below W1.heap.size W1 W2:=by rw [hW2];exact al_below _ _
 have b2:Below w.heap.size w W2:=b1.trans (b12.mono b1.size)
 have g2:KB W2 (w.heap.size+1) k c n (.slice a m cp):=by rw [←z1,hW2];exact KB.new _ _ _ _ _
 have hg1:W1.heap[w.heap.size]? = some (.cells (u8s K) 47 (0,0)):=by rw [hW1];exact heap_alloc_new _ _
 have HB:Hid (Below w.heap.size w W2):=b2
 have HG:Hid (KB W2 (w.heap.size+1) k c n (.slice a m cp)):=g2
 have HK1:Hid (W2.heap[w.heap.size]? = some (.cells (u8s K) 47 (0,0))):=blk_kept hg1 b12 (blk_lt hg1)
 have HT:Hid (Mc.Tabs W2):=ht.kept b2
 have HS:Hid (Sl W2 (.slice a m cp) X):=sx.kept b2
 have HI:Hid ((Tryz.prog.info? 47).map (·.size)=some (u8s K).size):=by unfold Hid;rw [u8s_size,hK];exact size26
 have HKK:Hid (K.length=32∧Pl.Byt K):=⟨hK,hKb⟩
 have HKK2:Hid (0≤k∧k<256):=hk
 have cm:=pmay_any k c n a m cp W2
 have hW2':W2=(w.alloc (.cells (u8s K) 47)).alloc (.cells #[.int .u8 k,.int .i64 c,.int .i64 n,.slice a m cp] 51):=by rw [hW2,hW1]
 clear hW2 b1 b12 b2 g2 hg1 z1 ht sx hK hKb hk
 have hW2:=hW2'
 clear hW2' hW1
 rw [←hm]
 have HM:Hid (m=X.length):=hm
 clear hm
 rcases selE_cases k c n m with ⟨q1,q2⟩ | ⟨q1,q3,q2⟩ | ⟨q1,q3,q2⟩
 · rw [q2,selL_no (by rw [←HM.out,q2];decide)]
   rw [q1] at cm
   clear q1 q2
   generalize hku:u8s K=KU at *
   clear hku
   go_enter Tryz.func19,Tryz.ntmps19
   go_upto_region 1 with fail
   rw [←hW2]
   clear hW2
   go_wp2_with (refine wpList_load_row rfl 51 _ rfl (w.heap.size+1) rfl 51 #[.int .u8 k,.int .i64 c,.int .i64 n,.slice a m cp] (0,0) _ HG.out Tryz.underlying51 rfl infoK ?_)
   refine cm.mono ?_
   rintro e w3 ⟨rfl,b3⟩
   have HB3:Hid (Below w.heap.size w w3):=HB.out.trans (b3.mono HB.out.size)
   clear cm b3
   go_wp2
   go_ret2
   exact ⟨_,rfl,World.ownsRow_nil _ _ _ _,HB3.out⟩
 · rw [q2,selL_no (by rw [←HM.out,q2];decide)]
   rw [q1] at cm
   have QL:Hid (decide (rmI k c n<(m:Int))=true):=by unfold Hid;simp [q3]
   clear q1 q2 q3
   generalize hku:u8s K=KU at *
   clear hku
   go_enter Tryz.func19,Tryz.ntmps19
   go_upto_region 1 with fail
   rw [←hW2]
   clear hW2
   go_wp2_with (refine wpList_load_row rfl 51 _ rfl (w.heap.size+1) rfl 51 #[.int .u8 k,.int .i64 c,.int .i64 n,.slice a m cp] (0,0) _ HG.out Tryz.underlying51 rfl infoK ?_)
   refine cm.mono ?_
   rintro e w3 ⟨rfl,b3⟩
   have HB3:Hid (Below w.heap.size w w3):=HB.out.trans (b3.mono HB.out.size)
   have HG3:Hid (KB w3 (w.heap.size+1) k c n (.slice a m cp)):=HG.out.kept b3
   have HK3:Hid (w3.heap[w.heap.size]? = some (.cells KU 47 (0,0))):=blk_kept HK1.out b3 (blk_lt HK1.out)
   have HT3:Hid (Mc.Tabs w3):=HT.out.kept b3
   have HS3:Hid (Sl w3 (.slice a m cp) X):=HS.out.kept b3
   have cl:=isLong_any k c n a m cp w3 HT3.out.2 HKK2.out
   rw [QL.out] at cl
   clear cm b3 HB HG HK1 HT HS
   go_wp2_with (refine wpList_load_row rfl 51 _ rfl (w.heap.size+1) rfl 51 #[.int .u8 k,.int .i64 c,.int .i64 n,.slice a m cp] (0,0) _ HG3.out Tryz.underlying51 rfl infoK ?_)
   refine cl.mono ?_
   rintro e w4 ⟨rfl,b4⟩
   have HB4:Hid (Below w.heap.size w w4):=HB3.out.trans (b4.mono HB3.out.size)
   clear cl b4 HB3 HG3 HK3 HT3 HS3
   go_wp2
   go_ret2
   exact ⟨_,rfl,World.ownsRow_nil _ _ _ _,HB4.out⟩
 · rw [q2,selL_yes (by rw [←HM.out];exact q2)]
   rw [q1] at cm
   have QL:Hid (decide (rmI k c n<(m:Int))=false):=by unfold Hid;simp;omega
   have hX:X.length≤1183:=by have:=(rmI_bd (k:=k) (c:=c) (n:=n)).2;have:=HM.out;omega
   have HXL:Hid (X.length≤1183):=hX
   have HBT:Hid ((Mc.btag K (hdL k c n) X).length=16):=Mc.tagB_len _ _
   have HBB:Hid (Pl.Byt (X++Mc.btag K (hdL k c n) X)):=byt_cat HS.out.bytes (Mc.tagB_byt _ _)
   have csl:=fun hv v w h1 h2 h3=>Mc.seal_any K hv v (hdL k c n) X w HKK.out.1 HKK.out.2 h1 h2 h3 (by have:=hdL_le k c n;omega) (by omega)
   obtain ⟨BT,hBT⟩:∃BT,BT=Mc.btag K (hdL k c n) X:=⟨_,rfl⟩
   rw [←hBT] at HBT HBB csl ⊢
   have HHB:Hid (Pl.Byt (hdL k c n)):=hdL_byt HKK2.out.1 HKK2.out.2
   have HHL:Hid ((hdL k c n).length≤17):=hdL_le k c n
   have chd:=fun w h=>head_any k c n a m cp w h HKK2.out
   obtain ⟨HL,hHL⟩:∃HL,HL=hdL k c n:=⟨_,rfl⟩
   rw [←hHL] at HHB HHL csl chd ⊢
   clear q1 q2 q3 hX hBT hHL
   generalize hku:u8s K=KU at *
   clear hku
   go_enter Tryz.func19,Tryz.ntmps19
   go_upto_region 1 with fail
   rw [←hW2]
   clear hW2
   go_wp2_with (refine wpList_load_row rfl 51 _ rfl (w.heap.size+1) rfl 51 #[.int .u8 k,.int .i64 c,.int .i64 n,.slice a m cp] (0,0) _ HG.out Tryz.underlying51 rfl infoK ?_)
   refine cm.mono ?_
   rintro e w3 ⟨rfl,b3⟩
   have HB3:Hid (Below w.heap.size w w3):=HB.out.trans (b3.mono HB.out.size)
   have HG3:Hid (KB w3 (w.heap.size+1) k c n (.slice a m cp)):=HG.out.kept b3
   have HK3:Hid (w3.heap[w.heap.size]? = some (.cells KU 47 (0,0))):=blk_kept HK1.out b3 (blk_lt HK1.out)
   have HT3:Hid (Mc.Tabs w3):=HT.out.kept b3
   have HS3:Hid (Sl w3 (.slice a m cp) X):=HS.out.kept b3
   have cl:=isLong_any k c n a m cp w3 HT3.out.2 HKK2.out
   rw [QL.out] at cl
   clear cm b3 HB HG HK1 HT HS
   go_wp2_with (refine wpList_load_row rfl 51 _ rfl (w.heap.size+1) rfl 51 #[.int .u8 k,.int .i64 c,.int .i64 n,.slice a m cp] (0,0) _ HG3.out Tryz.underlying51 rfl infoK ?_)
   refine cl.mono ?_
   rintro e w4 ⟨rfl,b4⟩
   have HB4:Hid (Below w.heap.size w w4):=HB3.out.trans (b4.mono HB3.out.size)
   have HG4:Hid (KB w4 (w.heap.size+1) k c n (.slice a m cp)):=HG3.out.kept b4
   have HK4:Hid (w4.heap[w.heap.size]? = some (.cells KU 47 (0,0))):=blk_kept HK3.out b4 (blk_lt HK3.out)
   have HT4:Hid (Mc.Tabs w4):=HT3.out.kept b4
   have HS4:Hid (Sl w4 (.slice a m cp) X):=HS3.out.kept b4
   have ch:=chd w4 HT4.out.2
   clear cl b4 HB3 HG3 HK3 HT3 HS3
   go_wp2_with (refine wpList_load_row rfl 51 _ rfl (w.heap.size+1) rfl 51 #[.int .u8 k,.int .i64 c,.int .i64 n,.slice a m cp] (0,0) _ HG4.out Tryz.underlying51 rfl infoK ?_)
   refine ch.mono ?_
   rintro e w5 ⟨v5,rfl,o5,b5⟩
   have HB5:Hid (Below w.heap.size w w5):=HB4.out.trans (b5.mono HB4.out.size)
   have HG5:Hid (KB w5 (w.heap.size+1) k c n (.slice a m cp)):=HG4.out.kept b5
   have HK5:Hid (w5.heap[w.heap.size]? = some (.cells KU 47 (0,0))):=blk_kept HK4.out b5 (blk_lt HK4.out)
   have HT5:Hid (Mc.Tabs w5):=HT4.out.kept b5
   have HS5:Hid (Sl w5 (.slice a m cp) X):=HS4.out.kept b5
   have s5:=sl_owned o5 HHB.out
   obtain ⟨a5,q5,rfl,-⟩:=id s5
   have H5:Hid (Sl w5 (.slice a5 HL.length q5) HL):=s5
   have cs:=csl _ _ w5 HT5.out s5 HS5.out
   obtain ⟨d0,d1,d2,d3⟩:=HG5.out.kc
   obtain ⟨hl,hhl⟩:∃hl,hl=HL.length:=⟨_,rfl⟩
   rw [←hhl] at cs H5 ⊢
   clear hhl
   clear ch b5 o5 s5 HB4 HG4 HK4 HT4 HS4
   go_wp2_with (refine wpList_load_row rfl 47 _ rfl w.heap.size rfl 47 KU (0,0) _ HK5.out Tryz.underlying47 rfl HI.out ?_)
   refine cs.mono ?_
   rintro e w6 ⟨v6,rfl,o6,b6⟩
   have s6:=sl_owned o6 HBB.out
   obtain ⟨a6,q6,rfl,-⟩:=id s6
   have HB6:Hid (Below w.heap.size w w6):=HB5.out.trans (b6.mono HB5.out.size)
   have P6:=parts2 w6 _ _ HL (X++BT) (H5.out.kept b6) s6
   obtain ⟨xl,hxl⟩:∃xl,xl=(X++BT).length:=⟨_,rfl⟩
   rw [←hxl] at P6 ⊢
   clear hxl
   obtain ⟨W7,hW7⟩:∃W7,W7=w6.alloc (.cells #[.slice a5 hl q5,.slice a6 xl q6] 34):=⟨_,rfl⟩
   have HB7:Hid (Below w.heap.size w W7):=by unfold Hid;rw [hW7];exact HB6.out.alloc HB6.out.size _
   rw [←hW7] at P6
   have cj:=join2p_any _ HL (X++BT) W7 P6 (by rw [List.length_append,HBT.out];have:=HXL.out;have:=HHL.out;omega)
   clear cs b6 o6 s6 d0 d1 d2 d3 HG5 HK5 HT5 HS5 H5 HB5 csl chd P6
   go_wp2_with fail
   rw [←hW7]
   clear hW7
   refine cj.mono ?_
   rintro e w8 ⟨v8,rfl,o8,b8⟩
   have O8:Hid (w8.ownsRow w.heap.size 5 1 v8 (HL++(X++BT)).length ((HL++(X++BT)).map (Value.int .u8))):=own_mono o8 HB7.out.size
   have B8:Hid (Below w.heap.size w w8):=HB7.out.trans (b8.mono HB7.out.size)
   clear cj o8 b8
   go_wp2
   go_ret2
   exact ⟨_,rfl,O8.out,B8.out⟩
end Go.Proofs.YtiollhmbdhepkaaGreatDoor
