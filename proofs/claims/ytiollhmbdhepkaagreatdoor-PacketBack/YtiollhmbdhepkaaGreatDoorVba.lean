/- Ytiollhmbdhepkaa: what PacketBack reaches, joined and cut (its parts: wip) -/
import Derived.Test.YtiollhmbdhepkaaGreatDoorVaa
import Derived.Test.YtiollhmbdhepkaaGreatDoorVaz
namespace Go.Proofs.YtiollhmbdhepkaaGreatDoor.Mc
open Go.Proofs.YtiollhmbdhepkaaGreatDoor.Sh Go.Proofs.YtiollhmbdhepkaaGreatDoor.Fi
set_option maxRecDepth 100000
open Go.RowKit
theorem sl_row {w:World} {g:Nat} {xs:List Int} {fr:Nat × Nat} {t:TypeId} (h:w.heap[g]? = some (.cells (u8s xs) t fr)) (hb:Pl.Byt xs) (hl:xs.length≤maxLen):Sl w (.slice (some ⟨g,0,none⟩) xs.length xs.length) xs:=by
 refine ⟨_,_,rfl,Nat.le_refl _,hl,(fun e=>by cases e),?_⟩
 rcases Nat.eq_zero_or_pos xs.length with h0 | h0
 · exact .inl h0
 · exact .inr ⟨h0,g,0,rfl,Nat.le_refl _,hl,fun i hi=>by rw [Nat.zero_add,cell_of_row _ _ _ _ _ _ h,u8s_get _ _ hi],hb⟩
theorem sl_sum {w:World} {g:Nat} {xs:List Int} {fr:Nat × Nat} {t:TypeId} (h:w.heap[g]? = some (.cells (u8s xs) t fr)) (hb:Pl.Byt xs) (hl:xs.length=32):Sl w (.slice (some ⟨g,0,none⟩) 32 32) xs:=by
 have:=sl_row h hb (by rw [hl];unfold maxLen;omega)
 rwa [hl] at this
theorem parts1 {w:World} {v:Value} {x:List Int} (s:Sl w v x):Parts (w.alloc (.cells #[v] 34)) (some ⟨w.heap.size,0,none⟩) [x]:=by
 have hb:Below w.heap.size w (w.alloc (.cells #[v] 34)):=al_below _ _
 refine ⟨by simp,.inr ⟨_,0,rfl,fun i hi=>?_⟩⟩
 obtain rfl:i=0:=by simpa using hi
 exact ⟨v,by rw [World.cell?_alloc_at _ _ _ _ rfl];rfl,s.kept hb⟩
theorem of1 (v:Value) (x:List Int) (w:World) (ht:Tab w) (s:Sl w v x) (hbig:x.length≤100000000000000000) :
 Calls Tryz.prog 111 #[.slice (some ⟨w.heap.size,0,none⟩) 1 1] (w.alloc (.cells #[v] 34)) fun e w'=>e = .returned (.agg (u8s (Pl.sha x)))∧Below w.heap.size w w':=by
 have hb:Below w.heap.size w (w.alloc (.cells #[v] 34)):=al_below _ _
 have hf:[x].flatten=x:=by simp
 have:=of_any (some ⟨w.heap.size,0,none⟩) 1 [x] _ (ht.below hb ht.size) (parts1 s) (by rw [hf];exact hbig)
 rw [hf] at this
 refine this.mono ?_
 rintro e w' ⟨rfl,b⟩
 exact ⟨rfl,hb.trans (b.mono hb.size)⟩
theorem behind_out (v:Value) (K X:List Int) (p:Option Addr) (w:World) (ht:Tab w) (sl:Sl w v (msk (key0 K) 92)) (hP:Parts w p [hin K X]) (hp:p≠none) :
 Calls Tryz.prog 112 #[v,.slice p 1 1] w fun e w'=>e = .returned (.agg (u8s (hmac K X)))∧Below w.heap.size w w':=by
 have hf:[hin K X].flatten=hin K X:=by simp
 have:=behind_any v (msk (key0 K) 92) p 1 [hin K X] w ht sl hP (fun h=>absurd h hp) (by simp) (by rw [hf,msk_len,hin_len];omega)
 rw [hf] at this
 exact this
theorem behind_in (v:Value) (K:List Int) (p:Option Addr) (kc:Nat) (ZZ:List (List Int)) (w:World) (ht:Tab w) (sl:Sl w v (msk (key0 K) 54)) (hP:Parts w p ZZ) (hc:p=none→kc=0) (hl:ZZ.length≤1000000) (hbig:ZZ.flatten.length≤10000000000000000) :
 Calls Tryz.prog 112 #[v,.slice p ZZ.length kc] w fun e w'=>e = .returned (.agg (u8s (hin K ZZ.flatten)))∧Below w.heap.size w w':=
 behind_any v (msk (key0 K) 54) p kc ZZ w ht sl hP hc hl (by rw [msk_len];omega)
set_option maxHeartbeats 4000000 in
set_option maxRecDepth 100000 in
theorem mof_any (v:Value) (K:List Int) (p:Option Addr) (kc:Nat) (ZZ:List (List Int)) (w:World) (ht:Tab w) (sl:Sl w v K) (hP:Parts w p ZZ) (hc:p=none→kc=0) (hl:ZZ.length≤1000000) (hk:K.length≤100000000000000000) (hbig:ZZ.flatten.length≤10000000000000000) :
 Calls Tryz.prog 86 #[v,.slice p ZZ.length kc] w fun e w'=>e = .returned (.agg (u8s (hmac K ZZ.flatten)))∧Below w.heap.size w w':=by
 obtain ⟨wa,hwa⟩:∃wa,wa=w.alloc (.cells (u8s (List.replicate 32 0)) 47):=⟨_,rfl⟩
 have ba:Below w.heap.size w wa:=by rw [hwa];exact al_below _ _
 have g0:wa.heap[w.heap.size]? = some (.cells (u8s (List.replicate 32 0)) 47 (0,0)):=by rw [hwa];exact heap_alloc_new _ _
 have hlt:w.heap.size<wa.heap.size:=by rw [hwa];simp
 have hwz:w.alloc (.cells #[.int .u8 0,.int .u8 0,.int .u8 0,.int .u8 0,.int .u8 0,.int .u8 0,.int .u8 0,.int .u8 0,.int .u8 0,.int .u8 0,.int .u8 0,.int .u8 0,.int .u8 0,.int .u8 0,.int .u8 0,.int .u8 0,.int .u8 0,.int .u8 0,.int .u8 0,.int .u8 0,.int .u8 0,.int .u8 0,.int .u8 0,.int .u8 0,.int .u8 0,.int .u8 0,.int .u8 0,.int .u8 0,.int .u8 0,.int .u8 0,.int .u8 0,.int .u8 0] 47)=wa:=hwa.symm
 have HTA:Hid (∀W,Below wa.heap.size wa W→Tab W):=fun W h=>(ht.below ba ht.size).below h (Nat.le_trans ht.size ba.size)
 have HPA:Hid (∀W,Below wa.heap.size wa W→Parts W p ZZ):=fun W h=>(hP.kept ba).kept h
 have HSA:Hid (∀W,Below wa.heap.size wa W→Sl W v K):=fun W h=>(sl.kept ba).kept h
 have HGA:Hid (∀W,Below wa.heap.size wa W→W.heap[w.heap.size]? = some (.cells (u8s (List.replicate 32 0)) 47 (0,0))):=fun W h=>(h.block _ hlt).trans g0
 have HBA:Hid (∀W,Below wa.heap.size wa W→Below w.heap.size w W):=fun W h=>ba.trans (h.mono ba.size)
 have HC:Hid (p=none→kc=0):=hc
 have HKB:Hid (Pl.Byt K):=sl.bytes
 have HI1:Hid ((Tryz.prog.info? 47).map (·.size)=some (u8s (hin K ZZ.flatten)).size):=by unfold Hid;rw [u8s_size,hin_len];exact size26
 have HO1:Hid ((u8s (List.replicate 32 0)).size=(u8s (hin K ZZ.flatten)).size):=by unfold Hid;rw [u8s_size,u8s_size,hin_len];simp
 have HI2:Hid ((Tryz.prog.info? 47).map (·.size)=some (u8s (hmac K ZZ.flatten)).size):=by unfold Hid;rw [u8s_size,hmac_len];exact size26
 have HO2:Hid ((u8s (List.replicate 32 0)).size=(u8s (hmac K ZZ.flatten)).size):=by unfold Hid;rw [u8s_size,u8s_size,hmac_len];simp
 have HI3:Hid ((Tryz.prog.info? 47).map (·.size)=some (u8s (Pl.sha K)).size):=by unfold Hid;rw [u8s_size,sha_len];exact size26
 have HO3:Hid ((u8s (List.replicate 32 0)).size=(u8s (Pl.sha K)).size):=by unfold Hid;rw [u8s_size,u8s_size,sha_len];simp
 have HLL:Hid (ZZ.length≤1000000):=hl
 have HBG:Hid (ZZ.flatten.length≤10000000000000000):=hbig
 have c20:=of1 v K wa (HTA.out _ (Below.refl _ _)) (HSA.out _ (Below.refl _ _)) hk
 obtain ⟨av,cv,rfl,-⟩:=sl
 obtain ⟨k,hk'⟩:∃k,k=ZZ.length:=⟨_,rfl⟩
 have HK:Hid (k=ZZ.length):=hk'
 obtain ⟨n,hn⟩:∃n,n=K.length:=⟨_,rfl⟩
 have HN:Hid (n=K.length):=hn
 have HBI:Hid (∀v' W,Below wa.heap.size wa W→Sl W v' (msk (key0 K) 54)→Calls Tryz.prog 112 #[v',.slice p k kc] W fun e w'=>e = .returned (.agg (u8s (hin K ZZ.flatten)))∧Below W.heap.size W w'):=fun v' W hW s=>by
  have:=behind_in v' K p kc ZZ W (HTA.out _ hW) s (HPA.out _ hW) HC.out hl hbig
  rwa [←hk'] at this
 rw [←hk',←hn]
 rw [←hn] at hk c20 HSA
 clear hwa ba g0 hP hc hl hbig ht hk' hn
 generalize hX:ZZ.flatten=X at *
 clear hX
 by_cases h64:64<n
 · have hk0:Hid (key0 K=Pl.sha K):=by unfold Hid key0;rw [if_pos (by rw [←HN.out];exact h64)]
   have gt1:(n:Int) > 64:=by omega
   go_enter Tryz.func86,Tryz.ntmps86
   go_wp2_with fail
   refine c20.mono ?_
   rintro e w1 ⟨rfl,b1⟩
   clear c20
   go_wp2_with (refine wpList_store_row rfl 47 _ _ rfl w1.heap.size (u8s (Pl.sha K)) rfl rfl 47 _ (heap_alloc_new _ _) HI3.out HO3.out (u8s_one _) ?_;rw [World.setRow_alloc_new];obtain ⟨w3,hw3⟩:∃w3,w3=w1.alloc (.cells (u8s (Pl.sha K)) 47):=⟨_,rfl⟩;rw [←hw3];have HW3:Hid (w3=w1.alloc (.cells (u8s (Pl.sha K)) 47)):=hw3;clear hw3)
   have D3:Hid (Below wa.heap.size wa w3):=by unfold Hid;rw [HW3.out];exact b1.alloc b1.size _
   have SK:Hid (∀W,Below w3.heap.size w3 W→Sl W (.slice (some ⟨w1.heap.size,0,none⟩) 32 32) (key0 K)):=fun W hW=>Sl.kept (by rw [HW3.out,hk0.out];exact sl_sum (heap_alloc_new _ _) (sha_byt _) (sha_len _)) hW
   clear b1 HW3 h64 gt1 HN hk0
   refine (masked_any _ (key0 K) 54 _ (SK.out _ (Below.refl _ _)) (key0_len _) (by omega) (by omega)).mono ?_
   rintro e w4 ⟨rfl,s4,b4⟩
   have D4:Hid (Below wa.heap.size wa w4):=D3.out.trans (b4.mono D3.out.size)
   have c5:=HBI.out _ w4 D4.out s4
   have B34:Hid (Below w3.heap.size w3 w4):=b4
   clear s4 b4
   go_wp2_with fail
   refine c5.mono ?_
   rintro e w5 ⟨rfl,b5⟩
   have D5:Hid (Below w3.heap.size w3 w5):=B34.out.trans (b5.mono B34.out.size)
   clear c5 b5
   go_wp2_with (refine wpList_store_row rfl 47 _ _ rfl w5.heap.size (u8s (hin K X)) rfl rfl 47 _ (heap_alloc_new _ _) HI1.out HO1.out (u8s_one _) ?_;rw [World.setRow_alloc_new];obtain ⟨w7,hw7⟩:∃w7,w7=w5.alloc (.cells (u8s (hin K X)) 47):=⟨_,rfl⟩;rw [←hw7];have HW7:Hid (w7=w5.alloc (.cells (u8s (hin K X)) 47)):=hw7;clear hw7)
   have D7:Hid (Below w3.heap.size w3 w7):=by unfold Hid;rw [HW7.out];exact D5.out.alloc D5.out.size _
   have E7:Hid (Below wa.heap.size wa w7):=D3.out.trans (D7.out.mono D3.out.size)
   have FK:Hid (∀x,From w7 x→Sl x (.slice (some ⟨w1.heap.size,0,none⟩) 32 32) (key0 K)):=fun x hx=>SK.out x (D7.out.trans (Below.mono hx D7.out.size))
   have FT:Hid (∀x,From w7 x→Tab x):=fun x hx=>HTA.out x (E7.out.trans (Below.mono hx E7.out.size))
   have FI0:Hid (∀x,From w7 x→Sl x (.slice (some ⟨w5.heap.size,0,none⟩) 32 32) (hin K X)):=fun x hx=>Sl.kept (by rw [HW7.out];exact sl_sum (heap_alloc_new _ _) (sha_byt _) (sha_len _)) hx
   have HG7:Hid (∀x,From w7 x→x.heap[w.heap.size]? = some (.cells (u8s (List.replicate 32 0)) 47 (0,0))):=fun x hx=>HGA.out x (E7.out.trans (Below.mono hx E7.out.size))
   have HB7:Hid (∀x,From w7 x→Below w.heap.size w x):=fun x hx=>HBA.out x (E7.out.trans (Below.mono hx E7.out.size))
   clear HTA HPA HSA HGA HBA HBI D3 D4 D5 D7 E7 SK B34 HW7 HI1 HO1 HI3 HO3
   refine wp_region_held_drew (S:=fun _=>True) (by kernel_rfl) trivial (fun _=>?_)
   refine wpAnyH_name (fun u0 hu0=>?_)
   have bu0:Below w7.heap.size w7 u0:=by rw [hu0.out];exact (Below.refl _ _).drew
   replace FK:=on FK bu0
   replace FT:=on FT bu0
   have du0:Below w7.heap.size w7 u0:=bu0
   refine wpAnyH_take (i:=0) (oi:={ dst:=some 18,op:=Op.move (Operand.tmp 0),type:=34,pos:="mac.go:25",after:=#[],guard:=none }) (v:=?va1) rfl (by kernel_rfl) (by kernel_rfl) (by kernel_rfl) (fun _ _ _ h=>h) (Or.inl ⟨by rfl,?ya1⟩) trivial ?ra1
   case ya1=>(intro w hSw;go_simp;try with_reducible rfl)
   try simp only [Act.put,List.setIfInBounds_toArray,List.set_cons_zero,List.set_cons_succ]
   refine wpAnyH_take (i:=2) (oi:={ dst:=some 20,op:=Op.slice 47 (Operand.tmp 6) none none none,type:=34,pos:="mac.go:25",after:=#[],guard:=none }) (v:=?va2) rfl (by kernel_rfl) (by kernel_rfl) (by kernel_rfl) (fun _ _ _ h=>h) (Or.inl ⟨by rfl,?ya2⟩) trivial ?ra2
   case ya2=>(intro w hSw;go_simp;try with_reducible rfl)
   try simp only [Act.put,List.setIfInBounds_toArray,List.set_cons_zero,List.set_cons_succ]
   refine wpAnyH_ready (rs:=[1,3]) (by kernel_rfl) (by simp) ?_
   refine AllReadyH.cons (o:={ dst:=some 19,op:=Op.call { callee:=Callee.value (Operand.func 113),args:=#[Operand.tmp 18,Operand.const (Value.int IntKind.u8 92)],argTypes:=#[34,5] },type:=34,pos:="mac.go:25",after:=#[{ on:=0,ground:=Ground.data }],guard:=none }) rfl (fun KK hKK=>?_) ?_
   · go_simp
     refine (masked_any _ (key0 K) 92 _ (FK.out _ (Below.refl _ _)) (key0_len _) (by omega) (by omega)).mono ?_
     rintro e u3' ⟨rfl,su3,bu3'⟩
     (try go_wp2_with fail)
     refine hKK.out _ _ trivial (fun _=>?_)
     clear hKK KK
     try simp only [Act.put,List.setIfInBounds_toArray,List.set_cons_zero,List.set_cons_succ]
     refine wpAnyH_name (fun u3 hu3=>?_)
     have bu3:Below u0.heap.size u0 u3:=by rw [hu3.out];exact (bu3')
     replace FK:=on FK bu3
     replace FT:=on FT bu3
     have du3:Below w7.heap.size w7 u3:=du0.trans (bu3.mono du0.size)
     have FM:Hid (∀x,From u3 x→Sl x (.slice (some ⟨u0.heap.size,0,none⟩) 64 64) (msk (key0 K) 92)):=fun x hx=>by rw [hu3.out] at hx;exact Sl.kept su3 hx
     refine wpAnyH_ready (rs:=[3]) (by kernel_rfl) (by simp) ?_
     refine AllReadyH.cons (o:={ dst:=some 21,op:=Op.buildSlice 100 1 #[(0,Operand.tmp 20)],type:=100,pos:="mac.go:25",after:=#[{ on:=2,ground:=Ground.data }],guard:=none }) rfl (fun KK hKK=>?_) ?_
     · go_simp
       refine hKK.out _ _ trivial (fun _=>?_)
       clear hKK KK
       try simp only [Act.put,List.setIfInBounds_toArray,List.set_cons_zero,List.set_cons_succ]
       refine wpAnyH_name (fun u4 hu4=>?_)
       have bu4:Below u3.heap.size u3 u4:=by rw [hu4.out];exact (al_below _ _)
       replace FK:=on FK bu4
       replace FT:=on FT bu4
       replace FM:=on FM bu4
       have du4:Below w7.heap.size w7 u4:=du3.trans (bu4.mono du3.size)
       have FP:Hid (∀x,From u4 x→Parts x (some ⟨u3.heap.size,0,none⟩) [hin K X]):=fun x hx=>Parts.kept (by rw [hu4.out];exact parts1 (FI0.out _ (du3))) hx
       refine wpAnyH_ready (rs:=[4]) (by kernel_rfl) (by simp) ?_
       refine AllReadyH.cons (o:={ dst:=some 22,op:=Op.call { callee:=Callee.value (Operand.func 112),args:=#[Operand.tmp 19,Operand.tmp 21],argTypes:=#[34,100] },type:=47,pos:="mac.go:25",after:=#[{ on:=1,ground:=Ground.data },{ on:=3,ground:=Ground.data },{ on:=1,ground:=Ground.chain }],guard:=none }) rfl (fun KK hKK=>?_) ?_
       · go_simp
         refine (behind_out _ K X _ _ (FT.out _ (Below.refl _ _)) (FM.out _ (Below.refl _ _)) (FP.out _ (Below.refl _ _)) (by simp)).mono ?_
         rintro e u5' ⟨rfl,bu5'⟩
         (try go_wp2_with fail)
         refine hKK.out _ _ trivial (fun _=>?_)
         clear hKK KK
         try simp only [Act.put,List.setIfInBounds_toArray,List.set_cons_zero,List.set_cons_succ]
         refine wpAnyH_name (fun u5 hu5=>?_)
         have bu5:Below u4.heap.size u4 u5:=by rw [hu5.out];exact (bu5')
         replace FK:=on FK bu5
         replace FT:=on FT bu5
         replace FM:=on FM bu5
         replace FP:=on FP bu5
         have du5:Below w7.heap.size w7 u5:=du4.trans (bu5.mono du4.size)
         refine wpAnyH_ready (rs:=[5]) (by kernel_rfl) (by simp) ?_
         refine AllReadyH.cons (o:={ dst:=none,op:=Op.store 47 (Operand.tmp 4) (Operand.tmp 22),type:=0,pos:="mac.go:25",after:=#[{ on:=4,ground:=Ground.data },{ on:=4,ground:=Ground.chain },{ on:=0,ground:=Ground.phase },{ on:=1,ground:=Ground.phase },{ on:=2,ground:=Ground.phase },{ on:=3,ground:=Ground.phase },{ on:=4,ground:=Ground.phase }],guard:=none }) rfl (fun KK hKK=>?_) ?_
         · rw [if_pos (by rfl)]
           refine wp_store_row 47 _ _ rfl w.heap.size (u8s (hmac K X)) rfl rfl 47 _ (HG7.out _ du5) HI2.out HO2.out (u8s_one _) ?_
           refine hKK.out _ _ trivial (fun _=>?_)
           clear hKK KK
           try simp only [Act.put]
           refine wpAnyH_name (fun u6 hu6=>?_)
           refine wpAnyH_done (by kernel_rfl) ?_ _
           rw [hu6.out]
           go_wp2_with fail
           refine bodyPost_ret (v:=.agg (u8s (hmac K X))) (results_cell_row rfl _ _ w.heap.size 47 (u8s (hmac K X)) (0,0) _ rfl (setRow_heap _ _ _ _ _ _ (HG7.out _ du5)) Tryz.underlying47 rfl HI2.out) rfl ⟨rfl,below_setRow (HB7.out _ du5) (Nat.le_refl _) _⟩
         exact AllReadyH.nil
       exact AllReadyH.nil
     exact AllReadyH.nil
   refine AllReadyH.cons (o:={ dst:=some 21,op:=Op.buildSlice 100 1 #[(0,Operand.tmp 20)],type:=100,pos:="mac.go:25",after:=#[{ on:=2,ground:=Ground.data }],guard:=none }) rfl (fun KK hKK=>?_) ?_
   · go_simp
     refine hKK.out _ _ trivial (fun _=>?_)
     clear hKK KK
     try simp only [Act.put,List.setIfInBounds_toArray,List.set_cons_zero,List.set_cons_succ]
     refine wpAnyH_name (fun u7 hu7=>?_)
     have bu7:Below u0.heap.size u0 u7:=by rw [hu7.out];exact (al_below _ _)
     replace FK:=on FK bu7
     replace FT:=on FT bu7
     have du7:Below w7.heap.size w7 u7:=du0.trans (bu7.mono du0.size)
     have FP:Hid (∀x,From u7 x→Parts x (some ⟨u0.heap.size,0,none⟩) [hin K X]):=fun x hx=>Parts.kept (by rw [hu7.out];exact parts1 (FI0.out _ (du0))) hx
     refine wpAnyH_ready (rs:=[1]) (by kernel_rfl) (by simp) ?_
     refine AllReadyH.cons (o:={ dst:=some 19,op:=Op.call { callee:=Callee.value (Operand.func 113),args:=#[Operand.tmp 18,Operand.const (Value.int IntKind.u8 92)],argTypes:=#[34,5] },type:=34,pos:="mac.go:25",after:=#[{ on:=0,ground:=Ground.data }],guard:=none }) rfl (fun KK hKK=>?_) ?_
     · go_simp
       refine (masked_any _ (key0 K) 92 _ (FK.out _ (Below.refl _ _)) (key0_len _) (by omega) (by omega)).mono ?_
       rintro e u8' ⟨rfl,su8,bu8'⟩
       (try go_wp2_with fail)
       refine hKK.out _ _ trivial (fun _=>?_)
       clear hKK KK
       try simp only [Act.put,List.setIfInBounds_toArray,List.set_cons_zero,List.set_cons_succ]
       refine wpAnyH_name (fun u8 hu8=>?_)
       have bu8:Below u7.heap.size u7 u8:=by rw [hu8.out];exact (bu8')
       replace FK:=on FK bu8
       replace FT:=on FT bu8
       replace FP:=on FP bu8
       have du8:Below w7.heap.size w7 u8:=du7.trans (bu8.mono du7.size)
       have FM:Hid (∀x,From u8 x→Sl x (.slice (some ⟨u7.heap.size,0,none⟩) 64 64) (msk (key0 K) 92)):=fun x hx=>by rw [hu8.out] at hx;exact Sl.kept su8 hx
       refine wpAnyH_ready (rs:=[4]) (by kernel_rfl) (by simp) ?_
       refine AllReadyH.cons (o:={ dst:=some 22,op:=Op.call { callee:=Callee.value (Operand.func 112),args:=#[Operand.tmp 19,Operand.tmp 21],argTypes:=#[34,100] },type:=47,pos:="mac.go:25",after:=#[{ on:=1,ground:=Ground.data },{ on:=3,ground:=Ground.data },{ on:=1,ground:=Ground.chain }],guard:=none }) rfl (fun KK hKK=>?_) ?_
       · go_simp
         refine (behind_out _ K X _ _ (FT.out _ (Below.refl _ _)) (FM.out _ (Below.refl _ _)) (FP.out _ (Below.refl _ _)) (by simp)).mono ?_
         rintro e u9' ⟨rfl,bu9'⟩
         (try go_wp2_with fail)
         refine hKK.out _ _ trivial (fun _=>?_)
         clear hKK KK
         try simp only [Act.put,List.setIfInBounds_toArray,List.set_cons_zero,List.set_cons_succ]
         refine wpAnyH_name (fun u9 hu9=>?_)
         have bu9:Below u8.heap.size u8 u9:=by rw [hu9.out];exact (bu9')
         replace FK:=on FK bu9
         replace FT:=on FT bu9
         replace FP:=on FP bu9
         replace FM:=on FM bu9
         have du9:Below w7.heap.size w7 u9:=du8.trans (bu9.mono du8.size)
         refine wpAnyH_ready (rs:=[5]) (by kernel_rfl) (by simp) ?_
         refine AllReadyH.cons (o:={ dst:=none,op:=Op.store 47 (Operand.tmp 4) (Operand.tmp 22),type:=0,pos:="mac.go:25",after:=#[{ on:=4,ground:=Ground.data },{ on:=4,ground:=Ground.chain },{ on:=0,ground:=Ground.phase },{ on:=1,ground:=Ground.phase },{ on:=2,ground:=Ground.phase },{ on:=3,ground:=Ground.phase },{ on:=4,ground:=Ground.phase }],guard:=none }) rfl (fun KK hKK=>?_) ?_
         · rw [if_pos (by rfl)]
           refine wp_store_row 47 _ _ rfl w.heap.size (u8s (hmac K X)) rfl rfl 47 _ (HG7.out _ du9) HI2.out HO2.out (u8s_one _) ?_
           refine hKK.out _ _ trivial (fun _=>?_)
           clear hKK KK
           try simp only [Act.put]
           refine wpAnyH_name (fun u10 hu10=>?_)
           refine wpAnyH_done (by kernel_rfl) ?_ _
           rw [hu10.out]
           go_wp2_with fail
           refine bodyPost_ret (v:=.agg (u8s (hmac K X))) (results_cell_row rfl _ _ w.heap.size 47 (u8s (hmac K X)) (0,0) _ rfl (setRow_heap _ _ _ _ _ _ (HG7.out _ du9)) Tryz.underlying47 rfl HI2.out) rfl ⟨rfl,below_setRow (HB7.out _ du9) (Nat.le_refl _) _⟩
         exact AllReadyH.nil
       exact AllReadyH.nil
     exact AllReadyH.nil
   exact AllReadyH.nil
 · have hk0:Hid (key0 K=K):=by unfold Hid key0;rw [if_neg (by rw [←HN.out];exact h64)]
   have gt1:¬(n:Int) > 64:=by omega
   obtain ⟨w3,hw3⟩:∃w3,w3=wa:=⟨_,rfl⟩
   have D3:Hid (Below wa.heap.size wa w3):=by unfold Hid;rw [hw3];exact Below.refl _ _
   have SK:Hid (∀W,Below w3.heap.size w3 W→Sl W (.slice av n cv) (key0 K)):=fun W hW=>by rw [hk0.out];rw [hw3] at hW;exact HSA.out W hW
   rw [←hw3] at hwz
   clear hw3 c20 HN hk0
   go_enter Tryz.func86,Tryz.ntmps86
   go_wp2_with fail
   refine (masked_any _ (key0 K) 54 _ (SK.out _ (Below.refl _ _)) (key0_len _) (by omega) (by omega)).mono ?_
   rintro e w4 ⟨rfl,s4,b4⟩
   have D4:Hid (Below wa.heap.size wa w4):=D3.out.trans (b4.mono D3.out.size)
   have c5:=HBI.out _ w4 D4.out s4
   have B34:Hid (Below w3.heap.size w3 w4):=b4
   clear s4 b4
   go_wp2_with fail
   refine c5.mono ?_
   rintro e w5 ⟨rfl,b5⟩
   have D5:Hid (Below w3.heap.size w3 w5):=B34.out.trans (b5.mono B34.out.size)
   clear c5 b5
   go_wp2_with (refine wpList_store_row rfl 47 _ _ rfl w5.heap.size (u8s (hin K X)) rfl rfl 47 _ (heap_alloc_new _ _) HI1.out HO1.out (u8s_one _) ?_;rw [World.setRow_alloc_new];obtain ⟨w7,hw7⟩:∃w7,w7=w5.alloc (.cells (u8s (hin K X)) 47):=⟨_,rfl⟩;rw [←hw7];have HW7:Hid (w7=w5.alloc (.cells (u8s (hin K X)) 47)):=hw7;clear hw7)
   have D7:Hid (Below w3.heap.size w3 w7):=by unfold Hid;rw [HW7.out];exact D5.out.alloc D5.out.size _
   have E7:Hid (Below wa.heap.size wa w7):=D3.out.trans (D7.out.mono D3.out.size)
   have FK:Hid (∀x,From w7 x→Sl x (.slice av n cv) (key0 K)):=fun x hx=>SK.out x (D7.out.trans (Below.mono hx D7.out.size))
   have FT:Hid (∀x,From w7 x→Tab x):=fun x hx=>HTA.out x (E7.out.trans (Below.mono hx E7.out.size))
   have FI0:Hid (∀x,From w7 x→Sl x (.slice (some ⟨w5.heap.size,0,none⟩) 32 32) (hin K X)):=fun x hx=>Sl.kept (by rw [HW7.out];exact sl_sum (heap_alloc_new _ _) (sha_byt _) (sha_len _)) hx
   have HG7:Hid (∀x,From w7 x→x.heap[w.heap.size]? = some (.cells (u8s (List.replicate 32 0)) 47 (0,0))):=fun x hx=>HGA.out x (E7.out.trans (Below.mono hx E7.out.size))
   have HB7:Hid (∀x,From w7 x→Below w.heap.size w x):=fun x hx=>HBA.out x (E7.out.trans (Below.mono hx E7.out.size))
   clear HTA HPA HSA HGA HBA HBI D3 D4 D5 D7 E7 SK B34 HW7 HI1 HO1 HI3 HO3
   refine wp_region_held_drew (S:=fun _=>True) (by kernel_rfl) trivial (fun _=>?_)
   refine wpAnyH_name (fun u0 hu0=>?_)
   have bu0:Below w7.heap.size w7 u0:=by rw [hu0.out];exact (Below.refl _ _).drew
   replace FK:=on FK bu0
   replace FT:=on FT bu0
   have du0:Below w7.heap.size w7 u0:=bu0
   refine wpAnyH_take (i:=0) (oi:={ dst:=some 18,op:=Op.move (Operand.tmp 0),type:=34,pos:="mac.go:25",after:=#[],guard:=none }) (v:=?vb1) rfl (by kernel_rfl) (by kernel_rfl) (by kernel_rfl) (fun _ _ _ h=>h) (Or.inl ⟨by rfl,?yb1⟩) trivial ?rb1
   case yb1=>(intro w hSw;go_simp;try with_reducible rfl)
   try simp only [Act.put,List.setIfInBounds_toArray,List.set_cons_zero,List.set_cons_succ]
   refine wpAnyH_take (i:=2) (oi:={ dst:=some 20,op:=Op.slice 47 (Operand.tmp 6) none none none,type:=34,pos:="mac.go:25",after:=#[],guard:=none }) (v:=?vb2) rfl (by kernel_rfl) (by kernel_rfl) (by kernel_rfl) (fun _ _ _ h=>h) (Or.inl ⟨by rfl,?yb2⟩) trivial ?rb2
   case yb2=>(intro w hSw;go_simp;try with_reducible rfl)
   try simp only [Act.put,List.setIfInBounds_toArray,List.set_cons_zero,List.set_cons_succ]
   refine wpAnyH_ready (rs:=[1,3]) (by kernel_rfl) (by simp) ?_
   refine AllReadyH.cons (o:={ dst:=some 19,op:=Op.call { callee:=Callee.value (Operand.func 113),args:=#[Operand.tmp 18,Operand.const (Value.int IntKind.u8 92)],argTypes:=#[34,5] },type:=34,pos:="mac.go:25",after:=#[{ on:=0,ground:=Ground.data }],guard:=none }) rfl (fun KK hKK=>?_) ?_
   · go_simp
     refine (masked_any _ (key0 K) 92 _ (FK.out _ (Below.refl _ _)) (key0_len _) (by omega) (by omega)).mono ?_
     rintro e u3' ⟨rfl,su3,bu3'⟩
     (try go_wp2_with fail)
     refine hKK.out _ _ trivial (fun _=>?_)
     clear hKK KK
     try simp only [Act.put,List.setIfInBounds_toArray,List.set_cons_zero,List.set_cons_succ]
     refine wpAnyH_name (fun u3 hu3=>?_)
     have bu3:Below u0.heap.size u0 u3:=by rw [hu3.out];exact (bu3')
     replace FK:=on FK bu3
     replace FT:=on FT bu3
     have du3:Below w7.heap.size w7 u3:=du0.trans (bu3.mono du0.size)
     have FM:Hid (∀x,From u3 x→Sl x (.slice (some ⟨u0.heap.size,0,none⟩) 64 64) (msk (key0 K) 92)):=fun x hx=>by rw [hu3.out] at hx;exact Sl.kept su3 hx
     refine wpAnyH_ready (rs:=[3]) (by kernel_rfl) (by simp) ?_
     refine AllReadyH.cons (o:={ dst:=some 21,op:=Op.buildSlice 100 1 #[(0,Operand.tmp 20)],type:=100,pos:="mac.go:25",after:=#[{ on:=2,ground:=Ground.data }],guard:=none }) rfl (fun KK hKK=>?_) ?_
     · go_simp
       refine hKK.out _ _ trivial (fun _=>?_)
       clear hKK KK
       try simp only [Act.put,List.setIfInBounds_toArray,List.set_cons_zero,List.set_cons_succ]
       refine wpAnyH_name (fun u4 hu4=>?_)
       have bu4:Below u3.heap.size u3 u4:=by rw [hu4.out];exact (al_below _ _)
       replace FK:=on FK bu4
       replace FT:=on FT bu4
       replace FM:=on FM bu4
       have du4:Below w7.heap.size w7 u4:=du3.trans (bu4.mono du3.size)
       have FP:Hid (∀x,From u4 x→Parts x (some ⟨u3.heap.size,0,none⟩) [hin K X]):=fun x hx=>Parts.kept (by rw [hu4.out];exact parts1 (FI0.out _ (du3))) hx
       refine wpAnyH_ready (rs:=[4]) (by kernel_rfl) (by simp) ?_
       refine AllReadyH.cons (o:={ dst:=some 22,op:=Op.call { callee:=Callee.value (Operand.func 112),args:=#[Operand.tmp 19,Operand.tmp 21],argTypes:=#[34,100] },type:=47,pos:="mac.go:25",after:=#[{ on:=1,ground:=Ground.data },{ on:=3,ground:=Ground.data },{ on:=1,ground:=Ground.chain }],guard:=none }) rfl (fun KK hKK=>?_) ?_
       · go_simp
         refine (behind_out _ K X _ _ (FT.out _ (Below.refl _ _)) (FM.out _ (Below.refl _ _)) (FP.out _ (Below.refl _ _)) (by simp)).mono ?_
         rintro e u5' ⟨rfl,bu5'⟩
         (try go_wp2_with fail)
         refine hKK.out _ _ trivial (fun _=>?_)
         clear hKK KK
         try simp only [Act.put,List.setIfInBounds_toArray,List.set_cons_zero,List.set_cons_succ]
         refine wpAnyH_name (fun u5 hu5=>?_)
         have bu5:Below u4.heap.size u4 u5:=by rw [hu5.out];exact (bu5')
         replace FK:=on FK bu5
         replace FT:=on FT bu5
         replace FM:=on FM bu5
         replace FP:=on FP bu5
         have du5:Below w7.heap.size w7 u5:=du4.trans (bu5.mono du4.size)
         refine wpAnyH_ready (rs:=[5]) (by kernel_rfl) (by simp) ?_
         refine AllReadyH.cons (o:={ dst:=none,op:=Op.store 47 (Operand.tmp 4) (Operand.tmp 22),type:=0,pos:="mac.go:25",after:=#[{ on:=4,ground:=Ground.data },{ on:=4,ground:=Ground.chain },{ on:=0,ground:=Ground.phase },{ on:=1,ground:=Ground.phase },{ on:=2,ground:=Ground.phase },{ on:=3,ground:=Ground.phase },{ on:=4,ground:=Ground.phase }],guard:=none }) rfl (fun KK hKK=>?_) ?_
         · rw [if_pos (by rfl)]
           refine wp_store_row 47 _ _ rfl w.heap.size (u8s (hmac K X)) rfl rfl 47 _ (HG7.out _ du5) HI2.out HO2.out (u8s_one _) ?_
           refine hKK.out _ _ trivial (fun _=>?_)
           clear hKK KK
           try simp only [Act.put]
           refine wpAnyH_name (fun u6 hu6=>?_)
           refine wpAnyH_done (by kernel_rfl) ?_ _
           rw [hu6.out]
           go_wp2_with fail
           refine bodyPost_ret (v:=.agg (u8s (hmac K X))) (results_cell_row rfl _ _ w.heap.size 47 (u8s (hmac K X)) (0,0) _ rfl (setRow_heap _ _ _ _ _ _ (HG7.out _ du5)) Tryz.underlying47 rfl HI2.out) rfl ⟨rfl,below_setRow (HB7.out _ du5) (Nat.le_refl _) _⟩
         exact AllReadyH.nil
       exact AllReadyH.nil
     exact AllReadyH.nil
   refine AllReadyH.cons (o:={ dst:=some 21,op:=Op.buildSlice 100 1 #[(0,Operand.tmp 20)],type:=100,pos:="mac.go:25",after:=#[{ on:=2,ground:=Ground.data }],guard:=none }) rfl (fun KK hKK=>?_) ?_
   · go_simp
     refine hKK.out _ _ trivial (fun _=>?_)
     clear hKK KK
     try simp only [Act.put,List.setIfInBounds_toArray,List.set_cons_zero,List.set_cons_succ]
     refine wpAnyH_name (fun u7 hu7=>?_)
     have bu7:Below u0.heap.size u0 u7:=by rw [hu7.out];exact (al_below _ _)
     replace FK:=on FK bu7
     replace FT:=on FT bu7
     have du7:Below w7.heap.size w7 u7:=du0.trans (bu7.mono du0.size)
     have FP:Hid (∀x,From u7 x→Parts x (some ⟨u0.heap.size,0,none⟩) [hin K X]):=fun x hx=>Parts.kept (by rw [hu7.out];exact parts1 (FI0.out _ (du0))) hx
     refine wpAnyH_ready (rs:=[1]) (by kernel_rfl) (by simp) ?_
     refine AllReadyH.cons (o:={ dst:=some 19,op:=Op.call { callee:=Callee.value (Operand.func 113),args:=#[Operand.tmp 18,Operand.const (Value.int IntKind.u8 92)],argTypes:=#[34,5] },type:=34,pos:="mac.go:25",after:=#[{ on:=0,ground:=Ground.data }],guard:=none }) rfl (fun KK hKK=>?_) ?_
     · go_simp
       refine (masked_any _ (key0 K) 92 _ (FK.out _ (Below.refl _ _)) (key0_len _) (by omega) (by omega)).mono ?_
       rintro e u8' ⟨rfl,su8,bu8'⟩
       (try go_wp2_with fail)
       refine hKK.out _ _ trivial (fun _=>?_)
       clear hKK KK
       try simp only [Act.put,List.setIfInBounds_toArray,List.set_cons_zero,List.set_cons_succ]
       refine wpAnyH_name (fun u8 hu8=>?_)
       have bu8:Below u7.heap.size u7 u8:=by rw [hu8.out];exact (bu8')
       replace FK:=on FK bu8
       replace FT:=on FT bu8
       replace FP:=on FP bu8
       have du8:Below w7.heap.size w7 u8:=du7.trans (bu8.mono du7.size)
       have FM:Hid (∀x,From u8 x→Sl x (.slice (some ⟨u7.heap.size,0,none⟩) 64 64) (msk (key0 K) 92)):=fun x hx=>by rw [hu8.out] at hx;exact Sl.kept su8 hx
       refine wpAnyH_ready (rs:=[4]) (by kernel_rfl) (by simp) ?_
       refine AllReadyH.cons (o:={ dst:=some 22,op:=Op.call { callee:=Callee.value (Operand.func 112),args:=#[Operand.tmp 19,Operand.tmp 21],argTypes:=#[34,100] },type:=47,pos:="mac.go:25",after:=#[{ on:=1,ground:=Ground.data },{ on:=3,ground:=Ground.data },{ on:=1,ground:=Ground.chain }],guard:=none }) rfl (fun KK hKK=>?_) ?_
       · go_simp
         refine (behind_out _ K X _ _ (FT.out _ (Below.refl _ _)) (FM.out _ (Below.refl _ _)) (FP.out _ (Below.refl _ _)) (by simp)).mono ?_
         rintro e u9' ⟨rfl,bu9'⟩
         (try go_wp2_with fail)
         refine hKK.out _ _ trivial (fun _=>?_)
         clear hKK KK
         try simp only [Act.put,List.setIfInBounds_toArray,List.set_cons_zero,List.set_cons_succ]
         refine wpAnyH_name (fun u9 hu9=>?_)
         have bu9:Below u8.heap.size u8 u9:=by rw [hu9.out];exact (bu9')
         replace FK:=on FK bu9
         replace FT:=on FT bu9
         replace FP:=on FP bu9
         replace FM:=on FM bu9
         have du9:Below w7.heap.size w7 u9:=du8.trans (bu9.mono du8.size)
         refine wpAnyH_ready (rs:=[5]) (by kernel_rfl) (by simp) ?_
         refine AllReadyH.cons (o:={ dst:=none,op:=Op.store 47 (Operand.tmp 4) (Operand.tmp 22),type:=0,pos:="mac.go:25",after:=#[{ on:=4,ground:=Ground.data },{ on:=4,ground:=Ground.chain },{ on:=0,ground:=Ground.phase },{ on:=1,ground:=Ground.phase },{ on:=2,ground:=Ground.phase },{ on:=3,ground:=Ground.phase },{ on:=4,ground:=Ground.phase }],guard:=none }) rfl (fun KK hKK=>?_) ?_
         · rw [if_pos (by rfl)]
           refine wp_store_row 47 _ _ rfl w.heap.size (u8s (hmac K X)) rfl rfl 47 _ (HG7.out _ du9) HI2.out HO2.out (u8s_one _) ?_
           refine hKK.out _ _ trivial (fun _=>?_)
           clear hKK KK
           try simp only [Act.put]
           refine wpAnyH_name (fun u10 hu10=>?_)
           refine wpAnyH_done (by kernel_rfl) ?_ _
           rw [hu10.out]
           go_wp2_with fail
           refine bodyPost_ret (v:=.agg (u8s (hmac K X))) (results_cell_row rfl _ _ w.heap.size 47 (u8s (hmac K X)) (0,0) _ rfl (setRow_heap _ _ _ _ _ _ (HG7.out _ du9)) Tryz.underlying47 rfl HI2.out) rfl ⟨rfl,below_setRow (HB7.out _ du9) (Nat.le_refl _) _⟩
         exact AllReadyH.nil
       exact AllReadyH.nil
     exact AllReadyH.nil
   exact AllReadyH.nil
end Go.Proofs.YtiollhmbdhepkaaGreatDoor.Mc
