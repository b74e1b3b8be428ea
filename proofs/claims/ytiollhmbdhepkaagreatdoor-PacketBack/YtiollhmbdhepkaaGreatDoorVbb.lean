/- Ytiollhmbdhepkaa: what PacketBack reaches, joined and cut (its parts: wip) -/
import Derived.Test.YtiollhmbdhepkaaGreatDoorVaz
import Derived.Test.YtiollhmbdhepkaaGreatDoorVba
import Derived.Deep.Matrix
import Derived.Test.YtiollhmbdhepkaaGreatDoorTie
import Derived.Test.YtiollhmbdhepkaaGreatDoorCards
import Derived.Carry
import Derived.ChangeMaps5
import Derived.ChangeOld
import Derived.ChangeSame
import Derived.Deep.DeepHandedRow
import Derived.Deep.SlicePairs
import Derived.Deep.Slices
import Derived.Deep.Strs
import Derived.LaidLaws
import Derived.Lib.LaidTab
import Derived.Lib.SmallJoins
import Derived.OpenShut
import Derived.ProofKit
import Derived.Shelf.Vars
import Derived.SizedLaws
import Derived.Stop.LaidErr
import Derived.Test.YtiollhmbdhepkaaGreatDoorVas
namespace Go.Proofs.YtiollhmbdhepkaaGreatDoor.Mc
open Go.Proofs.YtiollhmbdhepkaaGreatDoor.Sh Go.Proofs.YtiollhmbdhepkaaGreatDoor.Fi
set_option maxRecDepth 100000
open Go.RowKit
def dif (xs ys:List Int):Nat→Nat
 | 0=>0
 | j+1=>dif xs ys j ||| ((xs.getD j 0).toNat ^^^ (ys.getD j 0).toNat)
theorem dif_lt {xs ys:List Int} (hx:Pl.Byt xs) (hy:Pl.Byt ys):∀j,dif xs ys j<256
 | 0=>by simp [dif]
 | j+1=>by
   have h1:(xs.getD j 0).toNat ^^^ (ys.getD j 0).toNat<2 ^ 8:=Nat.xor_lt_two_pow (by have:=hx j;omega) (by have:=hy j;omega)
   have h2:dif xs ys j<2 ^ 8:=dif_lt hx hy j
   exact Nat.or_lt_two_pow h2 h1
theorem dif_zero {xs ys:List Int} (hx:Pl.Byt xs) (hy:Pl.Byt ys):∀j,dif xs ys j=0↔∀i,i<j→xs.getD i 0=ys.getD i 0
 | 0=>by simp [dif]
 | j+1=>by
   have h1:=hx j
   have h2:=hy j
   show dif xs ys j ||| ((xs.getD j 0).toNat ^^^ (ys.getD j 0).toNat)=0↔_
   have hxor:∀a b:Nat,a ^^^ b=0↔a=b:=fun a b=>⟨fun h=>by
    have e:(a ^^^ b) ^^^ b=a:=by rw [Nat.xor_assoc,Nat.xor_self,Nat.xor_zero]
    rw [h,Nat.zero_xor] at e
    exact e.symm,fun h=>by rw [h,Nat.xor_self]⟩
   rw [Nat.or_eq_zero_iff,hxor,dif_zero hx hy j]
   constructor
   · rintro ⟨h3,h4⟩ i hi
     rcases Nat.lt_or_ge i j with h | h
     · exact h3 i h
     · obtain rfl:i=j:=by omega
       omega
   · intro h
     exact ⟨fun i hi=>h i (by omega),by rw [h j (by omega)]⟩
theorem dif_eq {xs ys:List Int} (hx:Pl.Byt xs) (hy:Pl.Byt ys) (hl:xs.length=ys.length) (n:Nat) (hn:n=xs.length):(((dif xs ys n:Nat):Int)==0)=(xs==ys):=by
 subst hn
 by_cases h:xs=ys
 · have:dif xs ys xs.length=0:=(dif_zero hx hy _).2 (fun i _=>by rw [h])
   rw [this];simp [h]
 · have hne:dif xs ys xs.length≠0:=fun e=>h (eq_of_getD _ _ hl (fun i hi=>(dif_zero hx hy _).1 e i hi))
   have h1:(((dif xs ys xs.length:Nat):Int)==0)=false:=by simp;exact hne
   rw [h1];simp [h]
set_option maxHeartbeats 2000000 in
theorem equal_any (u v:Value) (xs ys:List Int) (w:World) (su:Sl w u xs) (sv:Sl w v ys) :
 Calls Tryz.prog 94 #[u,v] w fun e w'=>e = .returned (.bool (xs==ys))∧Below w.heap.size w w':=by
 have hx:=su.bytes
 have hy:=sv.bytes
 obtain ⟨a,ca,rfl,a1,a2,a3,a4⟩:=su
 obtain ⟨b,cb,rfl,b1,b2,b3,b4⟩:=sv
 have hm:xs.length≤9223372036854775807:=by unfold maxLen at a2;omega
 have hm2:ys.length≤9223372036854775807:=by unfold maxLen at b2;omega
 by_cases hl:xs.length=ys.length
 · have HE:Hid (∀n,n=xs.length→(((dif xs ys n:Nat):Int)==0)=(xs==ys)):=fun n hn=>dif_eq hx hy hl n hn
   obtain ⟨n,hn⟩:∃n,n=xs.length:=⟨_,rfl⟩
   have HR:Hid (∀j,j<n→∃p q o r,a=some ⟨p,q,none⟩∧b=some ⟨o,r,none⟩∧w.cell? ⟨p,q+j,none⟩=some (.int .u8 (xs.getD j 0))∧w.cell? ⟨o,r+j,none⟩=some (.int .u8 (ys.getD j 0))):=fun j hj=>by
    rcases a4 with h | ⟨_,p,q,rfl,_,_,c1,_⟩
    · omega
    · rcases b4 with h | ⟨_,o,r,rfl,_,_,c2,_⟩
      · omega
      · exact ⟨p,q,o,r,rfl,rfl,c1 j (by omega),c2 j (by omega)⟩
   have HB:Hid (∀j,dif xs ys j<256):=dif_lt hx hy
   have HX:Hid (Pl.Byt xs):=hx
   have HY:Hid (Pl.Byt ys):=hy
   have en:=HE.out n hn
   rw [←hn] at hm a1
   rw [←hl,←hn] at hm2 b1
   rw [←hl,←hn]
   have EN:Hid ((((dif xs ys n:Nat):Int)==0)=(xs==ys)):=en
   clear hn hl HE a2 a3 a4 b2 b3 b4 hx hy en
   go_enter Tryz.func94,Tryz.ntmps94
   go_wp2
   go_loopw [5,14] (fun d q wr=>∃j m:Nat,j≤n∧q = .int .i64 j∧d = .int .u8 ((dif xs ys j:Nat):Int)∧wr=w.drewN m) (fun _ q _=>n-(intOf q).toNat)
   case atStart=>exact ⟨0,0,by omega,rfl,rfl,rfl⟩
   case round=>
    obtain ⟨j,m,hj,rfl,rfl,rfl⟩:=hrel
    by_cases hlt:j<n
    · obtain ⟨p,q,o,r,rfl,rfl,c1,c2⟩:=HR.out j hlt
      have lt2:(j:Int)<(n:Int):=by omega
      have x1:=xb_bits (xs.getD j 0) (ys.getD j 0) (HX.out j).1 (HX.out j).2 (HY.out j).1 (HY.out j).2
      have x2:=xb_byte (xs.getD j 0) (ys.getD j 0) (HX.out j).1 (HX.out j).2 (HY.out j).1 (HY.out j).2
      have o1:bits .or .u8 ((dif xs ys j:Nat):Int) (xb (xs.getD j 0) (ys.getD j 0))=((dif xs ys (j+1):Nat):Int):=u8_or_nat _ _ (HB.out j) (by unfold xb at x2;omega)
      generalize xb (xs.getD j 0) (ys.getD j 0)=x at *
      generalize xs.getD j 0=y at *
      generalize ys.getD j 0=z at *
      generalize dif xs ys j=d0 at *
      obtain ⟨d1,hd1⟩:∃d1,d1=dif xs ys (j+1):=⟨_,rfl⟩
      have HD1:Hid (d1=dif xs ys (j+1)):=hd1
      rw [←hd1] at o1
      clear hd1 x2
      go_wp2_with fail
      go_quiet (fail)
      go_wp2
      exact ⟨⟨j+1,_,by omega,by go_num,by rw [HD1.out],rfl⟩,by simp [intOf];omega⟩
    · obtain rfl:j=n:=by omega
      generalize dif xs ys j=d0 at *
      have e1:=EN.out
      cases hR:(xs==ys) with
      | true=>
        rw [hR] at e1
        obtain rfl:d0=0:=by simpa using e1
        have HRR:Hid ((xs==ys)=true):=hR
        clear EN HR HB hlt hR e1
        go_wp2
        go_ret
        exact ⟨by rw [HRR.out];rfl,⟨rfl,rfl,rfl,Nat.le_refl _,fun _ _=>rfl⟩⟩
      | false=>
        rw [hR] at e1
        have e2:¬d0=0:=by simpa using e1
        have HRR:Hid ((xs==ys)=false):=hR
        clear EN HR HB hlt hR
        go_wp2
        go_ret
        exact ⟨by rw [HRR.out];rfl,⟨rfl,rfl,rfl,Nat.le_refl _,fun _ _=>rfl⟩⟩
 · have hne:(xs==ys)=false:=by simp;intro h;exact hl (by rw [h])
   rw [hne]
   have n1:¬(xs.length:Int)=(ys.length:Int):=by omega
   have n2:((xs.length:Int) != (ys.length:Int))=true:=by simp;omega
   clear hx hy a1 a2 a3 a4 b1 b2 b3 b4 hl hne
   generalize xs.length=n at *
   generalize ys.length=m at *
   go_enter Tryz.func94,Tryz.ntmps94
   go_wp2
   go_ret
   exact ⟨rfl,Below.refl _ _⟩
end Go.Proofs.YtiollhmbdhepkaaGreatDoor.Mc
namespace Go.Proofs.YtiollhmbdhepkaaGreatDoor.Mc
open Go.Proofs.YtiollhmbdhepkaaGreatDoor.Sh Go.Proofs.YtiollhmbdhepkaaGreatDoor.Fi
set_option maxRecDepth 100000
open Go.RowKit
def Tabs (w:World):Prop:=Tab w∧Wid w
theorem Tabs.size {w:World} (h:Tabs w):4≤w.heap.size:=h.1.size
theorem Tabs.below {w w':World} {B:Nat} (h:Tabs w) (hb:Below B w w') (hB:4≤B):Tabs w':=⟨h.1.below hb (by omega),h.2.below hb (by omega)⟩
theorem Tabs.kept {w w':World} (h:Tabs w) (hb:Below w.heap.size w w'):Tabs w':=h.below hb h.size
def textL (xs:List Int):List Int:=numB xs.length++xs
theorem sb_strB {xs:List Int} (h:Pl.Byt xs):sb (strB xs)=xs:=by
 refine eq_of_getD _ _ (by rw [sb_len];simp [strB,ByteArray.size]) (fun i hi=>?_)
 rw [sb_len] at hi
 have hi':i<xs.length:=by simpa [strB,ByteArray.size] using hi
 have hb:=h i
 have e:xs.getD i 0=xs[i]:=by simp [List.getD,List.getElem?_eq_getElem hi']
 rw [e] at hb ⊢
 simp only [sb,strB,List.getD,List.getElem?_map,List.getElem?_eq_getElem hi',Option.map_some,Option.getD_some,UInt8.toNat_ofNat']
 omega
theorem strB_size (xs:List Int):(strB xs).size=xs.length:=by simp [strB,ByteArray.size]
theorem textB_strB {xs:List Int} (h:Pl.Byt xs):textB (strB xs)=textL xs:=by unfold textB textL;rw [sb_strB h,strB_size]
theorem numB_byt (n:Int):Pl.Byt (numB n):=by
 by_cases h0:lenOf n=0
 · have:numB n=[]:=by unfold numB;rw [if_pos h0]
   rw [this];intro i;simp
 · obtain ⟨W,hW,hW0,hI,h1,h2,hn⟩:=pos_lim _ h0
   rw [hn];exact pb_bytes _ W hI h1 h2
theorem byt_app {a b:List Int} (ha:Pl.Byt a) (hb:Pl.Byt b):Pl.Byt (a++b):=by
 intro i
 rcases Nat.lt_or_ge i a.length with h | h
 · rw [getD_append_left _ _ _ h];exact ha i
 · rw [getD_append_right _ _ _ h];exact hb _
theorem textL_byt {xs:List Int} (h:Pl.Byt xs):Pl.Byt (textL xs):=byt_app (numB_byt _) h
theorem numB_le (n:Int):(numB n).length≤8:=by
 unfold numB
 split
 · simp
 · next h=>
   obtain ⟨W,hW,hW0,hI,h1,h2,hn⟩:=pos_lim _ h
   rw [hW]
   show (pb _ W).length≤8
   rw [pb_len _ W hI]
   rcases hI with rfl | rfl | rfl | rfl<;>omega
theorem textL_le (xs:List Int):(textL xs).length≤xs.length+8:=by
 unfold textL
 rw [List.length_append]
 have:=numB_le (xs.length:Int)
 omega
def tagB (K xs:List Int):List Int:=(hmac K xs).take 16
theorem tagB_len (K xs:List Int):(tagB K xs).length=16:=by unfold tagB;rw [List.length_take,hmac_len];omega
theorem tagB_byt (K xs:List Int):Pl.Byt (tagB K xs):=bytes_take _ _ (hmac_byt K xs)
def btag (K H X:List Int):List Int:=tagB K (textL H++X)
set_option maxHeartbeats 2000000 in
set_option maxRecDepth 100000 in
theorem tag_any (KB:List Int) (p:Option Addr) (kc:Nat) (ZZ:List (List Int)) (w:World) (hK:KB.length=32) (hKb:Pl.Byt KB) (ht:Tab w) (hP:Parts w p ZZ) (hc:p=none→kc=0) (hl:ZZ.length≤1000000) (hbig:ZZ.flatten.length≤10000000000000000) :
 Calls Tryz.prog 110 #[.agg (u8s KB),.slice p ZZ.length kc] w fun e w'=>∃v,e = .returned v∧w'.ownsRow w.heap.size 5 1 v 16 ((tagB KB ZZ.flatten).map (Value.int .u8))∧Below w.heap.size w w':=by
 obtain ⟨wa,hwa⟩:∃wa,wa=w.alloc (.cells (u8s KB) 47):=⟨_,rfl⟩
 have ba:Below w.heap.size w wa:=by rw [hwa];exact al_below _ _
 have hwz:w.alloc (.cells (u8s KB) 47)=wa:=hwa.symm
 have sk:Sl wa (.slice (some ⟨w.heap.size,0,none⟩) 32 32) KB:=by rw [hwa];exact sl_sum (heap_alloc_new _ _) hKb hK
 have c9:=mof_any _ KB p kc ZZ wa (ht.below ba ht.size) sk (hP.kept ba) hc hl (by rw [hK];omega) hbig
 have HBA:Hid (Below w.heap.size w wa):=ba
 have HI:Hid ((Tryz.prog.info? 47).map (·.size)=some (u8s (hmac KB ZZ.flatten)).size):=by unfold Hid;rw [u8s_size,hmac_len];exact size26
 have HO:Hid ((u8s (List.replicate 32 0)).size=(u8s (hmac KB ZZ.flatten)).size):=by unfold Hid;rw [u8s_size,u8s_size,hmac_len];simp
 have HT:Hid (tagB KB ZZ.flatten=(hmac KB ZZ.flatten).take 16):=rfl
 have HTL:Hid ((tagB KB ZZ.flatten).length=16):=tagB_len _ _
 have HL:Hid ((hmac KB ZZ.flatten).length=32):=hmac_len _ _
 have HB:Hid (Pl.Byt (hmac KB ZZ.flatten)):=hmac_byt _ _
 generalize hmac KB ZZ.flatten=M at *
 generalize tagB KB ZZ.flatten=T at *
 generalize ZZ.length=k at *
 clear hwa ba sk ht hP hc hl hbig hK
 go_enter Tryz.func110,Tryz.ntmps110
 go_wp2_with fail
 refine c9.mono ?_
 rintro e w1 ⟨rfl,b1⟩
 clear c9
 go_wp2_with (refine wpList_store_row rfl 47 _ _ rfl w1.heap.size (u8s M) rfl rfl 47 _ (heap_alloc_new _ _) HI.out HO.out (u8s_one _) ?_;rw [World.setRow_alloc_new];obtain ⟨w3,hw3⟩:∃w3,w3=w1.alloc (.cells (u8s M) 47):=⟨_,rfl⟩;rw [←hw3];have HW3:Hid (w3=w1.alloc (.cells (u8s M) 47)):=hw3;clear hw3)
 have B1:Below w.heap.size w w1:=HBA.out.trans (b1.mono HBA.out.size)
 have B3:Hid (Below w.heap.size w w3):=by unfold Hid;rw [HW3.out];exact B1.alloc B1.size _
 have s3:Sl w3 (.slice (some ⟨w1.heap.size,0,none⟩) 16 32) T:=by
  have h:Sl w3 (.slice (some ⟨w1.heap.size,0,none⟩) 32 32) M:=by rw [HW3.out];exact sl_sum (heap_alloc_new _ _) HB.out HL.out
  rw [HT.out]
  exact h.take 16 (by omega)
 have cc:=clone_any _ T w3 s3 (by rw [HTL.out];omega)
 rw [HTL.out] at cc
 clear B1 b1 s3
 go_wp2_with fail
 refine cc.mono ?_
 rintro e w4 ⟨v4,rfl,own4,b4⟩
 have O4:Hid (w4.ownsRow w.heap.size 5 1 v4 16 (T.map (Value.int .u8))):=own_mono own4 B3.out.size
 have B4:Hid (Below w.heap.size w w4):=B3.out.trans (b4.mono B3.out.size)
 clear cc own4 b4
 go_wp2
 go_ret
 exact ⟨_,rfl,O4.out,B4.out⟩
theorem range_sum {w:World} {g:Nat} {KB:List Int} {t:TypeId} {fr:Nat × Nat} (h:w.heap[g]? = some (.cells (u8s KB) t fr)):w.rangeAt g 0 (KB.map (Value.int .u8)):=by
 intro j v hv
 rw [Nat.zero_add,cell_of_row _ _ _ _ _ _ h]
 exact (by simpa [u8s] using hv)
theorem tag2_any (KB X Y:List Int) (p:Option Addr) (w:World) (hK:KB.length=32) (hKb:Pl.Byt KB) (ht:Tab w) (hP:Parts w p [X,Y]) (hp:p≠none) (hbig:X.length+Y.length≤10000000000000000) :
 Calls Tryz.prog 110 #[.agg (u8s KB),.slice p 2 2] w fun e w'=>∃v,e = .returned v∧w'.ownsRow w.heap.size 5 1 v 16 ((tagB KB (X++Y)).map (Value.int .u8))∧Below w.heap.size w w':=by
 have hf:[X,Y].flatten=X++Y:=by simp
 have:=tag_any KB p 2 [X,Y] w hK hKb ht hP (fun h=>absurd h hp) (by simp) (by rw [hf,List.length_append];exact hbig)
 rwa [hf] at this
set_option maxHeartbeats 4000000 in
set_option maxRecDepth 100000 in
theorem btag_any (KB:List Int) (h v:Value) (H X:List Int) (w:World) (hK:KB.length=32) (hKb:Pl.Byt KB) (ht:Tabs w) (sh:Sl w h H) (sv:Sl w v X) (hH:H.length≤140737488351232) (hX:X.length≤140737488351232) :
 Calls Tryz.prog 84 #[.agg (u8s KB),h,v] w fun e w'=>∃v',e = .returned v'∧w'.ownsRow w.heap.size 5 1 v' 16 ((btag KB H X).map (Value.int .u8))∧Below w.heap.size w w':=by
 obtain ⟨wa,hwa⟩:∃wa,wa=w.alloc (.cells (u8s KB) 47):=⟨_,rfl⟩
 have ba:Below w.heap.size w wa:=by rw [hwa];exact al_below _ _
 have hwz:w.alloc (.cells (u8s KB) 47)=wa:=hwa.symm
 have FR:Hid (∀x,From wa x→x.rangeAt w.heap.size 0 (KB.map (Value.int .u8))):=fun x hx=>range_sum ((Below.block hx _ (by rw [hwa];simp)).trans (by rw [hwa];exact heap_alloc_new _ _))
 have FT:Hid (∀x,From wa x→Tabs x):=fun x hx=>(ht.kept ba).kept hx
 have FV:Hid (∀x,From wa x→Sl x v X):=fun x hx=>(sv.kept ba).kept hx
 have FB:Hid (∀x,From wa x→Below w.heap.size w x):=fun x hx=>ba.trans (Below.mono hx ba.size)
 have FH:Hid (∀x,From wa x→(convert 34 9 h).run Tryz.prog x = .ok (.string (strB H)) x):=fun x hx=>by
  have:=(sh.kept ba).kept hx
  obtain ⟨a,c,rfl,-⟩:=sh
  exact this.conv
 have HTX:Hid (textB (strB H)=textL H):=textB_strB sh.bytes
 have HTB:Hid (Pl.Byt (textL H)):=textL_byt sh.bytes
 have HLE:Hid ((textL H).length+X.length≤10000000000000000):=by unfold Hid;have:=textL_le H;omega
 have HSZ:Hid ((strB H).size≤140737488355328):=by unfold Hid;rw [strB_size];omega
 have HKK:Hid (KB.length=32):=hK
 have HKB:Hid (Pl.Byt KB):=hKb
 have hu26:=Tryz.underlying47
 have hi26:(Tryz.prog.info? 47).map (·.size)=some (KB.map (Value.int .u8)).length:=by rw [List.length_map,hK];exact size26
 obtain ⟨av,cv,rfl,-⟩:=sv
 obtain ⟨ah,ch,rfl,-⟩:=sh
 clear hwa ba ht hK hKb
 generalize strB H=SH at *
 obtain ⟨xl,hxl⟩:∃xl,xl=X.length:=⟨_,rfl⟩
 rw [←hxl] at FV hX ⊢
 generalize hhl:H.length=hl at *
 clear hxl hhl
 go_enter Tryz.func84,Tryz.ntmps84
 go_wp2_with fail
 refine wp_region_held_drew (S:=From wa) (by kernel_rfl) ((Below.refl _ _).drew) (fun _=>?_)
 refine wpAnyH_on ((Below.refl _ _).drew) (fun u0 hu0 bu0=>?_)
 replace FR:=on FR bu0
 replace FT:=on FT bu0
 replace FV:=on FV bu0
 replace FB:=on FB bu0
 replace FH:=on FH bu0
 refine wpAnyH_take (i:=0) (oi:={ dst:=some 7,op:=Op.load 47 (Operand.tmp 3),type:=47,pos:="mac.go:75",after:=#[],guard:=none }) (v:=.agg (KB.map (Value.int .u8)).toArray) rfl (by kernel_rfl) (by kernel_rfl) (by kernel_rfl) (fun _ _ _ h=>h) (yieldsIf_load_mid (by rfl) _ _ rfl w.heap.size 0 rfl _ _ (fun x h=>FR.out x h) hu26 rfl hi26) (Below.refl _ _) ?_
 try simp only [Act.put,List.setIfInBounds_toArray,List.set_cons_zero,List.set_cons_succ]
 refine wpAnyH_take (i:=1) (oi:={ dst:=some 8,op:=Op.move (Operand.tmp 1),type:=34,pos:="mac.go:75",after:=#[],guard:=none }) (v:=?va2) rfl (by kernel_rfl) (by kernel_rfl) (by kernel_rfl) (fun _ _ _ h=>h) (Or.inl ⟨by rfl,?ya2⟩) (Below.refl _ _) ?ra2
 case ya2=>(intro w hSw;go_simp;try with_reducible rfl)
 try simp only [Act.put,List.setIfInBounds_toArray,List.set_cons_zero,List.set_cons_succ]
 refine wpAnyH_take (i:=2) (oi:={ dst:=some 9,op:=Op.convert 34 9 (Operand.tmp 8),type:=9,pos:="mac.go:75",after:=#[{ on:=1,ground:=Ground.data }],guard:=none }) (v:=?va3) rfl (by kernel_rfl) (by kernel_rfl) (by kernel_rfl) (fun _ _ _ h=>h) (Or.inl ⟨by rfl,?ya3⟩) (Below.refl _ _) ?ra3
 case ya3=>(intro w hSw;have t:=FH.out w hSw;go_simp;try with_reducible rfl)
 try simp only [Act.put,List.setIfInBounds_toArray,List.set_cons_zero,List.set_cons_succ]
 refine wpAnyH_take (i:=4) (oi:={ dst:=some 11,op:=Op.move (Operand.tmp 2),type:=34,pos:="mac.go:75",after:=#[],guard:=none }) (v:=?va4) rfl (by kernel_rfl) (by kernel_rfl) (by kernel_rfl) (fun _ _ _ h=>h) (Or.inl ⟨by rfl,?ya4⟩) (Below.refl _ _) ?ra4
 case ya4=>(intro w hSw;go_simp;try with_reducible rfl)
 try simp only [Act.put,List.setIfInBounds_toArray,List.set_cons_zero,List.set_cons_succ]
 refine wpAnyH_ready (rs:=[3]) (by kernel_rfl) (by simp) ?_
 refine AllReadyH.cons (o:={ dst:=some 10,op:=Op.call { callee:=Callee.value (Operand.func 79),args:=#[Operand.tmp 9],argTypes:=#[9] },type:=34,pos:="mac.go:75",after:=#[{ on:=2,ground:=Ground.data }],guard:=none }) rfl (fun KK hKK=>?_) ?_
 · go_simp
   refine (ftext_own SH _ (FT.out _ (Below.refl _ _)).2 HSZ.out).mono ?_
   rintro e u5' ⟨v3,rfl,own3,bu5'⟩
   rw [HTX.out] at own3
   obtain ⟨a3,c3,rfl,-⟩:=sl_owned own3 HTB.out
   (try go_wp2_with fail)
   refine hKK.out _ _ (bu5') (fun _=>?_)
   clear hKK KK
   try simp only [Act.put,List.setIfInBounds_toArray,List.set_cons_zero,List.set_cons_succ]
   refine wpAnyH_on (bu5') (fun u5 hu5 bu5=>?_)
   replace FR:=on FR bu5
   replace FT:=on FT bu5
   replace FV:=on FV bu5
   replace FB:=on FB bu5
   replace FH:=on FH bu5
   have F3:Hid (∀x,From u5 x→Sl x (.slice a3 (textL H).length c3) (textL H)):=fun x hx=>by rw [hu5.out] at hx;exact Sl.kept (sl_owned own3 HTB.out) hx
   clear own3
   obtain ⟨tl,hTL⟩:∃tl,tl=(textL H).length:=⟨_,rfl⟩
   rw [←hTL] at F3 ⊢
   clear hTL
   refine wpAnyH_ready (rs:=[5]) (by kernel_rfl) (by simp) ?_
   refine AllReadyH.cons (o:={ dst:=some 12,op:=Op.buildSlice 100 2 #[(0,Operand.tmp 10),(1,Operand.tmp 11)],type:=100,pos:="mac.go:75",after:=#[{ on:=3,ground:=Ground.data },{ on:=4,ground:=Ground.data }],guard:=none }) rfl (fun KK hKK=>?_) ?_
   · have FB0:Hid (Below w.heap.size w u5):=FB.out _ (Below.refl _ _)
     have pu6:=parts2 u5 _ _ (textL H) X (F3.out _ (Below.refl _ _)) (FV.out _ (Below.refl _ _))
     go_simp
     refine hKK.out _ _ (al_below _ _) (fun _=>?_)
     clear hKK KK
     try simp only [Act.put,List.setIfInBounds_toArray,List.set_cons_zero,List.set_cons_succ]
     refine wpAnyH_on (al_below _ _) (fun u6 hu6 bu6=>?_)
     replace FR:=on FR bu6
     replace FT:=on FT bu6
     replace FV:=on FV bu6
     replace FB:=on FB bu6
     replace FH:=on FH bu6
     replace F3:=on F3 bu6
     have FP:Hid (∀x,From u6 x→Parts x (some ⟨u5.heap.size,0,none⟩) [textL H,X]):=fun x hx=>Parts.kept (by rw [hu6.out];exact pu6) hx
     clear pu6
     refine wpAnyH_ready (rs:=[6]) (by kernel_rfl) (by simp) ?_
     refine AllReadyH.cons (o:={ dst:=some 13,op:=Op.call { callee:=Callee.value (Operand.func 110),args:=#[Operand.tmp 7,Operand.tmp 12],argTypes:=#[47,100] },type:=34,pos:="mac.go:75",after:=#[{ on:=0,ground:=Ground.data },{ on:=5,ground:=Ground.data },{ on:=3,ground:=Ground.chain }],guard:=none }) rfl (fun KK hKK=>?_) ?_
     · go_simp
       refine (tag2_any KB (textL H) X _ _ HKK.out HKB.out (FT.out _ (Below.refl _ _)).1 (FP.out _ (Below.refl _ _)) (by simp) HLE.out).mono ?_
       rintro e u7' ⟨v6,rfl,own6,bu7'⟩
       (try go_wp2_with fail)
       refine hKK.out _ _ (bu7') (fun _=>?_)
       clear hKK KK
       try simp only [Act.put,List.setIfInBounds_toArray,List.set_cons_zero,List.set_cons_succ]
       refine wpAnyH_on (bu7') (fun u7 hu7 bu7=>?_)
       replace FR:=on FR bu7
       replace FT:=on FT bu7
       replace FV:=on FV bu7
       replace FB:=on FB bu7
       replace FH:=on FH bu7
       replace F3:=on F3 bu7
       replace FP:=on FP bu7
       have O6:Hid (u7.ownsRow w.heap.size 5 1 v6 16 ((btag KB H X).map (Value.int .u8))):=by unfold Hid;rw [hu7.out];exact own_mono own6 (Nat.le_trans FB0.out.size (by rw [hu6.out];simp))
       have B6:Hid (Below w.heap.size w u7):=FB.out _ (Below.refl _ _)
       clear own6
       refine wpAnyH_take (i:=7) (oi:={ dst:=some 6,op:=Op.assign (Operand.tmp 13),type:=34,pos:="mac.go:75",after:=#[{ on:=6,ground:=Ground.data },{ on:=6,ground:=Ground.chain },{ on:=0,ground:=Ground.phase },{ on:=1,ground:=Ground.phase },{ on:=2,ground:=Ground.phase },{ on:=3,ground:=Ground.phase },{ on:=4,ground:=Ground.phase },{ on:=5,ground:=Ground.phase },{ on:=6,ground:=Ground.phase }],guard:=none }) (v:=?va8) rfl (by kernel_rfl) (by kernel_rfl) (by kernel_rfl) (fun _ _ _ h=>h) (Or.inl ⟨by rfl,?ya8⟩) (Below.refl _ _) ?ra8
       case ya8=>(intro w hSw;go_simp;try with_reducible rfl)
       try simp only [Act.put,List.setIfInBounds_toArray,List.set_cons_zero,List.set_cons_succ]
       refine wpAnyH_done (by kernel_rfl) ?_ _
       go_wp2
       go_ret
       exact ⟨_,rfl,O6.out,B6.out⟩
     exact AllReadyH.nil
   exact AllReadyH.nil
 exact AllReadyH.nil
set_option maxHeartbeats 2000000 in
set_option maxRecDepth 100000 in
theorem seal_any (KB:List Int) (h v:Value) (H X:List Int) (w:World) (hK:KB.length=32) (hKb:Pl.Byt KB) (ht:Tabs w) (sh:Sl w h H) (sv:Sl w v X) (hH:H.length≤140737488351232) (hX:X.length≤140737488351232) :
 Calls Tryz.prog 59 #[.agg (u8s KB),h,v] w fun e w'=>∃v',e = .returned v'∧w'.ownsRow w.heap.size 5 1 v' (X++btag KB H X).length ((X++btag KB H X).map (Value.int .u8))∧Below w.heap.size w w':=by
 obtain ⟨wa,hwa⟩:∃wa,wa=w.alloc (.cells (u8s KB) 47):=⟨_,rfl⟩
 have ba:Below w.heap.size w wa:=by rw [hwa];exact al_below _ _
 have hwz:w.alloc (.cells (u8s KB) 47)=wa:=hwa.symm
 have HGA:Hid (wa.heap[w.heap.size]? = some (.cells (u8s KB) 47 (0,0))):=by unfold Hid;rw [hwa];exact heap_alloc_new _ _
 have HI:Hid ((Tryz.prog.info? 47).map (·.size)=some (u8s KB).size):=by unfold Hid;rw [u8s_size,hK];exact size26
 have c27:=btag_any KB h v H X wa hK hKb (ht.kept ba) (sh.kept ba) (sv.kept ba) hH hX
 have HSV:Hid (∀W,Below wa.heap.size wa W→Sl W v X):=fun W hW=>(sv.kept ba).kept hW
 have HBA:Hid (Below w.heap.size w wa):=ba
 have HTB:Hid (Pl.Byt (btag KB H X)):=tagB_byt _ _
 have HTL:Hid ((btag KB H X).length=16):=tagB_len _ _
 have HXX:Hid (X.length≤140737488351232):=hX
 obtain ⟨av,cv,rfl,-⟩:=sv
 obtain ⟨ah,ch,rfl,-⟩:=sh
 clear hwa ba ht hK hKb
 generalize btag KB H X=T at *
 obtain ⟨xl,hxl⟩:∃xl,xl=X.length:=⟨_,rfl⟩
 rw [←hxl] at c27 HSV hX ⊢
 clear hxl
 generalize H.length=hl at *
 generalize u8s KB=KU at *
 go_enter Tryz.func59,Tryz.ntmps59
 go_wp2_with (refine wpList_load_row rfl 47 _ rfl w.heap.size rfl 47 KU (0,0) _ HGA.out Tryz.underlying47 rfl HI.out ?_)
 refine c27.mono ?_
 rintro e w1 ⟨v1,rfl,own1,b1⟩
 have s1:=sl_owned own1 HTB.out
 obtain ⟨a1,c1,rfl,-⟩:=id s1
 have sv1:=HSV.out w1 b1
 have cj:=join_any _ 2 _ _ (parts2 w1 _ _ X T sv1 s1) (by simp only [List.flatten_cons,List.flatten_nil,List.append_nil,List.length_append,HTL.out];have:=HXX.out;omega)
 have hf:[X,T].flatten=X++T:=by simp
 rw [hf] at cj
 simp only [List.length_cons,List.length_nil,Nat.zero_add,Nat.reduceAdd] at cj
 have hw1:w1.heap.size≤(w1.alloc (.cells #[.slice av xl cv,.slice a1 T.length c1] 34)).heap.size:=by simp
 have B1:Hid (Below w.heap.size w (w1.alloc (.cells #[.slice av xl cv,.slice a1 T.length c1] 34))):=by
  have h1:Below w.heap.size w w1:=HBA.out.trans (b1.mono HBA.out.size)
  exact h1.alloc h1.size _
 rw [HTL.out] at cj B1 ⊢
 clear c27 own1 s1 sv1 b1 hf hw1
 go_wp2_with fail
 refine cj.mono ?_
 rintro e w2 ⟨v2,rfl,own2,b2⟩
 have O2:Hid (w2.ownsRow w.heap.size 5 1 v2 (X++T).length ((X++T).map (Value.int .u8))):=own_mono own2 B1.out.size
 have B2:Hid (Below w.heap.size w w2):=B1.out.trans (b2.mono B1.out.size)
 clear cj own2 b2
 go_wp2
 go_ret
 exact ⟨_,rfl,O2.out,B2.out⟩
end Go.Proofs.YtiollhmbdhepkaaGreatDoor.Mc
namespace Go.Proofs.YtiollhmbdhepkaaGreatDoor
open Go.ChangeShapes Go.WideShapes Go.ChangeAt Go.RowKit Go.Deep
set_option maxRecDepth 100000
theorem own:ownKnob Tryz.prog.godebug=none:=by kernel_rfl
theorem laidOut:laidOutB Tryz.prog=true:=by kernel_rfl
theorem cells3:Tryz.prog.cellsOf 3=1:=by kernel_rfl
theorem cells5:Tryz.prog.cellsOf 5=1:=by kernel_rfl
theorem cells9:Tryz.prog.cellsOf 9=1:=by kernel_rfl
theorem gT2:Tryz.prog.globalNamed "sumpter/varint.widths" = some 1:=by kernel_rfl
theorem tT2:(Tryz.prog.globals[1]?).map (·.type)=some 203:=by kernel_rfl
theorem cellsT2:Tryz.prog.cellsOf 203=4:=by kernel_rfl
theorem gS:Tryz.prog.globalNamed "sumpter/frame.shapes" = some 0:=by kernel_rfl
theorem tS:(Tryz.prog.globals[0]?).map (·.type)=some 84:=by kernel_rfl
theorem cellsS:Tryz.prog.cellsOf 84=22:=by kernel_rfl
theorem cellsH:Tryz.prog.cellsOf 83=2:=by kernel_rfl
def widT:Array Value:=#[.int .i64 1,.int .i64 2,.int .i64 4,.int .i64 8]
def shpT:Array Value:=#[.int .i64 0,.int .i64 0,.int .i64 0,.int .i64 0,.int .i64 66,.int .i64 0,.int .i64 39,.int .i64 1100,.int .i64 11,.int .i64 0,.int .i64 9,.int .i64 0,.int .i64 2,.int .i64 0,.int .i64 3,.int .i64 0,.int .i64 2,.int .i64 0,.int .i64 48,.int .i64 256,.int .i64 40,.int .i64 64]
theorem mapM_each {α β:Type} {f:α→Option β}:∀(L:List α) (ys:List β),L.mapM f=some ys→∀i∈L,∃y,f i=some y
 | [],_,_,i,hi=>by simp at hi
 | x::l,r,h,i,hi=>by
   simp only [List.mapM_cons,Option.bind_eq_bind,Option.bind_eq_some_iff,Option.pure_def,Option.some.injEq] at h
   obtain ⟨b,hb,r',hr',rfl⟩:=h
   rcases List.mem_cons.1 hi with rfl | hi
   · exact ⟨b,hb⟩
   · exact mapM_each l r' hr' i hi
theorem cells_of_pairs {H:Type} {enc:TypeId × Value→H} {w:World} {base:Nat} {sp:Nat→Bool} {held:Bool} {fuel:Nat} {cs:List Value} {zs:List (Int × Int)} {p:List MemPlace}
 (h:DataW.trod enc Tryz.prog w base sp held fuel 84 cs=some (.agg (zs.map fun z=>.agg [.lit (.int .i64 z.1),.lit (.int .i64 z.2)]),p)):∀i,i<11→∃z,zs[i]? = some z∧cs[i*2]? = some (.int .i64 z.1)∧cs[i*2+1]? = some (.int .i64 z.2):=by
 cases fuel with
 | zero=>simp [DataW.trod] at h
 | succ fuel=>
   simp only [DataW.trod,Tryz.underlying84,cellsH,cellsS] at h
   split at h
   · rename_i hl
     obtain ⟨xs,hm,hx⟩:=Option.map_eq_some_iff.1 h
     have hxs:xs.map (·.1)=zs.map fun z=>(DataW.agg [.lit (.int .i64 z.1),.lit (.int .i64 z.2)]:DataW H):=by
      have:=congrArg Prod.fst hx
      simpa using this
     intro i hi
     obtain ⟨b,hb,hf⟩:=Lib.mapM_at hm i i (by simp [hi])
     obtain ⟨y0,y1,n,rfl,hl2,h0,h1⟩:=trod_struct2 Tryz.underlying83 hf
     obtain ⟨a0,e0,rfl,_⟩:=DataW.trod_int Tryz.underlying3 h0
     obtain ⟨a1,e1,rfl,_⟩:=DataW.trod_int Tryz.underlying3 h1
     have h2:(xs.map (·.1))[i]? = some (DataW.agg [.lit (.int .i64 a0),.lit (.int .i64 a1)]:DataW H):=by simp [hb]
     rw [hxs] at h2
     simp only [List.getElem?_map,Option.map_eq_some_iff] at h2
     obtain ⟨z,hz,hzz⟩:=h2
     simp only [DataW.agg.injEq,List.cons.injEq,DataW.lit.injEq,Lit.int.injEq,true_and,and_true] at hzz
     refine ⟨z,hz,?_,?_⟩
     · have:=congrArg (·[0]?) e0
       simp only [List.getElem?_take,List.getElem?_drop,cells3] at this
       rw [hzz.1]
       simpa using this
     · have:=congrArg (·[0]?) e1
       simp only [List.getElem?_take,List.getElem?_drop,cells3] at this
       rw [hzz.2]
       simpa using this
   · cases h
theorem shp_of {W:World} {rest:List (String × DataW Unit)} (h:laidMet Tryz.prog (("sumpter/frame.shapes",Rows.laid_sumpter_frame_shapes)::rest) W):Shp W:=by
 obtain ⟨ps,⟨g',t',cs,fuel,p,q,hg',ht',hvar,hd,_,_⟩,_⟩:=h
 obtain rfl:=Option.some.inj (gS.symm.trans hg')
 obtain rfl:=Option.some.inj (tS.symm.trans ht')
 have key:=cells_of_pairs (zs:=[(0,0),(0,0),(66,0),(39,1100),(11,0),(9,0),(2,0),(3,0),(2,0),(48,256),(40,64)]) hd
 have cell:=World.var?_cell gS hvar
 intro k hk
 obtain ⟨z,hz,z0,z1⟩:=key k (by omega)
 rw [cell (k*2),cell (k*2+1),List.getElem?_toArray,List.getElem?_toArray,z0,z1]
 have e:z=(pkN k,mT k):=by
  rcases (by omega:k=0∨k=1∨k=2∨k=3∨k=4∨k=5∨k=6∨k=7∨k=8∨k=9∨k=10) with rfl | rfl | rfl | rfl | rfl | rfl | rfl | rfl | rfl | rfl | rfl<;>(cases hz;rfl)
 rw [e]
 exact ⟨rfl,rfl⟩
theorem gT0:Tryz.prog.globalNamed "sumpter/sha.first" = some 2:=by kernel_rfl
theorem tT0:(Tryz.prog.globals[2]?).map (·.type)=some 192:=by kernel_rfl
theorem gT1:Tryz.prog.globalNamed "sumpter/sha.rounds" = some 3:=by kernel_rfl
theorem tT1:(Tryz.prog.globals[3]?).map (·.type)=some 195:=by kernel_rfl
theorem cellsT0:Tryz.prog.cellsOf 192=8:=by kernel_rfl
theorem cellsT1:Tryz.prog.cellsOf 195=64:=by kernel_rfl
theorem cellsTE:Tryz.prog.cellsOf 191=1:=by kernel_rfl
def firstZ:List Int:=(Sh.Pl.words Sh.Pl.init).map (fun n:Nat=>(n:Int))
def roundZ:List Int:=Sh.Pl.K.map (fun n:Nat=>(n:Int))
def firT:Array Value:=(firstZ.map (Value.int .u32)).toArray
def rndT:Array Value:=(roundZ.map (Value.int .u32)).toArray
theorem tbs_of {W:World} (h:laidMetH Tryz.prog Rows.packetRoomRow.laid W):Tb W∧Mc.Tabs W:=by
 have h':laidMet Tryz.prog Rows.packetRoomRow.laid W:=h
 have t2:Lib.TabIs Tryz.prog W "sumpter/varint.widths" .i64 [1,2,4,8]:=Lib.tabIs_of_head gT2 tT2 Tryz.underlying203 Tryz.underlying3 cells3 cellsT2 h'
 have t0:Lib.TabIs Tryz.prog W "sumpter/sha.first" .u32 firstZ:=Lib.tabIs_of_head gT0 tT0 Tryz.underlying192 Tryz.underlying191 cellsTE cellsT0 (laidMet.tail (laidMet.tail h'))
 have t1:Lib.TabIs Tryz.prog W "sumpter/sha.rounds" .u32 roundZ:=Lib.tabIs_of_head (rest:=[]) gT1 tT1 Tryz.underlying195 Tryz.underlying191 cellsTE cellsT1 (laidMet.tail (laidMet.tail (laidMet.tail h')))
 have hw:Fi.Wid W:=⟨t2.cell gT2 0 (by decide),t2.cell gT2 1 (by decide),t2.cell gT2 2 (by decide),t2.cell gT2 3 (by decide)⟩
 refine ⟨⟨shp_of (laidMet.tail h'),hw⟩,⟨fun i hi=>?_,fun i hi=>?_⟩,hw⟩
 · rw [t0.cell gT0 i (show i<firstZ.length from hi)]
   have hi2:i<(Sh.Pl.words Sh.Pl.init).length:=hi
   simp [firstZ,List.getD,List.getElem?_eq_getElem hi2]
 · rw [t1.cell gT1 i (show i<roundZ.length from hi)]
   have hi2:i<Sh.Pl.K.length:=hi
   simp [roundZ,List.getD,List.getElem?_eq_getElem hi2]
theorem cellsB:Tryz.prog.cellsOf 34=1:=by kernel_rfl
theorem cellsP:Tryz.prog.cellsOf 49=4:=by kernel_rfl
theorem hash_open {H:Type} {enc:TypeId × Value→H} {W:World} {base:Nat} {v:Value} {d:DataW H} {p:List MemPlace}
 (hval:Value.okWide Tryz.prog W .any base 47 v) (h:DataW.Trod enc Tryz.prog W 0 (fun _=>true) true 47 v d p) :
 ∃A:List Int,v = .agg (Sh.u8s A)∧A.length=32∧Sh.Pl.Byt A:=by
 simp only [Value.okWide,Tryz.underlying47] at hval
 obtain ⟨cs,rfl,hsz,_⟩:=hval
 have hc:Tryz.prog.cellsOf 47=32:=by kernel_rfl
 rw [hc] at hsz
 obtain ⟨fuel,hf⟩:=h
 cases fuel with
 | zero=>simp [DataW.trod] at hf
 | succ m=>
   rw [DataW.trod_step] at hf
   unfold DataW.trodStep at hf
   simp only [Tryz.underlying47,Value.cells] at hf
   rw [if_pos (by rw [hc];simpa using hsz)] at hf
   simp only [Option.map_eq_some_iff] at hf
   obtain ⟨ys,hy,_⟩:=hf
   have cell:∀i,i<32→∃a:Int,cs[i]? = some (.int .u8 a)∧(Lit.int .u8 a).wf=true:=fun i hi=>by
    obtain ⟨y,hyi⟩:=mapM_each _ _ hy i (by simpa using hi)
    obtain ⟨a,ea,_,wa⟩:=DataW.trod_int Tryz.underlying5 hyi
    refine ⟨a,?_,wa⟩
    rw [cells5,Nat.mul_one] at ea
    have h0:=congrArg (·[0]?) ea
    simpa [List.getElem?_take,List.getElem?_drop] using h0
   refine ⟨cs.toList.map intOf,?_,by simp [hsz],fun i=>?_⟩
   · congr 1
     apply Array.ext'
     unfold Sh.u8s
     rw [List.toList_toArray,List.map_map]
     apply List.ext_getElem?
     intro i
     rcases Nat.lt_or_ge i 32 with hi | hi
     · obtain ⟨a,ha,_⟩:=cell i hi
       rw [List.getElem?_map,Array.getElem?_toList,ha]
       simp [intOf]
     · rw [List.getElem?_eq_none (by simpa [hsz] using hi),List.getElem?_eq_none (by simpa [hsz] using hi)]
   · rcases Nat.lt_or_ge i 32 with hi | hi
     · obtain ⟨a,ha,wa⟩:=cell i hi
       have e:(cs.toList.map intOf).getD i 0=a:=by simp [List.getD,ha,intOf]
       rw [e]
       have:=bounds_u8 wa
       omega
     · rw [List.getD,List.getElem?_eq_none (by simpa [hsz] using hi)];simp
theorem sl_trod {H:Type} {enc:TypeId × Value→H} {W:World} {fuel:Nat} {cs:List Value} {x:DataW H × List MemPlace}
 (h:DataW.trod enc Tryz.prog W 0 (fun _=>true) true fuel 34 cs=some x):∃a n c Z,cs=[.slice a n c]∧Sl W (.slice a n c) Z:=by
 rcases open_ints Tryz.underlying34 Tryz.underlying5 cells5 h with ⟨hcs,_⟩ | ⟨y,l,c,zs,hcs,_,hl,hm,hz,_,hcell,hwz⟩
 · exact ⟨none,0,0,[],hcs,Sl.none _⟩
 · simp only [if_true] at hz
   have hlen:(zs.take l).length=l:=by rw [List.length_take];omega
   refine ⟨some y,l,c,zs.take l,hcs,some y,c,by rw [hlen],by rw [hlen];exact hl,hm,(fun e=>by cases e),?_⟩
   rw [hlen]
   rcases Nat.eq_zero_or_pos l with h0 | h0
   · exact .inl h0
   · obtain ⟨yb,yo,ys⟩:=y
     have hys:ys=none:=by simpa [Addr.add] using World.cell?_spot (hcell 0 (by omega))
     subst hys
     have hby:∀q,0≤zs.getD q 0∧zs.getD q 0<256:=fun q=>by
      have:=range_u8 hwz q
      rw [List.getD_eq_getElem?_getD]
      omega
     refine .inr ⟨h0,yb,yo,rfl,hl,hm,fun q hq=>?_,fun q=>?_⟩
     · have:=hcell q (by omega)
       rw [Addr.add_lit] at this
       rw [this]
       simp [List.getD,hq]
     · by_cases hq:q<l
       · have:=hby q
         simpa [List.getD,List.getElem?_take,hq] using this
       · simp [List.getD,List.getElem?_take,hq]
structure PkI where
 k:Int
 c:Int
 n:Int
 a:Option Addr
 m:Nat
 cp:Nat
 X:List Int
structure PktI (W:World) (v:Value) (L:PkI):Prop where
 v:v = .agg #[.int .u8 L.k,.int .i64 L.c,.int .i64 L.n,.slice L.a L.m L.cp]
 s:Sl W (.slice L.a L.m L.cp) L.X
 k:0≤L.k∧L.k<256
 c:-9223372036854775808≤L.c∧L.c≤9223372036854775807
 n:-9223372036854775808≤L.n∧L.n≤9223372036854775807
theorem pkt_in {H:Type} {enc:TypeId × Value→H} {W:World} {base:Nat} {v:Value} {d:DataW H} {p:List MemPlace}
 (hval:Value.okWide Tryz.prog W .any base 49 v) (h:DataW.Trod enc Tryz.prog W 0 (fun _=>true) true 49 v d p):∃L,PktI W v L:=by
 obtain ⟨cs,rfl,hsz⟩:=okWide_struct Tryz.underlying49 hval
 obtain ⟨fuel,hf⟩:=h
 obtain ⟨y0,y1,y2,y3,n,_,hl,h0,h1,h2,h3⟩:=Go.Joins.trod_struct4 Tryz.underlying49 hf
 rw [cellsP] at hl
 obtain ⟨v0,v1,v2,v3,hc⟩:∃v0 v1 v2 v3,cs.toList=[v0,v1,v2,v3]:=by
  match hh:cs.toList,hl with
  | [v0,v1,v2,v3],_=>exact ⟨v0,v1,v2,v3,rfl⟩
 have hc':(Value.agg cs).cells.toList=[v0,v1,v2,v3]:=hc
 rw [hc'] at h0 h1 h2 h3
 simp only [cells5,cells3,cellsB] at h0 h1 h2 h3
 obtain ⟨b,e0,_,w0⟩:=DataW.trod_int Tryz.underlying5 h0
 obtain ⟨l,e1,_,w1⟩:=DataW.trod_int Tryz.underlying3 h1
 obtain ⟨m,e2,_,w2⟩:=DataW.trod_int Tryz.underlying3 h2
 obtain ⟨sa,sn,sc,Z,e3,hs⟩:=sl_trod h3
 simp at e0 e1 e2 e3
 subst e0 e1 e2 e3
 have hb:=bounds_u8 w0
 refine ⟨⟨b,l,m,sa,sn,sc,Z⟩,?_,hs,by simp only;omega,bounds_i64 w1,bounds_i64 w2⟩
 congr 1
 apply Array.ext'
 exact hc
end Go.Proofs.YtiollhmbdhepkaaGreatDoor
