/- Ytiollhmbdhepkaa: what PacketBack reaches, joined and cut (its parts: wip) -/
import Derived.Test.YtiollhmbdhepkaaGreatDoorVaa
import Derived.Test.YtiollhmbdhepkaaGreatDoorVar
import Derived.Laws.StructEq
import Derived.Deep.QuietTactic
import Derived.BigQuiet
import Derived.Test.YtiollhmbdhepkaaGreatDoorVay
import Derived.Deep.RegionWith
import Derived.Deep.RegionHeld3
namespace Go.Proofs.YtiollhmbdhepkaaGreatDoor.Sh
open Go.RowKit
set_option maxRecDepth 100000
theorem flat_le (ZZ:List (List Int)) (j:Nat):(ZZ.take j).flatten.length≤ZZ.flatten.length:=by
 have h:ZZ.flatten=(ZZ.take j).flatten++(ZZ.drop j).flatten:=by rw [←List.flatten_append,List.take_append_drop]
 rw [h,List.length_append];omega
theorem hsof_nil {w:World} {G:Nat} (h:Hs w G (Pl.words Pl.init) (List.replicate 64 0) 0):HsOf w G []:=by
 exact ⟨_,h,byteList (List.replicate 64 0) (by decide),fun i hi=>by simp at hi⟩
theorem _root_.Go.Proofs.YtiollhmbdhepkaaGreatDoor.Sl.apart {w:World} {v:Value} {xs:List Int} {g:Nat} (h:Sl w v xs) (hg:w.heap.size≤g):Apart g v:=by
 obtain ⟨a,cap,rfl,h1,h2,h3,h4⟩:=h
 rintro a' l' c' e hl
 cases e
 rcases h4 with h4 | ⟨_,b,off,e,_,_,hc,_⟩
 · omega
 · cases e
   have:=World.block_lt_of_cell? _ _ (hc 0 hl)
   show b≠g
   have h5:b<w.heap.size:=this
   omega
set_option maxHeartbeats 2000000 in
set_option maxRecDepth 100000 in
theorem of_any (p:Option Addr) (kc:Nat) (ZZ:List (List Int)) (w:World) (ht:Tab w) (hP:Parts w p ZZ) (hbig:ZZ.flatten.length≤100000000000000000) :
 Calls Tryz.prog 111 #[.slice p ZZ.length kc] w fun e w'=>e = .returned (.agg (u8s (Pl.sha ZZ.flatten)))∧Below w.heap.size w w':=by
 obtain ⟨wa,hwa⟩:∃wa,wa=w.alloc (.cells (u8s (List.replicate 32 0)) 47):=⟨_,rfl⟩
 have ba:Below w.heap.size w wa:=by rw [hwa];exact (Below.refl _ _).alloc (Nat.le_refl _) _
 have g0:wa.heap[w.heap.size]? = some (.cells (u8s (List.replicate 32 0)) 47 (0,0)):=by rw [hwa];exact heap_alloc_new _ _
 have hta:=ht.below ba ht.size
 have cn:=new_any wa hta
 have hlt:w.heap.size<wa.heap.size:=World.block_lt_of_cell? _ _ ((cell_of_row _ _ 0 _ _ _ g0).trans (u8s_get _ 0 (by simp)))
 have hF:4≤wa.heap.size:=hta.size
 obtain ⟨F,hF'⟩:∃F,F=wa.heap.size:=⟨_,rfl⟩
 have hwz:w.alloc (.cells #[.int .u8 0,.int .u8 0,.int .u8 0,.int .u8 0,.int .u8 0,.int .u8 0,.int .u8 0,.int .u8 0,.int .u8 0,.int .u8 0,.int .u8 0,.int .u8 0,.int .u8 0,.int .u8 0,.int .u8 0,.int .u8 0,.int .u8 0,.int .u8 0,.int .u8 0,.int .u8 0,.int .u8 0,.int .u8 0,.int .u8 0,.int .u8 0,.int .u8 0,.int .u8 0,.int .u8 0,.int .u8 0,.int .u8 0,.int .u8 0,.int .u8 0,.int .u8 0] 47)=wa:=hwa.symm
 rw [←hF'] at cn hlt hF
 have HF:Hid (F=wa.heap.size):=hF'
 have HBA:Hid (Below w.heap.size w wa):=ba
 have HG0:Hid (wa.heap[w.heap.size]? = some (.cells (u8s (List.replicate 32 0)) 47 (0,0))):=g0
 have HT:Hid (Tab wa):=hta
 have HI:Hid ((Tryz.prog.info? 47).map (·.size)=some (u8s (Pl.sha ZZ.flatten)).size):=by unfold Hid;rw [u8s_size,sha_len];exact size26
 have HO:Hid ((u8s (List.replicate 32 0)).size=(u8s (Pl.sha ZZ.flatten)).size):=by unfold Hid;rw [u8s_size,u8s_size,sha_len];simp
 have HB0:Hid (∀j,(ZZ.take j).flatten.length≤100000000000000000):=fun j=>Nat.le_trans (flat_le ZZ j) hbig
 have hL:=hP.1
 have HP:Hid (ZZ=[]∨∃b off,p=some ⟨b,off,none⟩∧∀i,i<ZZ.length→∃v,wa.cell? ⟨b,off+i,none⟩=some v∧Sl wa v (ZZ.getD i [])∧Apart F v):=by
  rcases hP.2 with h | ⟨b,off,e,h⟩
  · exact .inl h
  · refine .inr ⟨b,off,e,fun i hi=>?_⟩
    obtain ⟨v,h1,h2⟩:=h i hi
    exact ⟨v,(ba.cell (World.block_lt_of_cell? _ _ h1)).trans h1,h2.kept ba,h2.apart (by omega)⟩
 obtain ⟨k,hk⟩:∃k,k=ZZ.length:=⟨_,rfl⟩
 have HK:Hid (k=ZZ.length):=hk
 rw [←hk] at hL ⊢
 clear hk ht ba g0 hta hF' hwa hP hbig
 go_enter Tryz.func111,Tryz.ntmps111
 go_wp2_with fail
 refine cn.mono ?_
 rintro e w1 ⟨rfl,n1,b1⟩
 have hb1:Below wa.heap.size wa w1:=by rw [←HF.out];exact b1
 have HW1:Hid (HsOf w1 F []):=hsof_nil n1
 have HB1:Hid (Below F wa w1):=b1
 have hF1:F<w1.heap.size:=n1.lt
 clear cn n1 b1 hb1
 go_wp2_with fail
 go_loopw [9] (fun q wr=>∃j:Nat,j≤k∧q = .int .i64 j∧HsOf wr F (ZZ.take j).flatten∧Below F wa wr) (fun q _=>k-(intOf q).toNat)
 case atStart=>exact ⟨0,by omega,rfl,HW1.out,HB1.out⟩
 case round=>
  clear HW1 HB1
  obtain ⟨j,hj,rfl,hs,bel⟩:=hrel
  have HH:Hid (HsOf wr F (ZZ.take j).flatten):=hs
  have BE:Hid (Below F wa wr):=bel
  by_cases hltj:j<k
  · have lt2:(j:Int)<(k:Int):=by omega
    rcases HP.out with h0 | ⟨b,off,rfl,hp⟩
    · rw [h0] at HK;have:=HK.out;simp at this;omega
    · obtain ⟨v,c1,c2,c3⟩:=hp j (by rw [←HK.out];exact hltj)
      have hbF:b<F:=by have:=World.block_lt_of_cell? _ _ c1;have:=HF.out;simp at *;omega
      have kc1:=(bel.cell (p:=⟨b,off+j,none⟩) hbF).trans c1
      have belw:Below wa.heap.size wa wr:=by rw [←HF.out];exact bel
      have cw:=write_any F (ZZ.take j).flatten v (ZZ.getD j []) wr (HT.out.below bel hF) hs (c2.kept belw) c3 hF (by
       have h1:=HB0.out (j+1)
       rw [flat_succ ZZ j (by rw [←HK.out];exact hltj),List.length_append] at h1
       omega)
      rw [←flat_succ ZZ j (by rw [←HK.out];exact hltj)] at cw
      obtain ⟨ad,cp,hv,-⟩:=c2
      subst hv
      have hFw:F≤wr.heap.size:=by have:=BE.out.size;have:=HF.out;omega
      clear hs bel hp c1 c3 belw
      go_wp2_with fail
      refine cw.mono ?_
      rintro e w2 ⟨⟨u2,rfl⟩,h2,b2⟩
      have H2:Hid (HsOf w2 F (ZZ.take (j+1)).flatten):=h2
      have B2:Hid (Below F wa w2):=BE.out.trans (b2.below (Nat.le_refl _) hFw)
      clear cw h2 b2
      go_wp2
      go_roundw
      case rel=>exact ⟨j+1,by omega,by go_num,H2.out,B2.out⟩
      case measure=>simp [intOf];omega
  · obtain rfl:j=k:=by omega
    have hz:(ZZ.take j).flatten=ZZ.flatten:=by rw [HK.out,List.take_length]
    rw [hz] at hs
    have cs:=sum_any F ZZ.flatten wr (HT.out.below bel hF) hs (by have:=HB0.out j;rw [hz] at this;exact this)
    have hFw:F≤wr.heap.size:=by have:=BE.out.size;have:=HF.out;omega
    clear hs bel hz
    go_wp2_with fail
    refine cs.mono ?_
    rintro e w4 ⟨rfl,b4⟩
    have hB4:Below F wa w4:=BE.out.trans (b4.mono hFw)
    have G4:Hid (w4.heap[w.heap.size]? = some (.cells (u8s (List.replicate 32 0)) 47 (0,0))):=(hB4.block _ hlt).trans HG0.out
    have B4:Hid (Below w.heap.size w w4):=HBA.out.trans (hB4.mono (by omega))
    clear cs b4 hB4
    go_wp2_with (refine wpList_store_row rfl 47 _ _ rfl w.heap.size (u8s (Pl.sha ZZ.flatten)) rfl rfl 47 _ G4.out HI.out HO.out (u8s_one _) ?_)
    refine bodyPost_ret (v:=.agg (u8s (Pl.sha ZZ.flatten))) (results_cell_row rfl _ _ w.heap.size 47 (u8s (Pl.sha ZZ.flatten)) (0,0) _ rfl (setRow_heap _ _ _ _ _ _ G4.out) Tryz.underlying47 rfl HI.out) rfl ⟨rfl,below_setRow B4.out (Nat.le_refl _) _⟩
end Go.Proofs.YtiollhmbdhepkaaGreatDoor.Sh
namespace Go.Proofs.YtiollhmbdhepkaaGreatDoor.Mc
open Go.Proofs.YtiollhmbdhepkaaGreatDoor.Sh Go.Proofs.YtiollhmbdhepkaaGreatDoor.Fi
set_option maxRecDepth 100000
open Go.RowKit
def xb (a b:Int):Int:=((a.toNat ^^^ b.toNat:Nat):Int)
theorem xb_bits (a b:Int) (h1:0≤a) (h2:a<256) (h3:0≤b) (h4:b<256):bits .xor .u8 a b=xb a b:=u8_xor a b h1 h2 h3 h4
theorem xb_byte (a b:Int) (h1:0≤a) (h2:a<256) (h3:0≤b) (h4:b<256):0≤xb a b∧xb a b<256:=by
 unfold xb
 have:a.toNat ^^^ b.toNat<2 ^ 8:=Nat.xor_lt_two_pow (by omega) (by omega)
 omega
def msk (k:List Int) (m:Int):List Int:=(List.range 64).map fun i=>xb (k.getD i 0) m
theorem msk_len (k:List Int) (m:Int):(msk k m).length=64:=by simp [msk]
theorem msk_get (k:List Int) (m:Int) (i:Nat) (h:i<64):(msk k m).getD i 0=xb (k.getD i 0) m:=map_getI _ 64 i h
theorem msk_byt {k:List Int} {m:Int} (hk:Pl.Byt k) (h0:0≤m) (h1:m<256):Pl.Byt (msk k m):=by
 intro i
 rcases Nat.lt_or_ge i 64 with h | h
 · rw [msk_get _ _ _ h];exact xb_byte _ _ (hk i).1 (hk i).2 h0 h1
 · rw [List.getD,List.getElem?_eq_none (by rw [msk_len];exact h)];simp
def key0 (k:List Int):List Int:=if 64<k.length then Pl.sha k else k
def hin (k xs:List Int):List Int:=Pl.sha (msk (key0 k) 54++xs)
def hmac (k xs:List Int):List Int:=Pl.sha (msk (key0 k) 92++hin k xs)
theorem hmac_len (k xs:List Int):(hmac k xs).length=32:=sha_len _
theorem hin_len (k xs:List Int):(hin k xs).length=32:=sha_len _
theorem digest_byt (s:Pl.S8):Pl.Byt (Pl.digest s):=by
 intro i
 rcases Nat.lt_or_ge i 32 with h | h
 · unfold Pl.digest
   rw [map_getI _ 32 _ h]
   have:=Nat.mod_lt ((Pl.words s).getD (i / 4) 0 / 2 ^ (24-8*(i % 4))) (show 0<256 by omega)
   omega
 · rw [List.getD,List.getElem?_eq_none (by rw [digest_len];exact h)];simp
theorem sha_byt (l:List Int):Pl.Byt (Pl.sha l):=digest_byt _
theorem hmac_byt (k xs:List Int):Pl.Byt (hmac k xs):=sha_byt _
theorem key0_len (k:List Int):(key0 k).length≤64:=by
 unfold key0
 split
 · rw [sha_len];omega
 · omega
def ov (A B:List Int) (j:Nat):List Int:=A.take j++B.drop j
theorem ov_len (A B:List Int) (j:Nat) (h:A.length=B.length):(ov A B j).length=A.length:=by unfold ov;simp;omega
theorem ov_zero (A B:List Int):ov A B 0=B:=by simp [ov]
theorem ov_all (A B:List Int) (h:A.length=B.length):ov A B A.length=A:=by unfold ov;rw [h,List.drop_length,←h,List.take_length,List.append_nil]
theorem ov_get (A B:List Int) (j:Nat) (hj:j<A.length):(ov A B j).getD j 0=B.getD j 0:=by
 unfold ov
 simp [List.getD,List.getElem?_append,List.length_take,List.getElem?_drop,Nat.min_eq_left (Nat.le_of_lt hj)]
theorem ov_set (A B:List Int) (j:Nat) (h:A.length=B.length) (hj:j<A.length):(ov A B j).set j (A.getD j 0)=ov A B (j+1):=by
 apply List.ext_getElem?
 intro k
 unfold ov
 rw [List.getElem?_set]
 by_cases e:j=k
 · subst e
   rw [if_pos rfl,if_pos (by simp;omega),List.getElem?_append_left (by simp;omega),List.getElem?_take,if_pos (by omega)]
   simp [List.getD,List.getElem?_eq_getElem hj]
 · simp only [e,if_false,List.getElem?_append,List.length_take,List.getElem?_take,List.getElem?_drop]
   repeat' split
   all_goals first | rfl | omega | (congr 1;omega)
def p64 (xs:List Int):List Int:=xs++List.replicate (64-xs.length) 0
theorem p64_len (xs:List Int) (h:xs.length≤64):(p64 xs).length=64:=by unfold p64;simp;omega
theorem p64_get (xs:List Int) (i:Nat):(p64 xs).getD i 0=xs.getD i 0:=by
 unfold p64
 rcases Nat.lt_or_ge i xs.length with h | h
 · rw [getD_append_left _ _ _ h]
 · rw [getD_append_right _ _ _ h,List.getD,List.getElem?_replicate,List.getD,List.getElem?_eq_none h]
   split<;>rfl
theorem splice_p64 (xs:List Int):splice ((List.replicate 64 (0:Int)).map (Value.int .u8)) 0 (xs.map (Value.int .u8))=(p64 xs).map (Value.int .u8):=by
 unfold splice p64
 rw [List.map_append,List.take_zero,List.nil_append,Nat.zero_add,List.length_map,←List.map_drop,List.drop_replicate]
theorem mk64:∀w:World,(Instr.makeSlice 34 (.int .i64 64) (.int .i64 64)).run Tryz.prog w = .ok (.slice (some ⟨w.heap.size,0,none⟩) 64 64) (w.alloc (.cells (u8s (List.replicate 64 0)) 5)):=fun _=>by kernel_rfl
theorem wpList_copy64 {w w0:World} {ops:Array Oper} {rest:List Oper} {o:Oper} {a:Act} {Q:Exit→Act→World→Prop} (hgd:o.guard=none) (d s:Operand)
 (ho:o.op = .call { callee:=.builtin .copy,args:=#[d,s],argTypes:=#[34,34] }) (G:Nat) (hd:a.eval d = .slice (some ⟨G,0,none⟩) 64 64)
 (src:Value) (Z:List Int) (hs:a.eval s=src) (hsl:Sl w src Z) (hl:Z.length≤64) (hg:w.heap[G]? = some (.cells (u8s (List.replicate 64 0)) 5 (0,0))) (hb:Below G w0 w)
 (h:∀w',w'.heap[G]? = some (.cells (u8s (p64 Z)) 5 (0,0))→Below G w0 w'→wpList Tryz.prog ops Q rest (a.put o.dst (goInt Z.length)) w'):wpList Tryz.prog ops Q (o::rest) a w:=by
 obtain ⟨ad,cap,rfl,h1,h2,h3,h4⟩:=hsl
 refine wpList_copy_splice hgd d s 34 34 ho 5 Tryz.underlying34 size5 _ _ _ _ _ _ hd hs G 0 ((List.replicate 64 (0:Int)).map (Value.int .u8)) 5 hg (Z.map (Value.int .u8)) ?_ (fun hp=>⟨rfl,?_⟩) ?_ (ints_one _) G w0 hb (Nat.le_refl _) ?_
 · rw [List.length_map];exact (Nat.min_eq_left hl).symm
 · rcases id h4 with h5 | ⟨_,b,off,rfl,_⟩
   · rw [List.length_map] at hp;omega
   · exact ⟨_,rfl,news_row h4⟩
 · rw [List.length_map,List.length_map,List.length_replicate];omega
 · intro w' hg' hb'
   have hg2:=hg'.out
   rw [splice_p64] at hg2
   have:=h w' hg2 hb'
   rwa [List.length_map]
set_option maxHeartbeats 2000000 in
set_option maxRecDepth 100000 in
theorem masked_any (v:Value) (xs:List Int) (m:Int) (w:World) (sl:Sl w v xs) (hl:xs.length≤64) (h0:0≤m) (h1:m<256) :
 Calls Tryz.prog 113 #[v,.int .u8 m] w fun e w'=>e = .returned (.slice (some ⟨w.heap.size,0,none⟩) 64 64)∧Sl w' (.slice (some ⟨w.heap.size,0,none⟩) 64 64) (msk xs m)∧Below w.heap.size w w':=by
 have mk:=mk64 w
 obtain ⟨G,hG⟩:∃G,G=w.heap.size:=⟨_,rfl⟩
 obtain ⟨wa,hwa⟩:∃wa,wa=w.alloc (.cells (u8s (List.replicate 64 0)) 5):=⟨_,rfl⟩
 have ba:Below G w wa:=by rw [hwa,hG];exact (Below.refl _ _).alloc (Nat.le_refl _) _
 have g0:wa.heap[G]? = some (.cells ((List.replicate 64 (0:Int)).map (Value.int .u8)).toArray 5 (0,0)):=by rw [hwa,hG];exact heap_alloc_new _ _
 have sla:Sl wa v xs:=sl.kept (by rw [←hG];exact ba)
 rw [←hwa,←hG] at mk
 rw [←hG]
 have HB:Hid (Pl.Byt xs):=sl.bytes
 have HBA:Hid (Below G w wa):=ba
 have HL:Hid (xs.length≤64):=hl
 have HSL:Hid (Sl wa v xs):=sla
 have HG0:Hid (wa.heap[G]? = some (.cells (u8s (List.replicate 64 0)) 5 (0,0))):=g0
 obtain ⟨a,cap,rfl,-⟩:=sla
 obtain ⟨n,hn⟩:∃n,n=xs.length:=⟨_,rfl⟩
 have HN:Hid (n=xs.length):=hn
 rw [←hn] at HSL hl ⊢
 clear hwa hG ba g0 sl hn
 have HAL:Hid ((msk xs m).length=(p64 xs).length):=by unfold Hid;rw [msk_len,p64_len _ HL.out]
 have HA:Hid ((msk xs m).length=64):=msk_len _ _
 have HGM:Hid (∀i,i<64→(msk xs m).getD i 0=xb ((p64 xs).getD i 0) m):=fun i hi=>by rw [msk_get _ _ _ hi,p64_get]
 have HPB:Hid (Pl.Byt (p64 xs)):=fun i=>by rw [p64_get];exact HB.out i
 have HMB:Hid (Pl.Byt (msk xs m)):=msk_byt HB.out h0 h1
 generalize msk xs m=M at *
 obtain ⟨Z,hZ⟩:∃Z,Z=p64 xs:=⟨_,rfl⟩
 have HZ:Hid (Z=p64 xs):=hZ
 rw [←hZ] at HAL HGM HPB
 clear hZ
 go_enter Tryz.func113,Tryz.ntmps113
 go_wp2_with (refine wpList_copy64 rfl _ _ rfl G rfl _ xs rfl HSL.out HL.out HG0.out HBA.out (Hid.out ?_))
 unfold Hid
 intro w1 HG1 hb1
 have HBB:Hid (Below G w w1):=hb1
 have HG2:Hid (w1.heap[G]? = some (.cells (u8s (p64 xs)) 5 (0,0))):=HG1
 clear HG1 hb1 HBA HG0 mk HSL
 go_wp2
 rw [←HZ.out] at HG2
 clear HB HN HL
 go_loopw [13] (fun i wr=>∃j:Nat,j≤64∧i = .int .i64 j∧wr.heap[G]? = some (.cells (u8s (ov M Z j)) 5 (0,0))∧Below G w wr) (fun i _=>64-(intOf i).toNat)
 case atStart=>exact ⟨0,by omega,rfl,by rw [ov_zero];exact HG2.out,HBB.out⟩
 case round=>
  clear HG2 HBB
  obtain ⟨j,hj,rfl,g,b⟩:=hrel
  by_cases hlt:j<64
  · have lt2:(j:Int)<64:=by omega
    have hjm:j<M.length:=by rw [HA.out];exact hlt
    have kf:=frozen_of_row _ _ j _ _ g
    have kc:=(cell_of_row _ _ j _ _ _ g).trans (u8s_get _ j (by rw [ov_len _ _ _ HAL.out,HA.out];exact hlt))
    rw [ov_get _ _ _ hjm] at kc
    have NS:Hid ((wr.setCell ⟨G,j,none⟩ (.int .u8 (xb (Z.getD j 0) m))).heap[G]? = some (.cells (u8s (ov M Z (j+1))) 5 (0,0))):=by
     have:=heap_setCell_same _ _ j _ _ (.int .u8 (M.getD j 0)) g
     rw [u8s_set,ov_set _ _ _ HAL.out hjm,HGM.out j hlt] at this
     exact this
    have NB:Hid (Below G w (wr.setCell ⟨G,j,none⟩ (.int .u8 (xb (Z.getD j 0) m)))):=b.setCell (Nat.le_refl _) _
    have x1:=xb_bits (Z.getD j 0) m (HPB.out j).1 (HPB.out j).2 h0 h1
    generalize xb (Z.getD j 0) m=y at *
    generalize Z.getD j 0=z at *
    clear g b hjm
    go_wp2
    go_roundw
    case rel=>exact ⟨j+1,by omega,by go_num,NS.out,NB.out⟩
    case measure=>simp [intOf];omega
  · obtain rfl:j=64:=by omega
    have HS:Hid (Sl wr (.slice (some ⟨G,0,none⟩) 64 64) M):=by
     have e:ov M Z 64=M:=by have:=ov_all M Z HAL.out;rwa [HA.out] at this
     rw [e] at g
     refine ⟨some ⟨G,0,none⟩,64,by rw [HA.out],by rw [HA.out];omega,by unfold maxLen;omega,(fun h=>by cases h),.inr ⟨by rw [HA.out];omega,G,0,rfl,by rw [HA.out];omega,by unfold maxLen;omega,fun i hi=>?_,HMB.out⟩⟩
     rw [Nat.zero_add,cell_of_row _ _ _ _ _ _ g,u8s_get _ _ hi]
    have HE:Hid (Below G w wr):=b
    clear g b
    go_wp2
    go_ret
    exact ⟨rfl,HS.out,HE.out⟩
end Go.Proofs.YtiollhmbdhepkaaGreatDoor.Mc
namespace Go.Proofs.YtiollhmbdhepkaaGreatDoor.Mc
open Go.Proofs.YtiollhmbdhepkaaGreatDoor.Sh Go.Proofs.YtiollhmbdhepkaaGreatDoor.Fi
set_option maxRecDepth 100000
open Go.RowKit
theorem info22:(Tryz.prog.info? 34).map (fun i=>(i.zero,i.size,i.bytes))=some (some (.slice none 0 0),1,24):=by kernel_rfl
theorem _root_.Go.Proofs.YtiollhmbdhepkaaGreatDoor.Parts.kept {w w':World} {p:Option Addr} {ZZ:List (List Int)} (h:Parts w p ZZ) (hb:Below w.heap.size w w'):Parts w' p ZZ:=by
 obtain ⟨h1,h2⟩:=h
 refine ⟨h1,?_⟩
 rcases h2 with h2 | ⟨b,off,rfl,hall⟩
 · exact .inl h2
 · refine .inr ⟨b,off,rfl,fun i hi=>?_⟩
   obtain ⟨v,hc,sl⟩:=hall i hi
   exact ⟨v,(hb.cell (p:=⟨b,off+i,none⟩) (World.block_lt_of_cell? _ _ hc)).trans hc,sl.kept hb⟩
theorem _root_.Go.Proofs.YtiollhmbdhepkaaGreatDoor.Parts.vals {w:World} {b off:Nat} {ZZ:List (List Int)} (h:∀i,i<ZZ.length→∃v,w.cell? ⟨b,off+i,none⟩=some v∧Sl w v (ZZ.getD i [])) :
 ∃V:List Value,V.length=ZZ.length∧(∀j u,V[j]? = some u→w.cell? ((⟨b,off,none⟩:Addr).add j)=some u)∧(∀u∈V,u.oneCell'=true)∧∀i,i<ZZ.length→∃u,V[i]? = some u∧Sl w u (ZZ.getD i []):=by
 classical
 refine ⟨(List.range ZZ.length).map fun i=>if h':i<ZZ.length then (h i h').choose else .bool false,by simp,?_,?_,?_⟩
 · intro j u hj
   rw [List.getElem?_map] at hj
   by_cases hlt:j<ZZ.length
   · simp only [List.getElem?_range hlt,Option.map_some,dif_pos hlt,Option.some.injEq] at hj
     subst hj
     rw [Addr.add_lit]
     exact (h j hlt).choose_spec.1
   · rw [List.getElem?_eq_none (by simpa using hlt)] at hj
     simp at hj
 · intro u hu
   simp only [List.mem_map,List.mem_range] at hu
   obtain ⟨i,hi,rfl⟩:=hu
   rw [dif_pos hi]
   obtain ⟨a,c,e,_⟩:=(h i hi).choose_spec.2
   rw [e];rfl
 · intro i hi
   exact ⟨_,by simp only [List.getElem?_map,List.getElem?_range hi,Option.map_some,dif_pos hi],(h i hi).choose_spec.2⟩
theorem parts_owned {w:World} {base n:Nat} {v:Value} {V:List Value} {ZZ:List (List Int)} (ho:w.ownsRow base 34 1 v n V) (hn:n=ZZ.length) (hm:n≤9223372036854775807)
 (h:∀i,i<ZZ.length→∃u,V[i]? = some u∧Sl w u (ZZ.getD i [])):∃p c,v = .slice p ZZ.length c∧Parts w p ZZ:=by
 subst hn
 rcases ho.2 with ⟨rfl,h0⟩ | ⟨g,cap,cur,rfl,_⟩
 · refine ⟨none,0,by rw [h0],hm,.inl (List.length_eq_zero_iff.1 h0)⟩
 · refine ⟨_,cap,rfl,hm,.inr ⟨g,0,rfl,fun i hi=>?_⟩⟩
   obtain ⟨u,hu,sl⟩:=h i hi
   refine ⟨u,?_,sl⟩
   have:=ho.cells (g:=g) rfl i u hu
   rwa [Addr.add_lit] at this
theorem own_lit1 (w:World) (v:Value):(w.alloc (.cells #[v] 34)).ownsRow w.heap.size 34 1 (.slice (some ⟨w.heap.size,0,none⟩) 1 1) 1 [v]:=
 ⟨rfl,.inr ⟨w.heap.size,1,#[v],rfl,Nat.le_refl _,heap_alloc_new _ _,Nat.le_refl _,by unfold maxLen;omega,rfl,rfl⟩⟩
theorem wpList_append_parts {w w0:World} {ops:Array Oper} {rest:List Oper} {o:Oper} {a:Act} {Q:Exit→Act→World→Prop} (hgd:o.guard=none) (s x:Operand)
 (ho:o.op = .call { callee:=.builtin .append,args:=#[s,x],argTypes:=#[100,100] })
 (base:Nat) (v:Value) (n:Nat) (V:List Value) (XX:List (List Int)) (hs:a.eval s=v) (hown:w.ownsRow base 34 1 v n V) (hb0:Below base w0 w) (hw0:base=w0.heap.size) (hn:n=XX.length)
 (hV:∀i,i<XX.length→∃u,V[i]? = some u∧Sl w0 u (XX.getD i []))
 (p:Option Addr) (k c:Nat) (ZZ:List (List Int)) (hx:a.eval x = .slice p k c) (hk:k=ZZ.length) (hc:p=none→c=0) (hP:Parts w0 p ZZ) (hbig:n+ZZ.length≤1000000000)
 (h:∀p' c' w',Parts w' p' (XX++ZZ)→Below base w0 w'→wpList Tryz.prog ops Q rest (a.put o.dst (.slice p' (XX++ZZ).length c')) w'):wpList Tryz.prog ops Q (o::rest) a w:=by
 obtain ⟨i0,hi,hz0,hz1,hz2⟩:=info_parts info22
 subst hk
 have bw:Below w0.heap.size w0 w:=by rw [←hw0];exact hb0
 have hbase:base≤w.heap.size:=by rw [hw0];exact bw.size
 have e0:∀i,(XX++ZZ).getD i []=if i<XX.length then XX.getD i [] else ZZ.getD (i-XX.length) []:=fun i=>by
  split
  · next h=>simp [List.getD,List.getElem?_append_left h]
  · next h=>simp [List.getD,List.getElem?_append_right (show XX.length≤i by omega)]
 have hVl:V.length=n:=by have:=hown.1;simpa using this
 by_cases hz:ZZ=[]
 · subst hz
   have hap:(XX++([]:List (List Int)))=XX:=List.append_nil _
   rw [hap] at h
   cases p with
   | none=>
     obtain rfl:=hc rfl
     refine wpList_append_own_none hgd s x 100 ho base 34 i0 1 Tryz.underlying100 hi v n V hs hown hx ?_
     obtain ⟨p',c',rfl,hp'⟩:=parts_owned hown hn (by omega) (fun i hi=>by
      obtain ⟨u,h1,h2⟩:=hV i hi
      exact ⟨u,h1,h2.kept bw⟩)
     exact h p' c' w hp' hb0
   | some y=>
     refine wpList_append_own_wide w hgd s x 100 ho base 34 i0 (.slice none 0 0) 1 24 Tryz.underlying100 hi hz0 hz1 hz2 rfl (by decide) v n V hs hown y 0 c [] hx rfl (fun j u hj=>by simp at hj) (fun u hu=>by simp at hu) (by unfold maxLen;omega) (by simp at hbig;omega) hbase ?_
     intro v' w' ho' hg _
     have bw':Below base w0 w':=hb0.grown hg hbase (own_base hown)
     rw [Nat.add_zero,List.append_nil] at ho'
     obtain ⟨p',c',rfl,hp'⟩:=parts_owned ho' hn (by omega) (fun i hi=>by
      obtain ⟨u,h1,h2⟩:=hV i hi
      exact ⟨u,h1,h2.kept (by rw [←hw0];exact bw')⟩)
     exact h p' c' w' hp' bw'
 · rcases hP.2 with h0 | ⟨b,off,rfl,hall⟩
   · exact absurd h0 hz
   · obtain ⟨U,u1,u2,u3,u4⟩:=Parts.vals hall
     have u2':∀j u,U[j]? = some u→w.cell? ((⟨b,off,none⟩:Addr).add j)=some u:=fun j u hj=>by
      have h1:=u2 j u hj
      exact (bw.cell (World.block_lt_of_cell? _ _ h1)).trans h1
     refine wpList_append_own_wide w hgd s x 100 ho base 34 i0 (.slice none 0 0) 1 24 Tryz.underlying100 hi hz0 hz1 hz2 rfl (by decide) v n V hs hown ⟨b,off,none⟩ ZZ.length c U hx (by rw [u1,Nat.mul_one]) u2' u3 (by unfold maxLen;omega) (by omega) hbase ?_
     intro v' w' ho' hg _
     have bw':Below base w0 w':=hb0.grown hg hbase (own_base hown)
     obtain ⟨p',c',rfl,hp'⟩:=parts_owned (ZZ:=XX++ZZ) ho' (by rw [List.length_append,hn]) (by omega) (fun i hi=>by
      rw [e0]
      rw [List.length_append] at hi
      by_cases hlt:i<XX.length
      · rw [if_pos hlt,List.getElem?_append_left (by omega)]
        obtain ⟨u,h1,h2⟩:=hV i hlt
        exact ⟨u,h1,h2.kept (by rw [←hw0];exact bw')⟩
      · rw [if_neg hlt,List.getElem?_append_right (by omega),hVl,hn]
        obtain ⟨u,h1,h2⟩:=u4 (i-XX.length) (by omega)
        exact ⟨u,h1,h2.kept (by rw [←hw0];exact bw')⟩)
     exact h p' c' w' hp' bw'
set_option maxHeartbeats 2000000 in
set_option maxRecDepth 100000 in
theorem behind_any (v:Value) (X:List Int) (p:Option Addr) (kc:Nat) (ZZ:List (List Int)) (w:World) (ht:Tab w) (sl:Sl w v X) (hP:Parts w p ZZ) (hc:p=none→kc=0) (hl:ZZ.length≤1000000) (hbig:X.length+ZZ.flatten.length≤100000000000000000) :
 Calls Tryz.prog 112 #[v,.slice p ZZ.length kc] w fun e w'=>e = .returned (.agg (u8s (Pl.sha (X++ZZ.flatten))))∧Below w.heap.size w w':=by
 obtain ⟨wa,hwa⟩:∃wa,wa=w.alloc (.cells (u8s (List.replicate 32 0)) 47):=⟨_,rfl⟩
 have ba:Below w.heap.size w wa:=by rw [hwa];exact (Below.refl _ _).alloc (Nat.le_refl _) _
 have g0:wa.heap[w.heap.size]? = some (.cells (u8s (List.replicate 32 0)) 47 (0,0)):=by rw [hwa];exact heap_alloc_new _ _
 have hlt:w.heap.size<wa.heap.size:=by rw [hwa];simp
 have hwz:w.alloc (.cells #[.int .u8 0,.int .u8 0,.int .u8 0,.int .u8 0,.int .u8 0,.int .u8 0,.int .u8 0,.int .u8 0,.int .u8 0,.int .u8 0,.int .u8 0,.int .u8 0,.int .u8 0,.int .u8 0,.int .u8 0,.int .u8 0,.int .u8 0,.int .u8 0,.int .u8 0,.int .u8 0,.int .u8 0,.int .u8 0,.int .u8 0,.int .u8 0,.int .u8 0,.int .u8 0,.int .u8 0,.int .u8 0,.int .u8 0,.int .u8 0,.int .u8 0,.int .u8 0] 47)=wa:=hwa.symm
 have HFL:Hid ([X]++ZZ=X::ZZ):=rfl
 have hfl:(X::ZZ).flatten=X++ZZ.flatten:=rfl
 have HI:Hid ((Tryz.prog.info? 47).map (·.size)=some (u8s (Pl.sha (X++ZZ.flatten))).size):=by unfold Hid;rw [u8s_size,sha_len];exact size26
 have HO:Hid ((u8s (List.replicate 32 0)).size=(u8s (Pl.sha (X++ZZ.flatten))).size):=by unfold Hid;rw [u8s_size,u8s_size,sha_len];simp
 have HON:Hid ((u8s (Pl.sha (X++ZZ.flatten))).all (·.oneCell')=true):=u8s_one _
 have COF:Hid (∀p' c' W,Below w.heap.size w W→Parts W p' (X::ZZ)→Calls Tryz.prog 111 #[.slice p' ([X]++ZZ).length c'] W fun e w'=>e = .returned (.agg (u8s (Pl.sha (X++ZZ.flatten))))∧Below W.heap.size W w'):=fun p' c' W hW hp=>by
  have:=of_any p' c' (X::ZZ) W (ht.below hW ht.size) hp (by rw [hfl,List.length_append];exact hbig)
  rw [hfl] at this
  exact this
 have own0:=own_lit1 wa v
 have SLA:Hid (∀i,i<[X].length→∃u,[v][i]? = some u∧Sl wa u ([X].getD i [])):=fun i hi=>by
  obtain rfl:i=0:=by simpa using hi
  exact ⟨v,rfl,sl.kept ba⟩
 have HPA:Hid (Parts wa p ZZ):=hP.kept ba
 have bal:Below wa.heap.size wa (wa.alloc (.cells #[v] 34)):=(Below.refl _ _).alloc (Nat.le_refl _) _
 have HC:Hid (p=none→kc=0):=hc
 have HBA:Hid (Below w.heap.size w wa):=ba
 have HG0:Hid (wa.heap[w.heap.size]? = some (.cells (u8s (List.replicate 32 0)) 47 (0,0))):=g0
 obtain ⟨k,hk⟩:∃k,k=ZZ.length:=⟨_,rfl⟩
 have HK:Hid (k=ZZ.length):=hk
 rw [←hk] at hl ⊢
 obtain ⟨av,cv,rfl,-⟩:=sl
 clear hwa ba g0 hP hc hfl hbig ht hk
 generalize u8s (Pl.sha (X++ZZ.flatten))=U at *
 go_enter Tryz.func112,Tryz.ntmps112
 go_wp2_with (at_builtin;refine wpList_append_parts rfl _ _ rfl wa.heap.size _ _ _ [X] rfl own0 bal rfl rfl SLA.out p _ kc ZZ rfl HK.out HC.out HPA.out (by rw [←HK.out];omega) (Hid.out ?_))
 unfold Hid
 intro p' c' w1 hp1 hb1
 have B1:Below w.heap.size w w1:=HBA.out.trans (hb1.mono (by omega))
 have c1:=COF.out p' c' w1 B1 hp1
 have HG1:Hid (w1.heap[w.heap.size]? = some (.cells (u8s (List.replicate 32 0)) 47 (0,0))):=(hb1.block _ hlt).trans HG0.out
 have HB1:Hid (Below w.heap.size w w1):=B1
 clear B1 hp1 hb1 own0 bal COF
 go_wp2_with fail
 refine c1.mono ?_
 rintro e w2 ⟨rfl,b2⟩
 have B2:Hid (Below w.heap.size w w2):=HB1.out.trans (b2.mono HB1.out.size)
 have HG2:Hid (w2.heap[w.heap.size]? = some (.cells (u8s (List.replicate 32 0)) 47 (0,0))):=(b2.block _ (Array.getElem?_eq_some_iff.1 HG1.out).1).trans HG1.out
 clear c1 b2
 go_wp2_with (refine wpList_store_row rfl 47 _ _ rfl w.heap.size U rfl rfl 47 _ HG2.out HI.out HO.out HON.out ?_)
 refine bodyPost_ret (v:=.agg U) (results_cell_row rfl _ _ w.heap.size 47 U (0,0) _ rfl (setRow_heap _ _ _ _ _ _ HG2.out) Tryz.underlying47 rfl HI.out) rfl ⟨rfl,below_setRow B2.out (Nat.le_refl _) _⟩
end Go.Proofs.YtiollhmbdhepkaaGreatDoor.Mc
