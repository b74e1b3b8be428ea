/- Ytiollhmbdhepkaa: what PacketBack reaches, joined and cut (its parts: wip) -/
import Derived.Laws.AppendOwnNone
import Derived.Deep.DeepAppendWide
import Derived.Lib.AppendZerosOnto
import Derived.Lib.Walk
import Derived.Test.YtiollhmbdhepkaaGreatDoorVal
import Derived.Test.YtiollhmbdhepkaaGreatDoorVah
import Derived.Test.YtiollhmbdhepkaaGreatDoorVam
import Derived.Test.YtiollhmbdhepkaaGreatDoorVaa
namespace Go.Proofs.YtiollhmbdhepkaaGreatDoor.Fi
open Go.RowKit
set_option maxRecDepth 100000
theorem info5':(Tryz.prog.info? 5).map (fun i=>(i.zero,i.size,i.bytes))=some (some (.int .u8 0),1,1):=by kernel_rfl
def Sl (w:World) (v:Value) (xs:List Int):Prop:=
 ∃a cap,v = .slice a xs.length cap∧xs.length≤cap∧cap≤maxLen∧(a=none→cap=0)∧Row w a xs.length cap xs
theorem Row.kept {w w':World} {a:Option Addr} {len cap:Nat} {zs:List Int} (h:Row w a len cap zs) (hb:Below w.heap.size w w'):Row w' a len cap zs:=by
 rcases h with h | ⟨hp,b,off,rfl,hlc,hm,hc,hz⟩
 · exact .inl h
 · exact .inr ⟨hp,b,off,rfl,hlc,hm,fun i hi=>(hb.cell (p:=⟨b,off+i,none⟩) (World.block_lt_of_cell? _ _ (hc i hi))).trans (hc i hi),hz⟩
theorem Sl.kept {w w':World} {v:Value} {xs:List Int} (h:Sl w v xs) (hb:Below w.heap.size w w'):Sl w' v xs:=by
 obtain ⟨a,cap,e,h1,h2,h3,h4⟩:=h
 exact ⟨a,cap,e,h1,h2,h3,h4.kept hb⟩
theorem Row.bytes {w:World} {a:Option Addr} {cap:Nat} {xs:List Int} (h:Row w a xs.length cap xs):∀i,0≤xs.getD i 0∧xs.getD i 0<256:=by
 rcases h with h | ⟨_,_,_,_,_,_,_,hz⟩
 · obtain rfl:=List.length_eq_zero_iff.1 h
   intro i
   simp
 · exact hz
theorem Sl.bytes {w:World} {v:Value} {xs:List Int} (h:Sl w v xs):∀i,0≤xs.getD i 0∧xs.getD i 0<256:=by
 obtain ⟨a,cap,e,h1,h2,h3,h4⟩:=h
 exact h4.bytes
theorem Sl.none (w:World):Sl w (.slice .none 0 0) []:=⟨.none,0,rfl,Nat.le_refl _,by simp,fun _=>rfl,.inl rfl⟩
theorem own_base {w:World} {base:Nat} {e:TypeId} {size:Nat} {v:Value} {n:Nat} {xs:List Value} (h:w.ownsRow base e size v n xs):∀k,v.ownBlock=some k→base≤k:=by
 rcases h.2 with ⟨rfl,_⟩ | ⟨g,cap,cur,rfl,hg,_⟩
 · intro k hk;cases hk
 · intro k hk;cases hk;exact hg
theorem sl_owned {w:World} {base n:Nat} {v:Value} {xs:List Int} (h:w.ownsRow base 5 1 v n (xs.map (Value.int .u8))) (hb:∀i,0≤xs.getD i 0∧xs.getD i 0<256):Sl w v xs:=by
 have hl:=h.1
 simp at hl
 subst hl
 rcases h.2 with ⟨rfl,h0⟩ | ⟨g,cap,cur,rfl,hg,hh,hc,hm,hs,ht⟩
 · obtain rfl:=List.length_eq_zero_iff.1 h0
   exact Sl.none w
 · simp at ht
   refine ⟨_,cap,rfl,hc,hm,fun e=>(by cases e),?_⟩
   rcases Nat.eq_zero_or_pos xs.length with h0 | hp
   · exact .inl h0
   · refine .inr ⟨hp,g,0,rfl,hc,hm,fun i hi=>?_,hb⟩
     have e:cur[i]? = some (.int .u8 (xs.getD i 0)):=by
      have:=congrArg (·[i]?) ht
      simp only [List.getElem?_take,List.getElem?_map] at this
      rw [if_pos hi] at this
      simpa [List.getElem?_eq_getElem hi,List.getD] using this
     unfold World.cell?;rw [hh];simpa using e
theorem ints_one (xs:List Int):∀u∈xs.map (Value.int .u8),u.oneCell'=true:=by
 intro u hu
 simp only [List.mem_map] at hu
 obtain ⟨z,_,rfl⟩:=hu
 rfl
theorem news_row {w:World} {x:Addr} {cap:Nat} {xs:List Int} (h:Row w (some x) xs.length cap xs) :
 ∀j u,(xs.map (Value.int .u8))[j]? = some u→w.cell? (x.add j)=some u:=by
 intro j u hj
 rw [List.getElem?_map] at hj
 by_cases hlt:j<xs.length
 · rw [List.getElem?_eq_getElem hlt] at hj
   simp only [Option.map_some,Option.some.injEq] at hj
   rcases h with h | ⟨_,b,off,e,_,_,hc,_⟩
   · omega
   · cases e
     rw [Addr.add_lit,hc j hlt,←hj]
     simp [List.getD,List.getElem?_eq_getElem hlt]
 · rw [List.getElem?_eq_none (by omega)] at hj
   simp at hj
set_option maxHeartbeats 4000000 in
theorem grow_any (n:Nat) (w:World) (hbig:n≤200000000000000) :
 Calls Tryz.prog 109 #[.slice none 0 0,.int .i64 n] w fun r w'=>∃v,r = .returned v∧w'.ownsRow w.heap.size 5 1 v 0 []∧Below w.heap.size w w':=by
 obtain ⟨i0,hi,hz0,hz1,hz2⟩:=info_parts info5'
 rcases Nat.eq_zero_or_pos n with rfl | hp
 · go_enter Tryz.func109,Tryz.ntmps109
   go_wp2
   go_ret
   exact ⟨_,rfl,World.ownsRow_nil _ _ _ _,Below.refl _ _⟩
 · have hrz:∀ty,(Builtin.append_ #[34,3] ty #[.slice none 0 0,.int .i64 (n:Int)]).run Tryz.prog w =
    .ok (.slice (some ⟨w.heap.size,0,none⟩) n (grownCap w n 0 5)) (w.drew.alloc (.cells (Builtin.zeroCells (Value.int .u8 0).cells n++Builtin.zeroCells (Value.int .u8 0).cells (grownCap w n 0 5-n)) 5)):=fun ty=>by
    have h:=Lib.run_append_grow_zeros (P:=Tryz.prog) w 34 3 ty 5 i0 (.int .u8 0) .i64 .i64 Tryz.underlying34 Tryz.underlying3 hi hz0 none 0 0 []
     (by rw [hz1];exact run_firstCells_none w.drew 1 0 0 0) n hp (by omega) (by omega) (by omega) (by rw [hz2];omega) (growslice_fits_wide (by omega) (by rw [hz2];omega))
    simpa using h
   have hGn:n≤grownCap w n 0 5:=grownCap_ge w _ _ _
   have hGm:=grownCap_le_maxLen w n 0 5 (by unfold maxLen;omega)
   obtain ⟨G,hG⟩:∃G,G=grownCap w n 0 5:=⟨_,rfl⟩
   rw [←hG] at hrz hGn hGm
   have hG63:G≤9223372036854775807:=by unfold maxLen at hGm;omega
   have HM:Hid (G≤maxLen):=hGm
   clear hG hGm
   go_enter Tryz.func109,Tryz.ntmps109
   go_wp2_with (at_builtin;refine Lib.wpList_append_run _ rfl _ _ _ _ rfl _ _ rfl rfl _ _ (hrz _) ?_)
   go_ret
   refine ⟨_,rfl,?_,?_⟩
   · exact World.ownsRow_made (base:=w.heap.size) (e:=5) (size:=1) w.drew _ G (Nat.le_refl _) HM.out (by simp [size_zeroCells];omega)
   · exact ((Below.refl _ w).alloc (Nat.le_refl _) _).drew
def Parts (w:World) (p:Option Addr) (ZZ:List (List Int)):Prop:=
 ZZ.length≤9223372036854775807∧(ZZ=[]∨∃b off,p=some ⟨b,off,none⟩∧∀i,i<ZZ.length→∃v,w.cell? ⟨b,off+i,none⟩=some v∧Sl w v (ZZ.getD i []))
def flen (ZZ:List (List Int)) (j:Nat):Nat:=(ZZ.take j).flatten.length
def fval (ZZ:List (List Int)) (j:Nat):List Value:=(ZZ.take j).flatten.map (Value.int .u8)
theorem flat_succ (ZZ:List (List Int)) (j:Nat) (h:j<ZZ.length):(ZZ.take (j+1)).flatten=(ZZ.take j).flatten++ZZ.getD j []:=by
 rw [List.take_add_one,List.getElem?_eq_getElem h,List.flatten_append]
 simp [List.getD,List.getElem?_eq_getElem h]
theorem flen_succ (ZZ:List (List Int)) (j:Nat) (h:j<ZZ.length):flen ZZ (j+1)=flen ZZ j+(ZZ.getD j []).length:=by
 unfold flen;rw [flat_succ ZZ j h,List.length_append]
theorem fval_succ (ZZ:List (List Int)) (j:Nat) (h:j<ZZ.length):fval ZZ (j+1)=fval ZZ j++(ZZ.getD j []).map (Value.int .u8):=by
 unfold fval;rw [flat_succ ZZ j h,List.map_append]
theorem flen_le (ZZ:List (List Int)) (j:Nat):flen ZZ j≤ZZ.flatten.length:=by
 have h:ZZ.flatten=(ZZ.take j).flatten++(ZZ.drop j).flatten:=by rw [←List.flatten_append,List.take_append_drop]
 unfold flen;rw [h,List.length_append];omega
theorem flen_all (ZZ:List (List Int)):flen ZZ ZZ.length=ZZ.flatten.length:=by unfold flen;rw [List.take_length]
theorem fval_all (ZZ:List (List Int)):fval ZZ ZZ.length=ZZ.flatten.map (Value.int .u8):=by unfold fval;rw [List.take_length]
set_option maxHeartbeats 4000000 in
theorem concat_aux (p:Option Addr) (kc:Nat) (ZZ:List (List Int)) (w:World) (hP:Parts w p ZZ) (k T:Nat) (hk:k=ZZ.length) (hT:T=flen ZZ ZZ.length) (hbig:T≤200000000000000) :
 Calls Tryz.prog 83 #[.slice p k kc] w fun r w'=>∃v,r = .returned v∧w'.ownsRow w.heap.size 5 1 v T (fval ZZ k)∧Below w.heap.size w w':=by
 obtain ⟨i0,hi,hz0,hz1,hz2⟩:=info_parts info5'
 obtain ⟨hk63,hP⟩:=hP
 have HP:Hid (ZZ=[]∨∃b off,p=some ⟨b,off,none⟩∧∀i,i<ZZ.length→∃v,w.cell? ⟨b,off+i,none⟩=some v∧Sl w v (ZZ.getD i [])):=hP
 have HK:Hid (k=ZZ.length):=hk
 have HT:Hid (T=flen ZZ k):=by rw [hk];exact hT
 have HLE:Hid (∀j,flen ZZ j≤T):=fun j=>by rw [hT,flen_all];exact flen_le ZZ j
 rw [←hk] at hk63
 clear hk hT hP
 go_enter Tryz.func83,Tryz.ntmps83
 go_wp2
 go_loop [3,11] (fun n i=>∃j:Nat,j≤k∧i = .int .i64 j∧n = .int .i64 (flen ZZ j:Nat)) (fun _ i=>k-(intOf i).toNat)
 case atStart=>exact ⟨0,by omega,rfl,rfl⟩
 case round=>
  obtain ⟨j,hj,rfl,rfl⟩:=hrel
  by_cases hlt:j<k
  · rcases HP.out with h0 | ⟨b,off,rfl,hall⟩
    · have:=HK.out;rw [h0] at this;simp at this;omega
    · obtain ⟨v,hc,a,cap,rfl,h1,h2,h3,h4⟩:=hall j (by rw [←HK.out];exact hlt)
      have hs:=flen_succ ZZ j (by rw [←HK.out];exact hlt)
      have hle:=HLE.out (j+1)
      have HS:Hid (flen ZZ (j+1)=flen ZZ j+(ZZ.getD j []).length):=hs
      have hsum:flen ZZ j+(ZZ.getD j []).length≤200000000000000:=by omega
      clear hs hle h4 hall h1 h2 h3
      generalize hL:(ZZ.getD j []).length=L at *
      have HL:Hid ((ZZ.getD j []).length=L):=hL
      clear hL
      go_wp2
      go_round
      case rel=>exact ⟨j+1,by omega,by go_num,by rw [HS.out];go_num⟩
      case measure=>simp [intOf];omega
  · obtain rfl:j=k:=by omega
    rw [←HT.out]
    have cg:=grow_any T w hbig
    clear hlt
    go_wp2_with (go_at_call 109;refine cg.mono ?_;rintro e w1 ⟨v1,rfl,own1,bel1⟩)
    clear cg
    go_loopw [6,27] (fun v i wr=>∃m:Nat,m≤j∧i = .int .i64 m∧wr.ownsRow w.heap.size 5 1 v (flen ZZ m) (fval ZZ m)∧Below w.heap.size w wr) (fun _ i _=>j-(intOf i).toNat)
    case atStart=>exact ⟨0,by omega,rfl,own1,bel1⟩
    case round=>
     clear own1 bel1
     obtain ⟨m,hm,rfl,hown,hbel⟩:=hrel
     by_cases hlt:m<j
     · rcases HP.out with h0 | ⟨b,off,rfl,hall⟩
       · have:=HK.out;rw [h0] at this;simp at this;omega
       · obtain ⟨v,hc,a,cap,rfl,h1,h2,h3,h4⟩:=hall m (by rw [←HK.out];exact hlt)
         have hcr:wr.cell? ⟨b,off+m,none⟩=some (.slice a (ZZ.getD m []).length cap):=(hbel.cell (p:=⟨b,off+m,none⟩) (World.block_lt_of_cell? _ _ hc)).trans hc
         have HR:Hid (Row wr a (ZZ.getD m []).length cap (ZZ.getD m [])):=h4.kept hbel
         have HS:Hid (flen ZZ (m+1)=flen ZZ m+(ZZ.getD m []).length):=flen_succ ZZ m (by rw [←HK.out];exact hlt)
         have HV:Hid (fval ZZ (m+1)=fval ZZ m++(ZZ.getD m []).map (Value.int .u8)):=fval_succ ZZ m (by rw [←HK.out];exact hlt)
         have hsum:flen ZZ m+(ZZ.getD m []).length≤200000000000000:=by have h5:=HLE.out (m+1);rw [HS.out] at h5;omega
         have hob:=own_base hown
         have hsz:=hbel.size
         have hcap:Hid (a=none→cap=0):=h3
         clear hc h4 hall h1 h2 h3
         generalize ZZ.getD m []=X at *
         obtain ⟨L,hL⟩:∃L,L=X.length:=⟨_,rfl⟩
         have HL:Hid (L=X.length):=hL
         rw [←hL] at hcr hsum
         clear hL
         cases a with
         | none=>
           obtain rfl:cap=0:=hcap.out rfl
           have hX:X=[]:=by
            rcases HR.out with h | ⟨_,_,_,e,_⟩
            · exact List.length_eq_zero_iff.1 h
            · cases e
           have hL0:L=0:=by rw [HL.out,hX];rfl
           subst hL0
           go_wp2_with (at_builtin;refine wpList_append_own_none rfl _ _ 34 rfl w.heap.size 5 i0 1 Tryz.underlying34 hi _ _ _ rfl hown rfl ?_)
           go_wp2
           go_roundw
           case rel=>
            refine ⟨m+1,by omega,?_,?_,hbel⟩
            · go_num
            · rw [HS.out,HV.out,hX];simpa using hown
           case measure=>simp [intOf];omega
         | some x=>
           go_wp2_with (at_builtin;refine wpList_append_own_wide _ rfl _ _ 34 rfl w.heap.size 5 i0 (.int .u8 0) 1 1 Tryz.underlying34 hi hz0 hz1 hz2 rfl (by decide) _ _ _ rfl hown x L cap (X.map (Value.int .u8)) rfl (by rw [List.length_map,HL.out,Nat.mul_one]) (news_row HR.out) (ints_one X) (by unfold maxLen;omega) (by omega) hsz ?_)
           intro v' w2 hown' hgrow _
           have hbel':Below w.heap.size w w2:=hbel.grown hgrow hsz hob
           clear hown hgrow hbel hob hsz
           go_wp2
           go_roundw
           case rel=>
            refine ⟨m+1,by omega,?_,?_,hbel'⟩
            · go_num
            · rw [HS.out,HV.out,←HL.out];exact hown'
           case measure=>simp [intOf];omega
     · obtain rfl:m=j:=by omega
       go_wp2
       go_ret
       exact ⟨_,rfl,by rw [HT.out];exact hown,hbel⟩
theorem concat_any (p:Option Addr) (kc:Nat) (ZZ:List (List Int)) (w:World) (hP:Parts w p ZZ) (hbig:ZZ.flatten.length≤200000000000000) :
 Calls Tryz.prog 83 #[.slice p ZZ.length kc] w fun r w'=>∃v,r = .returned v∧w'.ownsRow w.heap.size 5 1 v ZZ.flatten.length (ZZ.flatten.map (Value.int .u8))∧Below w.heap.size w w':=by
 have h:=concat_aux p kc ZZ w hP ZZ.length (flen ZZ ZZ.length) rfl rfl (by rw [flen_all];exact hbig)
 rw [flen_all,fval_all] at h
 exact h
theorem bytes_flat (ZZ:List (List Int)) (h:∀X∈ZZ,∀i,0≤X.getD i 0∧X.getD i 0<256):∀i,0≤ZZ.flatten.getD i 0∧ZZ.flatten.getD i 0<256:=by
 refine byteList _ ?_
 rw [List.all_eq_true]
 intro z hz
 obtain ⟨X,hX,hzX⟩:=List.mem_flatten.1 hz
 obtain ⟨i,hi,rfl⟩:=List.getElem_of_mem hzX
 have:=h X hX i
 simp [List.getD,List.getElem?_eq_getElem hi] at this
 simpa using this
theorem join_any (p:Option Addr) (kc:Nat) (ZZ:List (List Int)) (w:World) (hP:Parts w p ZZ) (hbig:ZZ.flatten.length≤200000000000000) :
 Calls Tryz.prog 58 #[.slice p ZZ.length kc] w fun r w'=>∃v,r = .returned v∧w'.ownsRow w.heap.size 5 1 v ZZ.flatten.length (ZZ.flatten.map (Value.int .u8))∧Below w.heap.size w w':=by
 have h:=concat_any p kc ZZ w hP hbig
 generalize ZZ.flatten.length=T at *
 generalize ZZ.flatten.map (Value.int .u8)=V at *
 generalize ZZ.length=k at *
 go_enter Tryz.func58,Tryz.ntmps58
 go_wp2_with (go_at_call 83;refine h.mono ?_;rintro e w1 ⟨v1,rfl,own1,bel1⟩)
 go_ret
 exact ⟨_,rfl,by assumption,by assumption⟩
end Go.Proofs.YtiollhmbdhepkaaGreatDoor.Fi
namespace Go.Proofs.YtiollhmbdhepkaaGreatDoor.Fi
open Go.RowKit
set_option maxRecDepth 100000
def sb (s:ByteArray):List Int:=s.data.toList.map fun b=>(b.toNat:Int)
theorem sb_len (s:ByteArray):(sb s).length=s.size:=by unfold sb;rw [List.length_map];rfl
theorem sb_bytes (s:ByteArray):∀i,0≤(sb s).getD i 0∧(sb s).getD i 0<256:=by
 refine byteList _ ?_
 rw [List.all_eq_true]
 intro z hz
 obtain ⟨b,_,rfl⟩:=List.mem_map.1 hz
 have:=b.toNat_lt
 simp
 omega
theorem strB_sb (s:ByteArray):strB (sb s)=s:=by
 unfold strB sb
 rw [List.map_map]
 have:((fun n:Int=>UInt8.ofNat n.toNat)∘fun b:UInt8=>(b.toNat:Int))=id:=by funext b;simp
 rw [this]
 simp
def numB (n:Int):List Int:=if lenOf n=0 then [] else pb n (lenOf n).toNat
def textB (s:ByteArray):List Int:=numB s.size++sb s
theorem pos_lim (n:Int) (h0:lenOf n≠0):∃W:Nat,lenOf n=W∧W≠0∧IsW W∧0≤n∧n<lim W∧numB n=pb n W:=by
 obtain ⟨W,hW⟩:∃W:Nat,lenOf n=W:=⟨(lenOf n).toNat,by rcases lenOf_cases n with h | h | h | h | h | h<;>omega⟩
 have h1:W≠0:=by omega
 obtain ⟨h2,h3,h4⟩:=lenOf_eq n W hW h1
 refine ⟨W,hW,h1,h2,h3,h4,?_⟩
 unfold numB
 rw [if_neg h0,hW]
 rfl
set_option maxHeartbeats 1000000 in
theorem fnum_any (n:Int) (w:World) (hw:Wid w) :
 Calls Tryz.prog 77 #[.int .i64 n] w fun r w'=>∃v,r = .returned v∧Sl w' v (numB n)∧Below w.heap.size w w':=by
 by_cases h0:lenOf n=0
 · have hn:numB n=[]:=by unfold numB;rw [if_pos h0]
   rw [hn]
   have c:=put_no n w hw h0
   clear hn h0
   go_enter Tryz.func77,Tryz.ntmps77
   go_wp2_with (go_at_call 107;refine c.mono ?_;rintro e w' ⟨rfl,rfl⟩)
   go_ret
   exact ⟨_,rfl,Sl.none _,Below.refl _ _⟩
 · obtain ⟨W,hW,hW0,hI,h1,h2,hn⟩:=pos_lim n h0
   have c:=put_ok n W w hw hW hW0
   have hl:=pb_len n W hI
   have hW8:W≤8:=by rcases hI with rfl | rfl | rfl | rfl<;>omega
   have HS:Hid (Sl (w.alloc (.cells (pbA n W) 5)) (.slice (some ⟨w.heap.size,0,none⟩) W W) (numB n)):=by
    rw [hn]
    exact ⟨_,W,by rw [hl],by omega,by unfold maxLen;omega,fun e=>(by cases e),by rw [hl];exact row_put n W w hI h1 h2⟩
   clear hn hl h0 hW hW0
   go_enter Tryz.func77,Tryz.ntmps77
   go_wp2_with (go_at_call 107;refine c.mono ?_;rintro e w' ⟨rfl,rfl⟩)
   go_ret
   exact ⟨_,rfl,HS.out,(Below.refl _ _).alloc (Nat.le_refl _) _⟩
theorem conv_str (s:ByteArray) (w:World) (hs:s.size≤9223372036854775807):∃a cap w2,(convert 9 34 (.string s)).run Tryz.prog w = .ok (.slice (some a) s.size cap) w2∧Sl w2 (.slice (some a) s.size cap) (sb s)∧Below w.heap.size w w2:=by
 refine ⟨_,_,_,run_bytes_of_string w 9 34 5 s Tryz.underlying9 Tryz.underlying34 Tryz.underlying5,?_,?_⟩
 · have hge:=grownCap_ge w s.size 0 5
   have hmx:=grownCap_le_maxLen w s.size 0 5 (by unfold maxLen;omega)
   refine ⟨_,_,by rw [sb_len],by rw [sb_len];exact hge,hmx,fun e=>(by cases e),?_⟩
   rw [sb_len]
   rcases Nat.eq_zero_or_pos s.size with h | h
   · exact .inl h
   · refine .inr ⟨h,_,0,rfl,hge,hmx,fun i hi=>?_,sb_bytes s⟩
     have hi':i<s.data.size:=hi
     rw [Nat.zero_add]
     have:=World.cell?_alloc_mark w.drew (bytesRow s (grownCap w s.size 0 5)) 5 ((bytesRow s (grownCap w s.size 0 5)).size,(bytesRow s (grownCap w s.size 0 5)).size+1) i
     refine this.trans ?_
     rw [bytesRow_at s _ i hi']
     congr 2
     simp [sb,List.getD,Array.getElem?_eq_getElem hi']
 · exact (Below.refl _ w).drew.alloc (Nat.le_refl _) _
theorem isnil (w:World):(binOp BinOp.eql 34 (.slice none 0 0) (.slice none 0 0)).run Tryz.prog w = .ok (.bool true) w:=by kernel_rfl
theorem notnil (x:Addr) (n c:Nat) (w:World):(binOp BinOp.eql 34 (.slice (some x) n c) (.slice none 0 0)).run Tryz.prog w = .ok (.bool false) w:=by kernel_rfl
set_option maxHeartbeats 1000000 in
theorem clone_any (v:Value) (xs:List Int) (w:World) (h:Sl w v xs) (hbig:xs.length≤200000000000000) :
 Calls Tryz.prog 93 #[v] w fun r w'=>∃v',r = .returned v'∧w'.ownsRow w.heap.size 5 1 v' xs.length (xs.map (Value.int .u8))∧Below w.heap.size w w':=by
 obtain ⟨i0,hi,hz0,hz1,hz2⟩:=info_parts info5'
 obtain ⟨a,cap,rfl,h1,h2,h3,h4⟩:=h
 cases a with
 | none=>
   obtain rfl:=h3 rfl
   obtain rfl:xs=[]:=List.length_eq_zero_iff.1 (by omega)
   clear h1 h2 h3 h4 hbig
   have hnil:=isnil w
   go_enter Tryz.func93,Tryz.ntmps93
   go_wp2
   go_ret
   exact ⟨_,rfl,World.ownsRow_nil _ _ _ _,Below.refl _ _⟩
 | some x=>
   have hown0:(w.alloc (.cells #[] 5)).ownsRow w.heap.size 5 1 (.slice (some ⟨w.heap.size,0,none⟩) 0 0) 0 []:=World.ownsRow_made (base:=w.heap.size) (e:=5) (size:=1) w #[] 0 (Nat.le_refl _) (by unfold maxLen;omega) rfl
   have hb0:Below w.heap.size w (w.alloc (.cells #[] 5)):=(Below.refl _ _).alloc (Nat.le_refl _) _
   have hnews:=news_row (h4.kept hb0)
   obtain ⟨L,hL⟩:∃L,L=xs.length:=⟨_,rfl⟩
   have HL:Hid (L=xs.length):=hL
   rw [←hL] at hbig h1 ⊢
   clear h3 h4 hL h2
   have hnil:=notnil x L cap w
   go_enter Tryz.func93,Tryz.ntmps93
   go_wp2_with (at_builtin;refine wpList_append_own_wide _ rfl _ _ 34 rfl w.heap.size 5 i0 (.int .u8 0) 1 1 Tryz.underlying34 hi hz0 hz1 hz2 rfl (by decide) _ 0 [] rfl hown0 x L cap (xs.map (Value.int .u8)) rfl (by rw [List.length_map,HL.out,Nat.mul_one]) hnews (ints_one xs) (by unfold maxLen;omega) (by omega) (by simp) ?_)
   intro v' w2 hown' hgrow _
   have hbel':Below w.heap.size w w2:=hb0.grown hgrow (by simp) (own_base hown0)
   try simp only [Nat.zero_add,List.nil_append] at hown'
   clear hown0 hgrow hb0 hnews
   go_wp2
   go_ret
   exact ⟨_,rfl,hown',hbel'⟩
def blk:Option Addr→Nat
 | some x=>x.block
 | none=>0
set_option maxHeartbeats 1000000 in
theorem new_any (v:Value) (xs:List Int) (w:World) (hw:Wid w) (h:Sl w v xs) (hbig:xs.length≤200000000000000) :
 Calls Tryz.prog 88 #[v] w fun r w'=>∃g s,r = .returned (.pointer (some ⟨g,0,none⟩))∧w.heap.size≤g∧g<w'.heap.size∧(s=0∨(w.heap.size≤s∧s<w'.heap.size))∧Rd w' g s xs 0∧Below w.heap.size w w':=by
 have c:=clone_any v xs w h hbig
 have hb:=h.bytes
 have hp:=hw.pos
 clear h hbig
 go_enter Tryz.func88,Tryz.ntmps88
 go_wp2_with fail
 refine c.mono ?_
 rintro e w1 ⟨v1,rfl,own1,bel1⟩
 have sl1:=sl_owned own1 hb
 have hsz:=bel1.size
 have hsp:=own1.lt
 obtain ⟨a,cap,rfl,h1,h2,h3,h4⟩:=sl1
 have HR:Hid (Rd (w1.alloc (.cells #[.slice a xs.length cap,.int .i64 0] 172)) w1.heap.size (blk a) xs 0):=by
  refine ⟨a,cap,?_,?_,?_,?_,h1,h2,h4.kept ((Below.refl _ _).alloc (Nat.le_refl _) _),h3,?_,?_⟩
  · rw [World.cell?_alloc_at _ _ _ _ rfl];rfl
  · rw [World.cell?_alloc_at _ _ _ _ rfl];rfl
  · exact World.frozen?_alloc_new ..
  · exact World.frozen?_alloc_new ..
  · cases a with
    | none=>show 0≠_;omega
    | some x=>have:=(hsp x.block rfl).2;show x.block≠_;omega
  · intro x hx
    subst hx
    refine ⟨?_,rfl⟩
    rcases own1.2 with ⟨e,_⟩ | ⟨g,c,cur,e,_⟩
    · cases e
    · cases e;rfl
 have HS:Hid ((blk a)=0∨(w.heap.size≤(blk a)∧(blk a)<w1.heap.size)):=by
  cases a with
  | none=>exact .inl rfl
  | some x=>exact .inr (hsp x.block rfl)
 generalize (blk a)=s at HR HS
 clear h1 h2 h3 h4 own1 hsp c hb
 generalize xs.length=L at *
 go_wp2
 go_ret
 exact ⟨_,s,rfl,by omega,by simp,by have:=HS.out;simp;omega,HR.out,bel1.alloc hsz _⟩
end Go.Proofs.YtiollhmbdhepkaaGreatDoor.Fi
namespace Go.Proofs.YtiollhmbdhepkaaGreatDoor.Fi
open Go.RowKit
set_option maxRecDepth 100000
theorem parts2 (w:World) (u1 u2:Value) (X Y:List Int) (s1:Sl w u1 X) (s2:Sl w u2 Y):Parts (w.alloc (.cells #[u1,u2] 34)) (some ⟨w.heap.size,0,none⟩) [X,Y]:=by
 have hb:Below w.heap.size w (w.alloc (.cells #[u1,u2] 34)):=(Below.refl _ _).alloc (Nat.le_refl _) _
 refine ⟨by simp,.inr ⟨_,0,rfl,fun i hi=>?_⟩⟩
 have hi2:i=0∨i=1:=by simp at hi;omega
 rcases hi2 with rfl | rfl
 · exact ⟨u1,by rw [World.cell?_alloc_at _ _ _ _ rfl];rfl,s1.kept hb⟩
 · exact ⟨u2,by rw [World.cell?_alloc_at _ _ _ _ rfl];rfl,s2.kept hb⟩
end Go.Proofs.YtiollhmbdhepkaaGreatDoor.Fi
namespace Go.Proofs.YtiollhmbdhepkaaGreatDoor.Sh
open Go.RowKit
set_option maxRecDepth 100000
def u8s (l:List Int):Array Value:=(l.map (Value.int .u8)).toArray
theorem u8s_get (l:List Int) (i:Nat) (h:i<l.length):(u8s l)[i]? = some (.int .u8 (l.getD i 0)):=by
 simp [u8s,List.getElem?_eq_getElem h,List.getD]
theorem u8s_size (l:List Int):(u8s l).size=l.length:=by simp [u8s]
theorem u8s_set (l:List Int) (i:Nat) (z:Int):(u8s l).setIfInBounds i (.int .u8 z)=u8s (l.set i z):=by
 apply Array.ext'
 simp [u8s,List.map_set]
theorem u8s_one (l:List Int):(u8s l).all (·.oneCell')=true:=by
 simp [u8s]
 intro x _
 rfl
def partI (l:List Int) (i:Nat):List Int:=l.take i++List.replicate (l.length-i) 0
theorem partI_len (l:List Int) (i:Nat):(partI l i).length=l.length:=by unfold partI;simp;omega
theorem partI_zero (l:List Int):partI l 0=List.replicate l.length 0:=by simp [partI]
theorem partI_all (l:List Int):partI l l.length=l:=by simp [partI]
theorem partI_set (l:List Int) (i:Nat) (h:i<l.length):(partI l i).set i (l.getD i 0)=partI l (i+1):=by
 apply List.ext_getElem?
 intro k
 unfold partI
 rw [List.getElem?_set]
 by_cases e:i=k
 · subst e
   have h1:i<(l.take (i+1)).length:=by simp;omega
   rw [List.getElem?_append_left h1,List.getElem?_take,if_pos rfl,if_pos (by simp;omega),if_pos (show i<i+1 by omega)]
   simp [List.getD,List.getElem?_eq_getElem h]
 · simp only [e,if_false,List.getElem?_append,List.length_take,List.getElem?_take,List.getElem?_replicate]
   repeat' split
   all_goals first | rfl | omega
theorem map_getI (f:Nat→Int) (n i:Nat) (h:i<n):((List.range n).map f).getD i 0=f i:=by simp [List.getD,h]
theorem digest_len (s:Pl.S8):(Pl.digest s).length=32:=by unfold Pl.digest;simp
theorem digest_get (s:Pl.S8) (i j:Nat) (hi:i<8) (hj:j<4):(Pl.digest s).getD (4*i+j) 0=(((Pl.words s).getD i 0 / 2 ^ (24-8*j) % 256:Nat):Int):=by
 unfold Pl.digest
 rw [map_getI _ 32 _ (by omega),show (4*i+j) / 4=i by omega,show (4*i+j) % 4=j by omega]
set_option maxHeartbeats 1000000 in
set_option maxRecDepth 100000 in
theorem told_any (G:Nat) (s:Pl.S8) (R:List Int) (n:Nat) (w:World) (hh:Hs w G (Pl.words s) R n) :
 Calls Tryz.prog 153 #[.pointer (some ⟨G,0,none⟩)] w fun e w'=>e = .returned (.agg (u8s (Pl.digest s)))∧Below w.heap.size w w':=by
 have HG:Hid (∀i j,i<8→j<4→(Pl.digest s).getD (4*i+j) 0=(((Pl.words s).getD i 0 / 2 ^ (24-8*j) % 256:Nat):Int)):=fun i j=>digest_get s i j
 have HL:Hid ((Pl.digest s).length=32):=digest_len s
 have HI:Hid ((Tryz.prog.info? 47).map (·.size)=some (u8s (Pl.digest s)).size):=by unfold Hid;rw [u8s_size,digest_len];exact size26
 have HR:Hid (w.rangeAt G 0 ((Pl.words s).map fun (n:Nat)=>Value.int .u32 (n:Int))):=range_words (fun i hi=>hh.word i hi)
 have HR2:Hid (((w.alloc (.cells (u8s (List.replicate 32 0)) 47)).alloc (.cells (u8s (List.replicate 32 0)) 47)).rangeAt G 0 ((Pl.words s).map fun (n:Nat)=>Value.int .u32 (n:Int))):=by
  refine range_words (fun i hi=>?_)
  have b:Below w.heap.size w ((w.alloc (.cells (u8s (List.replicate 32 0)) 47)).alloc (.cells (u8s (List.replicate 32 0)) 47)):=(Rows2.two w 47 _ _).2.2
  exact (b.cell (p:=⟨G,i,none⟩) hh.lt).trans (hh.word i hi)
 have HT:Hid ((Pl.words s).length=8):=rfl
 have HO:Hid (∀i,(Pl.words s).getD i 0<4294967296∨True):=fun _=>.inr trivial
 clear hh HO HR
 obtain ⟨D,hD⟩:∃D,D=Pl.digest s:=⟨_,rfl⟩
 rw [←hD] at HG HL HI ⊢
 clear hD
 obtain ⟨X,hX⟩:∃X,X=Pl.words s:=⟨_,rfl⟩
 rw [←hX] at HG HR2 HT
 clear hX
 go_enter Tryz.func153,Tryz.ntmps153
 go_wp2_with (refine wpList_load_mid rfl 192 _ rfl G 0 rfl (X.map fun (n:Nat)=>Value.int .u32 (n:Int)) _ HR2.out Tryz.underlying192 rfl (by rw [List.length_map,HT.out];exact size47) ?_)
 go_loopw [11] (fun i wr=>∃j:Nat,j≤8∧i = .int .i64 j∧Rows2 w.heap.size 47 (u8s (List.replicate 32 0)) (u8s (partI D (4*j))) w wr) (fun i _=>8-(intOf i).toNat)
 case atStart=>
  refine ⟨0,by omega,rfl,?_⟩
  rw [Nat.mul_zero,partI_zero,HL.out]
  exact Rows2.two w 47 _ _
 case round=>
  obtain ⟨i,hi,rfl,g⟩:=hrel
  have GR:Hid (Rows2 w.heap.size 47 (u8s (List.replicate 32 0)) (u8s (partI D (4*i))) w wr):=g
  clear g
  by_cases hlt:i<8
  · have lt2:(i:Int)<8:=by omega
    have ti:(X.map fun (n:Nat)=>Value.int .u32 (n:Int)).toArray[i]? = some (.int .u32 (X.getD i 0:Nat)):=u32s_get X i (by rw [HT.out];exact hlt)
    have hix:=run_index_agg (P:=Tryz.prog) wr 192 191 8 i .i64 (X.map fun (n:Nat)=>Value.int .u32 (n:Int)).toArray _ _ Tryz.underlying192 Tryz.underlying191 rfl info46 hlt ti
    clear ti
    have HGi:Hid (∀j,j<4→D.getD (4*i+j) 0=((X.getD i 0 / 2 ^ (24-8*j) % 256:Nat):Int)):=fun j hj=>HG.out i j hlt hj
    generalize X.getD i 0=x at *
    go_wp2_with fail
    clear hix
    go_loopw [15] (fun q wr=>∃j:Nat,j≤4∧q = .int .i64 j∧Rows2 w.heap.size 47 (u8s (List.replicate 32 0)) (u8s (partI D (4*i+j))) w wr) (fun q _=>4-(intOf q).toNat)
    case atStart=>exact ⟨0,by omega,rfl,GR.out⟩
    case round=>
     clear GR
     obtain ⟨j,hj,rfl,g⟩:=hrel
     have GR:Hid (Rows2 w.heap.size 47 (u8s (List.replicate 32 0)) (u8s (partI D (4*i+j))) w wr):=g
     clear g
     by_cases hl4:j<4
     · have lt4:(j:Int)<4:=by omega
       have kf:=GR.out.frozen (4*i+j)
       have kc:=(GR.out.cell (4*i+j)).trans (u8s_get _ (4*i+j) (by rw [partI_len,HL.out];omega))
       have NS:Hid (Rows2 w.heap.size 47 (u8s (List.replicate 32 0)) (u8s (partI D (4*i+(j+1)))) w (wr.setCell ⟨w.heap.size+1,4*i+j,none⟩ (.int .u8 (x / 2 ^ (24-8*j) % 256:Nat)))):=by
        have:=GR.out.set (4*i+j) (.int .u8 (D.getD (4*i+j) 0))
        rw [u8s_set,partI_set _ _ (by rw [HL.out];omega),HGi.out j hl4] at this
        exact this
       have q1:IntKind.i64.wrap (4*(i:Int))=((4*i:Nat):Int):=by simp [IntKind.wrap,IntKind.bits,IntKind.signed];omega
       have q2:IntKind.i64.wrap (((4*i:Nat):Int)+(j:Int))=((4*i+j:Nat):Int):=by simp [IntKind.wrap,IntKind.bits,IntKind.signed];omega
       have q3:IntKind.i64.wrap (8*(j:Int))=((8*j:Nat):Int):=by simp [IntKind.wrap,IntKind.bits,IntKind.signed];omega
       have q4:IntKind.i64.wrap (24-((8*j:Nat):Int))=((24-8*j:Nat):Int):=by simp [IntKind.wrap,IntKind.bits,IntKind.signed];omega
       have s1:=shr32 x (24-8*j) (by omega)
       have s2:((x / 2 ^ (24-8*j):Nat):Int) % 256=((x / 2 ^ (24-8*j) % 256:Nat):Int):=by omega
       have b1:((4*i+j:Nat):Int)<32:=by omega
       have b2:4*i+j<32:=by omega
       generalize x / 2 ^ (24-8*j) % 256=y at *
       generalize x / 2 ^ (24-8*j)=yy at *
       generalize 24-8*j=m at *
       generalize 8*j=m8 at *
       generalize (partI D (4*i+j)).getD (4*i+j) 0=old at *
       generalize 4*i+j=k at *
       generalize 4*i=i4 at *
       clear HGi
       go_wp2
       go_roundw
       case rel=>exact ⟨j+1,by omega,by go_num,NS.out⟩
       case measure=>simp [intOf];omega
     · obtain rfl:j=4:=by omega
       go_wp2
       go_roundw
       case rel=>exact ⟨i+1,by omega,by go_num,GR.out⟩
       case measure=>simp [intOf];omega
  · obtain rfl:i=8:=by omega
    obtain ⟨g0,g1,gb⟩:=GR.out
    rw [show partI D (4*8)=D by rw [show 4*8=D.length by rw [HL.out]];exact partI_all D] at g1
    have GB:Hid (Below w.heap.size w wr):=gb
    have G0:Hid (wr.heap[w.heap.size]? = some (.cells (u8s (List.replicate 32 0)) 47 (0,0))):=g0
    have G1:Hid (wr.heap[w.heap.size+1]? = some (.cells (u8s D) 47 (0,0))):=g1
    have HO:Hid ((u8s (List.replicate 32 0)).size=(u8s D).size):=by unfold Hid;rw [u8s_size,u8s_size,HL.out];simp
    clear g0 g1 gb GR
    go_wp2_with (first
     | refine wpList_load_row rfl 47 _ rfl (w.heap.size+1) rfl 47 (u8s D) (0,0) _ G1.out Tryz.underlying47 rfl HI.out ?_
     | refine wpList_store_row rfl 47 _ _ rfl w.heap.size (u8s D) rfl rfl 47 _ G0.out HI.out HO.out (u8s_one D) ?_)
    refine bodyPost_ret (v:=.agg (u8s D)) (results_cell_row rfl _ _ w.heap.size 47 (u8s D) (0,0) _ rfl (setRow_heap _ _ _ _ _ _ G0.out) Tryz.underlying47 rfl HI.out) rfl ⟨rfl,below_setRow GB.out (Nat.le_refl _) _⟩
end Go.Proofs.YtiollhmbdhepkaaGreatDoor.Sh
namespace Go.Proofs.YtiollhmbdhepkaaGreatDoor.Sh
open Go.RowKit
set_option maxRecDepth 100000
def ppad (n j:Nat):List Int:=128::(List.replicate (Pl.zers n+(8-j)) 0++(Pl.count n).drop (8-j))
theorem count_len (n:Nat):(Pl.count n).length=8:=by unfold Pl.count;simp
theorem ppad_len (n j:Nat) (h:j≤8):(ppad n j).length=Pl.zers n+9:=by
 unfold ppad
 simp [count_len]
 omega
theorem ppad_all (n:Nat):ppad n 8=Pl.pad n:=by unfold ppad Pl.pad;simp
theorem ppad_zero (n:Nat):ppad n 0=128::List.replicate (Pl.zers n+8) 0:=by
 unfold ppad
 rw [List.drop_eq_nil_of_le (by rw [count_len];omega)]
 simp
theorem ppad_set (n j:Nat) (h:j<8):(ppad n j).set (Pl.zers n+8-j) ((Pl.count n).getD (7-j) 0)=ppad n (j+1):=by
 unfold ppad
 have hc:=count_len n
 generalize Pl.zers n=z
 generalize Pl.count n=c at *
 rw [show z+8-j=(z+(7-j))+1 by omega,List.set_cons_succ,List.set_append_left _ _ (by simp;omega)]
 rw [show 8-(j+1)=7-j by omega,show z+(8-j)=(z+(7-j))+1 by omega,List.replicate_succ',List.set_append_right _ _ (by simp)]
 rw [List.drop_eq_getElem_cons (show 7-j<c.length by omega),show 7-j+1=8-j by omega]
 simp [List.getD,List.getElem?_eq_getElem (show 7-j<c.length by omega)]
theorem count_get (n j:Nat) (h:j<8):(Pl.count n).getD (7-j) 0=(((n*8 / 2 ^ (8*j)) % 256:Nat):Int):=by
 unfold Pl.count
 have:((List.range 8).map fun i=>(((n*8 / 2 ^ (8*(7-i))) % 256:Nat):Int)).getD (7-j) 0=(((n*8 / 2 ^ (8*(7-(7-j)))) % 256:Nat):Int):=by
  simp [List.getD,show 7-j<8 by omega]
 rw [this,show 7-(7-j)=j by omega]
theorem count_byte (n i:Nat):0≤(Pl.count n).getD i 0∧(Pl.count n).getD i 0<256:=by
 rcases Nat.lt_or_ge i 8 with h | h
 · have:=count_get n (7-i) (by omega)
   rw [show 7-(7-i)=i by omega] at this
   rw [this]
   have h2:=Nat.mod_lt (n*8 / 2 ^ (8*(7-i))) (show 0<256 by omega)
   omega
 · rw [List.getD,List.getElem?_eq_none (by rw [count_len];exact h)];simp
set_option maxHeartbeats 1000000 in
set_option maxRecDepth 100000 in
theorem padding_any (n:Nat) (w:World) (hn:n≤1000000000000000000) :
 Calls Tryz.prog 152 #[.int .i64 n] w fun e w'=>e = .returned (.slice (some ⟨w.heap.size,0,none⟩) (Pl.zers n+9) (Pl.zers n+9))∧Sl w' (.slice (some ⟨w.heap.size,0,none⟩) (Pl.zers n+9) (Pl.zers n+9)) (Pl.pad n)∧Below w.heap.size w w':=by
 obtain ⟨i0,hi,hz0,hz1,hz2⟩:=info_parts info5'
 obtain ⟨z,hz⟩:∃z,z=Pl.zers n:=⟨_,rfl⟩
 have HZ:Hid (Pl.zers n=z):=hz.symm
 have hzd:z=(64-(n % 64+9) % 64) % 64:=hz
 rw [←hz]
 have e1:Int.tmod (n:Int) 64=((n % 64:Nat):Int):=by rw [Int.tmod_eq_emod_of_nonneg (by omega)];omega
 have e2:Int.tmod (((n % 64:Nat):Int)+1+8) 64=(((n % 64+9) % 64:Nat):Int):=by rw [Int.tmod_eq_emod_of_nonneg (by omega)];omega
 have e3:Int.tmod (64-(((n % 64+9) % 64:Nat):Int)) 64=(z:Int):=by rw [Int.tmod_eq_emod_of_nonneg (by omega)];omega
 have hzl:z<64:=by omega
 have hc8:IntKind.u64.wrap ((n:Int)*8)=((n*8:Nat):Int):=by rw [wrap64];omega
 have hm1:n % 64<64:=Nat.mod_lt _ (by omega)
 have hm2:(n % 64+9) % 64<64:=Nat.mod_lt _ (by omega)
 clear hz hzd
 generalize hr:n % 64=r at *
 generalize ho:(r+9) % 64=o at *
 clear hr ho
 go_enter Tryz.func152,Tryz.ntmps152
 go_wp2_with (at_make;refine wpList_make_full _ rfl _ _ 34 rfl w.heap.size 5 i0 (.int .u8 0) 1 Tryz.underlying34 hi hz0 hz1 .i64 .i64 _ _ (z+9) rfl rfl (by congr 1;omega) (by congr 1;omega) (by rw [hz2];omega) (by unfold maxLen;omega) (Nat.le_refl _) (Hid.out ?_))
 unfold Hid
 intro w1 own1 hgrow
 have b1:Below w.heap.size w w1:=(Below.refl _ w).grown hgrow (Nat.le_refl _) (fun k hk=>by cases hk)
 have hp1:w1.heap[w.heap.size]? = some (.cells (u8s (List.replicate (z+9) 0)) 5 (0,0)):=by
  have e0:(madeCells #[Value.int .u8 0] (z+9)).toList=(List.replicate (z+9) (0:Int)).map (Value.int .u8):=by
   rw [toList_madeCells_one]
   simp
  rw [e0] at own1
  rcases own1.2 with ⟨hv,_⟩ | ⟨g',cap',cur',hv,hg',hh,hc',hm',hs',ht'⟩
  · cases hv
  · cases hv
    rw [hh]
    congr 2
    apply Array.ext'
    simp only [Nat.mul_one] at hs' ht'
    rw [List.take_of_length_le (by simp only [Array.length_toList];omega)] at ht'
    rw [ht']
    simp [u8s]
 have BB:Hid (Below w.heap.size w w1):=b1
 have HP:Hid (w1.heap[w.heap.size]? = some (.cells (u8s (List.replicate (z+9) 0)) 5 (0,0))):=hp1
 have kc0:=(cell_of_row _ _ 0 _ _ _ hp1).trans (u8s_get _ 0 (by simp))
 have kf0:=frozen_of_row _ _ 0 _ _ hp1
 have HP0:Hid ((w1.setCell ⟨w.heap.size,0,none⟩ (.int .u8 128)).heap[w.heap.size]? = some (.cells (u8s (ppad n 0)) 5 (0,0))):=by
  have:=heap_setCell_same _ _ 0 _ _ (.int .u8 128) hp1
  rw [u8s_set] at this
  rw [ppad_zero,HZ.out]
  exact this
 have BB0:Hid (Below w.heap.size w (w1.setCell ⟨w.heap.size,0,none⟩ (.int .u8 128))):=b1.setCell (Nat.le_refl _) _
 generalize (List.replicate (z+9) 0).getD 0 0=old at *
 clear own1 hgrow b1 hp1 HP BB e1 e2 e3
 have lz:(0:Int)<((z+9:Nat):Int):=by omega
 go_wp2_with fail
 clear kc0 kf0
 obtain ⟨c,hc⟩:∃c,c=n*8:=⟨_,rfl⟩
 have HC:Hid (c=n*8):=hc
 have hcl:c<18446744073709551616:=by omega
 have e8:(n:Int)*8=(c:Int):=by omega
 rw [e8]
 clear hc hc8 e8
 go_loopw [25] (fun i wr=>∃j:Nat,j≤8∧i = .int .i64 j∧wr.heap[w.heap.size]? = some (.cells (u8s (ppad n j)) 5 (0,0))∧Below w.heap.size w wr) (fun i _=>8-(intOf i).toNat)
 case atStart=>exact ⟨0,by omega,rfl,HP0.out,BB0.out⟩
 case round=>
  clear HP0 BB0
  obtain ⟨j,hj,rfl,g,b⟩:=hrel
  by_cases hlt:j<8
  · have lt2:(j:Int)<8:=by omega
    have kf:=frozen_of_row _ _ (z+8-j) _ _ g
    have kc:=(cell_of_row _ _ (z+8-j) _ _ _ g).trans (u8s_get _ (z+8-j) (by rw [ppad_len _ _ hj,HZ.out];omega))
    have NS:Hid ((wr.setCell ⟨w.heap.size,z+8-j,none⟩ (.int .u8 (c / 2 ^ (8*j) % 256:Nat))).heap[w.heap.size]? = some (.cells (u8s (ppad n (j+1))) 5 (0,0))):=by
     have:=heap_setCell_same _ _ (z+8-j) _ _ (.int .u8 ((Pl.count n).getD (7-j) 0)) g
     rw [u8s_set,←HZ.out,ppad_set _ _ hlt,count_get _ _ hlt,HZ.out,←HC.out] at this
     exact this
    have NB:Hid (Below w.heap.size w (wr.setCell ⟨w.heap.size,z+8-j,none⟩ (.int .u8 (c / 2 ^ (8*j) % 256:Nat)))):=b.setCell (Nat.le_refl _) _
    have q0:IntKind.i64.wrap (((z+9:Nat):Int)-1)=((z+8:Nat):Int):=by simp [IntKind.wrap,IntKind.bits,IntKind.signed];omega
    have q1:IntKind.i64.wrap (((z+8:Nat):Int)-(j:Int))=((z+8-j:Nat):Int):=by simp [IntKind.wrap,IntKind.bits,IntKind.signed];omega
    have q3:IntKind.i64.wrap (8*(j:Int))=((8*j:Nat):Int):=by simp [IntKind.wrap,IntKind.bits,IntKind.signed];omega
    have s1:(c:Int) / 2 ^ min (8*j) 64=((c / 2 ^ (8*j):Nat):Int):=by rw [Nat.min_eq_left (by omega)];simp
    have s2:((c / 2 ^ (8*j):Nat):Int) % 256=((c / 2 ^ (8*j) % 256:Nat):Int):=by omega
    have t1:((z+8-j:Nat):Int)<((z+9:Nat):Int):=by omega
    have t2:z+8-j<z+9:=by omega
    generalize c / 2 ^ (8*j) % 256=y at *
    generalize c / 2 ^ (8*j)=yy at *
    generalize 8*j=m8 at *
    generalize (ppad n j).getD (z+8-j) 0=old2 at *
    generalize z+8-j=k at *
    generalize z+8=z8 at *
    generalize z+9=z9 at *
    clear g b HC
    go_wp2
    go_roundw
    case rel=>exact ⟨j+1,by omega,by go_num,NS.out,NB.out⟩
    case measure=>simp [intOf];omega
  · obtain rfl:j=8:=by omega
    have HS:Hid (Sl wr (.slice (some ⟨w.heap.size,0,none⟩) (z+9) (z+9)) (Pl.pad n)):=by
     have hl:(Pl.pad n).length=z+9:=by rw [←ppad_all,ppad_len n 8 (by omega),HZ.out]
     rw [ppad_all] at g
     refine ⟨some ⟨w.heap.size,0,none⟩,z+9,by rw [hl],by omega,by unfold maxLen;omega,(fun h=>by cases h),.inr ⟨by omega,w.heap.size,0,rfl,by omega,by unfold maxLen;omega,fun i hi=>?_,?_⟩⟩
     · rw [Nat.zero_add,cell_of_row _ _ _ _ _ _ g,u8s_get _ _ hi]
     · intro i
       unfold Pl.pad
       match i with
       | 0=>simp
       | i+1=>
         rw [List.getD_cons_succ]
         rcases Nat.lt_or_ge i (Pl.zers n) with h | h
         · simp [List.getD,List.getElem?_append_left,h]
         · rw [List.getD,List.getElem?_append_right (by simpa using h)]
           exact count_byte n _
    have HB:Hid (Below w.heap.size w wr):=b
    clear g b
    go_wp2
    go_ret
    exact ⟨rfl,HS.out,HB.out⟩
end Go.Proofs.YtiollhmbdhepkaaGreatDoor.Sh
namespace Go.Proofs.YtiollhmbdhepkaaGreatDoor.Sh
open Go.RowKit
set_option maxRecDepth 100000
theorem bytes_take (xs:List Int) (m:Nat) (h:∀i,0≤xs.getD i 0∧xs.getD i 0<256):∀i,0≤(xs.take m).getD i 0∧(xs.take m).getD i 0<256:=by
 intro i
 by_cases hi:i<m
 · have:=h i
   simpa [List.getD,List.getElem?_take,hi] using this
 · simp [List.getD,List.getElem?_take,hi]
theorem size5:(Tryz.prog.info? 5).map (·.size)=some 1:=by kernel_rfl
theorem wpList_copy_hs {w:World} {ops:Array Oper} {rest:List Oper} {o:Oper} {a:Act} {Q:Exit→Act→World→Prop} (hgd:o.guard=none) (d s:Operand)
 (ho:o.op = .call { callee:=.builtin .copy,args:=#[d,s],argTypes:=#[34,34] }) (G i dCap:Nat) (hi:i≤64) (hd:a.eval d = .slice (some ⟨G,8+i,none⟩) (64-i) dCap)
 (src:Value) (Z:List Int) (hs:a.eval s=src) (hsl:Sl w src Z) (S:List Nat) (R:List Int) (n:Nat) (hh:Hs w G S R n)
 (h:∀w',Hs w' G S (over R i (Z.take (64-i))) n→But G w w'→wpList Tryz.prog ops Q rest (a.put o.dst (goInt ((min Z.length (64-i):Nat):Int))) w'):wpList Tryz.prog ops Q (o::rest) a w:=by
 obtain ⟨ad,cap,rfl,h1,h2,h3,h4⟩:=hsl
 by_cases h0:min Z.length (64-i)=0
 · refine wpList_copy_nothing hgd d s 34 34 ho 5 Tryz.underlying34 size5 _ ad (64-i) dCap Z.length cap hd hs h0 ?_
   have e:Z.take (64-i)=[]:=List.eq_nil_of_length_eq_zero (by rw [List.length_take,Nat.min_comm];exact h0)
   have:=h w (by rw [e];exact hh) (But.refl _ _)
   rw [h0] at this
   exact this
 · rcases h4 with h4 | ⟨hp,b,off,rfl,hlc,hm,hc,hz⟩
   · omega
   · have hlen:((Z.take (64-i)).map (Value.int .u8)).length=min Z.length (64-i):=by rw [List.length_map,List.length_take,Nat.min_comm]
     have hrun:=run_copy_cells (P:=Tryz.prog) w 34 34 o.type 5 G (8+i) (64-i) dCap ⟨b,off,none⟩ Z.length cap ((Z.take (64-i)).map (Value.int .u8)) Tryz.underlying34 size5 hlen
      (fun j v hv=>by
        have hj:=(List.getElem?_eq_some_iff.1 hv).1
        rw [hlen] at hj
        rw [Addr.add_lit,hc j (by omega)]
        rw [List.getElem?_map,List.getElem?_take,if_pos (by omega),List.getElem?_eq_getElem (show j<Z.length by omega)] at hv
        simp only [Option.map_some,Option.some.injEq] at hv
        rw [←hv]
        simp [List.getD,List.getElem?_eq_getElem (show j<Z.length by omega)])
      (fun j hj=>by
        rw [hlen] at hj
        have:=hh.rest (i+j) (by omega)
        rw [show 8+i+j=8+(i+j) by omega,this];rfl)
      (fun j _=>hh.frozen _)
      (fun v hv=>ints_one _ v hv)
     rw [hlen] at hrun
     have hF:=h _ (Hs.setBytes (Z.take (64-i)) i w R hh (by rw [List.length_take];omega)) (But.cells G _ _ w)
     clear h hlen h0
     generalize (Z.take (64-i)).map (Value.int .u8)=C at *
     generalize min Z.length (64-i)=k at *
     refine wpList_plain hgd fun K hK=>?_
     unfold Oper.wp
     simp [execOp,ho,resolve,invoke,builtin,hd,hs,hrun,Result.andThen]
     exact hK _ _ hF
def HsOf (w:World) (g:Nat) (l:List Int):Prop:=∃R,Hs w g (Pl.words (Pl.absorb l)) R l.length∧Pl.Byt R∧∀i,i<l.length % 64→R.getD i 0=l.getD (64*(l.length / 64)+i) 0
theorem HsOf.kept {w w':World} {g:Nat} {l:List Int} (h:HsOf w g l) (hb:Below w.heap.size w w'):HsOf w' g l:=by
 obtain ⟨R,h1,h2⟩:=h
 exact ⟨R,h1.kept hb,h2⟩
theorem byt_over {R zs:List Int} {i:Nat} (hR:Pl.Byt R) (hz:Pl.Byt zs) (hl:i+zs.length≤R.length):Pl.Byt (over R i zs):=by
 intro k
 rw [over_get _ _ _ _ hl]
 split
 · exact hz _
 · exact hR _
theorem eq_of_getD (A B:List Int) (hl:A.length=B.length) (h:∀i,i<A.length→A.getD i 0=B.getD i 0):A=B:=by
 apply List.ext_getElem hl
 intro i h1 h2
 have:=h i h1
 simpa [List.getD,List.getElem?_eq_getElem h1,List.getElem?_eq_getElem h2] using this
theorem getD_append_left (l m:List Int) (i:Nat) (h:i<l.length):(l++m).getD i 0=l.getD i 0:=by simp [List.getD,List.getElem?_append_left h]
theorem getD_append_right (l m:List Int) (i:Nat) (h:l.length≤i):(l++m).getD i 0=m.getD (i-l.length) 0:=by simp [List.getD,List.getElem?_append_right h]
theorem getD_take (l:List Int) (n i:Nat) (h:i<n):(l.take n).getD i 0=l.getD i 0:=by simp [List.getD,h]
theorem getD_drop (l:List Int) (n i:Nat):(l.drop n).getD i 0=l.getD (n+i) 0:=by simp [List.getD,List.getElem?_drop]
theorem block_full {l xs R:List Int} (hR:R.length=64) (ht:∀i,i<l.length % 64→R.getD i 0=l.getD (64*(l.length / 64)+i) 0) (hm:64-l.length % 64≤xs.length) :
 over R (l.length % 64) (xs.take (64-l.length % 64))=((l++xs).drop (64*(l.length / 64))).take 64:=by
 have h64:l.length % 64<64:=Nat.mod_lt _ (by omega)
 have hl:(xs.take (64-l.length % 64)).length=64-l.length % 64:=by rw [List.length_take];omega
 have hL:64*(l.length / 64)+l.length % 64=l.length:=Nat.div_add_mod ..
 apply eq_of_getD
 · rw [over_len,hR,List.length_take,List.length_drop,List.length_append];omega
 · intro i hi
   rw [over_len,hR] at hi
   rw [over_get _ _ _ _ (by rw [hl,hR];omega),hl,getD_take _ _ _ hi,getD_drop]
   split
   · rw [getD_take _ _ _ (by omega),getD_append_right _ _ _ (by omega)]
     congr 1
     omega
   · rw [ht i (by omega),getD_append_left _ _ _ (by omega)]
theorem held_more {l xs R:List Int} (hR:R.length=64) (ht:∀i,i<l.length % 64→R.getD i 0=l.getD (64*(l.length / 64)+i) 0) (hm:l.length % 64+xs.length<64) (i:Nat) (hi:i<(l++xs).length % 64) :
 (over R (l.length % 64) (xs.take (64-l.length % 64))).getD i 0=(l++xs).getD (64*((l++xs).length / 64)+i) 0:=by
 have hL:64*(l.length / 64)+l.length % 64=l.length:=Nat.div_add_mod ..
 rw [List.length_append] at hi ⊢
 have e1:(l.length+xs.length) / 64=l.length / 64:=by omega
 have e2:(l.length+xs.length) % 64=l.length % 64+xs.length:=by omega
 rw [e2] at hi
 rw [e1,List.take_of_length_le (by omega),over_get _ _ _ _ (by rw [hR];omega)]
 split
 · rw [getD_append_right _ _ _ (by omega)]
   congr 1
   omega
 · rw [ht i (by omega),getD_append_left _ _ _ (by omega)]
theorem absorb_held {l xs:List Int} (hm:l.length % 64+xs.length<64):Pl.absorb (l++xs)=Pl.absorb l:=by
 have hL:64*(l.length / 64)+l.length % 64=l.length:=Nat.div_add_mod ..
 rw [Pl.absorb_eq,Pl.absorb_eq,List.length_append,show (l.length+xs.length) / 64=l.length / 64 by omega]
 exact Pl.upto_append l xs _ (by omega)
theorem sl_rest {w:World} {G:Nat} {S:List Nat} {R:List Int} {n:Nat} (h:Hs w G S R n) (hb:Pl.Byt R):Sl w (.slice (some ⟨G,8,none⟩) 64 64) R:=
 ⟨some ⟨G,8,none⟩,64,by rw [h.2.2],by rw [h.2.2];omega,by unfold maxLen;omega,(fun e=>by cases e),.inr ⟨by rw [h.2.2];omega,G,8,rfl,by rw [h.2.2];omega,by unfold maxLen;omega,fun i hi=>h.rest i (by rw [h.2.2] at hi;exact hi),hb⟩⟩
end Go.Proofs.YtiollhmbdhepkaaGreatDoor.Sh
