/- Ytiollhmbdhepkaa: what PacketBack reaches, joined and cut (its parts: wip) -/
import Derived.Deep.AppendSrc
import Derived.Test.YtiollhmbdhepkaaGreatDoorVav
import Derived.Test.YtiollhmbdhepkaaGreatDoorVan
import Derived.Test.YtiollhmbdhepkaaGreatDoorVax
import Derived.Deep.RegionWith
import Derived.Lib.AppendStr
import Derived.Test.YtiollhmbdhepkaaGreatDoorVas
import Derived.Test.YtiollhmbdhepkaaGreatDoorVal
import Derived.Test.YtiollhmbdhepkaaGreatDoorVaa
namespace Go.Proofs.YtiollhmbdhepkaaGreatDoor
open Go.RowKit
set_option maxRecDepth 100000
theorem is_flat {k:Nat} {w:World} {b off n c:Nat} {L:List (List Value)} (h:IS k w (.slice (some ⟨b,off,none⟩) n c) L) (hk:0<k):∀j u,L.flatten[j]? = some u→w.cell? ((⟨b,off,none⟩:Addr).add j)=some u:=fun j u hj=>by
 have hl:j<L.length*k:=by rw [←h.cl.flat];exact (List.getElem?_eq_some_iff.1 hj).1
 have hi:j / k<L.length:=(Nat.div_lt_iff_lt_mul hk).2 hl
 have hm:j % k<k:=Nat.mod_lt _ hk
 have hcl:=(h.cl _ (atC_mem L _ hi)).1
 obtain ⟨v,hv⟩:∃v,(atC L (j / k))[j % k]? = some v:=⟨(atC L (j / k))[j % k]'(by rw [hcl];exact hm),List.getElem?_eq_getElem _⟩
 have e:=h.cl.get hi hv
 rw [Nat.div_add_mod' j k,hj] at e
 cases e
 obtain ⟨b',off',e',hr⟩:=h.at _ hi
 cases e'
 have q:=hr _ _ hv
 rw [Addr.add_lit]
 rwa [Nat.add_assoc,Nat.div_add_mod' j k] at q
theorem infoSp:(Tryz.prog.info? 131).map (fun i=>(i.zero,i.size,i.bytes))=some (some (.agg #[.int .i64 0,.int .i64 0]),2,16):=by kernel_rfl
set_option maxHeartbeats 1000000 in
theorem ownSpans_any (w:World) (v:Value) (l:List Sp) (h:SSp w v l) (hl:l.length≤100000) :
 Calls Tryz.prog 70 #[v] w fun e w'=>∃v',e = .returned v'∧RSp w' w.heap.size v' l∧Below w.heap.size w w':=by
 obtain ⟨a,c,rfl,h1,h2,h3⟩:=h.shape
 obtain ⟨i0,hi,hz0,hz1,hz2⟩:=info_parts infoSp
 have h0:RSp w w.heap.size (.slice none 0 0) []:=RI.nil _ _ _ _
 cases a with
 | none=>
   obtain rfl:c=0:=h3 rfl
   obtain rfl:l=[]:=List.length_eq_zero_iff.1 (by omega)
   clear h hi hz0 hz1 hz2
   go_enter Tryz.func70,Tryz.ntmps70
   go_wp2
   go_ret
   exact ⟨_,rfl,h0,Below.refl _ _⟩
 | some x=>
   obtain ⟨b,off,sp⟩:=x
   have hsp:l≠[]→sp=none:=fun hn=>by
    obtain ⟨b',off',e,-⟩:=SSp.at h 0 (List.length_pos_iff.2 hn)
    cases e
    rfl
   have hcl:((l.map spc).flatten).length=l.length*2:=by rw [(spc_cl l).flat,List.length_map]
   have hc:∀j u,(l.map spc).flatten[j]? = some u→w.cell? ((⟨b,off,sp⟩:Addr).add j)=some u:=fun j u hj=>by
    have hn:l≠[]:=fun e=>by rw [e] at hj;simp at hj
    obtain rfl:=hsp hn
    exact is_flat h (by omega) j u hj
   have HO:Hid (∀v' w',w'.ownsRow w.heap.size 131 2 v' (0+l.length) ([]++(l.map spc).flatten)→RSp w' w.heap.size v' l):=fun v' w' ho=>⟨by rw [Nat.zero_add,List.nil_append] at ho;rw [List.length_map];exact ho,spc_cl l⟩
   have h1':=(spc_cl l).ones
   have HO2:Hid (∀v' w',w'.ownsRow w.heap.size 131 2 v' l.length (l.map spc).flatten→RSp w' w.heap.size v' l):=fun v' w' ho=>HO.out v' w' (by rw [Nat.zero_add,List.nil_append];exact ho)
   clear HO
   generalize (l.map spc).flatten=F at *
   generalize l.length=n at *
   go_enter Tryz.func70,Tryz.ntmps70
   go_wp2_with (at_builtin;refine wpList_append_own_wide w rfl _ _ 23 rfl w.heap.size 131 i0 _ 2 16 Tryz.underlying23 hi hz0 hz1 hz2 rfl (by decide) _ 0 [] rfl (World.ownsRow_nil _ _ _ _) ⟨b,off,sp⟩ n c F rfl hcl hc h1' (by unfold maxLen;omega) (by omega) (Nat.le_refl _) (Hid.out ?_))
   unfold Hid
   intro v' w' ho hg hx
   go_wp2
   go_ret
   exact ⟨_,rfl,HO2.out _ _ ho,(Below.refl _ _).grown hg (Nat.le_refl _) (fun k e=>by cases e)⟩
def frV (p:Fm) (sv:Value):Value:=
 if p.k=1 then .iface 93 (.agg #[])
 else if p.k=2 then .iface 114 (.agg #[.int .i64 p.n,sv])
 else if p.k=3 then .iface 42 (.agg #[.int .i64 p.id,.int .i64 p.n,.bool p.fin,.string p.tx])
 else if p.k=4 then .iface 116 (.agg #[.int .i64 p.id,.int .i64 p.cd,.int .i64 p.n])
 else if p.k=5 then .iface 118 (.agg #[.int .i64 p.id,.int .i64 p.cd])
 else if p.k=6 then .iface 120 (.agg #[.int .i64 p.n])
 else if p.k=7 then .iface 122 (.agg #[.int .i64 p.id,.int .i64 p.n])
 else if p.k=8 then .iface 123 (.agg #[.int .i64 p.n])
 else if p.k=9 then .iface 125 (.agg (p.nc.map (Value.int .u8)++[Value.string p.tx]).toArray)
 else if p.k=10 then .iface 127 (.agg #[.int .i64 p.cd,.string p.tx])
 else .nilIface
end Go.Proofs.YtiollhmbdhepkaaGreatDoor
namespace Go.Proofs.YtiollhmbdhepkaaGreatDoor
open Go.RowKit Go.Shelf
set_option maxRecDepth 100000
def Pt (w:World) (u:Value) (X:List Int):Prop:=Sl w u X∧∀k,rowB u=some k→∃cs t fr,w.heap[k]? = some (.cells cs t fr)∧t≠34
theorem sl_heap {w w':World} {u:Value} {X:List Int} (h:Sl w u X) (hk:∀k,rowB u=some k→w'.heap[k]? = w.heap[k]?):Sl w' u X:=by
 obtain ⟨a,c,rfl,h1,h2,h3,h4⟩:=h
 refine ⟨a,c,rfl,h1,h2,h3,?_⟩
 rcases h4 with h4 | ⟨hp,b,off,rfl,q1,q2,q3,q4⟩
 · exact .inl h4
 · exact .inr ⟨hp,b,off,rfl,q1,q2,fun i hi=>(World.cell?_of_block (a:=⟨b,off+i,none⟩) (hk b rfl)).trans (q3 i hi),q4⟩
theorem Pt.below {w w':World} {u:Value} {X:List Int} (h:Pt w u X) (hb:Below w.heap.size w w'):Pt w' u X:=
 ⟨h.1.kept hb,fun k hk=>by
   obtain ⟨cs,t,fr,h1,h2⟩:=h.2 k hk
   exact ⟨cs,t,fr,blk_kept h1 hb (blk_lt h1),h2⟩⟩
theorem Pt.ow {w:World} {B:Nat} {u:Value} {X:List Int} (h:Ow w B u X):Pt w u X:=by
 refine ⟨h.sl,fun k hk=>?_⟩
 rcases h.1.2 with ⟨rfl,_⟩ | ⟨g,cap,cur,rfl,_,hh,_⟩
 · cases hk
 · obtain rfl:g=k:=by simpa [rowB] using hk
   exact ⟨_,_,_,hh,by decide⟩
def LQ (w:World) (B:Nat) (v:Value) (ZZ:List (List Int)):Prop:=
 ∃V:List Value,w.ownsRow B 34 1 v ZZ.length V∧∀i,i<ZZ.length→∃u,V[i]? = some u∧Pt w u (ZZ.getD i [])
theorem LQ.below {w w':World} {B:Nat} {v:Value} {ZZ:List (List Int)} (h:LQ w B v ZZ) (hb:Below w.heap.size w w'):LQ w' B v ZZ:=by
 obtain ⟨V,h1,h2⟩:=h
 refine ⟨V,own_below h1 hb,fun i hi=>?_⟩
 obtain ⟨u,h3,h4⟩:=h2 i hi
 exact ⟨u,h3,h4.below hb⟩
theorem LQ.parts {w:World} {B:Nat} {v:Value} {ZZ:List (List Int)} (h:LQ w B v ZZ) (hm:ZZ.length≤100000):∃p c,v = .slice p ZZ.length c∧Fi.Parts w p ZZ:=by
 obtain ⟨V,ho,h⟩:=h
 have ho':=ho
 rcases ho.2 with ⟨rfl,h0⟩ | ⟨g,cap,cur,rfl,_⟩
 · exact ⟨none,0,by rw [h0],by omega,.inl (List.length_eq_zero_iff.1 h0)⟩
 · refine ⟨_,cap,rfl,by omega,.inr ⟨g,0,rfl,fun i hi=>?_⟩⟩
   obtain ⟨u,hu,sl⟩:=h i hi
   refine ⟨u,?_,fsl sl.1⟩
   have:=ho'.cells (g:=g) rfl i u hu
   rwa [Addr.add_lit] at this
theorem LQ.one {w:World} {B:Nat} {u:Value} {X:List Int} (h:Pt w u X) (hB:B≤w.heap.size):LQ (w.alloc (.cells #[u] 34)) B (.slice (some ⟨w.heap.size,0,none⟩) 1 1) [X]:=by
 refine ⟨[u],⟨rfl,.inr ⟨w.heap.size,1,#[u],rfl,hB,heap_alloc_new _ _,Nat.le_refl _,by unfold maxLen;omega,rfl,rfl⟩⟩,fun i hi=>?_⟩
 obtain rfl:i=0:=by simpa using hi
 exact ⟨u,rfl,h.below (al_below _ _)⟩
theorem Pt.byte (w:World) (b:Int) (h:0≤b∧b<256):Pt (w.alloc (.cells #[.int .u8 b] 5)) (.slice (some ⟨w.heap.size,0,none⟩) 1 1) [b]:=by
 refine ⟨⟨_,1,rfl,Nat.le_refl _,by unfold maxLen;omega,fun e=>(by cases e),.inr ⟨Nat.one_pos,w.heap.size,0,rfl,Nat.le_refl _,by unfold maxLen;omega,fun i hi=>?_,fun i=>?_⟩⟩,fun k hk=>?_⟩
 · obtain rfl:i=0:=by simpa using hi
   rw [World.cell?_alloc_at _ _ _ _ rfl]
   rfl
 · cases i with
   | zero=>simpa using h
   | succ i=>simp
 · obtain rfl:w.heap.size=k:=by simpa [rowB] using hk
   exact ⟨_,_,_,heap_alloc_new _ _,by decide⟩
theorem Pt.nonce {w:World} {g:Nat} {p:Fm} {sv:Value} (h:PF w g 33 p sv) (hn:p.nc.length=16) (hb:∀i,0≤p.nc.getD i 0∧p.nc.getD i 0<256):Pt w (.slice (some ⟨g,6,none⟩) 16 16) p.nc:=by
 refine ⟨sl_range (h.pc hn).nc hb hn.symm (Nat.le_refl _) (by unfold maxLen;omega),fun k hk=>?_⟩
 obtain rfl:g=k:=by simpa [rowB] using hk
 exact ⟨_,_,_,h,by decide⟩
theorem wpList_append_lq {w:World} {ops:Array Oper} {rest:List Oper} {o:Oper} {a:Act} {Q:Exit→Act→World→Prop} (hgd:o.guard=none) (s x:Operand)
 (ho:o.op = .call { callee:=.builtin .append,args:=#[s,x],argTypes:=#[100,100] })
 (B:Nat) (v:Value) (ZZ:List (List Int)) (hs:a.eval s=v) (hown:LQ w B v ZZ) (g:Nat) (u:Value) (X:List Int) (cap:Nat) (hX:Pt w u X)
 (hx:a.eval x = .slice (some ⟨g,0,none⟩) 1 cap) (hc:w.cell? ⟨g,0,none⟩=some u) (hbig:ZZ.length≤100000) (hbase:B≤w.heap.size)
 (h:∀v' w',LQ w' B v' (ZZ++[X])→Below B w w'→wpList Tryz.prog ops Q rest (a.put o.dst v') w'):wpList Tryz.prog ops Q (o::rest) a w:=by
 obtain ⟨i0,hi,hz0,hz1,hz2⟩:=info_parts infoB
 obtain ⟨V,hV,hall⟩:=hown
 refine wpList_append_own_wide w hgd s x 100 ho B 34 i0 (.slice none 0 0) 1 24 Tryz.underlying100 hi hz0 hz1 hz2 rfl (by decide) v ZZ.length V hs hV ⟨g,0,none⟩ 1 cap [u] hx rfl ?_ ?_ (by unfold maxLen;omega) (by omega) hbase ?_
 · intro j z hj
   rw [Addr.add_lit]
   cases j with
   | zero=>simp at hj;subst hj;exact hc
   | succ j=>simp at hj
 · intro z hz
   simp at hz
   subst hz
   obtain ⟨_,_,rfl,-⟩:=hX.1
   rfl
 · intro v' w' ho' hg _
   have ap:∀{y:Value} {Y:List Int},Pt w y Y→Pt w' y Y:=fun {y Y} hy=>by
    have key:∀k,rowB y=some k→w'.heap[k]? = w.heap[k]?:=fun k hk=>by
     obtain ⟨cs,t,fr,h1,h2⟩:=hy.2 k hk
     refine hg.block k (blk_lt h1) (fun e=>?_)
     rcases hV.2 with ⟨rfl,_⟩ | ⟨g',cap',cur,rfl,_,hh,_⟩
     · cases e
     · cases e
       rw [hh] at h1
       cases h1
       exact h2 rfl
    exact ⟨sl_heap hy.1 key,fun k hk=>by
     obtain ⟨cs,t,fr,h1,h2⟩:=hy.2 k hk
     exact ⟨cs,t,fr,(key k hk).trans h1,h2⟩⟩
   have hVl:V.length=ZZ.length:=by have:=hV.1;simpa using this
   refine h v' w' ⟨V++[u],by rw [List.length_append];exact ho',fun i hi=>?_⟩ ((Below.refl B w).grown hg hbase (own_base hV))
   rw [List.length_append,List.length_singleton] at hi
   rcases Nat.lt_or_ge i ZZ.length with h' | h'
   · obtain ⟨z,hz,oz⟩:=hall i h'
     refine ⟨z,by rw [List.getElem?_append_left (by omega)];exact hz,?_⟩
     have e:(ZZ++[X]).getD i []=ZZ.getD i []:=by simp [List.getD,List.getElem?_append_left h']
     rw [e]
     exact ap oz
   · obtain rfl:i=ZZ.length:=by omega
     refine ⟨u,by rw [List.getElem?_append_right (by omega),hVl];simp,?_⟩
     have e:(ZZ++[X]).getD ZZ.length []=X:=by simp [List.getD]
     rw [e]
     exact ap hX
theorem ssp_row {w:World} {v:Value} {l:List Sp} (h:SSp w v l) (hn:l≠[]):∀k,rowB v=some k→k<w.heap.size:=fun k hk=>by
 obtain ⟨a,c,rfl,-,-,-⟩:=h.shape
 obtain ⟨b,off,rfl,hr⟩:=h.at 0 (List.length_pos_iff.2 hn)
 obtain rfl:b=k:=by simpa [rowB] using hk
 exact World.block_lt_of_cell? _ _ (spC hr).1
set_option maxHeartbeats 1000000 in
theorem ftext_ow (s:ByteArray) (w:World) (hw:Fi.Wid w) (hs:s.size≤140737488355328) :
 Calls Tryz.prog 79 #[.string s] w fun r w'=>∃v,r = .returned v∧Ow w' w.heap.size v (Fi.textB s)∧Below w.heap.size w w':=by
 have c1:=Fi.fnum_any s.size w hw
 have hlen:(Fi.textB s).length≤200000000000000:=by
  have:=(Fi.textB_len s).1
  omega
 go_enter Tryz.func79,Tryz.ntmps79
 go_wp2_with fail
 refine c1.mono ?_
 rintro e w1 ⟨v1,rfl,sl1,bel1⟩
 obtain ⟨a2,cap2,w2,cv,sl2,bel2⟩:=Fi.conv_str s w1 (by omega)
 have hP:∀u1 u2,Fi.Sl w2 u1 (Fi.numB s.size)→Fi.Sl w2 u2 (Fi.sb s)→Fi.Parts (w2.alloc (.cells #[u1,u2] 34)) (some ⟨w2.heap.size,0,none⟩) [Fi.numB s.size,Fi.sb s]:=fun u1 u2 s1 s2=>Fi.parts2 w2 u1 u2 _ _ s1 s2
 have sl1':=sl1.kept bel2
 obtain ⟨a1,cap1,rfl,_⟩:=sl1
 have cj:=fjoin_any _ 2 _ _ (hP _ _ sl1' sl2) (by simpa [Fi.textB] using hlen)
 have hfl:[Fi.numB s.size,Fi.sb s].flatten=Fi.textB s:=by simp [Fi.textB]
 rw [hfl] at cj
 have hb12:=bel1.trans (bel2.mono bel1.size)
 have HB3:Hid (Below w.heap.size w (w2.alloc (.cells #[.slice a1 (Fi.numB s.size).length cap1,.slice (some a2) s.size cap2] 34))):=hb12.alloc hb12.size _
 clear hP sl1' sl2 c1 hfl hlen
 simp only [List.length_cons,List.length_nil] at cj
 generalize (Fi.numB s.size).length=L1 at *
 obtain ⟨TB,hTB⟩:∃TB,TB=Fi.textB s:=⟨_,rfl⟩
 have HTB:Hid (TB=Fi.textB s):=hTB
 rw [←hTB] at cj
 clear hTB
 clear bel1 bel2 hb12
 go_wp2_with (go_at_call 58;refine cj.mono ?_;rintro e w3 ⟨v3,rfl,own3,bel3⟩)
 go_ret
 exact ⟨v3,rfl,by rw [←HTB.out];exact own3.mono HB3.out.size,HB3.out.trans (bel3.mono HB3.out.size)⟩
end Go.Proofs.YtiollhmbdhepkaaGreatDoor
namespace Go.Proofs.YtiollhmbdhepkaaGreatDoor.Fi
open Go.RowKit
set_option maxRecDepth 100000
theorem own_mono {w:World} {base base':Nat} {e:TypeId} {size:Nat} {v:Value} {n:Nat} {xs:List Value} (h:w.ownsRow base e size v n xs) (hb:base'≤base):w.ownsRow base' e size v n xs:=by
 obtain ⟨h1,h2⟩:=h
 rcases h2 with h2 | ⟨g,cap,cur,hv,hg,r⟩
 · exact ⟨h1,.inl h2⟩
 · exact ⟨h1,.inr ⟨g,cap,cur,hv,Nat.le_trans hb hg,r⟩⟩
set_option maxHeartbeats 2000000 in
theorem ftext_own (s:ByteArray) (w:World) (hw:Wid w) (hs:s.size≤140737488355328) :
 Calls Tryz.prog 79 #[.string s] w fun r w'=>∃v,r = .returned v∧w'.ownsRow w.heap.size 5 1 v (textB s).length ((textB s).map (Value.int .u8))∧Below w.heap.size w w':=by
 have c1:=fnum_any s.size w hw
 have hlen:(textB s).length≤200000000000000:=by
  unfold textB
  rw [List.length_append,sb_len]
  have:(numB (s.size:Int)).length≤8:=by
   unfold numB
   split
   · simp
   · next h=>
     obtain ⟨W,hW,hW0,hI,h1,h2,hn⟩:=pos_lim _ h
     rw [hW]
     show (pb _ W).length≤8
     rw [pb_len _ W hI]
     rcases hI with rfl | rfl | rfl | rfl<;>omega
  omega
 go_enter Tryz.func79,Tryz.ntmps79
 go_wp2_with fail
 refine c1.mono ?_
 rintro e w1 ⟨v1,rfl,sl1,bel1⟩
 obtain ⟨a2,cap2,w2,cv,sl2,bel2⟩:=conv_str s w1 (by omega)
 have hP:∀u1 u2,Sl w2 u1 (numB s.size)→Sl w2 u2 (sb s)→Parts (w2.alloc (.cells #[u1,u2] 34)) (some ⟨w2.heap.size,0,none⟩) [numB s.size,sb s]:=fun u1 u2 s1 s2=>by
  have hb:Below w2.heap.size w2 (w2.alloc (.cells #[u1,u2] 34)):=(Below.refl _ _).alloc (Nat.le_refl _) _
  refine ⟨by simp,.inr ⟨_,0,rfl,fun i hi=>?_⟩⟩
  have hi2:i=0∨i=1:=by simp at hi;omega
  rcases hi2 with rfl | rfl
  · exact ⟨u1,by rw [World.cell?_alloc_at _ _ _ _ rfl];rfl,s1.kept hb⟩
  · exact ⟨u2,by rw [World.cell?_alloc_at _ _ _ _ rfl];rfl,s2.kept hb⟩
 have sl1':=sl1.kept bel2
 obtain ⟨a1,cap1,rfl,_⟩:=sl1
 have cj:=join_any _ 2 _ _ (hP _ _ sl1' sl2) (by simpa [textB] using hlen)
 have hfl:[numB s.size,sb s].flatten=textB s:=by simp [textB]
 rw [hfl] at cj
 have hb12:=bel1.trans (bel2.mono bel1.size)
 have hb3:Below w.heap.size w (w2.alloc (.cells #[.slice a1 (numB s.size).length cap1,.slice (some a2) s.size cap2] 34)):=hb12.alloc hb12.size _
 clear hP sl1' sl2 c1 hfl hlen
 simp only [List.length_cons,List.length_nil] at cj
 generalize (numB s.size).length=L1 at *
 obtain ⟨LT,hLT⟩:∃LT,LT=(textB s).length:=⟨_,rfl⟩
 have HLT:Hid (LT=(textB s).length):=hLT
 rw [←hLT] at cj
 clear hLT
 clear bel1 bel2 hb12
 go_wp2_with (go_at_call 58;refine cj.mono ?_;rintro e w3 ⟨v3,rfl,own3,bel3⟩)
 go_ret
 exact ⟨v3,rfl,by have h:=own_mono own3 hb3.size;rw [HLT.out] at h;exact h,hb3.trans (bel3.mono hb3.size)⟩
end Go.Proofs.YtiollhmbdhepkaaGreatDoor.Fi
namespace Go.Proofs.YtiollhmbdhepkaaGreatDoor
open Go.RowKit
theorem join_any (p:Option Addr) (kc:Nat) (ZZ:List (List Int)) (w:World) (hP:Parts w p ZZ) (hbig:ZZ.flatten.length≤200000000000000) :
 Calls Tryz.prog 58 #[.slice p ZZ.length kc] w fun r w'=>∃v,r = .returned v∧w'.ownsRow w.heap.size 5 1 v ZZ.flatten.length (ZZ.flatten.map (Value.int .u8))∧Below w.heap.size w w':=Fi.join_any p kc ZZ w hP hbig
end Go.Proofs.YtiollhmbdhepkaaGreatDoor
namespace Go.Proofs.YtiollhmbdhepkaaGreatDoor
open Go.RowKit
set_option maxRecDepth 100000
def KB (w:World) (g:Nat) (k c n:Int) (v:Value):Prop:=w.heap[g]? = some (.cells #[.int .u8 k,.int .i64 c,.int .i64 n,v] 51 (0,0))
structure KC (w:World) (g:Nat) (k c n:Int) (v:Value):Prop where
 c0:w.cell? ⟨g,0,none⟩=some (.int .u8 k)
 c1:w.cell? ⟨g,1,none⟩=some (.int .i64 c)
 c2:w.cell? ⟨g,2,none⟩=some (.int .i64 n)
 c3:w.cell? ⟨g,3,none⟩=some v
theorem KB.new (w:World) (k c n:Int) (v:Value):KB (w.alloc (.cells #[.int .u8 k,.int .i64 c,.int .i64 n,v] 51)) w.heap.size k c n v:=heap_alloc_new _ _
theorem KB.kept {w w':World} {g:Nat} {k c n:Int} {v:Value} (h:KB w g k c n v) (hb:Below w.heap.size w w'):KB w' g k c n v:=blk_kept h hb (blk_lt h)
theorem KB.kc {w:World} {g:Nat} {k c n:Int} {v:Value} (h:KB w g k c n v):KC w g k c n v:=by
 unfold KB at h
 refine ⟨?_,?_,?_,?_⟩<;>simp [World.cell?,h]
theorem infoK:(Tryz.prog.info? 51).map (·.size)=some 4:=by kernel_rfl
def mb (k c n:Int):Bool:=decide (k≤1)&&(decide (0≤c)&&decide (c≤1099511627776))&&(decide (0≤n)&&decide (n≤1099511627776))
theorem mb_iff {k c n:Int}:mb k c n=true↔k≤1∧(0≤c∧c≤1099511627776)∧(0≤n∧n≤1099511627776):=by
 unfold mb
 simp only [Bool.and_eq_true,decide_eq_true_eq,and_assoc]
def hdL (k c n:Int):List Int:=k::(Fi.numB c++Fi.numB n)
theorem numB_le (n:Int):(Fi.numB n).length≤8:=by
 have h1:=Fi.numB_len n
 have h2:Fi.lenOf n≤8:=by
  unfold Fi.lenOf
  repeat' split
  all_goals omega
 omega
theorem hdL_le (k c n:Int):(hdL k c n).length≤17:=by
 unfold hdL
 have:=numB_le c
 have:=numB_le n
 simp only [List.length_cons,List.length_append]
 omega
theorem hdL_pos (k c n:Int):1≤(hdL k c n).length:=by
 unfold hdL
 simp only [List.length_cons]
 omega
theorem byt_cat {X Y:List Int} (h1:∀k,0≤X.getD k 0∧X.getD k 0<256) (h2:∀k,0≤Y.getD k 0∧Y.getD k 0<256):∀k,0≤(X++Y).getD k 0∧(X++Y).getD k 0<256:=fun k=>by
 rcases Nat.lt_or_ge k X.length with h | h
 · have:=h1 k
   simpa [List.getD,List.getElem?_append_left h] using this
 · have:=h2 (k-X.length)
   simpa [List.getD,List.getElem?_append_right h] using this
theorem hdL_byt {k c n:Int} (h0:0≤k) (h1:k<256):∀i,0≤(hdL k c n).getD i 0∧(hdL k c n).getD i 0<256:=by
 have hn:∀m i,0≤(Fi.numB m).getD i 0∧(Fi.numB m).getD i 0<256:=fun m i=>by
  unfold Fi.numB
  split
  · simp
  · rename_i h
    obtain ⟨W,hW,-,hI,h0,h1,-⟩:=Fi.pos_lim m h
    rw [hW,Int.toNat_natCast]
    exact Fi.pb_bytes m W hI h0 h1 i
 intro i
 unfold hdL
 cases i with
 | zero=>exact ⟨h0,h1⟩
 | succ i=>
   rw [List.getD_cons_succ]
   exact byt_cat (hn c) (hn n) i
def rmI (k c n:Int):Int:=if mb k c n=true then 1184-((hdL k c n).length:Int) else 0
theorem rmI_yes {k c n:Int} (h:mb k c n=true):rmI k c n=1184-((hdL k c n).length:Int):=by unfold rmI;rw [if_pos h]
theorem rmI_no {k c n:Int} (h:mb k c n=false):rmI k c n=0:=by unfold rmI;rw [if_neg (by rw [h];decide)]
theorem rmI_bd {k c n:Int}:0≤rmI k c n∧rmI k c n≤1183:=by
 unfold rmI
 have:=hdL_le k c n
 have:=hdL_pos k c n
 split<;>omega
theorem up_any (n:Int) (w:World):Calls Tryz.prog 82 #[.int .i64 n] w fun e w'=>e = .returned (.bool (decide (0≤n)&&decide (n≤1099511627776)))∧w'=w:=by
 by_cases h0:0≤n
 · by_cases h1:n≤1099511627776
   · have er:(decide (0≤n)&&decide (n≤1099511627776))=true:=by simp [h0,h1]
     rw [er]
     clear er
     go_enter Tryz.func82,Tryz.ntmps82
     go_wp2
     go_ret
     exact ⟨rfl,rfl⟩
   · have er:(decide (0≤n)&&decide (n≤1099511627776))=false:=by simp [h1]
     rw [er]
     clear er
     go_enter Tryz.func82,Tryz.ntmps82
     go_wp2
     go_ret
     exact ⟨rfl,rfl⟩
 · have er:(decide (0≤n)&&decide (n≤1099511627776))=false:=by simp [h0]
   rw [er]
   clear er
   go_enter Tryz.func82,Tryz.ntmps82
   go_wp2
   go_ret
   exact ⟨rfl,rfl⟩
theorem wrP {x:Int} (h0:-9223372036854775808≤x) (h1:x≤9223372036854775807):IntKind.i64.wrap x=x:=by rw [IntKind.wrap_i64];omega
theorem parts_kept {w w':World} {p:Option Addr} {ZZ:List (List Int)} (h:Parts w p ZZ) (hb:Below w.heap.size w w'):Parts w' p ZZ:=by
 obtain ⟨hl,h0 | ⟨b,off,hp,hc⟩⟩:=h
 · exact ⟨hl,.inl h0⟩
 · refine ⟨hl,.inr ⟨b,off,hp,fun i hi=>?_⟩⟩
   obtain ⟨v,hv,hs⟩:=hc i hi
   exact ⟨v,(hb.cell (World.block_lt_of_cell? _ _ hv)).trans hv,hs.kept hb⟩
theorem parts3 (w:World) (u1 u2 u3:Value) (X Y Z:List Int) (s1:Sl w u1 X) (s2:Sl w u2 Y) (s3:Sl w u3 Z):Parts (w.alloc (.cells #[u1,u2,u3] 34)) (some ⟨w.heap.size,0,none⟩) [X,Y,Z]:=by
 have hb:Below w.heap.size w (w.alloc (.cells #[u1,u2,u3] 34)):=(Below.refl _ _).alloc (Nat.le_refl _) _
 refine ⟨by simp,.inr ⟨_,0,rfl,fun i hi=>?_⟩⟩
 have hi2:i=0∨i=1∨i=2:=by simp at hi;omega
 rcases hi2 with rfl | rfl | rfl
 · exact ⟨u1,by rw [World.cell?_alloc_at _ _ _ _ rfl];rfl,s1.kept hb⟩
 · exact ⟨u2,by rw [World.cell?_alloc_at _ _ _ _ rfl];rfl,s2.kept hb⟩
 · exact ⟨u3,by rw [World.cell?_alloc_at _ _ _ _ rfl];rfl,s3.kept hb⟩
theorem join3_any (p:Option Addr) (X Y Z:List Int) (w:World) (hP:Parts w p [X,Y,Z]) (hbig:X.length+(Y.length+Z.length)≤200000000000000) :
 Calls Tryz.prog 58 #[.slice p 3 3] w fun r w'=>∃v,r = .returned v∧w'.ownsRow w.heap.size 5 1 v (X++(Y++Z)).length ((X++(Y++Z)).map (Value.int .u8))∧Below w.heap.size w w':=by
 have hf:[X,Y,Z].flatten=X++(Y++Z):=by simp
 have:=join_any p 3 [X,Y,Z] w hP (by rw [hf];simp only [List.length_append];exact hbig)
 rwa [hf] at this
theorem join2p_any (p:Option Addr) (X Y:List Int) (w:World) (hP:Parts w p [X,Y]) (hbig:X.length+Y.length≤200000000000000) :
 Calls Tryz.prog 58 #[.slice p 2 2] w fun r w'=>∃v,r = .returned v∧w'.ownsRow w.heap.size 5 1 v (X++Y).length ((X++Y).map (Value.int .u8))∧Below w.heap.size w w':=by
 have hf:[X,Y].flatten=X++Y:=by simp
 have:=join_any p 2 [X,Y] w hP (by rw [hf];simp only [List.length_append];exact hbig)
 rwa [hf] at this
end Go.Proofs.YtiollhmbdhepkaaGreatDoor
namespace Go.Proofs.YtiollhmbdhepkaaGreatDoor
open Go.RowKit Go.Shelf
set_option maxRecDepth 100000
theorem hlen_ok {p:Fm} (h:Ok p) (hn:p.nc.length=16):(putM p).length≤200000000000000:=by
 have:=hdB_len h hn
 rw [putM_eq,List.length_cons,List.length_append]
 omega
theorem key1 (A1 A2:List Int) (A3:Int) (A4 A5 A6 A7:List Int):(1:Int)::(((if false=true then A1 else [])++((if false=true then A2 else [])++((if false=true then [A3] else [])++((if false=true then A4 else [])++((if false=true then A5 else [])++(if false=true then A6 else []))))))++(if false=true then A7 else []))=([(1:Int)]::[]).flatten:=by simp
theorem putM_1' {p:Fm} (hk:p.k=1) (e1:hI 1=false) (e2:hN 1=false) (e3:hF 1=false) (e4:hC 1=false) (e5:hO 1=false) (e6:hT 1=false) (e7:hS 1=false):putM p=([1]::[]).flatten:=by
 rw [putM_eq,hk]
 unfold hdB
 rw [hk,e1,e2,e3,e4,e5,e6,e7]
 exact key1 _ _ _ _ _ _ _
theorem putM_1 {p:Fm} (hk:p.k=1):putM p=([1]::[]).flatten:=putM_1' hk (by decide) (by decide) (by decide) (by decide) (by decide) (by decide) (by decide)
theorem key2 (A1 A2:List Int) (A3:Int) (A4 A5 A6 A7:List Int):(2:Int)::(((if false=true then A1 else [])++((if true=true then A2 else [])++((if false=true then [A3] else [])++((if false=true then A4 else [])++((if false=true then A5 else [])++(if false=true then A6 else []))))))++(if true=true then A7 else []))=([(2:Int)]::[A2,A7]).flatten:=by simp
theorem putM_2' {p:Fm} (hk:p.k=2) (e1:hI 2=false) (e2:hN 2=true) (e3:hF 2=false) (e4:hC 2=false) (e5:hO 2=false) (e6:hT 2=false) (e7:hS 2=true):putM p=([2]::[nB p.n,putB p.sp]).flatten:=by
 rw [putM_eq,hk]
 unfold hdB
 rw [hk,e1,e2,e3,e4,e5,e6,e7]
 exact key2 _ _ _ _ _ _ _
theorem putM_2 {p:Fm} (hk:p.k=2):putM p=([2]::[nB p.n,putB p.sp]).flatten:=putM_2' hk (by decide) (by decide) (by decide) (by decide) (by decide) (by decide) (by decide)
theorem key3 (A1 A2:List Int) (A3:Int) (A4 A5 A6 A7:List Int):(3:Int)::(((if true=true then A1 else [])++((if true=true then A2 else [])++((if true=true then [A3] else [])++((if false=true then A4 else [])++((if false=true then A5 else [])++(if true=true then A6 else []))))))++(if false=true then A7 else []))=([(3:Int)]::[A1,A2,[A3],A6]).flatten:=by simp
theorem putM_3' {p:Fm} (hk:p.k=3) (e1:hI 3=true) (e2:hN 3=true) (e3:hF 3=true) (e4:hC 3=false) (e5:hO 3=false) (e6:hT 3=true) (e7:hS 3=false):putM p=([3]::[nB p.id,nB p.n,[finB p.fin],Fi.textB p.tx]).flatten:=by
 rw [putM_eq,hk]
 unfold hdB
 rw [hk,e1,e2,e3,e4,e5,e6,e7]
 exact key3 _ _ _ _ _ _ _
theorem putM_3 {p:Fm} (hk:p.k=3):putM p=([3]::[nB p.id,nB p.n,[finB p.fin],Fi.textB p.tx]).flatten:=putM_3' hk (by decide) (by decide) (by decide) (by decide) (by decide) (by decide) (by decide)
theorem key4 (A1 A2:List Int) (A3:Int) (A4 A5 A6 A7:List Int):(4:Int)::(((if true=true then A1 else [])++((if true=true then A2 else [])++((if false=true then [A3] else [])++((if true=true then A4 else [])++((if false=true then A5 else [])++(if false=true then A6 else []))))))++(if false=true then A7 else []))=([(4:Int)]::[A1,A2,A4]).flatten:=by simp
theorem putM_4' {p:Fm} (hk:p.k=4) (e1:hI 4=true) (e2:hN 4=true) (e3:hF 4=false) (e4:hC 4=true) (e5:hO 4=false) (e6:hT 4=false) (e7:hS 4=false):putM p=([4]::[nB p.id,nB p.n,nB p.cd]).flatten:=by
 rw [putM_eq,hk]
 unfold hdB
 rw [hk,e1,e2,e3,e4,e5,e6,e7]
 exact key4 _ _ _ _ _ _ _
theorem putM_4 {p:Fm} (hk:p.k=4):putM p=([4]::[nB p.id,nB p.n,nB p.cd]).flatten:=putM_4' hk (by decide) (by decide) (by decide) (by decide) (by decide) (by decide) (by decide)
theorem key5 (A1 A2:List Int) (A3:Int) (A4 A5 A6 A7:List Int):(5:Int)::(((if true=true then A1 else [])++((if false=true then A2 else [])++((if false=true then [A3] else [])++((if true=true then A4 else [])++((if false=true then A5 else [])++(if false=true then A6 else []))))))++(if false=true then A7 else []))=([(5:Int)]::[A1,A4]).flatten:=by simp
theorem putM_5' {p:Fm} (hk:p.k=5) (e1:hI 5=true) (e2:hN 5=false) (e3:hF 5=false) (e4:hC 5=true) (e5:hO 5=false) (e6:hT 5=false) (e7:hS 5=false):putM p=([5]::[nB p.id,nB p.cd]).flatten:=by
 rw [putM_eq,hk]
 unfold hdB
 rw [hk,e1,e2,e3,e4,e5,e6,e7]
 exact key5 _ _ _ _ _ _ _
theorem putM_5 {p:Fm} (hk:p.k=5):putM p=([5]::[nB p.id,nB p.cd]).flatten:=putM_5' hk (by decide) (by decide) (by decide) (by decide) (by decide) (by decide) (by decide)
theorem key6 (A1 A2:List Int) (A3:Int) (A4 A5 A6 A7:List Int):(6:Int)::(((if false=true then A1 else [])++((if true=true then A2 else [])++((if false=true then [A3] else [])++((if false=true then A4 else [])++((if false=true then A5 else [])++(if false=true then A6 else []))))))++(if false=true then A7 else []))=([(6:Int)]::[A2]).flatten:=by simp
theorem putM_6' {p:Fm} (hk:p.k=6) (e1:hI 6=false) (e2:hN 6=true) (e3:hF 6=false) (e4:hC 6=false) (e5:hO 6=false) (e6:hT 6=false) (e7:hS 6=false):putM p=([6]::[nB p.n]).flatten:=by
 rw [putM_eq,hk]
 unfold hdB
 rw [hk,e1,e2,e3,e4,e5,e6,e7]
 exact key6 _ _ _ _ _ _ _
theorem putM_6 {p:Fm} (hk:p.k=6):putM p=([6]::[nB p.n]).flatten:=putM_6' hk (by decide) (by decide) (by decide) (by decide) (by decide) (by decide) (by decide)
theorem key7 (A1 A2:List Int) (A3:Int) (A4 A5 A6 A7:List Int):(7:Int)::(((if true=true then A1 else [])++((if true=true then A2 else [])++((if false=true then [A3] else [])++((if false=true then A4 else [])++((if false=true then A5 else [])++(if false=true then A6 else []))))))++(if false=true then A7 else []))=([(7:Int)]::[A1,A2]).flatten:=by simp
theorem putM_7' {p:Fm} (hk:p.k=7) (e1:hI 7=true) (e2:hN 7=true) (e3:hF 7=false) (e4:hC 7=false) (e5:hO 7=false) (e6:hT 7=false) (e7:hS 7=false):putM p=([7]::[nB p.id,nB p.n]).flatten:=by
 rw [putM_eq,hk]
 unfold hdB
 rw [hk,e1,e2,e3,e4,e5,e6,e7]
 exact key7 _ _ _ _ _ _ _
theorem putM_7 {p:Fm} (hk:p.k=7):putM p=([7]::[nB p.id,nB p.n]).flatten:=putM_7' hk (by decide) (by decide) (by decide) (by decide) (by decide) (by decide) (by decide)
theorem key8 (A1 A2:List Int) (A3:Int) (A4 A5 A6 A7:List Int):(8:Int)::(((if false=true then A1 else [])++((if true=true then A2 else [])++((if false=true then [A3] else [])++((if false=true then A4 else [])++((if false=true then A5 else [])++(if false=true then A6 else []))))))++(if false=true then A7 else []))=([(8:Int)]::[A2]).flatten:=by simp
theorem putM_8' {p:Fm} (hk:p.k=8) (e1:hI 8=false) (e2:hN 8=true) (e3:hF 8=false) (e4:hC 8=false) (e5:hO 8=false) (e6:hT 8=false) (e7:hS 8=false):putM p=([8]::[nB p.n]).flatten:=by
 rw [putM_eq,hk]
 unfold hdB
 rw [hk,e1,e2,e3,e4,e5,e6,e7]
 exact key8 _ _ _ _ _ _ _
theorem putM_8 {p:Fm} (hk:p.k=8):putM p=([8]::[nB p.n]).flatten:=putM_8' hk (by decide) (by decide) (by decide) (by decide) (by decide) (by decide) (by decide)
theorem key9 (A1 A2:List Int) (A3:Int) (A4 A5 A6 A7:List Int):(9:Int)::(((if false=true then A1 else [])++((if false=true then A2 else [])++((if false=true then [A3] else [])++((if false=true then A4 else [])++((if true=true then A5 else [])++(if true=true then A6 else []))))))++(if false=true then A7 else []))=([(9:Int)]::[A5,A6]).flatten:=by simp
theorem putM_9' {p:Fm} (hk:p.k=9) (e1:hI 9=false) (e2:hN 9=false) (e3:hF 9=false) (e4:hC 9=false) (e5:hO 9=true) (e6:hT 9=true) (e7:hS 9=false):putM p=([9]::[p.nc,Fi.textB p.tx]).flatten:=by
 rw [putM_eq,hk]
 unfold hdB
 rw [hk,e1,e2,e3,e4,e5,e6,e7]
 exact key9 _ _ _ _ _ _ _
theorem putM_9 {p:Fm} (hk:p.k=9):putM p=([9]::[p.nc,Fi.textB p.tx]).flatten:=putM_9' hk (by decide) (by decide) (by decide) (by decide) (by decide) (by decide) (by decide)
theorem key10 (A1 A2:List Int) (A3:Int) (A4 A5 A6 A7:List Int):(10:Int)::(((if false=true then A1 else [])++((if false=true then A2 else [])++((if false=true then [A3] else [])++((if true=true then A4 else [])++((if false=true then A5 else [])++(if true=true then A6 else []))))))++(if false=true then A7 else []))=([(10:Int)]::[A4,A6]).flatten:=by simp
theorem putM_10' {p:Fm} (hk:p.k=10) (e1:hI 10=false) (e2:hN 10=false) (e3:hF 10=false) (e4:hC 10=true) (e5:hO 10=false) (e6:hT 10=true) (e7:hS 10=false):putM p=([10]::[nB p.cd,Fi.textB p.tx]).flatten:=by
 rw [putM_eq,hk]
 unfold hdB
 rw [hk,e1,e2,e3,e4,e5,e6,e7]
 exact key10 _ _ _ _ _ _ _
theorem putM_10 {p:Fm} (hk:p.k=10):putM p=([10]::[nB p.cd,Fi.textB p.tx]).flatten:=putM_10' hk (by decide) (by decide) (by decide) (by decide) (by decide) (by decide) (by decide)
end Go.Proofs.YtiollhmbdhepkaaGreatDoor
