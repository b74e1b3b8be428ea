/- Ytiollhmbdhepkaa: what PacketBack reaches, joined and cut (its parts: wip) -/
import Derived.Test.YtiollhmbdhepkaaGreatDoorRows
import Derived.WalkKit
import Derived.WalkSpells
import Derived.Handy
import Derived.Laws.IdiomStrings
import Derived.Laws.AppendOwnNone
import Derived.Deep.DeepAppendWide
import Derived.Lib.AppendZerosOnto
import Derived.Lib.Walk
import Derived.Deep.RegionHeld3
import Derived.Maps.AppendAt
import Derived.Deep.QuietTactic
import Derived.BigQuiet
import Derived.Deep.RegionWith
import Derived.Deep.MidRow
import Derived.Laws.StructEq
import Derived.Laws.Tables
import Derived.Laws.ResultCell
import Derived.Laws.CopyOwn
import Derived.Shelf.Spec.SlicesInsertGrow
import Derived.Laws.BitsAllLaws
namespace Go.Proofs.YtiollhmbdhepkaaGreatDoor
open Go.RowKit
set_option maxRecDepth 100000
def Row (w:World) (a:Option Addr) (len cap:Nat) (zs:List Int):Prop:=
 len=0∨(0<len∧∃b off,a=some ⟨b,off,none⟩∧len≤cap∧cap≤maxLen∧
  (∀i,i<len→w.cell? ⟨b,off+i,none⟩=some (.int .u8 (zs.getD i 0)))∧(∀i,0≤zs.getD i 0∧zs.getD i 0<256))
def strB (l:List Int):ByteArray:=⟨(l.map fun n=>UInt8.ofNat n.toNat).toArray⟩
theorem conv_any (a:Option Addr) (len cap:Nat) (zs:List Int) (w:World) (hz:len≤zs.length) (hr:Row w a len cap zs) :
 (convert 34 9 (.slice a len cap)).run Tryz.prog w = .ok (.string (strB (zs.take len))) w:=by
 rcases hr with rfl | ⟨hp,b,off,rfl,hlc,hm,hc,hb⟩
 · cases a with
   | none=>rw [run_convert_bytes_string w 34 9 5 none 0 cap Tryz.underlying34 Tryz.underlying5 Tryz.underlying9];rfl
   | some a=>exact run_convert_bytes_back (P:=Tryz.prog) w 34 9 5 a cap [] Tryz.underlying34 Tryz.underlying5 Tryz.underlying9 (fun j hj=>by simp at hj)
 · have hlen:((zs.take len).map fun n=>UInt8.ofNat n.toNat).length=len:=by simp;omega
   have h:=run_convert_bytes_back (P:=Tryz.prog) w 34 9 5 ⟨b,off,none⟩ cap ((zs.take len).map fun n=>UInt8.ofNat n.toNat) Tryz.underlying34 Tryz.underlying5 Tryz.underlying9 (fun j hj=>by
    rw [hlen] at hj
    rw [Addr.add_lit,hc j hj]
    have hbj:=hb j
    have e:zs.getD j 0=zs[j]'(by omega):=by simp [List.getD,List.getElem?_eq_getElem (show j<zs.length by omega)]
    rw [e] at hbj ⊢
    simp only [List.getElem_map,List.getElem_take]
    congr 2
    simp only [UInt8.toNat_ofNat']
    omega)
   rw [hlen] at h
   exact h
theorem row_new (w:World) (zs:List Int) (hb:∀i,0≤zs.getD i 0∧zs.getD i 0<256) (hm:zs.length≤maxLen) :
 Row (w.alloc (.cells (zs.map (Value.int .u8)).toArray 5)) (some ⟨w.heap.size,0,none⟩) zs.length zs.length zs:=by
 rcases Nat.eq_zero_or_pos zs.length with h | h
 · exact .inl h
 · refine .inr ⟨h,w.heap.size,0,rfl,Nat.le_refl _,hm,fun i hi=>?_,hb⟩
   rw [World.cell?_alloc_at _ _ _ _ rfl]
   simp [hi]
theorem byteList (zs:List Int) (h:zs.all (fun z=>0≤z&&z<256)=true):∀i,0≤zs.getD i 0∧zs.getD i 0<256:=by
 intro i
 by_cases hi:i<zs.length
 · have:=List.all_eq_true.1 h zs[i] (List.getElem_mem hi)
   simp at this
   simpa [List.getD,List.getElem?_eq_getElem hi] using this
 · simp [List.getD,List.getElem?_eq_none (show zs.length≤i by omega)]
theorem Row.cut {w:World} {a:Option Addr} {len cap:Nat} {zs:List Int} (h:Row w a len cap zs) (m:Nat) (hm:m≤len):Row w a m cap zs:=by
 rcases Nat.eq_zero_or_pos m with h0 | h0
 · exact .inl h0
 · rcases h with h | ⟨hp,b,off,rfl,hlc,hx,hc,hz⟩
   · omega
   · exact .inr ⟨h0,b,off,rfl,by omega,hx,fun i hi=>hc i (by omega),hz⟩
theorem info5':(Tryz.prog.info? 5).map (fun i=>(i.zero,i.size,i.bytes))=some (some (.int .u8 0),1,1):=by kernel_rfl
def Sl (w:World) (v:Value) (xs:List Int):Prop:=
 ∃a cap,v = .slice a xs.length cap∧xs.length≤cap∧cap≤maxLen∧(a=none→cap=0)∧Row w a xs.length cap xs
theorem Row.kept {w w':World} {a:Option Addr} {len cap:Nat} {zs:List Int} (h:Row w a len cap zs) (hb:Below w.heap.size w w'):Row w' a len cap zs:=by
 rcases h with h | ⟨hp,b,off,rfl,hlc,hm,hc,hz⟩
 · exact .inl h
 · exact .inr ⟨hp,b,off,rfl,hlc,hm,fun i hi=>(hb.cell (p:=⟨b,off+i,none⟩) (World.block_lt_of_cell? _ _ (hc i hi))).trans (hc i hi),hz⟩
theorem Sl.kept {w w':World} {v:Value} {xs:List Int} (h:Sl w v xs) (hb:Below w.heap.size w w'):Sl w' v xs:=by
 obtain ⟨a,cap,e,h1,h2,h3,h4⟩:=h
 exact ⟨a,cap,e,h1,h2,h3,h4.kept hb⟩
theorem Row.bytes {w:World} {a:Option Addr} {cap:Nat} {xs:List Int} (h:Row w a xs.length cap xs):∀i,0≤xs.getD i 0∧xs.getD i 0<256:=by
 rcases h with h | ⟨_,_,_,_,_,_,_,hz⟩
 · obtain rfl:=List.length_eq_zero_iff.1 h
   intro i
   simp
 · exact hz
theorem Sl.bytes {w:World} {v:Value} {xs:List Int} (h:Sl w v xs):∀i,0≤xs.getD i 0∧xs.getD i 0<256:=by
 obtain ⟨a,cap,e,h1,h2,h3,h4⟩:=h
 exact h4.bytes
theorem Sl.none (w:World):Sl w (.slice .none 0 0) []:=⟨.none,0,rfl,Nat.le_refl _,by simp,fun _=>rfl,.inl rfl⟩
theorem own_base {w:World} {base:Nat} {e:TypeId} {size:Nat} {v:Value} {n:Nat} {xs:List Value} (h:w.ownsRow base e size v n xs):∀k,v.ownBlock=some k→base≤k:=by
 rcases h.2 with ⟨rfl,_⟩ | ⟨g,cap,cur,rfl,hg,_⟩
 · intro k hk;cases hk
 · intro k hk;cases hk;exact hg
theorem sl_owned {w:World} {base n:Nat} {v:Value} {xs:List Int} (h:w.ownsRow base 5 1 v n (xs.map (Value.int .u8))) (hb:∀i,0≤xs.getD i 0∧xs.getD i 0<256):Sl w v xs:=by
 have hl:=h.1
 simp at hl
 subst hl
 rcases h.2 with ⟨rfl,h0⟩ | ⟨g,cap,cur,rfl,hg,hh,hc,hm,hs,ht⟩
 · obtain rfl:=List.length_eq_zero_iff.1 h0
   exact Sl.none w
 · simp at ht
   refine ⟨_,cap,rfl,hc,hm,fun e=>(by cases e),?_⟩
   rcases Nat.eq_zero_or_pos xs.length with h0 | hp
   · exact .inl h0
   · refine .inr ⟨hp,g,0,rfl,hc,hm,fun i hi=>?_,hb⟩
     have e:cur[i]? = some (.int .u8 (xs.getD i 0)):=by
      have:=congrArg (·[i]?) ht
      simp only [List.getElem?_take,List.getElem?_map] at this
      rw [if_pos hi] at this
      simpa [List.getElem?_eq_getElem hi,List.getD] using this
     unfold World.cell?;rw [hh];simpa using e
theorem ints_one (xs:List Int):∀u∈xs.map (Value.int .u8),u.oneCell'=true:=by
 intro u hu
 simp only [List.mem_map] at hu
 obtain ⟨z,_,rfl⟩:=hu
 rfl
theorem news_row {w:World} {x:Addr} {cap:Nat} {xs:List Int} (h:Row w (some x) xs.length cap xs) :
 ∀j u,(xs.map (Value.int .u8))[j]? = some u→w.cell? (x.add j)=some u:=by
 intro j u hj
 rw [List.getElem?_map] at hj
 by_cases hlt:j<xs.length
 · rw [List.getElem?_eq_getElem hlt] at hj
   simp only [Option.map_some,Option.some.injEq] at hj
   rcases h with h | ⟨_,b,off,e,_,_,hc,_⟩
   · omega
   · cases e
     rw [Addr.add_lit,hc j hlt,←hj]
     simp [List.getD,List.getElem?_eq_getElem hlt]
 · rw [List.getElem?_eq_none (by omega)] at hj
   simp at hj
theorem Sl.conv {w:World} {a:Option Addr} {len cap:Nat} {xs:List Int} (h:Sl w (.slice a len cap) xs):(convert 34 9 (.slice a len cap)).run Tryz.prog w = .ok (.string (strB xs)) w:=by
 obtain ⟨a',cap',e,h1,h2,h3,h4⟩:=h
 cases e
 have:=conv_any a xs.length cap xs w (Nat.le_refl _) h4
 rwa [List.take_length] at this
theorem own_mono {w:World} {base base':Nat} {e:TypeId} {size:Nat} {v:Value} {n:Nat} {xs:List Value} (h:w.ownsRow base e size v n xs) (hb:base'≤base):w.ownsRow base' e size v n xs:=by
 obtain ⟨h1,h2⟩:=h
 rcases h2 with h2 | ⟨g,cap,cur,hv,hg,r⟩
 · exact ⟨h1,.inl h2⟩
 · exact ⟨h1,.inr ⟨g,cap,cur,hv,Nat.le_trans hb hg,r⟩⟩
theorem bytes_flat (ZZ:List (List Int)) (h:∀X∈ZZ,∀i,0≤X.getD i 0∧X.getD i 0<256):∀i,0≤ZZ.flatten.getD i 0∧ZZ.flatten.getD i 0<256:=by
 refine byteList _ ?_
 rw [List.all_eq_true]
 intro z hz
 obtain ⟨X,hX,hzX⟩:=List.mem_flatten.1 hz
 obtain ⟨i,hi,rfl⟩:=List.getElem_of_mem hzX
 have:=h X hX i
 simp [List.getD,List.getElem?_eq_getElem hi] at this
 simpa using this
end Go.Proofs.YtiollhmbdhepkaaGreatDoor
namespace Go.Proofs.YtiollhmbdhepkaaGreatDoor
open Go.RowKit
set_option maxRecDepth 100000
section
variable {P:Program} {ops:Array Oper} {Q:Exit→Act→World→Prop} {md:Region.Mode}
theorem wpAnyH_turn {S S':World→Prop} (hS:∀x,S' x→S x):∀(fuel:Nat) (listed:Array Bool) (a:Act) (w:World),wpAnyH P md ops Q S' fuel listed a w→wpAnyH P md ops Q S fuel listed a w
 | 0,_,_,_,h=>h
 | fuel+1,_,_,_,h=>⟨h.1,fun i hi=>wpOp_mono (fun a' w' h'=>⟨hS _ h'.1,wpAnyH_turn hS fuel _ a' w' h'.2⟩) (h.2 i hi)⟩
def From (u x:World):Prop:=Below u.heap.size u x
theorem wpAnyH_on {u W:World} {fuel:Nat} {listed:Array Bool} {a:Act} (hb:Below u.heap.size u W) (h:∀n,Hid (n=W)→Below u.heap.size u n→wpAnyH P md ops Q (From n) fuel listed a n) :
 wpAnyH P md ops Q (From u) fuel listed a W:=
 wpAnyH_turn (fun _ hx=>hb.trans (Below.mono hx hb.size)) fuel listed a W (h W rfl hb)
theorem wpAnyH_name {S:World→Prop} {W:World} {fuel:Nat} {listed:Array Bool} {a:Act} (h:∀n,Hid (n=W)→wpAnyH P md ops Q S fuel listed a n):wpAnyH P md ops Q S fuel listed a W:=h W rfl
theorem on {p:World→Prop} {u n:World} (f:Hid (∀x,From u x→p x)) (hb:Below u.heap.size u n):Hid (∀x,From n x→p x):=fun x hx=>f.out x (hb.trans (Below.mono hx hb.size))
end
theorem al_below (w:World) (o:Obj):Below w.heap.size w (w.alloc o):=(Below.refl _ _).alloc (Nat.le_refl _) _
end Go.Proofs.YtiollhmbdhepkaaGreatDoor
namespace Go.Proofs.YtiollhmbdhepkaaGreatDoor
open Go.RowKit
set_option maxRecDepth 100000
theorem own_shape {w:World} {B n:Nat} {e:TypeId} {s:Nat} {v:Value} {xs:List Value} (h:w.ownsRow B e s v n xs):∃a c,v = .slice a n c:=by
 rcases h.2 with ⟨rfl,rfl⟩ | ⟨g,cap,cur,rfl,_⟩
 · exact ⟨_,_,rfl⟩
 · exact ⟨_,_,rfl⟩
theorem own_below {w w':World} {B n s:Nat} {e:TypeId} {v:Value} {xs:List Value} (h:w.ownsRow B e s v n xs) (hb:Below w.heap.size w w'):w'.ownsRow B e s v n xs:=by
 obtain ⟨h1,h2⟩:=h
 refine ⟨h1,?_⟩
 rcases h2 with h2 | ⟨g,cap,cur,hv,hg,hh,r⟩
 · exact .inl h2
 · exact .inr ⟨g,cap,cur,hv,hg,(hb.block g (Array.getElem?_eq_some_iff.1 hh).1).trans hh,r⟩
theorem own_apart {w w':World} {B C n m s t:Nat} {e f:TypeId} {v u:Value} {xs ys:List Value} (h:w.ownsRow B e s v n xs) (k:w.ownsRow C f t u m ys) (hef:e≠f) (hg:w.grownBy w' v.ownBlock):w'.ownsRow C f t u m ys:=by
 obtain ⟨k1,k2⟩:=k
 refine ⟨k1,?_⟩
 rcases k2 with k2 | ⟨g,cap,cur,hv,hgg,hh,r⟩
 · exact .inl k2
 · refine .inr ⟨g,cap,cur,hv,hgg,?_,r⟩
   refine (hg.block g (Array.getElem?_eq_some_iff.1 hh).1 ?_).trans hh
   intro e2
   rcases h.2 with ⟨rfl,_⟩ | ⟨g',cap',cur',rfl,_,hh',_⟩
   · cases e2
   · cases e2
     rw [hh] at hh'
     simp at hh'
     exact hef hh'.2.symm
theorem strB_toList (X:List Int):(strB X).toList=X.map fun n=>UInt8.ofNat n.toNat:=ByteArray.toList_mk _
theorem strB_inj {X Y:List Int} (hX:∀i,0≤X.getD i 0∧X.getD i 0<256) (hY:∀i,0≤Y.getD i 0∧Y.getD i 0<256) (h:(strB X).toList=(strB Y).toList):X=Y:=by
 rw [strB_toList,strB_toList] at h
 have hl:X.length=Y.length:=by have:=congrArg List.length h;simpa using this
 refine List.ext_getElem hl fun i h1 h2=>?_
 have h3:=congrArg (fun l=>l[i]?) h
 simp only [List.getElem?_map,List.getElem?_eq_getElem h1,List.getElem?_eq_getElem h2,Option.map_some,Option.some.injEq] at h3
 have h4:=congrArg UInt8.toNat h3
 simp only [UInt8.toNat_ofNat'] at h4
 have h5:=hX i
 have h6:=hY i
 simp only [List.getD,List.getElem?_eq_getElem h1,List.getElem?_eq_getElem h2,Option.getD_some] at h5 h6
 omega
theorem strB_beq {X Y:List Int} (hX:∀i,0≤X.getD i 0∧X.getD i 0<256) (hY:∀i,0≤Y.getD i 0∧Y.getD i 0<256):((strB X).toList==(strB Y).toList)=decide (X=Y):=by
 by_cases h:X=Y
 · subst h;simp
 · rw [decide_eq_false h]
   have:¬(strB X).toList=(strB Y).toList:=fun e=>h (strB_inj hX hY e)
   simpa using this
theorem bytes_take (xs:List Int) (m:Nat) (hx:∀i,0≤xs.getD i 0∧xs.getD i 0<256):∀i,0≤(xs.take m).getD i 0∧(xs.take m).getD i 0<256:=by
 intro i
 by_cases hi:i<m
 · have:=hx i
   simpa [List.getD,List.getElem?_take,hi] using this
 · simp [List.getD,List.getElem?_take,hi]
theorem bytes_drop (xs:List Int) (m:Nat) (hx:∀i,0≤xs.getD i 0∧xs.getD i 0<256):∀i,0≤(xs.drop m).getD i 0∧(xs.drop m).getD i 0<256:=by
 intro i
 have:=hx (m+i)
 simpa [List.getD,List.getElem?_drop] using this
theorem Sl.take {w:World} {a:Option Addr} {len cap:Nat} {xs:List Int} (h:Sl w (.slice a len cap) xs) (m:Nat) (hm:m≤len):Sl w (.slice a m cap) (xs.take m):=by
 obtain ⟨a',cap',e,h1,h2,h3,h4⟩:=h
 cases e
 have hlen:(xs.take m).length=m:=by rw [List.length_take];omega
 have hr:=h4.cut m (by omega)
 refine ⟨a,cap,by rw [hlen],by rw [hlen];omega,h2,h3,?_⟩
 rw [hlen]
 rcases hr with h | ⟨hp,b,off,rfl,h1,h2,hc,hz'⟩
 · exact .inl h
 · refine .inr ⟨hp,b,off,rfl,h1,h2,fun i hi=>?_,bytes_take xs m hz'⟩
   rw [hc i hi];simp [List.getD,hi]
theorem Sl.drop {w:World} {b off len cap:Nat} {xs:List Int} (h:Sl w (.slice (some ⟨b,off,Option.none⟩) len cap) xs) (n:Nat) (hn:n≤len):Sl w (.slice (some ⟨b,off+n,Option.none⟩) (len-n) (cap-n)) (xs.drop n):=by
 obtain ⟨a',cap',e,h1,h2,h3,h4⟩:=h
 cases e
 have hl:(xs.drop n).length=xs.length-n:=List.length_drop ..
 refine ⟨_,cap-n,by rw [hl],by rw [hl];omega,by omega,fun e=>(by cases e),?_⟩
 rw [hl]
 rcases h4 with h | ⟨hp,b',off',e,hlc,hm,hc,hz⟩
 · exact .inl (by omega)
 · cases e
   rcases Nat.eq_zero_or_pos (xs.length-n) with h0 | h0
   · exact .inl h0
   · refine .inr ⟨h0,b,off+n,rfl,by omega,by omega,fun i hi=>?_,bytes_drop xs n hz⟩
     rw [show off+n+i=off+(n+i) by omega,hc (n+i) (by omega)]
     simp [List.getD,List.getElem?_drop]
end Go.Proofs.YtiollhmbdhepkaaGreatDoor
namespace Go.Proofs.YtiollhmbdhepkaaGreatDoor
open Go.RowKit
set_option maxRecDepth 100000
def CL (k:Nat) (L:List (List Value)):Prop:=∀c∈L,c.length=k∧∀v∈c,v.oneCell'=true
def atC (L:List (List Value)) (i:Nat):List Value:=L.getD i []
theorem atC_eq (L:List (List Value)) (i:Nat) (h:i<L.length):atC L i=L[i]:=by simp [atC,List.getD,h]
theorem atC_mem (L:List (List Value)) (i:Nat) (h:i<L.length):atC L i∈L:=by rw [atC_eq L i h];exact List.getElem_mem h
theorem CL.nil (k:Nat):CL k []:=fun c h=>by simp at h
theorem CL.app {k:Nat} {L M:List (List Value)} (h:CL k L) (h':CL k M):CL k (L++M):=fun c hc=>(List.mem_append.1 hc).elim (h c) (h' c)
theorem CL.one {k:Nat} {c:List Value} (h:c.length=k) (h':∀v∈c,v.oneCell'=true):CL k [c]:=fun d hd=>by simp at hd;subst hd;exact ⟨h,h'⟩
theorem CL.ones {k:Nat} {L:List (List Value)} (h:CL k L):∀v∈L.flatten,v.oneCell'=true:=fun v hv=>by
 obtain ⟨c,hc,hv⟩:=List.mem_flatten.1 hv
 exact (h c hc).2 v hv
theorem CL.flat {k:Nat}:∀{L:List (List Value)},CL k L→L.flatten.length=L.length*k
 | [],_=>by simp
 | c::L,h=>by
   rw [List.flatten_cons,List.length_append,(h c (by simp)).1,CL.flat (L:=L) fun d hd=>h d (by simp [hd]),List.length_cons,Nat.succ_mul]
   omega
theorem CL.flat_take {k:Nat}:∀{L:List (List Value)} (i:Nat),CL k L→L.flatten.take (i*k)=(L.take i).flatten
 | [],i,_=>by simp
 | c::L,0,_=>by simp
 | c::L,i+1,h=>by
   have hc:=(h c (by simp)).1
   rw [List.flatten_cons,List.take_succ_cons,List.flatten_cons,List.take_append,hc,List.take_of_length_le (by rw [hc,Nat.succ_mul];omega),Nat.succ_mul,Nat.add_sub_cancel,CL.flat_take i fun d hd=>h d (by simp [hd])]
theorem CL.flat_drop {k:Nat}:∀{L:List (List Value)} (i:Nat),CL k L→L.flatten.drop (i*k)=(L.drop i).flatten
 | [],i,_=>by simp
 | c::L,0,_=>by simp
 | c::L,i+1,h=>by
   have hc:=(h c (by simp)).1
   rw [List.flatten_cons,List.drop_succ_cons,List.drop_append,hc,List.drop_of_length_le (by rw [hc,Nat.succ_mul];omega),Nat.succ_mul,Nat.add_sub_cancel,CL.flat_drop i fun d hd=>h d (by simp [hd]),List.nil_append]
theorem CL.get {k:Nat} {L:List (List Value)} (h:CL k L) {i j:Nat} {v:Value} (hi:i<L.length) (hv:(atC L i)[j]? = some v):L.flatten[i*k+j]? = some v:=by
 have hc:=h _ (atC_mem L i hi)
 have hj:j<k:=by rw [←hc.1];exact (List.getElem?_eq_some_iff.1 hv).1
 rw [←List.getElem?_drop,h.flat_drop,List.drop_eq_getElem_cons hi,List.flatten_cons,List.getElem?_append_left (by rw [←atC_eq L i hi,hc.1];exact hj),←atC_eq L i hi,hv]
def IS (k:Nat) (w:World) (v:Value) (L:List (List Value)):Prop:=
 ∃a c,v = .slice a L.length c∧L.length≤c∧c≤maxLen∧(a=none→c=0)∧CL k L∧(L=[]∨∃b off,a=some ⟨b,off,none⟩∧∀i,i<L.length→w.rangeAt b (off+i*k) (atC L i))
theorem range_kept {w w':World} {b o:Nat} {cs:List Value} (h:w.rangeAt b o cs) (hb:Below w.heap.size w w'):w'.rangeAt b o cs:=fun j v hv=>
 (hb.cell (World.block_lt_of_cell? _ _ (h j v hv))).trans (h j v hv)
theorem IS.kept {k:Nat} {w w':World} {v:Value} {L:List (List Value)} (h:IS k w v L) (hb:Below w.heap.size w w'):IS k w' v L:=by
 obtain ⟨a,c,h1,h2,h3,h4,h5,h6⟩:=h
 refine ⟨a,c,h1,h2,h3,h4,h5,?_⟩
 rcases h6 with h6 | ⟨b,off,e,h7⟩
 · exact .inl h6
 · exact .inr ⟨b,off,e,fun i hi=>range_kept (h7 i hi) hb⟩
theorem IS.shape {k:Nat} {w:World} {v:Value} {L:List (List Value)} (h:IS k w v L):∃a c,v = .slice a L.length c∧L.length≤c∧c≤maxLen∧(a=none→c=0):=by
 obtain ⟨a,c,h1,h2,h3,h4,_⟩:=h
 exact ⟨a,c,h1,h2,h3,h4⟩
theorem IS.cl {k:Nat} {w:World} {v:Value} {L:List (List Value)} (h:IS k w v L):CL k L:=by
 obtain ⟨a,c,h1,h2,h3,h4,h5,_⟩:=h
 exact h5
theorem IS.nil (k:Nat) (w:World):IS k w (.slice none 0 0) []:=⟨none,0,rfl,Nat.le_refl _,by unfold maxLen;omega,fun _=>rfl,CL.nil k,.inl rfl⟩
theorem IS.at {k:Nat} {w:World} {a:Option Addr} {n c:Nat} {L:List (List Value)} (h:IS k w (.slice a n c) L) (i:Nat) (hi:i<L.length) :
 ∃b off,a=some ⟨b,off,none⟩∧w.rangeAt b (off+i*k) (atC L i):=by
 obtain ⟨a',c',h1,h2,h3,h4,h5,h6⟩:=h
 cases h1
 rcases h6 with h6 | ⟨b,off,e,h7⟩
 · subst h6;simp at hi
 · exact ⟨b,off,e,h7 i hi⟩
def RI (t:TypeId) (k:Nat) (w:World) (B:Nat) (v:Value) (L:List (List Value)):Prop:=w.ownsRow B t k v L.length L.flatten∧CL k L
theorem RI.nil (t:TypeId) (k:Nat) (w:World) (B:Nat):RI t k w B (.slice none 0 0) []:=⟨⟨by simp,.inl ⟨rfl,rfl⟩⟩,CL.nil k⟩
theorem RI.below {t:TypeId} {k:Nat} {w w':World} {B:Nat} {v:Value} {L:List (List Value)} (h:RI t k w B v L) (hb:Below w.heap.size w w'):RI t k w' B v L:=⟨own_below h.1 hb,h.2⟩
theorem RI.mono {t:TypeId} {k:Nat} {w:World} {B B':Nat} {v:Value} {L:List (List Value)} (h:RI t k w B v L) (hb:B'≤B):RI t k w B' v L:=⟨own_mono h.1 hb,h.2⟩
theorem RI.is {t:TypeId} {k:Nat} {w:World} {B:Nat} {v:Value} {L:List (List Value)} (h:RI t k w B v L):IS k w v L:=by
 obtain ⟨h,hok⟩:=h
 have h':=h
 rcases h.2 with ⟨rfl,h2⟩ | ⟨g,cap,cur,rfl,hg,hh,hl,hm,r⟩
 · obtain rfl:L=[]:=List.length_eq_zero_iff.1 h2
   exact IS.nil k w
 · refine ⟨_,cap,rfl,hl,hm,(fun e=>by cases e),hok,.inr ⟨g,0,rfl,fun i hi j v hv=>?_⟩⟩
   have:=h'.cells (g:=g) rfl (i*k+j) v (hok.get hi hv)
   rwa [Addr.add_lit,←Nat.add_assoc] at this
theorem blk_range {w:World} {g:Nat} {t:TypeId} {cs:List Value} (h:w.heap[g]? = some (.cells cs.toArray t (0,0))):w.rangeAt g 0 cs:=fun j v hv=>by
 rw [Nat.zero_add]
 unfold World.cell?
 rw [h]
 simpa using hv
theorem blk_kept {w w':World} {g B:Nat} {o:Obj} (h:w.heap[g]? = some o) (hb:Below B w w') (hB:g<B):w'.heap[g]? = some o:=(hb.block g hB).trans h
theorem blk_lt {w:World} {g:Nat} {o:Obj} (h:w.heap[g]? = some o):g<w.heap.size:=(Array.getElem?_eq_some_iff.1 h).1
theorem sl_range {w:World} {b o:Nat} {A:List Int} {n c:Nat} (h:w.rangeAt b o (A.map (Value.int .u8))) (hb:∀k,0≤A.getD k 0∧A.getD k 0<256) (hn:n=A.length) (hc:n≤c) (hm:c≤maxLen):Sl w (.slice (some ⟨b,o,none⟩) n c) A:=by
 subst hn
 refine ⟨_,c,rfl,hc,hm,fun e=>(by cases e),?_⟩
 rcases Nat.eq_zero_or_pos A.length with h0 | hp
 · exact .inl h0
 · refine .inr ⟨hp,b,o,rfl,hc,hm,fun i hi=>?_,hb⟩
   refine h i _ ?_
   rw [List.getElem?_map,List.getElem?_eq_getElem hi]
   simp [List.getD,List.getElem?_eq_getElem hi]
theorem wpList_append_it {w:World} {ops:Array Oper} {rest:List Oper} {o:Oper} {a:Act} {Q:Exit→Act→World→Prop} (hgd:o.guard=none) (s x:Operand) (ts t:TypeId) (k nb:Nat) (z:Value)
 (ho:o.op = .call { callee:=.builtin .append,args:=#[s,x],argTypes:=#[ts,ts] }) (hu:Tryz.prog.underlying ts=some (.slice t)) (hI:(Tryz.prog.info? t).map (fun i=>(i.zero,i.size,i.bytes))=some (some z,k,nb)) (hcl:z.cells.size=k) (hk:0<k) (hnb:nb≤1000)
 (B:Nat) (v:Value) (L:List (List Value)) (hs:a.eval s=v) (hown:RI t k w B v L) (g:Nat) (y:List Value) (cap:Nat) (hy:y.length=k) (hy1:∀v∈y,v.oneCell'=true)
 (hx:a.eval x = .slice (some ⟨g,0,none⟩) 1 cap) (hc:w.rangeAt g 0 y) (hbig:L.length≤100000) (hbase:B≤w.heap.size)
 (h:∀v' w',RI t k w' B v' (L++[y])→w.grownBy w' v.ownBlock→wpList Tryz.prog ops Q rest (a.put o.dst v') w'):wpList Tryz.prog ops Q (o::rest) a w:=by
 obtain ⟨i0,hi,hz0,hz1,hz2⟩:=info_parts hI
 refine wpList_append_own_wide w hgd s x ts ho B t i0 z k nb hu hi hz0 hz1 hz2 hcl hk v L.length L.flatten hs hown.1 ⟨g,0,none⟩ 1 cap y hx (by rw [hy];omega) ?_ hy1 (by unfold maxLen;omega) (by
  have:=Nat.mul_le_mul (show L.length+1+(L.length+1) / 4+192≤200000 by omega) hnb
  omega) hbase ?_
 · intro j u hj
   rw [Addr.add_lit]
   exact hc j u hj
 · intro v' w' ho' hg _
   refine h v' w' ⟨?_,hown.2.app (CL.one hy hy1)⟩ hg
   rw [List.length_append,List.flatten_append,List.flatten_cons,List.flatten_nil,List.append_nil]
   exact ho'
end Go.Proofs.YtiollhmbdhepkaaGreatDoor
namespace Go.Proofs.YtiollhmbdhepkaaGreatDoor
open Go.RowKit Go.Shelf
set_option maxRecDepth 100000
theorem infoN:(Tryz.prog.info? 131).map (fun i=>(i.zero,i.size,i.bytes))=some (some (.agg #[.int .i64 0,.int .i64 0]),2,16):=by kernel_rfl
theorem lt_of_block {w:World} {b:Nat} {o:Obj} (h:w.heap[b]? = some o):b<w.heap.size:=(Array.getElem?_eq_some_iff.1 h).1
theorem run_copy_three (w:World) (dT sT ty elem:TypeId) (b o dLen dCap:Nat) (a:Addr) (sLen sCap:Nat) (cs:List Value) (N:Nat)
 (hu:Tryz.prog.underlying dT=some (.slice elem)) (hs:(Tryz.prog.info? elem).map (·.size)=some 2) (hN:N=Nat.min sLen dLen) (hn:cs.length=N*2)
 (hsrc:∀j v,cs[j]? = some v→w.cell? (a.add j)=some v) (hc:∀j,j<cs.length→(w.cell? ⟨b,o+j,none⟩).isSome=true) (hf:∀j,j<cs.length→w.frozen? ⟨b,o+j,none⟩=false) (h1:∀v∈cs,v.oneCell'=true) :
 (Builtin.copy_ #[dT,sT] ty #[.slice (some ⟨b,o,none⟩) dLen dCap,.slice (some a) sLen sCap]).run Tryz.prog w = .ok (goInt N) (w.setCells b o cs):=by
 have hl:=run_loadCells_list (P:=Tryz.prog) w a cs hsrc
 have hst:=run_storeCells_cells (P:=Tryz.prog) b o cs 0 w (by simpa using hc) (by simpa using hf) h1
 cases hq:Tryz.prog.info? elem with
 | none=>simp [hq] at hs
 | some i=>
   have hi:i.size=2:=by simpa [hq] using hs
   simp [Builtin.copy_,run_underlying hu,Builtin.lenOf,Builtin.firstCells,sizeOf,typeInfo,hq,hi,←hN,←hn,hl,hst]
theorem size3:(Tryz.prog.info? 131).map (·.size)=some 2:=by
 obtain ⟨i0,hi,_,hz1,_⟩:=info_parts infoN
 rw [hi];simp [hz1]
theorem setCells_block (b:Nat):∀(vs:List Value) (o:Nat) (w:World) (cur:Array Value) (t:TypeId),w.heap[b]? = some (.cells cur t (0,0))→o+vs.length≤cur.size→
 ∃cur':Array Value,(w.setCells b o vs).heap[b]? = some (.cells cur' t (0,0))∧cur'.toList=cur.toList.take o++vs++cur.toList.drop (o+vs.length)
 | [],o,w,cur,t,h,_=>⟨cur,h,by simp⟩
 | v::r,o,w,cur,t,h,hl=>by
   rw [List.length_cons] at hl
   have h2:(w.setCell ⟨b,o,none⟩ v).heap[b]? = some (.cells (cur.set! o v) t (0,0)):=by
    simp only [World.setCell,Array.getElem?_modify,if_true,h]
    simp [Array.set!]
   obtain ⟨cur',h3,h4⟩:=setCells_block b r (o+1) (w.setCell ⟨b,o,none⟩ v) (cur.set! o v) t h2 (by simp;omega)
   refine ⟨cur',h3,?_⟩
   rw [h4]
   simp only [Array.toList_set!,List.length_cons]
   rw [show o+(r.length+1)=o+1+r.length by omega]
   have e0:cur.toList.set o v=(cur.toList.take o++[v])++cur.toList.drop (o+1):=by
    rw [List.set_eq_take_append_cons_drop,if_pos (by simp;omega)]
    simp
   have e1:(cur.toList.set o v).take (o+1)=cur.toList.take o++[v]:=by
    rw [e0]
    exact List.take_left' (by rw [List.length_append,List.length_take,List.length_singleton];simp;omega)
   have e2:(cur.toList.set o v).drop (o+1+r.length)=cur.toList.drop (o+1+r.length):=by
    rw [List.drop_set_of_lt (by omega)]
   rw [e1,e2]
   simp
theorem setCells_other (b:Nat):∀(vs:List Value) (o:Nat) (w:World) (k:Nat),k≠b→(w.setCells b o vs).heap[k]? = w.heap[k]?
 | [],_,_,_,_=>rfl
 | v::r,o,w,k,h=>by
   rw [World.setCells,setCells_other b r (o+1) _ k h]
   exact Below.heap_setCell _ _ _ _ h
theorem setCells_size (b:Nat):∀(vs:List Value) (o:Nat) (w:World),(w.setCells b o vs).heap.size=w.heap.size∧(w.setCells b o vs).os=w.os∧(w.setCells b o vs).tape=w.tape∧(w.setCells b o vs).output=w.output
 | [],_,_=>⟨rfl,rfl,rfl,rfl⟩
 | v::r,o,w=>by
   rw [World.setCells]
   obtain ⟨a,b,c,d⟩:=setCells_size b r (o+1) (w.setCell ⟨b,o,none⟩ v)
   exact ⟨by rw [a];simp [World.setCell],b,c,d⟩
theorem apart_any (w:World) (h g o lb cb:Nat) (cur x:Array Value) (hg:w.heap[g]? = some (.cells cur 131 (0,0))) (hh:w.heap[h]? = some (.cells x 131 (0,0))) (hne:h≠g) (h0:cur.size≠0) :
 (callFunc 145 #[.slice (some ⟨h,0,none⟩) 1 1,.slice (some ⟨g,o,none⟩) lb cb]).run Tryz.prog w = .ok (.value (.bool false)) w:=by
 have hsa:w.shape? h=some (131,x.size):=by simp [World.shape?,hh]
 have hsb:w.shape? g=some (131,cur.size):=by simp [World.shape?,hg]
 have hfa:w.frozen? ⟨h,0,none⟩=false:=by simp [World.frozen?,hh]
 have hfe:w.frozen? ⟨h,x.size,none⟩=false:=by simp [World.frozen?,hh]
 rw [run_callFunc_extern Tryz.func145 (by kernel_rfl) (by kernel_rfl) (by kernel_rfl) (e:=Extern.SlicesOverlaps.overlaps #[23,23] #[4]) (by kernel_rfl),
  Lib.run_overlaps_apart w 23 4 131 Tryz.underlying23 2 Tryz.sizeOf131 ⟨h,0,none⟩ ⟨g,o,none⟩ 1 1 lb cb hne _ _ _ _ hsa hsb h0 hfa hfe]
 rfl
end Go.Proofs.YtiollhmbdhepkaaGreatDoor
namespace Go.Proofs.YtiollhmbdhepkaaGreatDoor
open Go.RowKit
set_option maxRecDepth 100000
def Parts (w:World) (p:Option Addr) (ZZ:List (List Int)):Prop:=
 ZZ.length≤9223372036854775807∧(ZZ=[]∨∃b off,p=some ⟨b,off,none⟩∧∀i,i<ZZ.length→∃v,w.cell? ⟨b,off+i,none⟩=some v∧Sl w v (ZZ.getD i []))
theorem flat_succ (ZZ:List (List Int)) (j:Nat) (h:j<ZZ.length):(ZZ.take (j+1)).flatten=(ZZ.take j).flatten++ZZ.getD j []:=by
 rw [List.take_add_one,List.getElem?_eq_getElem h,List.flatten_append]
 simp [List.getD,List.getElem?_eq_getElem h]
theorem parts2 (w:World) (u1 u2:Value) (X Y:List Int) (s1:Sl w u1 X) (s2:Sl w u2 Y):Parts (w.alloc (.cells #[u1,u2] 34)) (some ⟨w.heap.size,0,none⟩) [X,Y]:=by
 have hb:Below w.heap.size w (w.alloc (.cells #[u1,u2] 34)):=(Below.refl _ _).alloc (Nat.le_refl _) _
 refine ⟨by simp,.inr ⟨_,0,rfl,fun i hi=>?_⟩⟩
 have hi2:i=0∨i=1:=by simp at hi;omega
 rcases hi2 with rfl | rfl
 · exact ⟨u1,by rw [World.cell?_alloc_at _ _ _ _ rfl];rfl,s1.kept hb⟩
 · exact ⟨u2,by rw [World.cell?_alloc_at _ _ _ _ rfl];rfl,s2.kept hb⟩
theorem isnil (w:World):(binOp BinOp.eql 34 (.slice none 0 0) (.slice none 0 0)).run Tryz.prog w = .ok (.bool true) w:=by kernel_rfl
theorem notnil (x:Addr) (n c:Nat) (w:World):(binOp BinOp.eql 34 (.slice (some x) n c) (.slice none 0 0)).run Tryz.prog w = .ok (.bool false) w:=by kernel_rfl
set_option maxHeartbeats 1000000 in
theorem clone_any (v:Value) (xs:List Int) (w:World) (h:Sl w v xs) (hbig:xs.length≤200000000000000) :
 Calls Tryz.prog 93 #[v] w fun r w'=>∃v',r = .returned v'∧w'.ownsRow w.heap.size 5 1 v' xs.length (xs.map (Value.int .u8))∧Below w.heap.size w w':=by
 obtain ⟨i0,hi,hz0,hz1,hz2⟩:=info_parts info5'
 obtain ⟨a,cap,rfl,h1,h2,h3,h4⟩:=h
 cases a with
 | none=>
   obtain rfl:=h3 rfl
   obtain rfl:xs=[]:=List.length_eq_zero_iff.1 (by omega)
   clear h1 h2 h3 h4 hbig
   have hnil:=isnil w
   go_enter Tryz.func93,Tryz.ntmps93
   go_wp2
   go_ret
   exact ⟨_,rfl,World.ownsRow_nil _ _ _ _,Below.refl _ _⟩
 | some x=>
   have hown0:(w.alloc (.cells #[] 5)).ownsRow w.heap.size 5 1 (.slice (some ⟨w.heap.size,0,none⟩) 0 0) 0 []:=World.ownsRow_made (base:=w.heap.size) (e:=5) (size:=1) w #[] 0 (Nat.le_refl _) (by unfold maxLen;omega) rfl
   have hb0:Below w.heap.size w (w.alloc (.cells #[] 5)):=(Below.refl _ _).alloc (Nat.le_refl _) _
   have hnews:=news_row (h4.kept hb0)
   obtain ⟨L,hL⟩:∃L,L=xs.length:=⟨_,rfl⟩
   have HL:Hid (L=xs.length):=hL
   rw [←hL] at hbig h1 ⊢
   clear h3 h4 hL h2
   have hnil:=notnil x L cap w
   go_enter Tryz.func93,Tryz.ntmps93
   go_wp2_with (at_builtin;refine wpList_append_own_wide _ rfl _ _ 34 rfl w.heap.size 5 i0 (.int .u8 0) 1 1 Tryz.underlying34 hi hz0 hz1 hz2 rfl (by decide) _ 0 [] rfl hown0 x L cap (xs.map (Value.int .u8)) rfl (by rw [List.length_map,HL.out,Nat.mul_one]) hnews (ints_one xs) (by unfold maxLen;omega) (by omega) (by simp) ?_)
   intro v' w2 hown' hgrow _
   have hbel':Below w.heap.size w w2:=hb0.grown hgrow (by simp) (own_base hown0)
   try simp only [Nat.zero_add,List.nil_append] at hown'
   clear hown0 hgrow hb0 hnews
   go_wp2
   go_ret
   exact ⟨_,rfl,hown',hbel'⟩
end Go.Proofs.YtiollhmbdhepkaaGreatDoor
namespace Go.Proofs.YtiollhmbdhepkaaGreatDoor.Sh.Pl
def rotr (k x:Nat):Nat:=(x*2 ^ (32-k)) % 4294967296 ||| x / 2 ^ k
def sig0 (x:Nat):Nat:=rotr 7 x ^^^ rotr 18 x ^^^ x / 8
def sig1 (x:Nat):Nat:=rotr 17 x ^^^ rotr 19 x ^^^ x / 1024
def tri (i j k x:Nat):Nat:=rotr i x ^^^ rotr j x ^^^ rotr k x
def no (x:Nat):Nat:=4294967295 ^^^ x
def ch (e f g:Nat):Nat:=(e &&& f) ^^^ (no e &&& g)
def maj (a b c:Nat):Nat:=(a &&& b) ^^^ (a &&& c) ^^^ (b &&& c)
def word (xs:List Int) (i:Nat):Nat:=
 (((xs.getD (4*i) 0).toNat*16777216 ||| (xs.getD (4*i+1) 0).toNat*65536) ||| (xs.getD (4*i+2) 0).toNat*256) ||| (xs.getD (4*i+3) 0).toNat
def nxt (l:List Nat) (i:Nat):Nat:=(sig1 (l.getD (i-2) 0)+l.getD (i-7) 0+sig0 (l.getD (i-15) 0)+l.getD (i-16) 0) % 4294967296
def ext:Nat→List Nat→List Nat
 | 0,l=>l
 | n+1,l=>ext n (l++[nxt l l.length])
def sched (xs:List Int):List Nat:=ext 48 ((List.range 16).map (word xs))
theorem rotr_lt (k x:Nat) (hx:x<4294967296):rotr k x<4294967296:=by
 unfold rotr
 have h1:(x*2 ^ (32-k)) % 4294967296<2 ^ 32:=Nat.mod_lt _ (by decide)
 have h2:x / 2 ^ k<2 ^ 32:=Nat.lt_of_le_of_lt (Nat.div_le_self _ _) hx
 exact Nat.or_lt_two_pow h1 h2
theorem xor_lt {a b:Nat} (ha:a<4294967296) (hb:b<4294967296):a ^^^ b<4294967296:=by
 have:a ^^^ b<2 ^ 32:=Nat.xor_lt_two_pow (by omega) (by omega)
 omega
theorem and_lt {a b:Nat} (ha:a<4294967296):a &&& b<4294967296:=Nat.lt_of_le_of_lt Nat.and_le_left ha
theorem or_lt {a b:Nat} (ha:a<4294967296) (hb:b<4294967296):a ||| b<4294967296:=by
 have:a ||| b<2 ^ 32:=Nat.or_lt_two_pow (by omega) (by omega)
 omega
theorem no_lt {x:Nat} (hx:x<4294967296):no x<4294967296:=xor_lt (by omega) hx
theorem sig0_lt {x:Nat} (hx:x<4294967296):sig0 x<4294967296:=xor_lt (xor_lt (rotr_lt 7 x hx) (rotr_lt 18 x hx)) (by omega)
theorem sig1_lt {x:Nat} (hx:x<4294967296):sig1 x<4294967296:=xor_lt (xor_lt (rotr_lt 17 x hx) (rotr_lt 19 x hx)) (by omega)
theorem snoc_get (l:List Nat) (x:Nat):(l++[x]).getD l.length 0=x:=by simp [List.getD]
theorem pre_get (l:List Nat) (x i:Nat) (h:i<l.length):(l++[x]).getD i 0=l.getD i 0:=by simp [List.getD,List.getElem?_append_left h]
theorem map_get (f:Nat→Nat) (n i:Nat) (h:i<n):((List.range n).map f).getD i 0=f i:=by simp [List.getD,h]
theorem ext_pre (n:Nat):∀(l:List Nat) (i:Nat),i<l.length→(ext n l).getD i 0=l.getD i 0:=by
 induction n with
 | zero=>intro l i _;rfl
 | succ n ih=>
   intro l i hi
   show (ext n (l++[nxt l l.length])).getD i 0=_
   rw [ih _ i (by simp;omega)]
   exact pre_get l _ i hi
theorem ext_len (n:Nat):∀l:List Nat,(ext n l).length=l.length+n:=by
 induction n with
 | zero=>intro l;rfl
 | succ n ih=>intro l;show (ext n (l++[nxt l l.length])).length=_;rw [ih];simp;omega
theorem ext_nxt (n:Nat):∀(l:List Nat) (i:Nat),16≤l.length→l.length≤i→i<l.length+n→(ext n l).getD i 0=nxt (ext n l) i:=by
 induction n with
 | zero=>intro l i _ h1 h2;omega
 | succ n ih=>
   intro l i h0 h1 h2
   have e:ext (n+1) l=ext n (l++[nxt l l.length]):=rfl
   rcases Nat.lt_or_ge l.length i with h | h
   · rw [e]
     exact ih _ i (by simp;omega) (by simp;omega) (by simp;omega)
   · obtain rfl:i=l.length:=by omega
     have hp:∀j,j<l.length→(ext (n+1) l).getD j 0=l.getD j 0:=fun j hj=>ext_pre (n+1) l j hj
     have hr:nxt (ext (n+1) l) l.length=nxt l l.length:=by
      unfold nxt
      rw [hp _ (by omega),hp _ (by omega),hp _ (by omega),hp _ (by omega)]
     rw [hr,e,ext_pre n _ _ (by simp)]
     exact snoc_get l _
theorem sched_len (xs:List Int):(sched xs).length=64:=by unfold sched;rw [ext_len];simp
theorem sched_word (xs:List Int) (i:Nat) (hi:i<16):(sched xs).getD i 0=word xs i:=by
 unfold sched;rw [ext_pre _ _ _ (by simpa using hi)];exact map_get _ 16 i hi
theorem sched_nxt (xs:List Int) (i:Nat) (h0:16≤i) (h1:i<64):(sched xs).getD i 0=nxt (sched xs) i:=by
 unfold sched;exact ext_nxt _ _ _ (by simp) (by simpa using h0) (by simpa using h1)
def Byt (xs:List Int):Prop:=∀i,0≤xs.getD i 0∧xs.getD i 0<256
theorem word_lt {xs:List Int} (h:Byt xs) (i:Nat):word xs i<4294967296:=by
 have h0:=h (4*i);have h1:=h (4*i+1);have h2:=h (4*i+2);have h3:=h (4*i+3)
 exact or_lt (or_lt (or_lt (by omega) (by omega)) (by omega)) (by omega)
theorem sched_lt {xs:List Int} (h:Byt xs) (i:Nat):(sched xs).getD i 0<4294967296:=by
 rcases Nat.lt_or_ge i 16 with h1 | h1
 · rw [sched_word xs i h1];exact word_lt h i
 · rcases Nat.lt_or_ge i 64 with h2 | h2
   · rw [sched_nxt xs i h1 h2];exact Nat.mod_lt _ (by decide)
   · rw [List.getD,List.getElem?_eq_none (by rw [sched_len];exact h2)];simp
def part (l:List Nat) (i:Nat):List Nat:=l.take i++List.replicate (l.length-i) 0
theorem part_len (l:List Nat) (i:Nat):(part l i).length=l.length:=by unfold part;simp;omega
theorem part_get (l:List Nat) (i j:Nat) (h:j<i) (hi:i≤l.length):(part l i).getD j 0=l.getD j 0:=by
 unfold part
 have h1:j<(l.take i).length:=by simp;omega
 simp only [List.getD]
 rw [List.getElem?_append_left h1,List.getElem?_take,if_pos h]
theorem part_zero (l:List Nat):part l 0=List.replicate l.length 0:=by simp [part]
theorem part_all (l:List Nat):part l l.length=l:=by simp [part]
theorem part_set (l:List Nat) (i:Nat) (h:i<l.length):(part l i).set i (l.getD i 0)=part l (i+1):=by
 apply List.ext_getElem?
 intro k
 unfold part
 rw [List.getElem?_set]
 by_cases e:i=k
 · subst e
   have h1:i<(l.take (i+1)).length:=by simp;omega
   rw [List.getElem?_append_left h1,List.getElem?_take,if_pos rfl,if_pos (by simp;omega),if_pos (show i<i+1 by omega)]
   simp [List.getD,List.getElem?_eq_getElem h]
 · simp only [e,if_false,List.getElem?_append,List.length_take,List.getElem?_take,List.getElem?_replicate]
   repeat' split
   all_goals first | rfl | omega
structure S8 where
 a:Nat
 b:Nat
 c:Nat
 d:Nat
 e:Nat
 f:Nat
 g:Nat
 h:Nat
def upOf (k w:Nat) (s:S8):Nat:=(s.h+tri 6 11 25 s.e+ch s.e s.f s.g+k+w) % 4294967296
def downOf (s:S8):Nat:=(tri 2 13 22 s.a+maj s.a s.b s.c) % 4294967296
def step (k w:Nat) (s:S8):S8:=⟨(upOf k w s+downOf s) % 4294967296,s.a,s.b,s.c,(s.d+upOf k w s) % 4294967296,s.e,s.f,s.g⟩
def rnd (K W:List Nat) (s:S8):Nat→S8
 | 0=>s
 | n+1=>step (K.getD n 0) (W.getD n 0) (rnd K W s n)
def ok (s:S8):Prop:=s.a<4294967296∧s.b<4294967296∧s.c<4294967296∧s.d<4294967296∧s.e<4294967296∧s.f<4294967296∧s.g<4294967296∧s.h<4294967296
theorem ok_step {k w:Nat} {s:S8} (h:ok s):ok (step k w s):=by
 obtain ⟨h1,h2,h3,h4,h5,h6,h7,h8⟩:=h
 exact ⟨Nat.mod_lt _ (by decide),h1,h2,h3,Nat.mod_lt _ (by decide),h5,h6,h7⟩
theorem ok_rnd {K W:List Nat} {s:S8} (h:ok s):∀n,ok (rnd K W s n)
 | 0=>h
 | n+1=>ok_step (ok_rnd h n)
def add (s t:S8):S8:=⟨(s.a+t.a) % 4294967296,(s.b+t.b) % 4294967296,(s.c+t.c) % 4294967296,(s.d+t.d) % 4294967296,(s.e+t.e) % 4294967296,(s.f+t.f) % 4294967296,(s.g+t.g) % 4294967296,(s.h+t.h) % 4294967296⟩
theorem ok_add (s t:S8):ok (add s t):=by
 refine ⟨?_,?_,?_,?_,?_,?_,?_,?_⟩<;>exact Nat.mod_lt _ (by decide)
def K:List Nat:=[1116352408,1899447441,3049323471,3921009573,961987163,1508970993,2453635748,2870763221,3624381080,310598401,607225278,1426881987,1925078388,2162078206,2614888103,3248222580,3835390401,4022224774,264347078,604807628,770255983,1249150122,1555081692,1996064986,2554220882,2821834349,2952996808,3210313671,3336571891,3584528711,113926993,338241895,666307205,773529912,1294757372,1396182291,1695183700,1986661051,2177026350,2456956037,2730485921,2820302411,3259730800,3345764771,3516065817,3600352804,4094571909,275423344,430227734,506948616,659060556,883997877,958139571,1322822218,1537002063,1747873779,1955562222,2024104815,2227730452,2361852424,2428436474,2756734187,3204031479,3329325298]
def init:S8:=⟨1779033703,3144134277,1013904242,2773480762,1359893119,2600822924,528734635,1541459225⟩
theorem ok_init:ok init:=by unfold ok init;decide
def comp (s:S8) (xs:List Int):S8:=add s (rnd K (sched xs) s 64)
def blocks:Nat→S8→List Int→S8
 | 0,s,_=>s
 | n+1,s,l=>blocks n (comp s (l.take 64)) (l.drop 64)
def absorb (l:List Int):S8:=blocks (l.length / 64) init l
theorem ok_blocks:∀(n:Nat) (s:S8) (l:List Int),ok s→ok (blocks n s l)
 | 0,_,_,h=>h
 | n+1,_,_,_=>ok_blocks n _ _ (ok_add _ _)
theorem blocks_snoc:∀(n:Nat) (s:S8) (l:List Int),blocks (n+1) s l=comp (blocks n s l) ((l.drop (64*n)).take 64)
 | 0,s,l=>by simp [blocks]
 | n+1,s,l=>by
   show blocks (n+1) (comp s (l.take 64)) (l.drop 64)=_
   rw [blocks_snoc n]
   show _=comp (blocks n (comp s (l.take 64)) (l.drop 64)) _
   rw [List.drop_drop,show 64+64*n=64*(n+1) by omega]
theorem blocks_take:∀(n:Nat) (s:S8) (l:List Int) (m:Nat),64*n≤m→blocks n s (l.take m)=blocks n s l
 | 0,_,_,_,_=>rfl
 | n+1,s,l,m,h=>by
   show blocks n (comp s ((l.take m).take 64)) ((l.take m).drop 64)=blocks n (comp s (l.take 64)) (l.drop 64)
   rw [List.take_take,Nat.min_eq_left (by omega),List.drop_take,blocks_take n _ _ _ (by omega)]
def upto (l:List Int) (n:Nat):S8:=blocks n init l
theorem upto_succ (l:List Int) (n:Nat):upto l (n+1)=comp (upto l n) ((l.drop (64*n)).take 64):=blocks_snoc n init l
theorem absorb_eq (l:List Int):absorb l=upto l (l.length / 64):=rfl
theorem upto_append (l m:List Int) (n:Nat) (h:64*n≤l.length):upto (l++m) n=upto l n:=by
 unfold upto
 rw [←blocks_take n init (l++m) l.length h,List.take_left']
 rfl
def zers (n:Nat):Nat:=(64-(n % 64+9) % 64) % 64
def count (n:Nat):List Int:=(List.range 8).map fun i=>(((n*8 / 2 ^ (8*(7-i))) % 256:Nat):Int)
def pad (n:Nat):List Int:=128::(List.replicate (zers n) 0++count n)
def words (s:S8):List Nat:=[s.a,s.b,s.c,s.d,s.e,s.f,s.g,s.h]
def digest (s:S8):List Int:=(List.range 32).map fun i=>((((words s).getD (i / 4) 0) / 2 ^ (24-8*(i % 4)) % 256:Nat):Int)
def sha (l:List Int):List Int:=digest (absorb (l++pad l.length))
end Go.Proofs.YtiollhmbdhepkaaGreatDoor.Sh.Pl
namespace Go.Proofs.YtiollhmbdhepkaaGreatDoor.Sh
open Go.RowKit
set_option maxRecDepth 100000
theorem wrap64 (z:Int):IntKind.u64.wrap z=z % 18446744073709551616:=by simp [IntKind.wrap,IntKind.bits,IntKind.signed]
theorem shl32 (x s:Nat) (hs:s<32):(x:Int)*2 ^ min s 32 % 4294967296=((x*2 ^ s % 4294967296:Nat):Int):=by
 rw [Nat.min_eq_left (by omega)];simp
theorem shr32 (x s:Nat) (hs:s<32):(x:Int) / 2 ^ min s 32=((x / 2 ^ s:Nat):Int):=by
 rw [Nat.min_eq_left (by omega)];simp
theorem and31 (k:Nat) (h0:0<k) (h1:k<32):bits BinOp.and IntKind.u64 ((18446744073709551616-k:Nat):Int) 31=((32-k:Nat):Int):=by
 have:=u64_and_nat (18446744073709551616-k) 31 (by omega) (by omega)
 rw [show ((31:Nat):Int)=31 from rfl] at this
 rw [this]
 have e:(18446744073709551616-k) &&& 31=(18446744073709551616-k) % 32:=Nat.and_two_pow_sub_one_eq_mod _ 5
 rw [e]
 congr 1
 omega
set_option maxHeartbeats 1000000 in
theorem rot_any (k x:Nat) (w:World) (h0:0<k) (h1:k<32) (hx:x<4294967296) :
 Calls Tryz.prog 159 #[.int .u32 x,.int .i64 (-(k:Int))] w fun e w'=>e = .returned (.int .u32 (Pl.rotr k x:Nat))∧w'=w:=by
 have hw:IntKind.u64.wrap (-(k:Int))=((18446744073709551616-k:Nat):Int):=by rw [wrap64];omega
 have ha:=and31 k h0 h1
 have hw2:IntKind.u64.wrap (32-((32-k:Nat):Int))=(k:Int):=by rw [wrap64];omega
 have hl:=shl32 x (32-k) (by omega)
 have hr:=shr32 x k h1
 have ho:=u32_or_nat (x*2 ^ (32-k) % 4294967296) (x / 2 ^ k) (Nat.mod_lt _ (by decide)) (Nat.lt_of_le_of_lt (Nat.div_le_self _ _) hx)
 have hf:Pl.rotr k x=x*2 ^ (32-k) % 4294967296 ||| x / 2 ^ k:=rfl
 rw [hf]
 clear hf
 generalize x*2 ^ (32-k) % 4294967296 ||| x / 2 ^ k=r at *
 generalize x*2 ^ (32-k) % 4294967296=p at *
 generalize x / 2 ^ k=q at *
 generalize 18446744073709551616-k=m at *
 generalize 32-k=s at *
 clear h0 h1 hx
 go_enter Tryz.func159,Tryz.ntmps159
 go_wp2
 go_ret
 exact ⟨rfl,rfl⟩
theorem neg_lit (k:Nat):IntKind.i64.wrap (-(k:Int))=if k≤9223372036854775808 then -(k:Int) else IntKind.i64.wrap (-(k:Int)):=by
 split
 · simp [IntKind.wrap,IntKind.bits,IntKind.signed];omega
 · rfl
set_option maxHeartbeats 1000000 in
theorem turned_any (x i j k:Nat) (w:World) (hi:0<i∧i<32) (hj:0<j∧j<32) (hk:0<k∧k<32) (hx:x<4294967296) :
 Calls Tryz.prog 158 #[.int .u32 x,.int .i64 i,.int .i64 j,.int .i64 k] w fun e w'=>e = .returned (.int .u32 (Pl.tri i j k x:Nat))∧w'=w:=by
 have c1:=rot_any i x w hi.1 hi.2 hx
 have c2:=rot_any j x w hj.1 hj.2 hx
 have c3:=rot_any k x w hk.1 hk.2 hx
 have n1:IntKind.i64.wrap (-(i:Int))=-(i:Int):=by rw [neg_lit,if_pos (by omega)]
 have n2:IntKind.i64.wrap (-(j:Int))=-(j:Int):=by rw [neg_lit,if_pos (by omega)]
 have n3:IntKind.i64.wrap (-(k:Int))=-(k:Int):=by rw [neg_lit,if_pos (by omega)]
 have x1:=u32_xor_nat (Pl.rotr i x) (Pl.rotr j x) (Pl.rotr_lt _ _ hx) (Pl.rotr_lt _ _ hx)
 have x2:=u32_xor_nat (Pl.rotr i x ^^^ Pl.rotr j x) (Pl.rotr k x) (Pl.xor_lt (Pl.rotr_lt _ _ hx) (Pl.rotr_lt _ _ hx)) (Pl.rotr_lt _ _ hx)
 have hf:Pl.tri i j k x=Pl.rotr i x ^^^ Pl.rotr j x ^^^ Pl.rotr k x:=rfl
 rw [hf]
 clear hf hi hj hk hx
 generalize Pl.rotr i x ^^^ Pl.rotr j x ^^^ Pl.rotr k x=r at *
 generalize Pl.rotr i x ^^^ Pl.rotr j x=r12 at *
 generalize Pl.rotr i x=r1 at *
 generalize Pl.rotr j x=r2 at *
 generalize Pl.rotr k x=r3 at *
 go_enter Tryz.func158,Tryz.ntmps158
 go_wp2_with fail
 refine c1.mono ?_
 rintro e w1 ⟨rfl,e1⟩
 subst e1
 clear c1
 go_wp2_with fail
 refine c2.mono ?_
 rintro e w1 ⟨rfl,e1⟩
 subst e1
 clear c2
 go_wp2_with fail
 refine c3.mono ?_
 rintro e w1 ⟨rfl,e1⟩
 subst e1
 clear c3
 go_wp2
 go_ret
 exact ⟨rfl,rfl⟩
end Go.Proofs.YtiollhmbdhepkaaGreatDoor.Sh
