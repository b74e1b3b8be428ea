/- Ytiollhmbdhepkaa: what PacketBack reaches, joined and cut (its parts: wip) -/
import Derived.Deep.WholeRow
import Derived.Deep.MidRow
import Derived.BigRegion
import Derived.Laws.CopyOwn
import Derived.Test.YtiollhmbdhepkaaGreatDoorVaa
namespace Go.Proofs.YtiollhmbdhepkaaGreatDoor.Sh
open Go.RowKit
set_option maxRecDepth 100000
def u32s (l:List Nat):Array Value:=(l.map fun (n:Nat)=>Value.int .u32 (n:Int)).toArray
theorem u32s_get (l:List Nat) (i:Nat) (h:i<l.length):(u32s l)[i]? = some (.int .u32 (l.getD i 0:Nat)):=by
 simp [u32s,List.getElem?_eq_getElem h,List.getD]
theorem u32s_size (l:List Nat):(u32s l).size=l.length:=by simp [u32s]
theorem u32s_set (l:List Nat) (i n:Nat):(u32s l).setIfInBounds i (.int .u32 (n:Int))=u32s (l.set i n):=by
 apply Array.ext'
 simp [u32s,List.map_set]
theorem u32s_one (l:List Nat):(u32s l).all (·.oneCell')=true:=by
 simp [u32s]
 intro x _
 rfl
theorem or4 (y0 y1 y2 y3:Nat) (b0:y0<4294967296) (b1:y1<4294967296) (b2:y2<4294967296) (b3:y3<4294967296) :
 bits .or .u32 (bits .or .u32 (bits .or .u32 (y0:Int) (y1:Int)) (y2:Int)) (y3:Int)=((y0 ||| y1 ||| y2 ||| y3:Nat):Int):=by
 rw [u32_or_nat y0 y1 b0 b1,u32_or_nat _ y2 (Pl.or_lt b0 b1) b2,u32_or_nat _ y3 (Pl.or_lt (Pl.or_lt b0 b1) b2) b3]
theorem word4 (z0 z1 z2 z3:Nat) (h0:z0<256) (h1:z1<256) (h2:z2<256) (h3:z3<256) :
 bits .or .u32 (bits .or .u32 (bits .or .u32 ((z0:Int)*16777216) ((z1:Int)*65536)) ((z2:Int)*256)) (z3:Int)=((z0*16777216 ||| z1*65536 ||| z2*256 ||| z3:Nat):Int):=by
 have:=or4 (z0*16777216) (z1*65536) (z2*256) z3 (by omega) (by omega) (by omega) (by omega)
 rw [Int.natCast_mul,Int.natCast_mul,Int.natCast_mul] at this
 exact this
theorem size50:(Tryz.prog.info? 195).map (fun i=>i.size)=some 64:=by kernel_rfl
def Rows2 (B:Nat) (t:TypeId) (z c:Array Value) (w wr:World):Prop:=
 wr.heap[B]? = some (.cells z t (0,0))∧wr.heap[B+1]? = some (.cells c t (0,0))∧Below B w wr
theorem Rows2.set {B:Nat} {t:TypeId} {z c:Array Value} {w wr:World} (h:Rows2 B t z c w wr) (j:Nat) (v:Value):Rows2 B t z (c.setIfInBounds j v) w (wr.setCell ⟨B+1,j,none⟩ v):=
 ⟨(heap_setCell_other _ _ _ _ (by simp)).trans h.1,heap_setCell_same _ _ _ _ _ _ h.2.1,h.2.2.setCell (by simp) _⟩
theorem Rows2.drew {B:Nat} {t:TypeId} {z c:Array Value} {w wr:World} (h:Rows2 B t z c w wr):Rows2 B t z c w wr.drew:=⟨h.1,h.2.1,h.2.2.drew⟩
theorem Rows2.cell {B:Nat} {t:TypeId} {z c:Array Value} {w wr:World} (h:Rows2 B t z c w wr) (j:Nat):wr.cell? ⟨B+1,j,none⟩=c[j]?:=cell_of_row _ _ _ _ _ _ h.2.1
theorem Rows2.frozen {B:Nat} {t:TypeId} {z c:Array Value} {w wr:World} (h:Rows2 B t z c w wr) (j:Nat):wr.frozen? ⟨B+1,j,none⟩=false:=frozen_of_row _ _ _ _ _ h.2.1
theorem Rows2.two (w:World) (t:TypeId) (z c:Array Value):Rows2 w.heap.size t z c w ((w.alloc (.cells z t)).alloc (.cells c t)):=by
 refine ⟨heap_alloc2_old _ _ _,heap_alloc2_new _ _ _,((Below.refl _ _).alloc (Nat.le_refl _) _).alloc (by show w.heap.size≤(w.heap.push _).size;simp) _⟩
set_option maxHeartbeats 4000000 in
set_option maxRecDepth 100000 in
theorem spread_any (v:Value) (xs:List Int) (w:World) (sl:Sl w v xs) (hl:xs.length=64) :
 Calls Tryz.prog 157 #[v] w fun e w'=>e = .returned (.agg (u32s (Pl.sched xs)))∧Below w.heap.size w w':=by
 have hby:Pl.Byt xs:=sl.bytes
 obtain ⟨a,cap,rfl,h1,h2,h3,h4⟩:=sl
 rw [hl] at h1 h4 ⊢
 rcases h4 with h4 | ⟨-,b,off,rfl,-,-,hcell,-⟩
 · omega
 have hlt:b<w.heap.size:=World.block_lt_of_cell? _ _ (hcell 0 (by omega))
 have HC:Hid (∀i,i<64→w.cell? ⟨b,off+i,none⟩=some (.int .u8 ((xs.getD i 0).toNat:Int))):=fun i hi=>by
  rw [hcell i hi,Int.toNat_of_nonneg (hby i).1]
 have HB:Hid (∀i,(xs.getD i 0).toNat<256):=fun i=>by have:=hby i;omega
 obtain ⟨W,hW⟩:∃W,W=Pl.sched xs:=⟨_,rfl⟩
 have HLW:Hid (W.length=64):=by unfold Hid;rw [hW,Pl.sched_len]
 have HW1:Hid (∀i,i<16→W.getD i 0=Pl.word xs i):=fun i hi=>by rw [hW,Pl.sched_word _ _ hi]
 have HW2:Hid (∀i,16≤i→i<64→W.getD i 0=Pl.nxt W i):=fun i h0 h1=>by rw [hW,Pl.sched_nxt _ _ h0 h1]
 have HWL:Hid (∀i,W.getD i 0<4294967296):=fun i=>by rw [hW];exact Pl.sched_lt hby i
 have HR:Hid (Pl.sched xs=W):=hW.symm
 rw [HR.out]
 have hcm:cap≤9223372036854775807:=by unfold maxLen at h2;omega
 obtain ⟨B,hB⟩:∃B,B=w.heap.size:=⟨_,rfl⟩
 have HBB:Hid (B=w.heap.size):=hB
 clear hW hcell hby h2 h3 hB
 go_enter Tryz.func157,Tryz.ntmps157
 go_wp2
 go_loopw [9] (fun i wr=>∃j:Nat,j≤16∧i = .int .i64 j∧Rows2 w.heap.size 195 (u32s (List.replicate 64 0)) (u32s (Pl.part W j)) w wr) (fun i _=>16-(intOf i).toNat)
 case atStart=>
  refine ⟨0,by omega,rfl,?_⟩
  rw [Pl.part_zero,HLW.out]
  exact Rows2.two w 195 _ _
 case round=>
  obtain ⟨j,hj,rfl,g⟩:=hrel
  have G:Hid (Rows2 w.heap.size 195 (u32s (List.replicate 64 0)) (u32s (Pl.part W j)) w wr):=g
  clear g
  by_cases hlt:j<16
  · have k0:=(G.out.2.2.cell (p:=⟨b,off+4*j,none⟩) (by assumption)).trans (HC.out (4*j) (by omega))
    have k1:=(G.out.2.2.cell (p:=⟨b,off+(4*j+1),none⟩) (by assumption)).trans (HC.out (4*j+1) (by omega))
    have k2:=(G.out.2.2.cell (p:=⟨b,off+(4*j+2),none⟩) (by assumption)).trans (HC.out (4*j+2) (by omega))
    have k3:=(G.out.2.2.cell (p:=⟨b,off+(4*j+3),none⟩) (by assumption)).trans (HC.out (4*j+3) (by omega))
    have kf:=G.out.frozen j
    have kc:=(G.out.cell j).trans (u32s_get _ j (by rw [Pl.part_len,HLW.out];omega))
    have hwd:=word4 _ _ _ _ (HB.out (4*j)) (HB.out (4*j+1)) (HB.out (4*j+2)) (HB.out (4*j+3))
    have hws:W.getD j 0=(xs.getD (4*j) 0).toNat*16777216 ||| (xs.getD (4*j+1) 0).toNat*65536 ||| (xs.getD (4*j+2) 0).toNat*256 ||| (xs.getD (4*j+3) 0).toNat:=HW1.out j hlt
    rw [←hws] at hwd
    clear hws
    have NS:Hid (Rows2 w.heap.size 195 (u32s (List.replicate 64 0)) (u32s (Pl.part W (j+1))) w (wr.setCell ⟨w.heap.size+1,j,none⟩ (.int .u32 (W.getD j 0:Nat))).drew):=by
     have:=(G.out.set j (.int .u32 (W.getD j 0:Nat))).drew
     rwa [u32s_set,Pl.part_set _ _ (by rw [HLW.out];omega)] at this
    rw [show off+(4*j+1)=off+4*j+1 by omega] at k1
    rw [show off+(4*j+2)=off+4*j+2 by omega] at k2
    rw [show off+(4*j+3)=off+4*j+3 by omega] at k3
    have b0:=HB.out (4*j)
    have b1:=HB.out (4*j+1)
    have b2:=HB.out (4*j+2)
    have b3:=HB.out (4*j+3)
    generalize (xs.getD (4*j) 0).toNat=z0 at *
    generalize (xs.getD (4*j+1) 0).toNat=z1 at *
    generalize (xs.getD (4*j+2) 0).toNat=z2 at *
    generalize (xs.getD (4*j+3) 0).toNat=z3 at *
    generalize (Pl.part W j).getD j 0=old at *
    generalize W.getD j 0=q at *
    obtain ⟨m,hm⟩:∃m,m=4*j:=⟨_,rfl⟩
    have hq:IntKind.i64.wrap (4*(j:Int))=(m:Int):=by simp [IntKind.wrap,IntKind.bits,IntKind.signed];omega
    have hq1:IntKind.i64.wrap ((m:Int)+4)=((m+4:Nat):Int):=by simp [IntKind.wrap,IntKind.bits,IntKind.signed];omega
    have hne:¬cap=m:=by omega
    have hne2:¬m=cap:=by omega
    have le1:((m+4:Nat):Int)≤(cap:Int):=by omega
    have le2:m+4≤cap:=by omega
    have le3:m≤m+4:=by omega
    have le4:(m:Int)≤((m+4:Nat):Int):=by omega
    have le5:m+4-m=4:=by omega
    have lt2:(j:Int)<16:=by omega
    rw [←hm] at k0 k1 k2 k3
    have HM:Hid (m=4*j):=hm
    clear hm
    clear h1
    go_wp2_with fail
    go_region
    go_wp2
    go_roundw
    case rel=>exact ⟨j+1,by omega,by go_num,NS.out⟩
    case measure=>simp [intOf];omega
  · obtain rfl:j=16:=by omega
    go_wp2
    go_loopw [6] (fun i wr=>∃j:Nat,16≤j∧j≤64∧i = .int .i64 j∧Rows2 w.heap.size 195 (u32s (List.replicate 64 0)) (u32s (Pl.part W j)) w wr) (fun i _=>64-(intOf i).toNat)
    case atStart=>exact ⟨16,by omega,by omega,rfl,G.out⟩
    case round=>
     clear G
     obtain ⟨j,hj0,hj,rfl,g⟩:=hrel
     have G:Hid (Rows2 w.heap.size 195 (u32s (List.replicate 64 0)) (u32s (Pl.part W j)) w wr):=g
     clear g
     by_cases hlt:j<64
     · have get:∀i,i<j→wr.cell? ⟨w.heap.size+1,i,none⟩=some (.int .u32 (W.getD i 0:Nat)):=fun i hi=>by
        rw [G.out.cell i,u32s_get _ i (by rw [Pl.part_len,HLW.out];omega),Pl.part_get _ _ _ hi (by rw [HLW.out];omega)]
       have k2:=get (j-2) (by omega)
       have k15:=get (j-15) (by omega)
       have k7:=get (j-7) (by omega)
       have k16:=get (j-16) (by omega)
       have kf:=G.out.frozen j
       have kc:=(G.out.cell j).trans (u32s_get _ j (by rw [Pl.part_len,HLW.out];omega))
       have hn:W.getD j 0=(Pl.sig1 (W.getD (j-2) 0)+W.getD (j-7) 0+Pl.sig0 (W.getD (j-15) 0)+W.getD (j-16) 0) % 4294967296:=HW2.out j hj0 hlt
       have NS:Hid (∀z:Int,z=((W.getD j 0:Nat):Int)→Rows2 w.heap.size 195 (u32s (List.replicate 64 0)) (u32s (Pl.part W (j+1))) w (wr.setCell ⟨w.heap.size+1,j,none⟩ (.int .u32 z)).drew.drew):=by
        rintro z rfl
        have:=(G.out.set j (.int .u32 (W.getD j 0:Nat))).drew.drew
        rwa [u32s_set,Pl.part_set _ _ (by rw [HLW.out];omega)] at this
       have b2:=HWL.out (j-2)
       have b15:=HWL.out (j-15)
       have b7:=HWL.out (j-7)
       have b16:=HWL.out (j-16)
       clear get
       generalize (Pl.part W j).getD j 0=old at *
       generalize W.getD (j-2) 0=x2 at *
       generalize W.getD (j-15) 0=x15 at *
       generalize W.getD (j-7) 0=x7 at *
       generalize W.getD (j-16) 0=x16 at *
       have s1:=Pl.sig1_lt b2
       have s0:=Pl.sig0_lt b15
       have n1:=u32_xor_nat (Pl.rotr 17 x2) (Pl.rotr 19 x2) (Pl.rotr_lt _ _ b2) (Pl.rotr_lt _ _ b2)
       have n2:=u32_xor_nat (Pl.rotr 17 x2 ^^^ Pl.rotr 19 x2) (x2 / 1024) (Pl.xor_lt (Pl.rotr_lt _ _ b2) (Pl.rotr_lt _ _ b2)) (by omega)
       rw [show Pl.rotr 17 x2 ^^^ Pl.rotr 19 x2 ^^^ x2 / 1024=Pl.sig1 x2 from rfl,Int.natCast_ediv,show ((1024:Nat):Int)=1024 from rfl] at n2
       have f1:=u32_xor_nat (Pl.rotr 7 x15) (Pl.rotr 18 x15) (Pl.rotr_lt _ _ b15) (Pl.rotr_lt _ _ b15)
       have f2:=u32_xor_nat (Pl.rotr 7 x15 ^^^ Pl.rotr 18 x15) (x15 / 8) (Pl.xor_lt (Pl.rotr_lt _ _ b15) (Pl.rotr_lt _ _ b15)) (by omega)
       rw [show Pl.rotr 7 x15 ^^^ Pl.rotr 18 x15 ^^^ x15 / 8=Pl.sig0 x15 from rfl,Int.natCast_ediv,show ((8:Nat):Int)=8 from rfl] at f2
       have c1:∀w',Calls Tryz.prog 159 #[.int .u32 x2,.int .i64 (-17)] w' _:=fun w'=>rot_any 17 x2 w' (by omega) (by omega) b2
       have c2:∀w',Calls Tryz.prog 159 #[.int .u32 x2,.int .i64 (-19)] w' _:=fun w'=>rot_any 19 x2 w' (by omega) (by omega) b2
       have c3:∀w',Calls Tryz.prog 159 #[.int .u32 x15,.int .i64 (-7)] w' _:=fun w'=>rot_any 7 x15 w' (by omega) (by omega) b15
       have c4:∀w',Calls Tryz.prog 159 #[.int .u32 x15,.int .i64 (-18)] w' _:=fun w'=>rot_any 18 x15 w' (by omega) (by omega) b15
       generalize Pl.rotr 17 x2 ^^^ Pl.rotr 19 x2=y1 at *
       generalize Pl.rotr 7 x15 ^^^ Pl.rotr 18 x15=y2 at *
       generalize Pl.rotr 17 x2=r17 at *
       generalize Pl.rotr 19 x2=r19 at *
       generalize Pl.rotr 7 x15=r7 at *
       generalize Pl.rotr 18 x15=r18 at *
       generalize Pl.sig1 x2=g1 at *
       generalize Pl.sig0 x15=g0 at *
       have HN:Hid (W.getD j 0=(g1+x7+g0+x16) % 4294967296):=hn
       clear hn
       generalize W.getD j 0=q at *
       have C1:Hid (∀w',Calls Tryz.prog 159 #[.int .u32 x2,.int .i64 (-17)] w' fun e w1=>e = .returned (.int .u32 (r17:Nat))∧w1=w'):=c1
       have C2:Hid (∀w',Calls Tryz.prog 159 #[.int .u32 x2,.int .i64 (-19)] w' fun e w1=>e = .returned (.int .u32 (r19:Nat))∧w1=w'):=c2
       have C3:Hid (∀w',Calls Tryz.prog 159 #[.int .u32 x15,.int .i64 (-7)] w' fun e w1=>e = .returned (.int .u32 (r7:Nat))∧w1=w'):=c3
       have C4:Hid (∀w',Calls Tryz.prog 159 #[.int .u32 x15,.int .i64 (-18)] w' fun e w1=>e = .returned (.int .u32 (r18:Nat))∧w1=w'):=c4
       clear c1 c2 c3 c4
       have q2:IntKind.i64.wrap ((j:Int)-2)=((j-2:Nat):Int):=by simp [IntKind.wrap,IntKind.bits,IntKind.signed];omega
       have t2:((j-2:Nat):Int)<64:=by omega
       have t2':j-2<64:=by omega
       generalize j-2=a2 at *
       have q15:IntKind.i64.wrap ((j:Int)-15)=((j-15:Nat):Int):=by simp [IntKind.wrap,IntKind.bits,IntKind.signed];omega
       have t15:((j-15:Nat):Int)<64:=by omega
       have t15':j-15<64:=by omega
       generalize j-15=a15 at *
       have q7:IntKind.i64.wrap ((j:Int)-7)=((j-7:Nat):Int):=by simp [IntKind.wrap,IntKind.bits,IntKind.signed];omega
       have t7:((j-7:Nat):Int)<64:=by omega
       have t7':j-7<64:=by omega
       generalize j-7=a7 at *
       have q16:IntKind.i64.wrap ((j:Int)-16)=((j-16:Nat):Int):=by simp [IntKind.wrap,IntKind.bits,IntKind.signed];omega
       have t16:((j-16:Nat):Int)<64:=by omega
       have t16':j-16<64:=by omega
       generalize j-16=a16 at *
       have lt2:(j:Int)<64:=by omega
       go_wp2_with fail
       go_region
       go_wp2_with fail
       refine (C1.out _).mono ?_
       rintro e w1 ⟨rfl,rfl⟩
       go_wp2_with fail
       refine (C2.out _).mono ?_
       rintro e w1 ⟨rfl,rfl⟩
       go_wp2_with fail
       refine (C3.out _).mono ?_
       rintro e w1 ⟨rfl,rfl⟩
       go_wp2_with fail
       refine (C4.out _).mono ?_
       rintro e w1 ⟨rfl,rfl⟩
       go_wp2_with fail
       go_region
       go_wp2
       refine ⟨?_,?measure⟩
       · refine ⟨_,_,_,_,_,_,_,_,_,_,_,_,_,_,_,_,_,_,_,_,_,_,_,_,_,_,_,_,_,_,_,_,_,_,_,_,_,_,_,_,_,_,_,_,_,_,?rel,rfl⟩
         exact ⟨j+1,by omega,by omega,by go_num,NS.out _ (by rw [HN.out];simp)⟩
       case measure=>simp [intOf];omega
     · obtain rfl:j=64:=by omega
       obtain ⟨g0,g1,gb⟩:=G.out
       rw [show Pl.part W 64=W by rw [←HLW.out];exact Pl.part_all W] at g1
       have GB:Hid (Below w.heap.size w wr):=gb
       have G0:Hid (wr.heap[w.heap.size]? = some (.cells (u32s (List.replicate 64 0)) 195 (0,0))):=g0
       have G1:Hid (wr.heap[w.heap.size+1]? = some (.cells (u32s W) 195 (0,0))):=g1
       have HI:Hid ((Tryz.prog.info? 195).map (·.size)=some (u32s W).size):=by unfold Hid;rw [u32s_size,HLW.out];exact size50
       have HO:Hid ((u32s (List.replicate 64 0)).size=(u32s W).size):=by unfold Hid;rw [u32s_size,u32s_size,HLW.out];simp
       clear g0 g1 gb G
       go_wp2_with (first
        | refine wpList_load_row rfl 195 _ rfl (w.heap.size+1) rfl 195 (u32s W) (0,0) _ G1.out Tryz.underlying195 rfl HI.out ?_
        | refine wpList_store_row rfl 195 _ _ rfl w.heap.size (u32s W) rfl rfl 195 _ G0.out HI.out HO.out (u32s_one W) ?_)
       refine bodyPost_ret (v:=.agg (u32s W)) (results_cell_row rfl _ _ w.heap.size 195 (u32s W) (0,0) _ rfl (setRow_heap _ _ _ _ _ _ G0.out) Tryz.underlying195 rfl HI.out) rfl ⟨rfl,below_setRow GB.out (Nat.le_refl _) _⟩
end Go.Proofs.YtiollhmbdhepkaaGreatDoor.Sh
