/- Ytiollhmbdhepkaa: what PacketBack reaches, joined and cut (its parts: wip) -/
import Derived.Deep.DeepCutAuto
import Derived.Deep.QuietTactic
import Derived.BigQuiet
import Derived.Test.YtiollhmbdhepkaaGreatDoorVag
import Derived.Maps.AppendAt
import Derived.Test.YtiollhmbdhepkaaGreatDoorVaf
namespace Go.Proofs.YtiollhmbdhepkaaGreatDoor
open Go.RowKit Go.Shelf
set_option maxRecDepth 100000
theorem apart2 (W:World) (h g o lb cb m mc:Nat) (L:List Value) (x:Array Value) (hg:W.heap[g]? = some (.cells L.toArray 131 (0,0))) (hh:W.heap[h]? = some (.cells x 131 (0,0))) (hne:h≠g) (h0:x.size≠0) :
 (callFunc 145 #[.slice (some ⟨g,o,none⟩) lb cb,.slice (some ⟨h,0,none⟩) m mc]).run Tryz.prog W = .ok (.value (.bool false)) W:=by
 have hsa:W.shape? h=some (131,x.size):=by simp [World.shape?,hh]
 have hsb:W.shape? g=some (131,L.toArray.size):=by simp [World.shape?,hg]
 have hfa:W.frozen? ⟨g,o,none⟩=false:=by simp [World.frozen?,hg]
 have hfe:W.frozen? ⟨g,L.toArray.size,none⟩=false:=by simp [World.frozen?,hg]
 rw [run_callFunc_extern Tryz.func145 (by kernel_rfl) (by kernel_rfl) (by kernel_rfl) (e:=Extern.SlicesOverlaps.overlaps #[23,23] #[4]) (by kernel_rfl),
  Lib.run_overlaps_apart W 23 4 131 Tryz.underlying23 2 Tryz.sizeOf131 ⟨g,o,none⟩ ⟨h,0,none⟩ lb cb m mc (fun e=>hne e.symm) _ _ _ _ hsb hsa h0 hfa hfe]
 rfl
set_option maxHeartbeats 4000000 in
theorem rep_exp (g c n i j m h mc:Nat) (L vs:List Value) (xs:Array Value) (w:World) (hg:w.heap[g]? = some (.cells L.toArray 131 (0,0))) (hL:L.length=c*2) (hij:i<j) (hj:j<n) (him:j<i+m) (htc:i+m+(n-j)≤c) (hc:c≤maxLen) (hn:n≤1000) (hm:m≤1000)
 (h1:∀y∈L.take (n*2),y.oneCell'=true) (sr:Sr w g (.slice (some ⟨h,0,none⟩) m mc) m vs) (hh:w.heap[h]? = some (.cells xs 131 (0,0))) (hne:h≠g) (hx0:xs.size≠0) :
 Calls Tryz.prog 128 #[.slice (some ⟨g,0,none⟩) n c,.int .i64 i,.int .i64 j,.slice (some ⟨h,0,none⟩) m mc] w fun e w'=>e = .returned (.slice (some ⟨g,0,none⟩) (i+m+(n-j)) c)∧
  (∃L':List Value,w'.heap[g]? = some (.cells L'.toArray 131 (0,0))∧L'.length=c*2∧L'.take ((i+m+(n-j))*2)=(L.take (n*2)).take (i*2)++vs++(L.take (n*2)).drop (j*2))∧w.grownBy w' (some g):=by
 have hmx:c≤9223372036854775807:=by unfold maxLen at hc;omega
 obtain ⟨tl,htl⟩:∃tl,tl=(L.take (n*2)).drop (j*2):=⟨_,rfl⟩
 have htll:tl.length=(n-j)*2:=by rw [htl,List.length_drop,List.length_take];omega
 have hvl:=sr.1
 obtain ⟨t,ht⟩:∃t,t=i+m+(n-j):=⟨_,rfl⟩
 obtain ⟨L1,hL1⟩:∃L1,L1=upd ((i+m)*2) tl L:=⟨_,rfl⟩
 obtain ⟨L2,hL2⟩:∃L2,L2=upd (i*2) vs L1:=⟨_,rfl⟩
 have l1:L1.length=c*2:=by rw [hL1,upd_len (by omega),hL]
 have l2:L2.length=c*2:=by rw [hL2,upd_len (by omega),l1]
 have cell:∀(W:World) (M:List Value),W.heap[g]? = some (.cells M.toArray 131 (0,0))→M.length=c*2→(∀k,k<c*2→(W.cell? ⟨g,k,none⟩).isSome=true)∧(∀k,W.frozen? ⟨g,k,none⟩=false):=fun W M hM hl=>
  ⟨fun k hk=>by simp only [World.cell?,hM];rw [List.getElem?_toArray,List.getElem?_eq_getElem (by omega)];rfl,fun k=>by simp [World.frozen?,hM]⟩
 have tsub:∀k y,tl[k]? = some y→L[j*2+k]? = some y:=fun k y hk=>by
  rw [htl,List.getElem?_drop,List.getElem?_take] at hk
  split at hk
  · exact hk
  · cases hk
 have cp1:∀W:World,W.heap=w.heap→∀ty dc sc,(Builtin.copy_ #[23,23] ty #[.slice (some ⟨g,(i+m)*2,none⟩) (n-j) dc,.slice (some ⟨g,j*2,none⟩) (n-j) sc]).run Tryz.prog W = .ok (goInt ((n-j:Nat):Int)) (W.setCells g ((i+m)*2) tl):=fun W hW ty dc sc=>by
  obtain ⟨q1,q2⟩:=cell W L (by rw [hW];exact hg) hL
  exact run_copy_three W _ _ ty 131 g ((i+m)*2) (n-j) dc ⟨g,j*2,none⟩ (n-j) sc tl (n-j) Tryz.underlying23 size3 (by simp only [Nat.min_def];split<;>omega) htll
   (fun k y hk=>by rw [Addr.add_lit];simp only [World.cell?,hW,hg];rw [List.getElem?_toArray];exact tsub k y hk) (fun k hk=>q1 _ (by omega)) (fun k _=>q2 _) (fun y hy=>h1 y (by rw [htl] at hy;exact List.mem_of_mem_drop hy))
 have b1:∀W:World,W.heap=w.heap→(W.setCells g ((i+m)*2) tl).heap[g]? = some (.cells L1.toArray 131 (0,0)):=fun W hW=>by rw [hL1];exact upd_block g tl _ W L _ (by rw [hW];exact hg) (by omega)
 have cp2:∀W:World,W.heap[g]? = some (.cells L1.toArray 131 (0,0))→(∀k,k≠g→k<w.heap.size→W.heap[k]? = w.heap[k]?)→∀ty dc,(Builtin.copy_ #[23,23] ty #[.slice (some ⟨g,i*2,none⟩) (t-i) dc,.slice (some ⟨h,0,none⟩) m mc]).run Tryz.prog W = .ok (goInt m) (W.setCells g (i*2) vs):=fun W hW hk ty dc=>by
  obtain ⟨q1,q2⟩:=cell W L1 hW l1
  exact run_copy_src W ty g (i*2) (t-i) dc _ m vs (sr.src hk) sr.shape (by omega) (fun k hk=>q1 _ (by omega)) (fun k _=>q2 _)
 have hfin:L2.take (t*2)=(L.take (n*2)).take (i*2)++vs++tl:=by
  have e0:L2=L1.take (i*2)++vs++L1.drop (i*2+vs.length):=by rw [hL2];rfl
  have e1:L1.drop (i*2+vs.length)=tl++L.drop ((i+m)*2+tl.length):=by
   rw [show i*2+vs.length=(i+m)*2 by omega,hL1]
   exact upd_drop (by omega)
  have e2:L1.take (i*2)=L.take (i*2):=by rw [hL1];exact upd_lo (by omega) (by omega)
  rw [e0,e1,e2,←List.append_assoc,List.take_take,Nat.min_eq_left (show i*2≤n*2 by omega)]
  exact List.take_left' (by rw [List.length_append,List.length_append,List.length_take];omega)
 have HE:Hid (∀W:World,W.heap=((w.setCells g ((i+m)*2) tl).setCells g (i*2) vs).heap→W.os=w.os→W.tape=w.tape→W.output=w.output→(∃L':List Value,W.heap[g]? = some (.cells L'.toArray 131 (0,0))∧L'.length=c*2∧L'.take (t*2)=(L.take (n*2)).take (i*2)++vs++tl)∧w.grownBy W (some g)):=fun W e1 e2 e3 e4=>by
  refine ⟨⟨L2,by rw [e1,hL2];exact upd_block g _ _ _ L1 _ (b1 w rfl) (by omega),l2,hfin⟩,e2,e3,e4,?_,fun k hk hne=>?_⟩
  · rw [e1,(setCells_size _ _ _ _).1,(setCells_size _ _ _ _).1];exact Nat.le_refl _
  · rw [e1,setCells_other _ _ _ _ _ (fun e=>hne (by rw [e])),setCells_other _ _ _ _ _ (fun e=>hne (by rw [e]))]
 have HS:Hid (∀(W:World) o (xs:List Value),(W.setCells g o xs).os=W.os∧(W.setCells g o xs).tape=W.tape∧(W.setCells g o xs).output=W.output):=fun W o xs=>(setCells_size _ _ _ _).2
 have HOT:Hid (∀(W:World) o (xs:List Value) k,k≠g→(W.setCells g o xs).heap[k]? = W.heap[k]?):=fun W o xs k hk=>setCells_other g xs o W k hk
 have HB1:Hid (∀W:World,W.heap=w.heap→(W.setCells g ((i+m)*2) tl).heap[g]? = some (.cells L1.toArray 131 (0,0))):=b1
 have HC1:Hid (∀W:World,W.heap=w.heap→∀ty dc sc,(Builtin.copy_ #[23,23] ty #[.slice (some ⟨g,(i+m)*2,none⟩) (n-j) dc,.slice (some ⟨g,j*2,none⟩) (n-j) sc]).run Tryz.prog W = .ok (goInt ((n-j:Nat):Int)) (W.setCells g ((i+m)*2) tl)):=cp1
 have HC2:Hid (∀W:World,W.heap[g]? = some (.cells L1.toArray 131 (0,0))→(∀k,k≠g→k<w.heap.size→W.heap[k]? = w.heap[k]?)→∀ty dc,(Builtin.copy_ #[23,23] ty #[.slice (some ⟨g,i*2,none⟩) (t-i) dc,.slice (some ⟨h,0,none⟩) m mc]).run Tryz.prog W = .ok (goInt m) (W.setCells g (i*2) vs)):=cp2
 have HOV:Hid (∀W:World,W.heap=w.heap→∀o lb cb,(callFunc 145 #[.slice (some ⟨g,o,none⟩) lb cb,.slice (some ⟨h,0,none⟩) m mc]).run Tryz.prog W = .ok (.value (.bool false)) W):=fun W hW o lb cb=>apart2 W h g o lb cb m mc L xs (by rw [hW];exact hg) (by rw [hW];exact hh) hne hx0
 rw [←htl,←ht]
 have x1:(i:Int)≤(j:Int):=by omega
 have x2:(j:Int)≤(c:Int):=by omega
 have x3:((i:Int)==(j:Int))=false:=by simp;omega
 have x4:((j:Int)==(n:Int))=false:=by simp;omega
 have x5:(i:Int)≤(c:Int):=by omega
 have x6:(j:Int)≤(n:Int):=by omega
 have x7:IntKind.i64.wrap ((i:Int)+(m:Int))=((i+m:Nat):Int):=by rw [IntKind.wrap_i64];omega
 have x8:IntKind.i64.wrap (((i+m:Nat):Int)+((n-j:Nat):Int))=(t:Int):=by rw [IntKind.wrap_i64];omega
 have x9:decide ((c:Int)<(t:Int))=false:=by simp;omega
 have x10:(t:Int)≤(c:Int):=by omega
 have x11:decide (((i+m:Nat):Int)≤(j:Int))=false:=by simp;omega
 have x12:(i:Int)≤(t:Int):=by omega
 have x13:((i+m:Nat):Int)≤(t:Int):=by omega
 have x15:¬c=i:=by omega
 have x16:¬c=j:=by omega
 have x17:¬c=i+m:=by omega
 have x18:t-(i+m)=n-j:=by omega
 have x19:¬((i:Int)=(j:Int)):=by omega
 have x20:¬((j:Int)=(n:Int)):=by omega
 have x21:(0:Int)≤((i+m:Nat):Int):=by omega
 have HT:Hid ((i:Int)+(m:Int)+((n-j:Nat):Int)=(t:Int)):=by unfold Hid;omega
 have x22:IntKind.i64.wrap ((i:Int)+(m:Int))=(i:Int)+(m:Int):=by rw [IntKind.wrap_i64];omega
 have x23:decide ((i:Int)+(m:Int)≤(j:Int))=false:=by simp;omega
 have x24:(i:Int)+(m:Int)≤(t:Int):=by omega
 have x25:(0:Int)≤(i:Int)+(m:Int):=by omega
 have x26:((i:Int)+(m:Int)).toNat=i+m:=by omega
 have x27:i≤t:=by omega
 have x28:i+m≤t:=by omega
 have x29:n≤c:=by omega
 have HDW:Hid (∀q,(w.drewN q).heap=w.heap∧(w.drewN q).os=w.os∧(w.drewN q).tape=w.tape∧(w.drewN q).output=w.output):=fun q=>⟨rfl,rfl,rfl,rfl⟩
 clear cell cp1 cp2 b1 tsub hfin l1 l2 hL1 hL2 h1 sr hg hL htl htll hvl ht hh hne hx0 htc
 have mixed:Tryz.prog.follows Departure.mixedOrders=true:=by kernel_rfl
 go_enter Tryz.func128,Tryz.ntmps128
 go_upto_region 9 with fail
 go_quiet (fail)
 obtain ⟨W0,hW0⟩:∃W0,W0=w.drewN nq:=⟨_,rfl⟩
 have HW0:Hid (W0.heap=w.heap∧W0.os=w.os∧W0.tape=w.tape∧W0.output=w.output):=by unfold Hid;rw [hW0];exact HDW.out nq
 rw [←hW0,HT.out]
 clear hW0 HT HDW
 have hov:=HOV.out W0 HW0.out.1
 go_wp2_with (simp only [hov])
 go_region_law_o (refine step_copy_runI rfl _ _ 23 23 rfl (.slice (some ⟨g,(i+m)*2,none⟩) (n-j) (c-(i+m))) (.slice (some ⟨g,j*2,none⟩) (n-j) (c-j)) (by simp [Act.eval,Act.put]) (by simp [Act.eval,Act.put]) (HC1.out W0.drew HW0.out.1 3 (c-(i+m)) (c-j)) ?_)
 obtain ⟨W1,hW1⟩:∃W1,W1=W0.drew.setCells g ((i+m)*2) tl:=⟨_,rfl⟩
 have HG1:Hid (W1.heap[g]? = some (.cells L1.toArray 131 (0,0))∧∀k,k≠g→k<w.heap.size→W1.heap[k]? = w.heap[k]?):=by
  unfold Hid
  rw [hW1]
  exact ⟨HB1.out W0.drew HW0.out.1,fun k hk _=>by rw [HOT.out _ _ _ k hk];show W0.heap[k]? = _;rw [HW0.out.1]⟩
 have HH1:Hid (W1.heap=(w.setCells g ((i+m)*2) tl).heap∧W1.os=w.os∧W1.tape=w.tape∧W1.output=w.output):=by
  unfold Hid
  rw [hW1]
  have q:=HS.out W0.drew ((i+m)*2) tl
  exact ⟨setCells_heap _ _ _ _ _ HW0.out.1,q.1.trans HW0.out.2.1,q.2.1.trans HW0.out.2.2.1,q.2.2.trans HW0.out.2.2.2⟩
 rw [←hW1]
 clear hW1 hov HOV HC1 HB1 HW0 HOT
 have hc2:=HC2.out W1 HG1.out.1 HG1.out.2
 have HF:=HE.out (W1.setCells g (i*2) vs) (setCells_heap _ _ _ _ _ HH1.out.1) ((HS.out _ _ _).1.trans HH1.out.2.1) ((HS.out _ _ _).2.1.trans HH1.out.2.2.1) ((HS.out _ _ _).2.2.trans HH1.out.2.2.2)
 have HFF:Hid (_∧_):=HF
 clear HF HE HS HH1 HG1 HC2
 go_wp2_with fail
 go_ret
 exact ⟨rfl,HFF.out.1,HFF.out.2⟩
end Go.Proofs.YtiollhmbdhepkaaGreatDoor
namespace Go.Proofs.YtiollhmbdhepkaaGreatDoor
open Go.RowKit Go.Shelf
set_option maxRecDepth 100000
set_option maxHeartbeats 4000000 in
theorem rep_end (g c n i m:Nat) (L vs:List Value) (u:Value) (w:World) (hg:w.heap[g]? = some (.cells L.toArray 131 (0,0))) (hL:L.length=c*2) (hi:i<n) (hnc:n≤c) (him:i+m≤c) (hc:c≤maxLen) (sr:Sr w g u m vs) :
 Calls Tryz.prog 128 #[.slice (some ⟨g,0,none⟩) n c,.int .i64 i,.int .i64 n,u] w fun e w'=>e = .returned (.slice (some ⟨g,0,none⟩) (i+m) c)∧
  (∃L':List Value,w'.heap[g]? = some (.cells L'.toArray 131 (0,0))∧L'.length=c*2∧L'.take ((i+m)*2)=(L.take (n*2)).take (i*2)++vs)∧w.grownBy w' (some g):=by
 obtain ⟨i0,hi0,hz0,hzs,hzb⟩:=info_parts infoN
 have hmx:c≤9223372036854775807:=by unfold maxLen at hc;omega
 have hvl:=sr.1
 obtain ⟨L1,hL1⟩:∃L1,L1=upd (i*2) vs L:=⟨_,rfl⟩
 have l1:L1.length=c*2:=by rw [hL1,upd_len (by omega),hL]
 have cell:∀(W:World) (M:List Value),W.heap[g]? = some (.cells M.toArray 131 (0,0))→M.length=c*2→(∀k,k<c*2→(W.cell? ⟨g,k,none⟩).isSome=true)∧(∀k,W.frozen? ⟨g,k,none⟩=false):=fun W M hM hl=>
  ⟨fun k hk=>by simp only [World.cell?,hM];rw [List.getElem?_toArray,List.getElem?_eq_getElem (by omega)];rfl,fun k=>by simp [World.frozen?,hM]⟩
 have hap:∀ty,(Builtin.append_ #[23,23] ty #[.slice (some ⟨g,0,none⟩) i c,u]).run Tryz.prog w = .ok (.slice (some ⟨g,0,none⟩) (i+m) c) (w.setCells g (i*2) vs):=fun ty=>by
  obtain ⟨q1,q2⟩:=cell w L hg hL
  have:=run_append_room_src (P:=Tryz.prog) w 23 23 ty 131 i0 Tryz.underlying23 hi0 g 0 i c u m vs (by rw [hzs];exact sr.src (fun _ _ _=>rfl)) him (fun k hk=>by rw [hzs];exact q1 _ (by omega)) (fun k _=>q2 _)
  rw [hzs,Nat.zero_add] at this
  exact this
 have HG1:Hid ((w.setCells g (i*2) vs).heap[g]? = some (.cells L1.toArray 131 (0,0))):=by unfold Hid;rw [hL1];exact upd_block g vs _ w L _ hg (by omega)
 have HT1:Hid (L1.take ((i+m)*2)=(L.take (n*2)).take (i*2)++vs):=by
  unfold Hid
  rw [show (i+m)*2=i*2+vs.length by omega,hL1,upd_take (by omega),List.take_take,Nat.min_eq_left (by omega)]
 have HGW:Hid (w.grownBy (w.setCells g (i*2) vs) (some g)):=⟨(setCells_size _ _ _ _).2.1,(setCells_size _ _ _ _).2.2.1,(setCells_size _ _ _ _).2.2.2,by rw [(setCells_size _ _ _ _).1];exact Nat.le_refl _,fun k hk hne=>setCells_other _ _ _ _ _ (fun e=>hne (by rw [e]))⟩
 have HAP:Hid (∀ty,(Builtin.append_ #[23,23] ty #[.slice (some ⟨g,0,none⟩) i c,u]).run Tryz.prog w = .ok (.slice (some ⟨g,0,none⟩) (i+m) c) (w.setCells g (i*2) vs)):=hap
 have HL1:Hid (L1.length=c*2):=l1
 have HCE:Hid (∀(W:World) (M:List Value),W.heap[g]? = some (.cells M.toArray 131 (0,0))→M.length=c*2→(∀k,k<c*2→(W.cell? ⟨g,k,none⟩).isSome=true)∧(∀k,W.frozen? ⟨g,k,none⟩=false)):=cell
 obtain ⟨ua,uc,rfl⟩:=sr.shape
 clear cell hap sr hg hL hvl hL1 l1
 have x1:(i:Int)≤(n:Int):=by omega
 have x2:(n:Int)≤(c:Int):=by omega
 have x3:((i:Int)==(n:Int))=false:=by simp;omega
 have x4:((n:Int)==(n:Int))=true:=by simp
 have x5:(i:Int)≤(c:Int):=by omega
 have x6:¬((i:Int)=(n:Int)):=by omega
 have x7:¬c=i:=by omega
 by_cases hlt:i+m<n
 · have HCL:Hid (∀ty cc,(Builtin.clear_ #[23] ty #[.slice (some ⟨g,(i+m)*2,none⟩) (n-(i+m)) cc]).run Tryz.prog (w.setCells g (i*2) vs) = .ok (.tuple #[]) ((w.setCells g (i*2) vs).setCells g ((i+m)*2) (zs (n-(i+m))))):=fun ty cc=>by
    obtain ⟨q1,q2⟩:=HCE.out _ L1 HG1.out HL1.out
    exact run_clear_k _ ty g ((i+m)*2) (n-(i+m)) cc (fun k hk=>q1 _ (by omega)) (fun k _=>q2 _)
   have HE:Hid ((∃L':List Value,((w.setCells g (i*2) vs).setCells g ((i+m)*2) (zs (n-(i+m)))).heap[g]? = some (.cells L'.toArray 131 (0,0))∧L'.length=c*2∧L'.take ((i+m)*2)=(L.take (n*2)).take (i*2)++vs)∧w.grownBy ((w.setCells g (i*2) vs).setCells g ((i+m)*2) (zs (n-(i+m)))) (some g)):=by
    have hl:=HL1.out
    have q:=setCells_size g (zs (n-(i+m))) ((i+m)*2) (w.setCells g (i*2) vs)
    refine ⟨⟨upd ((i+m)*2) (zs (n-(i+m))) L1,upd_block g _ _ _ L1 _ HG1.out (by rw [zs_len];omega),by rw [upd_len (by rw [zs_len];omega)];exact hl,by rw [upd_lo (Nat.le_refl _) (by omega)];exact HT1.out⟩,q.2.1.trans HGW.out.os,q.2.2.1.trans HGW.out.tape,q.2.2.2.trans HGW.out.output,by rw [q.1];exact HGW.out.size,fun k hk hne=>by rw [setCells_other _ _ _ _ _ (fun e=>hne (by rw [e]))];exact HGW.out.block k hk hne⟩
   have x8:decide (((i+m:Nat):Int)<(n:Int))=true:=by simp;omega
   have x8':decide (i+m<n)=true:=by simpa using hlt
   have x9:¬c=i+m:=by omega
   have x10:((i+m:Nat):Int)≤(n:Int):=by omega
   have x11:(0:Int)≤((i+m:Nat):Int):=by omega
   obtain ⟨im,him'⟩:∃im,im=i+m:=⟨_,rfl⟩
   rw [←him'] at HAP HCL HE x8 x8' x9 x10 x11 ⊢
   obtain ⟨W1,hW1⟩:∃W1,W1=w.setCells g (i*2) vs:=⟨_,rfl⟩
   rw [←hW1] at HAP HCL HE
   clear him' hlt HT1 HGW HG1 hW1 HL1 HCE
   have hcl:=HCL.out
   go_enter Tryz.func128,Tryz.ntmps128
   go_wp2_with (at_builtin;refine Lib.wpList_append_run _ rfl _ _ _ _ rfl _ _ rfl rfl _ _ (HAP.out _) ?_)
   go_ret
   exact ⟨rfl,HE.out.1,HE.out.2⟩
 · have x8:decide (((i+m:Nat):Int)<(n:Int))=false:=by simp;omega
   have x8':decide (i+m<n)=false:=by simpa using hlt
   have HE:Hid ((∃L':List Value,(w.setCells g (i*2) vs).heap[g]? = some (.cells L'.toArray 131 (0,0))∧L'.length=c*2∧L'.take ((i+m)*2)=(L.take (n*2)).take (i*2)++vs)∧w.grownBy (w.setCells g (i*2) vs) (some g)):=⟨⟨L1,HG1.out,HL1.out,HT1.out⟩,HGW.out⟩
   obtain ⟨im,him'⟩:∃im,im=i+m:=⟨_,rfl⟩
   rw [←him'] at HAP HE x8 x8' ⊢
   obtain ⟨W1,hW1⟩:∃W1,W1=w.setCells g (i*2) vs:=⟨_,rfl⟩
   rw [←hW1] at HAP HE
   clear him' hlt HT1 HGW HG1 hW1 HL1 HCE
   go_enter Tryz.func128,Tryz.ntmps128
   go_wp2_with (at_builtin;refine Lib.wpList_append_run _ rfl _ _ _ _ rfl _ _ rfl rfl _ _ (HAP.out _) ?_)
   go_ret
   exact ⟨rfl,HE.out.1,HE.out.2⟩
set_option maxHeartbeats 4000000 in
theorem rep_endg (B g c n i m h mc:Nat) (L vs:List Value) (xs:Array Value) (w:World) (hg:w.heap[g]? = some (.cells L.toArray 131 (0,0))) (hL:L.length=c*2) (hi:i<n) (hnc:n≤c) (him:c<i+m) (hc:c≤maxLen) (hn:n≤1000) (hm:m≤1000) (hB:B≤w.heap.size) (hBg:B≤g) (h1:∀y∈vs,y.oneCell'=true) (hvl:vs.length=m*2)
 (hh:w.heap[h]? = some (.cells xs 131 (0,0))) (hv:∀(j:Nat) y,vs[j]? = some y→xs[j]? = some y) :
 Calls Tryz.prog 128 #[.slice (some ⟨g,0,none⟩) n c,.int .i64 i,.int .i64 n,.slice (some ⟨h,0,none⟩) m mc] w fun e w'=>∃v',e = .returned v'∧w'.ownsRow B 131 2 v' (i+m) ((L.take (n*2)).take (i*2)++vs)∧w.grownBy w' (some g)∧(v'.ownBlock=some g∨v'.ownBlock=some w.heap.size):=by
 obtain ⟨i0,hi0,hz0,hzs,hzb⟩:=info_parts infoN
 have hmx:c≤9223372036854775807:=by unfold maxLen at hc;omega
 have HO:Hid (w.ownsRow B 131 2 (.slice (some ⟨g,0,none⟩) i c) i ((L.take (n*2)).take (i*2))):=by
  refine ⟨by rw [List.length_take,List.length_take];omega,.inr ⟨g,c,L.toArray,rfl,hBg,hg,by omega,hc,by simpa using hL,?_⟩⟩
  rw [List.take_take,Nat.min_eq_left (by omega)]
 have HX:Hid (∀j y,vs[j]? = some y→w.cell? ((⟨h,0,none⟩:Addr).add j)=some y):=fun j y hj=>by
  rw [Addr.add_lit,Nat.zero_add]
  simp only [World.cell?,hh]
  exact hv j y hj
 have H1:Hid (∀y∈vs,y.oneCell'=true):=h1
 have HB:Hid (B≤w.heap.size):=hB
 have HVL:Hid (vs.length=m*2):=hvl
 clear hg hL h1 hh hv hB hBg hvl
 have x1:(i:Int)≤(n:Int):=by omega
 have x2:(n:Int)≤(c:Int):=by omega
 have x3:((i:Int)==(n:Int))=false:=by simp;omega
 have x4:((n:Int)==(n:Int))=true:=by simp
 have x5:(i:Int)≤(c:Int):=by omega
 have x6:¬((i:Int)=(n:Int)):=by omega
 have x7:¬c=i:=by omega
 have x8:decide (((i+m:Nat):Int)<(n:Int))=false:=by simp;omega
 have x8':decide (i+m<n)=false:=by simp;omega
 generalize (L.take (n*2)).take (i*2)=XS at *
 obtain ⟨im,him'⟩:∃im,im=i+m:=⟨_,rfl⟩
 have HIM:Hid (im=i+m):=him'
 rw [←him'] at x8 x8' ⊢
 clear him'
 go_enter Tryz.func128,Tryz.ntmps128
 go_wp2_with (at_builtin;refine wpList_append_own_at _ rfl _ _ 23 rfl B 131 i0 (.agg #[.int .i64 0,.int .i64 0]) 2 16 Tryz.underlying23 hi0 hz0 hzs hzb rfl (by decide) _ i XS rfl HO.out _ m mc vs rfl HVL.out HX.out H1.out (by unfold maxLen;omega) (by omega) HB.out (Hid.out ?_))
 unfold Hid
 intro v' w' o' g' _ k'
 obtain ⟨a',c',rfl⟩:=own_shape o'
 rw [←HIM.out] at o' k' ⊢
 have O':Hid (w'.ownsRow B 131 2 (.slice a' im c') im (XS++vs)):=o'
 have G':Hid (w.grownBy w' (some g)):=g'
 have K':Hid ((Value.slice a' im c').ownBlock=some g∨(Value.slice a' im c').ownBlock=some w.heap.size):=k'
 clear o' g' k' HO HX H1 HB HVL HIM
 go_wp2
 go_ret
 exact ⟨_,rfl,O'.out,G'.out,K'.out⟩
end Go.Proofs.YtiollhmbdhepkaaGreatDoor
namespace Go.Proofs.YtiollhmbdhepkaaGreatDoor.Sh
open Go.RowKit
set_option maxRecDepth 100000
def Tab (w:World):Prop:=(∀i,i<8→w.cell? ⟨2,i,none⟩=some (.int .u32 ((Pl.words Pl.init).getD i 0:Nat)))∧(∀i,i<64→w.cell? ⟨3,i,none⟩=some (.int .u32 (Pl.K.getD i 0:Nat)))
theorem Tab.below {w w':World} {B:Nat} (h:Tab w) (hb:Below B w w') (hB:4≤B):Tab w':=
 ⟨fun i hi=>(hb.cell (p:=⟨2,i,none⟩) (show 2<B by omega)).trans (h.1 i hi),fun i hi=>(hb.cell (p:=⟨3,i,none⟩) (show 3<B by omega)).trans (h.2 i hi)⟩
theorem Tab.size {w:World} (h:Tab w):4≤w.heap.size:=World.block_lt_of_cell? _ _ (h.2 0 (by omega))
structure But (g:Nat) (w w':World):Prop where
 os:w'.os=w.os
 tape:w'.tape=w.tape
 output:w'.output=w.output
 size:w.heap.size≤w'.heap.size
 block:∀k,k<w.heap.size→k≠g→w'.heap[k]? = w.heap[k]?
theorem But.refl (g:Nat) (w:World):But g w w:=⟨rfl,rfl,rfl,Nat.le_refl _,fun _ _ _=>rfl⟩
theorem But.trans {g:Nat} {a b c:World} (h:But g a b) (k:But g b c):But g a c:=
 ⟨k.os.trans h.os,k.tape.trans h.tape,k.output.trans h.output,Nat.le_trans h.size k.size,fun i hi hn=>(k.block i (Nat.lt_of_lt_of_le hi h.size) hn).trans (h.block i hi hn)⟩
theorem But.of {g:Nat} {w w':World} (h:Below w.heap.size w w'):But g w w':=⟨h.os,h.tape,h.output,h.size,fun k hk _=>h.block k hk⟩
theorem But.set (g i:Nat) (w:World) (v:Value):But g w (w.setCell ⟨g,i,none⟩ v):=
 ⟨rfl,rfl,rfl,by simp [World.setCell],fun k _ hn=>heap_setCell_other _ _ _ _ hn⟩
theorem But.cells (g:Nat):∀(vs:List Value) (o:Nat) (w:World),But g w (w.setCells g o vs)
 | [],_,w=>But.refl g w
 | v::r,o,w=>(But.set g o w v).trans (But.cells g r (o+1) _)
theorem But.below {g B:Nat} {w w':World} (h:But g w w') (hB:B≤g) (hw:B≤w.heap.size):Below B w w':=
 ⟨h.os,h.tape,h.output,h.size,fun k hk=>h.block k (by omega) (by omega)⟩
theorem But.drew {g:Nat} {w w':World} (h:But g w w'):But g w w'.drew:=⟨h.os,h.tape,h.output,h.size,h.block⟩
theorem But.cell {g:Nat} {w w':World} (h:But g w w') {p:Addr} (hp:p.block<w.heap.size) (hn:p.block≠g):w'.cell? p=w.cell? p:=World.cell?_of_block (w:=w) (h.block p.block hp hn)
theorem Tab.but {w w':World} {g:Nat} (h:Tab w) (hb:But g w w') (hg:4≤g):Tab w':=
 ⟨fun i hi=>(hb.cell (p:=⟨2,i,none⟩) (show 2<_ by have:=h.size;omega) (show 2≠g by omega)).trans (h.1 i hi),
  fun i hi=>(hb.cell (p:=⟨3,i,none⟩) (show 3<_ by have:=h.size;omega) (show 3≠g by omega)).trans (h.2 i hi)⟩
theorem _root_.Go.Proofs.YtiollhmbdhepkaaGreatDoor.Sl.but {w w':World} {v:Value} {xs:List Int} {g:Nat} (h:Sl w v xs) (hb:But g w w') (hn:∀a l c,v = .slice (some a) l c→0<l→a.block≠g):Sl w' v xs:=by
 obtain ⟨a,cap,rfl,h1,h2,h3,h4⟩:=h
 refine ⟨a,cap,rfl,h1,h2,h3,?_⟩
 rcases h4 with h4 | ⟨hp,b,off,rfl,hlc,hm,hc,hz⟩
 · exact .inl h4
 · have hbn:b≠g:=hn _ _ _ rfl hp
   exact .inr ⟨hp,b,off,rfl,hlc,hm,fun i hi=>(hb.cell (p:=⟨b,off+i,Option.none⟩) (World.block_lt_of_cell? _ _ (hc i hi)) hbn).trans (hc i hi),hz⟩
def hlist (S:List Nat) (R:List Int) (n:Nat):List Value:=(S.map fun (k:Nat)=>Value.int .u32 (k:Int))++(R.map (Value.int .u8)++[.int .i64 n])
def Hs (w:World) (g:Nat) (S:List Nat) (R:List Int) (n:Nat):Prop:=w.heap[g]? = some (.cells (hlist S R n).toArray 209 (0,0))∧S.length=8∧R.length=64
theorem Hs.frozen {w:World} {g:Nat} {S:List Nat} {R:List Int} {n:Nat} (h:Hs w g S R n) (i:Nat):w.frozen? ⟨g,i,none⟩=false:=frozen_of_row _ _ _ _ _ h.1
theorem Hs.word {w:World} {g:Nat} {S:List Nat} {R:List Int} {n:Nat} (h:Hs w g S R n) (i:Nat) (hi:i<8):w.cell? ⟨g,i,none⟩=some (.int .u32 (S.getD i 0:Nat)):=by
 obtain ⟨h1,h2,h3⟩:=h
 rw [cell_of_row _ _ _ _ _ _ h1]
 have:i<S.length:=by omega
 simp [hlist,List.getElem?_append_left,this,List.getD]
theorem Hs.rest {w:World} {g:Nat} {S:List Nat} {R:List Int} {n:Nat} (h:Hs w g S R n) (i:Nat) (hi:i<64):w.cell? ⟨g,8+i,none⟩=some (.int .u8 (R.getD i 0)):=by
 obtain ⟨h1,h2,h3⟩:=h
 rw [cell_of_row _ _ _ _ _ _ h1]
 have:i<R.length:=by omega
 simp only [hlist,List.getElem?_toArray]
 rw [List.getElem?_append_right (by simp;omega),List.getElem?_append_left (by simp;omega)]
 simp [h2,List.getElem?_eq_getElem this,List.getD]
theorem Hs.num {w:World} {g:Nat} {S:List Nat} {R:List Int} {n:Nat} (h:Hs w g S R n):w.cell? ⟨g,72,none⟩=some (.int .i64 n):=by
 obtain ⟨h1,h2,h3⟩:=h
 rw [cell_of_row _ _ _ _ _ _ h1]
 simp only [hlist,List.getElem?_toArray]
 rw [List.getElem?_append_right (by simp;omega),List.getElem?_append_right (by simp;omega)]
 simp [h2,h3]
theorem Hs.lt {w:World} {g:Nat} {S:List Nat} {R:List Int} {n:Nat} (h:Hs w g S R n):g<w.heap.size:=World.block_lt_of_cell? _ _ h.num
theorem Hs.below {w w':World} {B g:Nat} {S:List Nat} {R:List Int} {n:Nat} (h:Hs w g S R n) (hb:Below B w w') (hB:g<B):Hs w' g S R n:=⟨(hb.block g hB).trans h.1,h.2⟩
theorem Hs.kept {w w':World} {g:Nat} {S:List Nat} {R:List Int} {n:Nat} (h:Hs w g S R n) (hb:Below w.heap.size w w'):Hs w' g S R n:=h.below hb h.lt
theorem Hs.setWord {w:World} {g:Nat} {S:List Nat} {R:List Int} {n:Nat} (h:Hs w g S R n) (i:Nat) (hi:i<8) (k:Nat):Hs (w.setCell ⟨g,i,none⟩ (.int .u32 (k:Int))) g (S.set i k) R n:=by
 obtain ⟨h1,h2,h3⟩:=h
 refine ⟨?_,by simpa using h2,h3⟩
 rw [heap_setCell_same _ _ _ _ _ _ h1]
 congr 2
 apply Array.ext'
 simp only [hlist,List.setIfInBounds_toArray]
 rw [List.set_append_left _ _ (by simp;omega),List.map_set]
theorem Hs.setNum {w:World} {g:Nat} {S:List Nat} {R:List Int} {n:Nat} (h:Hs w g S R n) (k:Nat):Hs (w.setCell ⟨g,72,none⟩ (.int .i64 (k:Int))) g S R k:=by
 obtain ⟨h1,h2,h3⟩:=h
 refine ⟨?_,h2,h3⟩
 rw [heap_setCell_same _ _ _ _ _ _ h1]
 congr 2
 apply Array.ext'
 simp only [hlist,List.setIfInBounds_toArray]
 rw [List.set_append_right _ _ (by simp;omega),List.set_append_right _ _ (by simp;omega)]
 simp [h2,h3]
theorem Hs.setByte {w:World} {g:Nat} {S:List Nat} {R:List Int} {n:Nat} (h:Hs w g S R n) (i:Nat) (hi:i<64) (z:Int):Hs (w.setCell ⟨g,8+i,none⟩ (.int .u8 z)) g S (R.set i z) n:=by
 obtain ⟨h1,h2,h3⟩:=h
 refine ⟨?_,h2,by simpa using h3⟩
 rw [heap_setCell_same _ _ _ _ _ _ h1]
 congr 2
 apply Array.ext'
 simp only [hlist,List.setIfInBounds_toArray]
 rw [List.set_append_right _ _ (by simp;omega),List.set_append_left _ _ (by simp;omega),List.map_set]
 simp [h2]
def over:List Int→Nat→List Int→List Int
 | R,_,[]=>R
 | R,i,z::r=>over (R.set i z) (i+1) r
theorem Hs.setBytes {g:Nat} {S:List Nat} {n:Nat}:∀(zs:List Int) (i:Nat) (w:World) (R:List Int),Hs w g S R n→i+zs.length≤64→Hs (w.setCells g (8+i) (zs.map (Value.int .u8))) g S (over R i zs) n
 | [],_,_,_,h,_=>h
 | z::r,i,w,R,h,hl=>by
   have hl':i+(r.length+1)≤64:=by simpa using hl
   show Hs ((w.setCell ⟨g,8+i,none⟩ (.int .u8 z)).setCells g (8+i+1) (r.map (Value.int .u8))) g S (over (R.set i z) (i+1) r) n
   exact Hs.setBytes r (i+1) _ _ (h.setByte i (by omega) z) (by omega)
theorem over_len:∀(zs:List Int) (R:List Int) (i:Nat),(over R i zs).length=R.length
 | [],_,_=>rfl
 | z::r,R,i=>by show (over (R.set i z) (i+1) r).length=_;rw [over_len r];simp
theorem over_get:∀(zs:List Int) (R:List Int) (i:Nat) (k:Nat),i+zs.length≤R.length→(over R i zs).getD k 0=if i≤k∧k<i+zs.length then zs.getD (k-i) 0 else R.getD k 0
 | [],R,i,k,_=>by rw [if_neg (by simp)];rfl
 | z::r,R,i,k,h=>by
   have h':i+(r.length+1)≤R.length:=by simpa using h
   show (over (R.set i z) (i+1) r).getD k 0=_
   rw [over_get r _ _ _ (by simp;omega)]
   have hl:(z::r).length=r.length+1:=rfl
   rw [hl]
   by_cases h1:i+1≤k∧k<i+1+r.length
   · rw [if_pos h1,if_pos (by omega)]
     rw [show k-i=(k-(i+1))+1 by omega]
     simp [List.getD]
   · rw [if_neg h1]
     by_cases h2:k=i
     · subst h2
       rw [if_pos (by omega)]
       simp [List.getD]
       rw [List.getElem?_set_self (by omega)]
       simp
     · rw [if_neg (by omega)]
       simp [List.getD,List.getElem?_set_ne (show i≠k by omega)]
end Go.Proofs.YtiollhmbdhepkaaGreatDoor.Sh
namespace Go.Proofs.YtiollhmbdhepkaaGreatDoor.Sh
open Go.RowKit
set_option maxRecDepth 100000
theorem size47:(Tryz.prog.info? 192).map (fun i=>i.size)=some 8:=by kernel_rfl
theorem size65:(Tryz.prog.info? 209).map (fun i=>i.size)=some 73:=by kernel_rfl
theorem size26:(Tryz.prog.info? 47).map (fun i=>i.size)=some 32:=by kernel_rfl
def hz:Array Value:=(hlist (List.replicate 8 0) (List.replicate 64 0) 0).toArray
theorem zero65:∀w,(zeroValue 209).run Tryz.prog w = .ok (.agg hz) w:=(zero_of_info (P:=Tryz.prog) (t:=209) (v:=.agg hz) (n:=73) (by kernel_rfl)).1
def h0:Array Value:=(hlist (Pl.words Pl.init) (List.replicate 64 0) 0).toArray
def i8:Array Value:=((Pl.words Pl.init).map fun (n:Nat)=>Value.int .u32 (n:Int)).toArray
theorem built65:Tryz.prog.built 209 [(0,.agg i8)]=some h0:=by kernel_rfl
theorem size_hz:hz.size=73:=by kernel_rfl
theorem range_words {w:World} {b:Nat} {S:List Nat} (h:∀i,i<S.length→w.cell? ⟨b,i,none⟩=some (.int .u32 (S.getD i 0:Nat))):w.rangeAt b 0 (S.map fun (n:Nat)=>Value.int .u32 (n:Int)):=by
 intro j v hv
 have hj:j<S.length:=by
  have:=(List.getElem?_eq_some_iff.1 hv).1
  simpa using this
 rw [Nat.zero_add,h j hj]
 rw [List.getElem?_map,List.getElem?_eq_getElem hj] at hv
 simp only [Option.map_some,Option.some.injEq] at hv
 rw [←hv]
 simp [List.getD,List.getElem?_eq_getElem hj]
set_option maxHeartbeats 1000000 in
set_option maxRecDepth 100000 in
theorem new_any (w:World) (ht:Tab w) :
 Calls Tryz.prog 134 #[] w fun e w'=>e = .returned (.pointer (some ⟨w.heap.size,0,none⟩))∧Hs w' w.heap.size (Pl.words Pl.init) (List.replicate 64 0) 0∧Below w.heap.size w w':=by
 have hr:=range_words (b:=2) (S:=Pl.words Pl.init) (fun i hi=>ht.1 i hi)
 have HR:Hid (w.rangeAt 2 0 ((Pl.words Pl.init).map fun (n:Nat)=>Value.int .u32 (n:Int))):=hr
 clear hr ht
 go_enter Tryz.func134,Tryz.ntmps134
 go_wp2_with (refine wpList_load_mid rfl 192 _ rfl 2 0 rfl ((Pl.words Pl.init).map fun (n:Nat)=>Value.int .u32 (n:Int)) _ HR.out Tryz.underlying192 rfl size47 (Hid.out ?_))
 unfold Hid
 refine wpList_build rfl 209 _ rfl ?_ ?_
 · simp only [List.map_toArray,List.map_cons,List.map_nil]
   change (Tryz.prog.built 209 [(0,.agg i8)]).isSome=true
   rw [built65];rfl
 simp only [List.map_toArray,List.map_cons,List.map_nil]
 change wpList _ _ _ _ (Act.put _ _ (.agg ((Tryz.prog.built 209 [(0,.agg i8)]).getD #[]))) _
 rw [built65]
 change wpList _ _ _ _ (Act.put _ _ (.agg h0)) _
 go_wp2
 go_ret
 exact ⟨rfl,⟨heap_alloc_new _ _,rfl,rfl⟩,(Below.refl _ _).alloc (Nat.le_refl _) _⟩
theorem hlist_len (S:List Nat) (R:List Int) (n:Nat):(hlist S R n).length=S.length+R.length+1:=by simp [hlist];omega
theorem hlist_one (S:List Nat) (R:List Int) (n:Nat):(hlist S R n).toArray.all (·.oneCell')=true:=by
 refine all_oneCell_toArray ?_
 intro v hv
 simp only [hlist,List.mem_append,List.mem_map,List.mem_singleton] at hv
 rcases hv with ⟨_,_,rfl⟩ | ⟨_,_,rfl⟩ | rfl<;>rfl
set_option maxHeartbeats 1000000 in
set_option maxRecDepth 100000 in
theorem fork_any (G:Nat) (S:List Nat) (R:List Int) (n:Nat) (w:World) (hh:Hs w G S R n) :
 Calls Tryz.prog 151 #[.pointer (some ⟨G,0,none⟩)] w fun e w'=>e = .returned (.pointer (some ⟨w.heap.size,0,none⟩))∧Hs w' w.heap.size S R n∧Below w.heap.size w w':=by
 have HH:Hid (Hs w G S R n):=hh
 have HI:Hid ((Tryz.prog.info? 209).map (·.size)=some (hlist S R n).toArray.size):=by unfold Hid;rw [List.size_toArray,hlist_len,hh.2.1,hh.2.2];exact size65
 have z65:=zero65
 have HS:Hid ((hlist S R n).toArray.size=73):=by unfold Hid;rw [List.size_toArray,hlist_len,hh.2.1,hh.2.2]
 clear hh
 go_enter Tryz.func151,Tryz.ntmps151
 go_wp2_with (first
  | refine wpList_load_row rfl 209 _ rfl G rfl 209 (hlist S R n).toArray (0,0) _ HH.out.1 Tryz.underlying209 rfl HI.out ?_
  | (refine wpList_store_row rfl 209 _ _ rfl w.heap.size (hlist S R n).toArray rfl rfl 209 _ (heap_alloc_new _ _) HI.out (by rw [HS.out,size_hz]) (hlist_one S R n) ?_;rw [World.setRow_alloc_new]))
 go_ret
 exact ⟨rfl,⟨heap_alloc_new _ _,HH.out.2⟩,(Below.refl _ _).alloc (Nat.le_refl _) _⟩
end Go.Proofs.YtiollhmbdhepkaaGreatDoor.Sh
