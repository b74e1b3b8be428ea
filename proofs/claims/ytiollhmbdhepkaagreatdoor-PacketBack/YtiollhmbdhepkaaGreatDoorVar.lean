/- Ytiollhmbdhepkaa: what PacketBack reaches, joined and cut (its parts: wip) -/
import Derived.Test.YtiollhmbdhepkaaGreatDoorVap
import Derived.Test.YtiollhmbdhepkaaGreatDoorVaq
namespace Go.Proofs.YtiollhmbdhepkaaGreatDoor
open Go.RowKit Go.Shelf
set_option maxRecDepth 100000
theorem part_one {P:Program} {t:TypeId} {cs:Array Value} {o:Nat} {v:Value} {w:World} (h:(isAgg t).run P w = .ok false w) (hc:cs[o]? = some v):(part t cs o).run P w = .ok v w:=by
 simp [part,Sem.run_bind,h,hc]
theorem eqf_cons {P:Program} {d:Nat} {xs ys:Array Value} {f:Field} {fs:List Field} {u v:Value} {r:Bool} {w:World} {t:TypeId} {o:Nat} (hn:f.name≠"_") (ht:f.type=t) (ho:f.offset=o) (ha:(part t xs o).run P w = .ok u w) (hb:(part t ys o).run P w = .ok v w) (he:(Op.equalIn d t u v).run P w = .ok r w) :
 (Op.eqFields d xs ys (f::fs)).run P w=if r=true then (Op.eqFields d xs ys fs).run P w else .ok false w:=by
 subst ht ho
 rw [Op.eqFields,if_pos hn]
 simp only [Sem.run_bind,ha,hb,he,Result.andThen_ok]
 cases r
 · simp
 · simp
theorem bed {α:Type} [BEq α] [LawfulBEq α] [DecidableEq α] (a b:α):(a==b)=decide (a=b):=by by_cases h:a=b<;>simp [h]
theorem eqf_nil {P:Program} {d:Nat} {xs ys:Array Value} {w:World}:(Op.eqFields d xs ys []).run P w = .ok true w:=by
 rw [Op.eqFields,Sem.run_pure]
theorem two {w:World} {a b:Bool}:(if a=true then (if b=true then Result.ok true w else .ok false w) else (.ok false w:Result Bool)) = .ok (a&&b) w:=by
 cases a<;>cases b<;>rfl
theorem fieldsS:(Tryz.prog.fieldsOf 131).toList.map (fun f=>(decide (f.name≠"_"),f.type,f.offset))=[(true,3,0),(true,3,1)]:=by kernel_rfl
theorem structS:Tryz.prog.underlying 131=some (.struct (Tryz.prog.fieldsOf 131)):=by kernel_rfl
theorem standsS:Tryz.prog.stoodInHeld 131=false:=by kernel_rfl
theorem guardS:Tryz.prog.eqGuardType Tryz.prog.depth 131=false:=by kernel_rfl
def spv (x:Sp):Value:=.agg #[.int .i64 x.1,.int .i64 x.2]
def sSp (x y:Sp):Bool:=decide (x.1=y.1)&&decide (x.2=y.2)
theorem sSp_iff (x y:Sp):sSp x y=true↔x=y:=by
 obtain ⟨a,b⟩:=x
 obtain ⟨c,d⟩:=y
 simp [sSp]
theorem eq_sp (x y:Sp) (w:World):(Op.equalIn 10000 131 (spv x) (spv y)).run Tryz.prog w = .ok (sSp x y) w:=by
 unfold spv
 rw [run_equalIn_struct w 9999 131 _ _ structS standsS]
 have hf:=fieldsS
 generalize (Tryz.prog.fieldsOf 131).toList=fs at hf
 have hlen:fs.length=2:=by have:=congrArg List.length hf;simpa using this
 match fs,hlen,hf with
 | [f0,f1],_,hf=>
   simp only [List.map_cons,List.map_nil,List.cons.injEq,Prod.mk.injEq,and_true,decide_eq_true_eq] at hf
   obtain ⟨⟨n0,t0,o0⟩,n3,t3,o3⟩:=hf
   have aU:(isAgg 3).run Tryz.prog w = .ok false w:=by simp [isAgg,run_underlying Tryz.underlying3]
   have p0:∀z:Sp,(part 3 #[.int .i64 z.1,.int .i64 z.2] 0).run Tryz.prog w = .ok (.int .i64 z.1) w:=fun z=>part_one aU rfl
   have p1:∀z:Sp,(part 3 #[.int .i64 z.1,.int .i64 z.2] 1).run Tryz.prog w = .ok (.int .i64 z.2) w:=fun z=>part_one aU rfl
   have e1:(Op.equalIn 9999 3 (.int .i64 x.1) (.int .i64 y.1)).run Tryz.prog w = .ok (x.1==y.1) w:=run_equalIn_int w 9998 3 .i64 .i64 _ _ Tryz.underlying3
   have e2:(Op.equalIn 9999 3 (.int .i64 x.2) (.int .i64 y.2)).run Tryz.prog w = .ok (x.2==y.2) w:=run_equalIn_int w 9998 3 .i64 .i64 _ _ Tryz.underlying3
   rw [eqf_cons n0 t0 o0 (p0 x) (p0 y) e1,eqf_cons n3 t3 o3 (p1 x) (p1 y) e2,eqf_nil,two]
   unfold sSp
   rw [bed x.1,bed x.2]
theorem neq_sp (x y:Sp) (w:World):(binOp .neq 131 (spv x) (spv y)).run Tryz.prog w = .ok (.bool (!sSp x y)) w:=by
 have hE:=eq_sp x y w
 unfold spv at hE ⊢
 simp only [run_neq_struct,hE,Result.andThen_ok]
theorem eqg_sp (o:BinOp) (x y:Sp) (a b:Operand) (w:World):(eqGuard o 131 a b (spv x) (spv y)).run Tryz.prog w = .ok () w:=run_eqGuard_agg _ _ _ _ _ _ _ guardS
set_option maxHeartbeats 2000000 in
theorem rsame_any (w:World) (u v:Value) (l m:List Sp) (hu:SSp w u l) (hv:SSp w v m) (hl:l.length≤100000) :
 Calls Tryz.prog 76 #[u,v] w fun e w'=>e = .returned (.bool (decide (l=m)))∧Below w.heap.size w w':=by
 obtain ⟨a,c,rfl,h2,h3,h4⟩:=hu.shape
 obtain ⟨a',c',rfl,h2',h3',h4'⟩:=hv.shape
 by_cases hnk:l.length=m.length
 · have HAT:Hid (∀j,j<l.length→∀W,Below w.heap.size w W→∃b off b' off',a=some ⟨b,off,none⟩∧a'=some ⟨b',off',none⟩∧W.cell? ⟨b,off+j*2,none⟩=some (.int .i64 (atS l j).1)∧W.cell? ⟨b,off+j*2+1,none⟩=some (.int .i64 (atS l j).2)∧W.cell? ⟨b',off'+j*2,none⟩=some (.int .i64 (atS m j).1)∧W.cell? ⟨b',off'+j*2+1,none⟩=some (.int .i64 (atS m j).2)):=fun j hj W hb=>by
    obtain ⟨b,off,e,q⟩:=(hu.kept hb).at j hj
    obtain ⟨b',off',e',q'⟩:=(hv.kept hb).at j (by omega)
    exact ⟨b,off,b',off',e,e',(spC q).1,(spC q).2,(spC q').1,(spC q').2⟩
   have HYES:Hid ((∀k,k<l.length→atS l k=atS m k)→decide (l=m)=true):=fun h=>by
    rw [decide_eq_true_eq]
    refine List.ext_getElem hnk fun k h1 h2=>?_
    have:=h k h1
    rwa [atS_eq l k h1,atS_eq m k h2] at this
   have HNO:Hid (∀k,k<l.length→atS l k≠atS m k→decide (l=m)=false):=fun k hk h=>by
    rw [decide_eq_false_iff_not]
    exact fun e=>h (by rw [e])
   obtain ⟨r,hr⟩:∃r,r=decide (l=m):=⟨_,rfl⟩
   rw [←hr] at HYES HNO ⊢
   rw [←hnk]
   clear hu hv hr hnk h2 h3 h4 h2' h3' h4'
   obtain ⟨n,hn⟩:∃n,n=l.length:=⟨_,rfl⟩
   rw [←hn] at HAT HYES HNO hl ⊢
   clear hn
   have t0:((n:Int) != (n:Int))=false:=by simp
   go_enter Tryz.func76,Tryz.ntmps76
   go_wp2
   go_loopw [5] (fun u wr=>∃j:Nat,j≤n∧u = .int .i64 j∧(∀k,k<j→atS l k=atS m k)∧Below w.heap.size w wr) (fun u _=>n-(intOf u).toNat)
   case atStart=>exact ⟨0,by omega,rfl,fun k hk=>by omega,Below.refl _ _⟩
   case round=>
    obtain ⟨j,hj,rfl,ok,bel⟩:=hrel
    have OK:Hid (∀k,k<j→atS l k=atS m k):=ok
    have HB:Hid (Below w.heap.size w wr):=bel
    clear ok bel
    by_cases hjn:j<n
    · have lt2:(j:Int)<(n:Int):=by omega
      obtain ⟨b,off,b',off',rfl,rfl,k1,k2,k3,k4⟩:=HAT.out j hjn wr HB.out
      have HNX:Hid (atS l j=atS m j→∀k,k<j+1→atS l k=atS m k):=fun h k hk=>by
       rcases Nat.lt_or_ge k j with h' | h'
       · exact OK.out k h'
       · rw [show k=j by omega];exact h
      have HN:Hid (atS l j≠atS m j→r=false):=fun h=>HNO.out j hjn h
      have E1:=neq_sp (atS l j) (atS m j)
      have E2:=fun (a b:Operand)=>eqg_sp .neq (atS l j) (atS m j) a b
      have HE:Hid (sSp (atS l j) (atS m j)=true↔atS l j=atS m j):=sSp_iff _ _
      unfold spv at E1 E2
      generalize atS l j=x at *
      generalize atS m j=y at *
      obtain ⟨B,hB⟩:∃B,B=sSp x y:=⟨_,rfl⟩
      rw [←hB] at E1 HE
      clear hB
      cases B with
      | true=>
        have hxy:=HE.out.1 rfl
        have NX:=HNX.out hxy
        have HN1:Hid (∀k,k<j+1→atS l k=atS m k):=NX
        clear HNX HN HE hxy NX
        rw [Bool.not_true] at E1
        go_wp2_with fail
        go_quiet (fail)
        have BD:Hid (Below w.heap.size w (wr.drewN nq)):=HB.out.trans ((drn wr nq).mono HB.out.size)
        generalize wr.drewN nq=DW at *
        go_wp2
        go_roundw
        case rel=>exact ⟨j+1,by omega,by go_num,HN1.out,BD.out⟩
        case measure=>simp [intOf];omega
      | false=>
        have hxy:x≠y:=fun e=>by have:=HE.out.2 e;cases this
        have HR:Hid (r=false):=HN.out hxy
        clear HNX HN HE hxy
        rw [Bool.not_false] at E1
        go_wp2_with fail
        go_quiet (fail)
        have BD:Hid (Below w.heap.size w (wr.drewN nq)):=HB.out.trans ((drn wr nq).mono HB.out.size)
        generalize wr.drewN nq=DW at *
        go_wp2
        go_ret
        exact ⟨by rw [HR.out];rfl,BD.out⟩
    · obtain rfl:j=n:=by omega
      have HR:Hid (r=true):=HYES.out OK.out
      have lt2:¬(j:Int)<(j:Int):=by omega
      clear HYES HNO OK HAT
      go_wp2
      go_ret
      exact ⟨by rw [HR.out];rfl,HB.out⟩
 · have e:decide (l=m)=false:=by rw [decide_eq_false_iff_not];exact fun e=>hnk (by rw [e])
   rw [e]
   have HB:Hid (Below w.heap.size w w):=Below.refl _ _
   have t0:((l.length:Int) != (m.length:Int))=true:=by simp;omega
   clear hu hv e hnk
   generalize l.length=n at *
   generalize m.length=k at *
   go_enter Tryz.func76,Tryz.ntmps76
   go_wp2
   go_ret
   exact ⟨rfl,HB.out⟩
end Go.Proofs.YtiollhmbdhepkaaGreatDoor
namespace Go.Proofs.YtiollhmbdhepkaaGreatDoor.Sh
open Go.RowKit
set_option maxRecDepth 100000
theorem pad_len (n:Nat):(Pl.pad n).length=Pl.zers n+9:=by rw [←ppad_all,ppad_len n 8 (by omega)]
theorem zers_lt (n:Nat):Pl.zers n<64:=Nat.mod_lt _ (by omega)
theorem sha_len (l:List Int):(Pl.sha l).length=32:=digest_len _
set_option maxHeartbeats 2000000 in
set_option maxRecDepth 100000 in
theorem sum_any (G:Nat) (l:List Int) (w:World) (ht:Tab w) (hh:HsOf w G l) (hbig:l.length≤100000000000000000) :
 Calls Tryz.prog 136 #[.pointer (some ⟨G,0,none⟩)] w fun e w'=>e = .returned (.agg (u8s (Pl.sha l)))∧Below w.heap.size w w':=by
 obtain ⟨wa,hwa⟩:∃wa,wa=w.alloc (.cells (u8s (List.replicate 32 0)) 47):=⟨_,rfl⟩
 have ba:Below w.heap.size w wa:=by rw [hwa];exact (Below.refl _ _).alloc (Nat.le_refl _) _
 have g0:wa.heap[w.heap.size]? = some (.cells (u8s (List.replicate 32 0)) 47 (0,0)):=by rw [hwa];exact heap_alloc_new _ _
 have ha:=hh.kept ba
 have hta:=ht.below ba ht.size
 obtain ⟨R,r1,r2,r3⟩:=ha
 have cf:=fork_any G _ R _ wa r1
 have hlt:w.heap.size<wa.heap.size:=World.block_lt_of_cell? _ _ ((cell_of_row _ _ 0 _ _ _ g0).trans (u8s_get _ 0 (by simp)))
 have hF:4≤wa.heap.size:=hta.size
 obtain ⟨F,hF'⟩:∃F,F=wa.heap.size:=⟨_,rfl⟩
 have HWA:Hid (w.alloc (.cells (u8s (List.replicate 32 0)) 47)=wa):=hwa.symm
 have hwz:w.alloc (.cells #[.int .u8 0,.int .u8 0,.int .u8 0,.int .u8 0,.int .u8 0,.int .u8 0,.int .u8 0,.int .u8 0,.int .u8 0,.int .u8 0,.int .u8 0,.int .u8 0,.int .u8 0,.int .u8 0,.int .u8 0,.int .u8 0,.int .u8 0,.int .u8 0,.int .u8 0,.int .u8 0,.int .u8 0,.int .u8 0,.int .u8 0,.int .u8 0,.int .u8 0,.int .u8 0,.int .u8 0,.int .u8 0,.int .u8 0,.int .u8 0,.int .u8 0,.int .u8 0] 47)=wa:=hwa.symm
 rw [←hF'] at cf hlt hF
 have HF:Hid (F=wa.heap.size):=hF'
 have HBA:Hid (Below w.heap.size w wa):=ba
 have HG0:Hid (wa.heap[w.heap.size]? = some (.cells (u8s (List.replicate 32 0)) 47 (0,0))):=g0
 have HR:Hid (Pl.Byt R∧∀i,i<l.length % 64→R.getD i 0=l.getD (64*(l.length / 64)+i) 0):=⟨r2,r3⟩
 have HH:Hid (Hs wa G (Pl.words (Pl.absorb l)) R l.length):=r1
 have HT:Hid (Tab wa):=hta
 have HS:Hid (Pl.sha l=Pl.digest (Pl.absorb (l++Pl.pad l.length))):=rfl
 have HI:Hid ((Tryz.prog.info? 47).map (·.size)=some (u8s (Pl.sha l)).size):=by unfold Hid;rw [u8s_size,sha_len];exact size26
 have HO:Hid ((u8s (List.replicate 32 0)).size=(u8s (Pl.sha l)).size):=by unfold Hid;rw [u8s_size,u8s_size,sha_len];simp
 obtain ⟨n,hn⟩:∃n,n=l.length:=⟨_,rfl⟩
 have HN:Hid (n=l.length):=hn
 clear hn hh ht ba g0 hta r1 r2 r3 hF' hwa
 go_enter Tryz.func136,Tryz.ntmps136
 go_wp2_with fail
 refine cf.mono ?_
 rintro e w1 ⟨rfl,f1,b1⟩
 have tb1:=HT.out.below b1 hF
 have hb1:Below wa.heap.size wa w1:=by rw [←HF.out];exact b1
 have k72:=(HH.out.kept hb1).num
 have HF1:Hid (HsOf w1 F l):=⟨R,f1,HR.out⟩
 have cp:=padding_any l.length w1 (by omega)
 have hFl:=f1.lt
 have HTB:Hid (Tab w1):=tb1
 have HB1:Hid (Below F wa w1):=b1
 rw [←HN.out] at k72 cp
 clear cf f1 b1 tb1 hb1
 go_wp2_with fail
 refine cp.mono ?_
 rintro e w2 ⟨rfl,sl2,b2⟩
 rw [HN.out] at sl2
 have cw:=write_any F l _ _ w2 (HTB.out.below b2 HTB.out.size) (HF1.out.kept b2) sl2 (fun a' l' c' e' _=>by cases e';show w1.heap.size≠F;omega) hF (by have:=zers_lt l.length;rw [pad_len];omega)
 rw [←HN.out] at cw
 have HB2:Hid (Below w1.heap.size w1 w2):=b2
 clear cp sl2 b2
 go_wp2_with fail
 refine cw.mono ?_
 rintro e w3 ⟨⟨u3,rfl⟩,h3,b3⟩
 rw [HN.out] at h3
 obtain ⟨R3,h3,-,-⟩:=h3
 have ct:=told_any F _ R3 _ w3 h3
 rw [←HS.out] at ct
 have HB3:Hid (But F w2 w3):=b3
 clear cw h3 b3
 go_wp2_with fail
 refine ct.mono ?_
 rintro e w4 ⟨rfl,b4⟩
 have z1:F≤w1.heap.size:=by omega
 have z2:=HB2.out.size
 have hB4:Below F wa w4:=(HB1.out.trans (HB2.out.mono z1)).trans ((HB3.out.below (Nat.le_refl _) (by omega)).trans (b4.mono (by have:=HB3.out.size;omega)))
 have G4:Hid (w4.heap[w.heap.size]? = some (.cells (u8s (List.replicate 32 0)) 47 (0,0))):=(hB4.block _ hlt).trans HG0.out
 have B4:Hid (Below w.heap.size w w4):=HBA.out.trans (hB4.mono (by omega))
 clear ct b4 hB4
 go_wp2_with (refine wpList_store_row rfl 47 _ _ rfl w.heap.size (u8s (Pl.sha l)) rfl rfl 47 _ G4.out HI.out HO.out (u8s_one _) ?_)
 refine bodyPost_ret (v:=.agg (u8s (Pl.sha l))) (results_cell_row rfl _ _ w.heap.size 47 (u8s (Pl.sha l)) (0,0) _ rfl (setRow_heap _ _ _ _ _ _ G4.out) Tryz.underlying47 rfl HI.out) rfl ⟨rfl,below_setRow B4.out (Nat.le_refl _) _⟩
end Go.Proofs.YtiollhmbdhepkaaGreatDoor.Sh
