/- Ytiollhmbdhepkaa: what PacketBack reaches, joined and cut (its parts: wip) -/
import Derived.Test.YtiollhmbdhepkaaGreatDoorVau
import Derived.Test.YtiollhmbdhepkaaGreatDoorVav
import Derived.Deep.WholeRow
import Derived.Test.YtiollhmbdhepkaaGreatDoorVbc
import Derived.Lib.BufferWrite
namespace Go.Proofs.YtiollhmbdhepkaaGreatDoor
open Go.RowKit Go.Shelf
set_option maxRecDepth 100000
theorem PF.set {w:World} {g:Nat} {t:TypeId} {p q:Fm} {sv sv':Value} (h:PF w g t p sv) (j:Nat) (v:Value) (e:(plA p sv).setIfInBounds j v=plA q sv'):PF (w.setCell ⟨g,j,none⟩ v) g t q sv':=by
 unfold PF at *
 rw [←e]
 simp [World.setCell,Array.getElem?_modify,h]
theorem PF.frz {w:World} {g:Nat} {t:TypeId} {p:Fm} {sv:Value} (h:PF w g t p sv) (j:Nat):w.frozen? ⟨g,j,none⟩=false:=by
 unfold PF at h
 simp [World.frozen?,h]
theorem PF.bt {w w':World} {g g':Nat} {t:TypeId} {p:Fm} {sv:Value} (h:PF w g t p sv) (hb:Bt g' w w') (hg:g≠g'):PF w' g t p sv:=(hb.block g (blk_lt h) hg).trans h
def rBt:Rr Int:=fun xs e=>if e=0 then (Fi.byV xs,xs.drop (Fi.raN xs 1),Fi.raE xs 1) else (0,xs,e)
def rRw:Rr (List Int):=fun xs e=>if e=0 then (xs.take (Fi.raN xs 16),xs.drop (Fi.raN xs 16),Fi.raE xs 16) else ([],xs,e)
theorem rdByte (g s:Nat) (xs:List Int) (e:Int) (w:World) (h:Fi.Rd w g s xs e) :
 Calls Tryz.prog 89 #[.pointer (some ⟨g,0,none⟩)] w fun r w'=>r = .returned (.int .u8 (rBt xs e).1)∧Fi.Rd w' g s (rBt xs e).2.1 (rBt xs e).2.2∧Bt g w w':=by
 unfold rBt
 by_cases he:e=0
 · subst he
   rw [if_pos rfl]
   exact (Fi.byte_any g s xs w h).mono fun _ _ ⟨a,b,c⟩=>⟨a,b,Bt.off c⟩
 · rw [if_neg he]
   exact (Fi.byte_stop g s xs e w h he).mono fun _ w' ⟨a,b⟩=>by subst b;exact ⟨a,h,Bt.refl _ _⟩
theorem rdRaw (g s:Nat) (xs:List Int) (e:Int) (w:World) (h:Fi.Rd w g s xs e) :
 Calls Tryz.prog 96 #[.pointer (some ⟨g,0,none⟩),.int .i64 16] w fun r w'=>r = .returned (.string (Fi.strB (rRw xs e).1))∧Fi.Rd w' g s (rRw xs e).2.1 (rRw xs e).2.2∧Bt g w w':=by
 unfold rRw
 by_cases he:e=0
 · subst he
   rw [if_pos rfl]
   exact (Fi.raw_any g s xs 16 w h).mono fun _ _ ⟨a,b,c⟩=>⟨a,b,Bt.off c⟩
 · rw [if_neg he]
   exact (Fi.raw_stop g s xs e 16 w h he).mono fun _ w' ⟨a,b⟩=>by subst b;exact ⟨a,h,Bt.refl _ _⟩
theorem rdText (g s:Nat) (xs:List Int) (e m:Int) (w:World) (hw:Fi.Wid w) (h:Fi.Rd w g s xs e) :
 Calls Tryz.prog 97 #[.pointer (some ⟨g,0,none⟩),.int .i64 m] w fun r w'=>r = .returned (.string (Fi.strB (rTx m xs e).1))∧Fi.Rd w' g s (rTx m xs e).2.1 (rTx m xs e).2.2∧Bt g w w':=by
 unfold rTx
 by_cases he:e=0
 · subst he
   rw [if_pos rfl]
   exact (Fi.text_any g s xs m w hw h).mono fun _ _ ⟨a,b,c⟩=>⟨a,b,Bt.off c⟩
 · rw [if_neg he]
   exact (Fi.text_stop g s xs e m w h he).mono fun _ w' ⟨a,b⟩=>by subst b;exact ⟨a,h,Bt.refl _ _⟩
theorem rdNm (g s:Nat) (xs:List Int) (e m:Int) (w:World) (hw:Fi.Wid w) (h:Fi.Rd w g s xs e) :
 Calls Tryz.prog 90 #[.pointer (some ⟨g,0,none⟩),.int .i64 m] w fun r w'=>r = .returned (.int .i64 (rNm m xs e).1)∧Fi.Rd w' g s (rNm m xs e).2.1 (rNm m xs e).2.2∧Bt g w w':=
 (rdNum g s xs e m w hw h).mono fun _ _ ⟨a,b,c⟩=>⟨a,b,Bt.off c⟩
theorem rBt_cons (x:Int) (ys:List Int):rBt (x::ys) 0=(x,ys,0):=by
 have e2:Fi.raE (x::ys) 1=0:=by unfold Fi.raE;rw [if_neg (by decide),if_neg (by simp;omega)]
 have e1:Fi.raN (x::ys) 1=1:=by unfold Fi.raN;rw [if_pos e2];rfl
 unfold rBt
 rw [if_pos rfl,e1,e2]
 rfl
theorem rBt_nil:rBt [] 0=(0,[],3):=by decide
theorem rFn_bt (xs:List Int) (e:Int):((rBt xs e).1≤1→rFn xs e=rBt xs e)∧(1<(rBt xs e).1→(rFn xs e).2.2=4):=by
 unfold rFn
 by_cases he:e=0
 · subst he
   rw [if_pos rfl]
   cases xs with
   | nil=>rw [rBt_nil,if_pos rfl];exact ⟨fun _=>rfl,fun h=>by simp at h⟩
   | cons x ys=>
     rw [rBt_cons,if_neg (by simp)]
     simp only [List.getD_cons_zero,List.drop_one,List.tail_cons]
     refine ⟨fun h=>by rw [if_neg (by omega)],fun h=>by rw [if_pos h]⟩
 · unfold rBt
   rw [if_neg he,if_neg he]
   exact ⟨fun _=>rfl,fun h=>by simp at h⟩
theorem rOn_rw (xs:List Int) (e:Int) (hb:∀i,0≤xs.getD i 0∧xs.getD i 0<256):(rOn xs e).2=(rRw xs e).2∧(((rRw xs e).1=[]∧(rOn xs e).1=zn)∨((rRw xs e).1.length=16∧(rOn xs e).1=(rRw xs e).1∧∀i,0≤(rRw xs e).1.getD i 0∧(rRw xs e).1.getD i 0<256)):=by
 unfold rOn rRw
 by_cases he:e=0
 · subst he
   rw [if_pos rfl,if_pos rfl]
   by_cases h:xs.length<16
   · have e2:Fi.raE xs 16=3:=by unfold Fi.raE;rw [if_neg (by decide),if_pos (by omega)]
     have e1:Fi.raN xs 16=0:=by unfold Fi.raN;rw [e2];rfl
     rw [if_pos h,e1,e2]
     exact ⟨rfl,.inl ⟨rfl,rfl⟩⟩
   · have e2:Fi.raE xs 16=0:=by unfold Fi.raE;rw [if_neg (by decide),if_neg (by omega)]
     have e1:Fi.raN xs 16=16:=by unfold Fi.raN;rw [if_pos e2];rfl
     rw [if_neg h,e1,e2]
     refine ⟨rfl,.inr ⟨by simp only [List.length_take];omega,rfl,fun i=>?_⟩⟩
     simp only
     have:=hb i
     rw [List.getD_eq_getElem?_getD,List.getElem?_take]
     split
     · rwa [List.getD_eq_getElem?_getD] at this
     · simp
 · rw [if_neg he,if_neg he]
   exact ⟨rfl,.inl ⟨rfl,rfl⟩⟩
theorem opt_t {α:Type} (A:Rr α) (d:α):opt true A d=A:=rfl
theorem opt_f {α:Type} (A:Rr α) (d:α):opt false A d=fun xs e=>(d,xs,e):=rfl
theorem ahM_cons (k:Int) (ys:List Int) (hk:isK k=true):ahM (k::ys)=if (ahR k ys 0).2.2≠0 then errM (fltE (ahR k ys 0).2.2) else if hS k=true then (if (getP (ahR k ys 0).2.1).2.2≠0 then errM (getP (ahR k ys 0).2.1).2.2 else (mkF k (ahR k ys 0).1 (getP (ahR k ys 0).2.1).1,((k::ys).length:Int)-((ahR k ys 0).2.1.length:Int)+(getP (ahR k ys 0).2.1).2.1,0)) else (mkF k (ahR k ys 0).1 [],((k::ys).length:Int)-((ahR k ys 0).2.1.length:Int),0):=by
 unfold ahM
 rw [if_neg (by simp)]
 simp only [List.getD_cons_zero,List.drop_one,List.tail_cons]
 rw [if_neg (by rw [hk];decide)]
 rfl
theorem ahM_bad (k:Int) (ys:List Int) (hk:isK k=false):ahM (k::ys)=errM 9:=by
 unfold ahM
 rw [if_neg (by simp)]
 simp only [List.getD_cons_zero]
 rw [if_pos hk]
theorem ahM_nil:ahM []=errM 3:=by unfold ahM;rw [if_pos rfl]
end Go.Proofs.YtiollhmbdhepkaaGreatDoor
namespace Go.Proofs.YtiollhmbdhepkaaGreatDoor
open Go.RowKit Go.Shelf
set_option maxRecDepth 100000
theorem ahM_err {k:Int} {ys:List Int} (hk:isK k=true) {e:Int} (h:(ahR k ys 0).2.2=e) (he:e≠0):ahM (k::ys)=errM (fltE e):=by
 rw [ahM_cons k ys hk,h,if_pos he]
theorem ahM_fin {k:Int} {ys:List Int} (hk:isK k=true) (hs:hS k=false) {H:Hd} {zs:List Int} {e:Int} (h:ahR k ys 0=(H,zs,e)) (he:e=0):ahM (k::ys)=(mkF k H [],((k::ys).length:Int)-(zs.length:Int),0):=by
 subst he
 rw [ahM_cons k ys hk,h]
 simp only
 rw [if_neg (by decide),if_neg (by rw [hs];decide)]
theorem ahM_sp {k:Int} {ys:List Int} (hk:isK k=true) (hs:hS k=true) {H:Hd} {zs:List Int} {e:Int} (h:ahR k ys 0=(H,zs,e)) (he:e=0):ahM (k::ys)=if (getP zs).2.2≠0 then errM (getP zs).2.2 else (mkF k H (getP zs).1,((k::ys).length:Int)-(zs.length:Int)+(getP zs).2.1,0):=by
 subst he
 rw [ahM_cons k ys hk,h]
 simp only
 rw [if_neg (by decide),if_pos hs]
theorem ret_ctt {tmps:Array Value} {w:World} {g:Nat} {cs:Array Value} {t:TypeId} {fr:Nat × Nat} (hp:tmps.getD 2 undef = .pointer (some ⟨g,0,none⟩))
 (hg:w.heap[g]? = some (.cells cs t fr)) (hl:(Tryz.prog.info? 33).map (·.size)=some cs.size):(results Tryz.f69 tmps).run Tryz.prog w = .ok (.tuple #[.agg cs,tmps.getD 3 undef,tmps.getD 4 undef]) w:=by
 have hld:(loadVar 33 ⟨g,0,none⟩).run Tryz.prog w = .ok (.agg cs) w:=run_loadVar_row w g t 33 cs fr _ hg Tryz.underlying33 rfl hl
 have hr:Tryz.f69.results=#[.cell 2 33,.tmp 3,.tmp 4]:=rfl
 have hp':tmps[2]?.getD undef = .pointer (some ⟨g,0,none⟩):=by simpa using hp
 simp [results,hp',asAddr,hld]
theorem bt_set {g n:Nat} {w a:World} {j:Nat} {v:Value} (h:Below n w a) (hg:n≤g):Below n w (a.setCell ⟨g,j,none⟩ v):=h.setCell hg _
theorem other_set {w:World} {g k j:Nat} {v:Value} {o:Obj} (h:w.heap[k]? = some o) (hk:k≠g):(w.setCell ⟨g,j,none⟩ v).heap[k]? = some o:=by
 rw [Below.heap_setCell _ _ _ _ (show k≠(⟨g,j,none⟩:Addr).block from hk)]
 exact h
theorem rd_set {w:World} {g s b j:Nat} {v:Value} {xs:List Int} {e:Int} (h:Fi.Rd w g s xs e) (h1:g≠b) (h2:s≠b):Fi.Rd (w.setCell ⟨b,j,none⟩ v) g s xs e:=
 rd_blk h (Below.heap_setCell _ _ _ _ (show g≠(⟨b,j,none⟩:Addr).block from h1)) (Below.heap_setCell _ _ _ _ (show s≠(⟨b,j,none⟩:Addr).block from h2))
end Go.Proofs.YtiollhmbdhepkaaGreatDoor
namespace Go.Proofs.YtiollhmbdhepkaaGreatDoor
open Go.RowKit Go.Shelf
set_option maxRecDepth 100000
theorem Rd_len {w:World} {g s:Nat} {xs:List Int} {e:Int} (h:Fi.Rd w g s xs e):(xs.length:Int)≤9223372036854775807:=by
 obtain ⟨a,cap,-,-,-,-,l1,l2,-⟩:=h
 unfold maxLen at l2
 omega
theorem ahR_fin4 {ys yI yN:List Int} {iv eI nv eN:Int} (h1:rNm 1048576 ys 0=(iv,yI,eI)) (h2:rNm 1099511627776 yI eI=(nv,yN,eN)) (h3:(rFn yN eN).2.2=4):(ahR 3 ys 0).2.2=4:=by
 have e1:hI 3=true:=by decide
 have e2:hN 3=true:=by decide
 have e3:hF 3=true:=by decide
 have e4:hC 3=false:=by decide
 have e5:hO 3=false:=by decide
 have e6:hT 3=true:=by decide
 unfold ahR thn
 rw [e1,e2,e3,e4,e5,e6]
 simp only [opt_t,opt_f,h1,h2]
 rw [rTx_stp _ _ _ (by rw [h3];decide),h3]
end Go.Proofs.YtiollhmbdhepkaaGreatDoor
namespace Go.Proofs.YtiollhmbdhepkaaGreatDoor
open Go.RowKit Go.Shelf
set_option maxRecDepth 100000
theorem rNm_drop {m:Int} {ys:List Int} {v:Int} {y:List Int} {e:Int} (h:rNm m ys 0=(v,y,e)):∃u,u≤ys.length∧y=ys.drop u:=by
 unfold rNm rN at h
 rw [if_pos rfl] at h
 have e1:ys.drop (Fi.naU ys m).toNat=y:=congrArg (fun q=>q.2.1) h
 refine ⟨min (Fi.naU ys m).toNat ys.length,Nat.min_le_right _ _,?_⟩
 rw [←e1]
 rcases Nat.le_total (Fi.naU ys m).toNat ys.length with q | q
 · rw [Nat.min_eq_left q]
 · rw [Nat.min_eq_right q,List.drop_of_length_le q,List.drop_length]
theorem rN_len (xs:List Int) (e m:Int):(rN xs e m).2.1.length≤xs.length:=by
 unfold rN
 split
 · simp only [List.length_drop];omega
 · exact Nat.le_refl _
theorem gsp_len (xs:List Int) (e t l:Int):(gsp xs e t l).2.1.length≤xs.length:=rN_len _ _ _
theorem glp_len:∀(k:Nat) (l:List Sp) (p:Sp) (xs:List Int) (e:Int),(glp k l p xs e).2.1.length≤xs.length
 | 0,_,_,_,_=>Nat.le_refl _
 | k+1,l,p,xs,e=>by
   unfold glp
   simp only
   exact Nat.le_trans (glp_len k _ _ _ _) (Nat.le_trans (gsp_len _ _ _ _) (rN_len _ _ _))
theorem getP_used (xs:List Int):0≤(getP xs).2.1∧(getP xs).2.1≤1032:=by
 unfold getP
 simp only
 have h:(getA (xs.take 1032)).2.1.length≤(xs.take 1032).length:=by
  unfold getA
  simp only
  exact Nat.le_trans (glp_len _ _ _ _ _) (Nat.le_trans (gsp_len _ _ _ _) (Nat.le_trans (rN_len _ _ _) (rN_len _ _ _)))
 have h2:(xs.take 1032).length≤1032:=by rw [List.length_take];omega
 split
 · simp only;omega
 · split<;>simp
end Go.Proofs.YtiollhmbdhepkaaGreatDoor
namespace Go.Proofs.YtiollhmbdhepkaaGreatDoor
open Go.RowKit Go.Shelf
set_option maxRecDepth 100000
def BB (xs:List Int):Prop:=∀i,0≤xs.getD i 0∧xs.getD i 0<256
theorem BB.drop {xs:List Int} (h:BB xs) (n:Nat):BB (xs.drop n):=Fi.bytes_drop xs n h
theorem BB.take {xs:List Int} (h:BB xs) (n:Nat):BB (xs.take n):=fun i=>by
 have:=h i
 rw [List.getD_eq_getElem?_getD,List.getElem?_take]
 split
 · rwa [List.getD_eq_getElem?_getD] at this
 · simp
def Rl {α:Type} (A:Rr α) (P:α→Prop):Prop:=∀xs e,BB xs→BB (A xs e).2.1∧(A xs e).2.1.length≤xs.length∧(xs.length≤100000→P (A xs e).1)
theorem Rl.opt {α:Type} {A:Rr α} {P:α→Prop} (h:Rl A P) (b:Bool) {d:α} (hd:P d):Rl (opt b A d) P:=by
 cases b with
 | true=>exact h
 | false=>exact fun xs e hb=>⟨hb,Nat.le_refl _,fun _=>hd⟩
theorem Rl.thn {α β:Type} {A:Rr α} {B:Rr β} {P:α→Prop} {Q:β→Prop} (ha:Rl A P) (hb:Rl B Q):Rl (thn A B) (fun x=>P x.1∧Q x.2):=fun xs e h=>by
 obtain ⟨a1,a2,a3⟩:=ha xs e h
 obtain ⟨b1,b2,b3⟩:=hb (A xs e).2.1 (A xs e).2.2 a1
 exact ⟨b1,Nat.le_trans b2 a2,fun hl=>⟨a3 hl,b3 (Nat.le_trans a2 hl)⟩⟩
theorem rNm_rl (m:Int) (hm:0≤m):Rl (rNm m) (fun n=>0≤n∧n≤m):=fun xs e h=>by
 obtain ⟨h1,h2,h3,h4⟩:=rN_bd xs e m hm h
 exact ⟨h4,h3,fun _=>⟨h1,h2⟩⟩
theorem rFn_rl:Rl rFn (fun _=>True):=fun xs e h=>by
 unfold rFn
 split
 · split
   · exact ⟨h,Nat.le_refl _,fun _=>trivial⟩
   · split
     · exact ⟨h.drop 1,by simp only [List.length_drop];omega,fun _=>trivial⟩
     · exact ⟨h.drop 1,by simp only [List.length_drop];omega,fun _=>trivial⟩
 · exact ⟨h,Nat.le_refl _,fun _=>trivial⟩
theorem zn_bb:BB zn:=fun i=>by
 unfold zn
 rw [List.getD_eq_getElem?_getD,List.getElem?_replicate]
 split<;>simp
theorem rOn_rl:Rl rOn (fun l=>l.length=16∧BB l):=fun xs e h=>by
 unfold rOn
 split
 · split
   · exact ⟨h,Nat.le_refl _,fun _=>⟨rfl,zn_bb⟩⟩
   · exact ⟨h.drop 16,by simp only [List.length_drop];omega,fun _=>⟨by simp only [List.length_take];omega,h.take 16⟩⟩
 · exact ⟨h,Nat.le_refl _,fun _=>⟨rfl,zn_bb⟩⟩
theorem rTx_rl (m:Int):Rl (rTx m) (fun l=>l.length≤100000):=fun xs e h=>by
 unfold rTx
 split
 · simp only
   unfold Fi.txR Fi.txS
   split
   · exact ⟨h.drop _,by simp only [List.length_drop];omega,fun hl=>by rw [List.length_take,List.length_drop];omega⟩
   · exact ⟨h,Nat.le_refl _,fun _=>by simp⟩
 · exact ⟨h,Nat.le_refl _,fun _=>by simp⟩
theorem ahR_rl (k:Int):Rl (ahR k) (fun x=>(0≤x.1∧x.1≤1048576)∧(0≤x.2.1∧x.2.1≤1099511627776)∧True∧(0≤x.2.2.2.1∧x.2.2.2.1≤65536)∧(x.2.2.2.2.1.length=16∧BB x.2.2.2.2.1)∧x.2.2.2.2.2.length≤100000):=by
 unfold ahR
 exact ((rNm_rl _ (by omega)).opt _ (by omega)).thn (((rNm_rl _ (by omega)).opt _ (by omega)).thn ((rFn_rl.opt _ trivial).thn (((rNm_rl _ (by omega)).opt _ (by omega)).thn ((rOn_rl.opt _ ⟨rfl,zn_bb⟩).thn ((rTx_rl _).opt _ (by simp))))))
theorem glp_num:∀(k:Nat) (l:List Sp) (p:Sp) (xs:List Int) (e:Int),(glp k l p xs e).1.length=l.length+k+1
 | 0,l,p,_,_=>by simp [glp]
 | k+1,l,p,xs,e=>by
   unfold glp
   simp only
   rw [glp_num k,List.length_append,List.length_singleton]
   omega
theorem getP_num (xs:List Int) (h:BB xs):(getP xs).1.length≤100000:=by
 unfold getP
 simp only
 have h1:BB (xs.take 1032):=h.take _
 split
 · rw [List.length_reverse]
   unfold getA
   simp only
   rw [glp_num]
   obtain ⟨a1,a2,a3,a4⟩:=rN_bd (xs.take 1032) 0 1099511627776 (by omega) h1
   obtain ⟨b1,b2,-,-⟩:=rN_bd (rN (xs.take 1032) 0 1099511627776).2.1 (rN (xs.take 1032) 0 1099511627776).2.2 (min 63 ((rN (xs.take 1032) 0 1099511627776).1 / 2)) (by omega) a4
   simp only [List.length_nil]
   omega
 · split<;>simp
theorem fk_zero:FK Fm.zero:=⟨by decide,by decide,by decide,by decide,by decide,by decide,by decide,by decide,rfl,zn_bb⟩
theorem ahM_fk (xs:List Int) (h:BB xs) (hl:xs.length≤100000):FK (ahM xs).1∧(ahM xs).1.sp.length≤100000∧(ahM xs).1.tx.size≤140737488355328:=by
 have hz:FK Fm.zero∧Fm.zero.sp.length≤100000∧Fm.zero.tx.size≤140737488355328:=⟨fk_zero,by simp [Fm.zero],by decide⟩
 have hE:∀e,FK (errM e).1∧(errM e).1.sp.length≤100000∧(errM e).1.tx.size≤140737488355328:=fun _=>hz
 unfold ahM
 simp only
 split
 · exact hE _
 split
 · exact hE _
 rename_i hk
 have hk0:=h 0
 generalize xs.getD 0 0=k at *
 obtain ⟨q1,q2,q3⟩:=ahR_rl k (xs.drop 1) 0 (h.drop 1)
 obtain ⟨c1,c2,-,c4,c5,c6⟩:=q3 (by rw [List.length_drop];omega)
 have hF:∀l,l.length≤100000→FK (mkF k (ahR k (xs.drop 1) 0).1 l)∧(mkF k (ahR k (xs.drop 1) 0).1 l).sp.length≤100000∧(mkF k (ahR k (xs.drop 1) 0).1 l).tx.size≤140737488355328:=fun l hl=>by
  refine ⟨⟨hk0.1,hk0.2,?_,?_,?_,?_,?_,?_,c5.1,c5.2⟩,hl,?_⟩
  · show -9223372036854775808≤(ahR k (xs.drop 1) 0).1.1;omega
  · show (ahR k (xs.drop 1) 0).1.1≤9223372036854775807;omega
  · show -9223372036854775808≤(ahR k (xs.drop 1) 0).1.2.1;omega
  · show (ahR k (xs.drop 1) 0).1.2.1≤9223372036854775807;omega
  · show -9223372036854775808≤(ahR k (xs.drop 1) 0).1.2.2.2.1;omega
  · show (ahR k (xs.drop 1) 0).1.2.2.2.1≤9223372036854775807;omega
  · show (Fi.strB (ahR k (xs.drop 1) 0).1.2.2.2.2.2).size≤_
    rw [Fi.strB_size]
    omega
 split
 · exact hE _
 split
 · split
   · exact hE _
   · exact hF _ (getP_num _ q1)
 · exact hF _ (by simp)
end Go.Proofs.YtiollhmbdhepkaaGreatDoor
namespace Go.Proofs.YtiollhmbdhepkaaGreatDoor
open Go.RowKit Go.Shelf
set_option maxRecDepth 100000
structure Rdg where
 k:Int
 c:Int
 n:Int
 body:List Int
 sld:List Int
 e:Int
def rdErr (e:Int):Rdg:=⟨0,0,0,[],[],e⟩
def rdM (xs:List Int):Rdg:=
 if 1200<xs.length then rdErr 5
 else if 1<(rBt xs 0).1 then rdErr 4
 else
  let c:=rNm 1099511627776 (rBt xs 0).2.1 (rBt xs 0).2.2
  let n:=rNm 1099511627776 c.2.1 c.2.2
  if fltE n.2.2≠0 then rdErr (fltE n.2.2)
  else if n.2.1.length<16 then rdErr 3
  else ⟨(rBt xs 0).1,c.1,n.1,(xs.drop (xs.length-n.2.1.length)).take (n.2.1.length-16),xs.drop (xs.length-n.2.1.length),0⟩
abbrev x5 (k c n:Int) (bv sv:Value):Array Value:=#[.int .u8 k,.int .i64 c,.int .i64 n,bv,sv]
def GB (w:World) (g:Nat) (k c n:Int) (bv sv:Value):Prop:=w.heap[g]? = some (.cells #[.int .u8 k,.int .i64 c,.int .i64 n,bv,sv] 104 (0,0))
theorem GB.new (w:World) (k c n:Int) (bv sv:Value):GB (w.alloc (.cells #[.int .u8 k,.int .i64 c,.int .i64 n,bv,sv] 104)) w.heap.size k c n bv sv:=heap_alloc_new _ _
theorem GB.kept {w w':World} {g:Nat} {k c n:Int} {bv sv:Value} (h:GB w g k c n bv sv) (hb:Below w.heap.size w w'):GB w' g k c n bv sv:=blk_kept h hb (blk_lt h)
theorem GB.bt {w w':World} {g g':Nat} {k c n:Int} {bv sv:Value} (h:GB w g k c n bv sv) (hb:Bt g' w w') (hg:g≠g'):GB w' g k c n bv sv:=(hb.block g (blk_lt h) hg).trans h
theorem GB.frz {w:World} {g:Nat} {k c n:Int} {bv sv:Value} (h:GB w g k c n bv sv) (j:Nat):w.frozen? ⟨g,j,none⟩=false:=by
 unfold GB at h
 simp [World.frozen?,h]
theorem GB.set {w:World} {g:Nat} {k c n k' c' n':Int} {bv sv bv' sv':Value} (h:GB w g k c n bv sv) (j:Nat) (v:Value) (e:(x5 k c n bv sv).setIfInBounds j v=x5 k' c' n' bv' sv'):GB (w.setCell ⟨g,j,none⟩ v) g k' c' n' bv' sv':=by
 change _=some (Obj.cells (x5 k' c' n' bv' sv') _ _)
 rw [←e]
 unfold GB at h
 simp [World.setCell,Array.getElem?_modify,h]
structure GC (w:World) (g:Nat) (k c n:Int) (bv sv:Value):Prop where
 c0:w.cell? ⟨g,0,none⟩=some (.int .u8 k)
 c1:w.cell? ⟨g,1,none⟩=some (.int .i64 c)
 c2:w.cell? ⟨g,2,none⟩=some (.int .i64 n)
 c3:w.cell? ⟨g,3,none⟩=some bv
 c4:w.cell? ⟨g,4,none⟩=some sv
theorem GB.gc {w:World} {g:Nat} {k c n:Int} {bv sv:Value} (h:GB w g k c n bv sv):GC w g k c n bv sv:=by
 unfold GB at h
 refine ⟨?_,?_,?_,?_,?_⟩<;>simp [World.cell?,h]
theorem infoG:(Tryz.prog.info? 104).map (·.size)=some 5:=by kernel_rfl
theorem g5_one (k c n:Int) (a a':Option Addr) (m m' cp cp':Nat):(#[Value.int .u8 k,.int .i64 c,.int .i64 n,.slice a m cp,.slice a' m' cp']:Array Value).all (·.oneCell')=true:=by first | kernel_rfl | simp [Value.oneCell']
theorem k4_one (k c n:Int) (a:Option Addr) (m cp:Nat):(#[Value.int .u8 k,.int .i64 c,.int .i64 n,.slice a m cp]:Array Value).all (·.oneCell')=true:=by first | kernel_rfl | simp [Value.oneCell']
theorem retR {tmps:Array Value} {w:World} {g:Nat} {cs:Array Value} {t:TypeId} {fr:Nat × Nat} (hp:tmps.getD 2 undef = .pointer (some ⟨g,0,none⟩))
 (hg:w.heap[g]? = some (.cells cs t fr)) (hl:(Tryz.prog.info? 104).map (·.size)=some cs.size):(results Tryz.f66 tmps).run Tryz.prog w = .ok (.tuple #[.agg cs,tmps.getD 3 undef]) w:=by
 have hld:(loadVar 104 ⟨g,0,none⟩).run Tryz.prog w = .ok (.agg cs) w:=run_loadVar_row w g t 104 cs fr _ hg Tryz.underlying104 rfl hl
 have hr:Tryz.f66.results=#[.cell 2 104,.tmp 3]:=rfl
 have hp':tmps[2]?.getD undef = .pointer (some ⟨g,0,none⟩):=by simpa using hp
 simp [results,hp',asAddr,hld]
theorem pfault_any (g s:Nat) (xs:List Int) (e:Int) (w:World) (h:Fi.Rd w g s xs e) :
 Calls Tryz.prog 91 #[.pointer (some ⟨g,0,none⟩)] w fun r w'=>r = .returned (.int .i64 (fltE e))∧w'=w:=by
 have c:=Fi.err_any g s xs e w h
 unfold fltE
 clear h
 by_cases h5:e=5
 · subst h5
   go_enter Tryz.func91,Tryz.ntmps91
   go_wp2_with fail
   refine c.mono ?_
   rintro e w1 ⟨rfl,e1⟩
   rw [e1]
   clear c e1
   go_wp2
   go_ret
   exact ⟨rfl,rfl⟩
 · have t1:(e != 5)=true:=by simpa using h5
   rw [if_neg h5]
   go_enter Tryz.func91,Tryz.ntmps91
   go_wp2_with fail
   refine c.mono ?_
   rintro e w1 ⟨rfl,e1⟩
   rw [e1]
   clear c e1
   go_wp2
   go_ret
   exact ⟨rfl,rfl⟩
theorem rBt_len (xs:List Int) (h:BB xs):BB (rBt xs 0).2.1∧(rBt xs 0).2.1.length≤xs.length∧0≤(rBt xs 0).1∧(rBt xs 0).1<256:=by
 cases xs with
 | nil=>rw [rBt_nil];exact ⟨h,Nat.le_refl _,by decide,by decide⟩
 | cons x ys=>
   rw [rBt_cons]
   exact ⟨fun i=>by simpa using h (i+1),by simp,(h 0).1,(h 0).2⟩
theorem sl_other {w:World} {b o g j n c:Nat} {v:Value} {X:List Int} (h:Sl w (.slice (some ⟨b,o,none⟩) n c) X) (hg:b≠g):Sl (w.setCell ⟨g,j,none⟩ v) (.slice (some ⟨b,o,none⟩) n c) X:=
 sl_heap h fun k hk=>by
  obtain rfl:b=k:=by simpa [rowB] using hk
  exact Below.heap_setCell _ _ _ _ (show b≠(⟨g,j,none⟩:Addr).block from hg)
theorem sl_other2 {w:World} {a:Option Addr} {g j n c:Nat} {v:Value} {X:List Int} (h:Sl w (.slice a n c) X) (hg:∀x,a=some x→x.block≠g):Sl (w.setCell ⟨g,j,none⟩ v) (.slice a n c) X:=
 sl_heap h fun k hk=>by
  cases a with
  | none=>simp [rowB] at hk
  | some x=>
    obtain rfl:x.block=k:=by simpa [rowB] using hk
    exact Below.heap_setCell _ _ _ _ (show x.block≠(⟨g,j,none⟩:Addr).block from hg x rfl)
theorem sl_otherR {w:World} {b o g n c:Nat} {cs:Array Value} {X:List Int} (h:Sl w (.slice (some ⟨b,o,none⟩) n c) X) (hg:b≠g):Sl (w.setRow g cs) (.slice (some ⟨b,o,none⟩) n c) X:=
 sl_heap h fun k hk=>by
  obtain rfl:b=k:=by simpa [rowB] using hk
  exact setRow_other w g b cs hg
theorem sl_otherR2 {w:World} {a:Option Addr} {g n c:Nat} {cs:Array Value} {X:List Int} (h:Sl w (.slice a n c) X) (hg:∀x,a=some x→x.block≠g):Sl (w.setRow g cs) (.slice a n c) X:=
 sl_heap h fun k hk=>by
  cases a with
  | none=>simp [rowB] at hk
  | some x=>
    obtain rfl:x.block=k:=by simpa [rowB] using hk
    exact setRow_other w g x.block cs (hg x rfl)
theorem own_far {w:World} {base t sz n m c:Nat} {a:Option Addr} {xs:List Value} (h:w.ownsRow base t sz (.slice a m c) n xs) (x:Addr) (hx:a=some x):base≤x.block:=by
 obtain ⟨-,h2⟩:=h
 rcases h2 with h2 | ⟨g,cap,cur,hv,hg,-⟩
 · obtain ⟨h2,-⟩:=h2
   subst hx
   cases h2
 · subst hx
   cases hv
   exact hg
theorem Rd_bb {w:World} {g s:Nat} {xs:List Int} {e:Int} (h:Fi.Rd w g s xs e):BB xs:=h.bytes
end Go.Proofs.YtiollhmbdhepkaaGreatDoor
namespace Go.Proofs.YtiollhmbdhepkaaGreatDoor
open Go.RowKit Go.Shelf
set_option maxRecDepth 100000
theorem wp_copy_str {P:Program} {w:World} {o:Oper} {a:Act} {K:Act→World→Prop} {Q:Exit→Act→World→Prop} (d s:Operand) (dT sT:TypeId)
 (ho:o.op = .call { callee:=.builtin .copy,args:=#[d,s],argTypes:=#[dT,sT] }) (elem:TypeId) (hu:P.underlying dT=some (.slice elem)) (hsz:(P.info? elem).map (·.size)=some 1)
 (g off dLen dCap:Nat) (S:ByteArray) (hd:a.eval d = .slice (some ⟨g,off,none⟩) dLen dCap) (hs:a.eval s = .string S) (cur:Array Value) (t:TypeId) (hg:w.heap[g]? = some (.cells cur t (0,0))) (hle:S.size≤dLen) (hfit:off+S.size≤cur.size)
 (h:K (a.put o.dst (goInt S.size)) (w.setRow g (cur.toList.take off++Lib.byteCells S.data.toList++cur.toList.drop (off+S.size)).toArray)):o.wp P a w K Q:=by
 have hrun:=Lib.run_copy_row_string (P:=P) w dT sT o.type elem g off dLen dCap S cur t hu hsz hg hle hfit
 unfold Oper.wp
 simp only [execOp,ho,resolve,invoke,builtin,Sem.run_bind,Sem.run_pure,List.map_toArray,List.map_cons,List.map_nil,hd,hs,hrun,Result.andThen_ok]
 exact h
theorem hid_intro {p:Prop} (h:p):Hid p:=h
theorem size5n:(Tryz.prog.info? 5).map (·.size)=some 1:=by kernel_rfl
theorem cells_bytes:∀{xs:List Int},(∀i,0≤xs.getD i 0∧xs.getD i 0<256)→Lib.byteCells (Fi.strB xs).data.toList=xs.map (Value.int .u8):=fun {xs} h=>by
 unfold Lib.byteCells Fi.strB
 rw [List.map_map]
 refine List.map_congr_left fun x hx=>?_
 obtain ⟨i,hi,rfl⟩:=List.getElem_of_mem hx
 have:=h i
 simp only [List.getD,List.getElem?_eq_getElem hi,Option.getD_some] at this
 simp only [Function.comp]
 congr 1
 simp only [UInt8.toNat_ofNat']
 omega
theorem nonce_copy (k id n cd:Int) (fin:Bool) (tx:ByteArray) (sp:List Sp) (sv:Value) (ov NO:List Int) (h:(ov=[]∧NO=zn)∨(ov.length=16∧NO=ov∧∀i,0≤ov.getD i 0∧ov.getD i 0<256)) :
 ((plA ⟨k,id,n,cd,fin,tx,zn,sp⟩ sv).toList.take 6++Lib.byteCells (Fi.strB ov).data.toList++(plA ⟨k,id,n,cd,fin,tx,zn,sp⟩ sv).toList.drop (6+(Fi.strB ov).size)).toArray=plA ⟨k,id,n,cd,fin,tx,NO,sp⟩ sv∧NO.length=16∧(Fi.strB ov).size≤16:=by
 rcases h with ⟨rfl,rfl⟩ | ⟨h1,rfl,h2⟩
 · exact ⟨rfl,rfl,Nat.zero_le _⟩
 · have hs:(Fi.strB NO).size=16:=by rw [Fi.strB_size];exact h1
   refine ⟨?_,h1,by rw [hs];exact Nat.le_refl _⟩
   rw [cells_bytes h2,hs]
   rfl
end Go.Proofs.YtiollhmbdhepkaaGreatDoor
