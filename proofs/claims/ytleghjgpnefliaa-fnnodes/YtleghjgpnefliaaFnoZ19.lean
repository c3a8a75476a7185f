/-
  What the model's 'l1Bend' comes to: some tree in new memory.
-/
import Derived.Test.YtleghjgpnefliaaFnoZ18
import Derived.Test.YtleghjgpnefliaaFnoZ1
import Derived.Deep.RegionLaw
import Derived.Test.YtleghjgpnefliaaFnoZ7
import Derived.Test.YtleghjgpnefliaaFnoZ6
import Derived.Test.YtleghjgpnefliaaFnoZ2
namespace Go.Proofs.Ytleghjgpnefliaa
open Go.RowKit
set_option linter.unusedVariables false
set_option linter.unusedSimpArgs false
def BdEnd (w w':World) (e:Ending) (p:Nat) (cao:Option Addr) (clen ccap D c:Nat):Prop :=
 ∃ K N ao len cap ts,e=.returned (.agg #[.int .i64 K,.int .i64 N,.slice ao len cap])∧Drw w w' p cao clen ccap∧Hs w.heap.size w'.heap.size w' D ao len ts∧cntS ts≤c
def SaidBd (d:Nat):Prop:=∀ (p:Nat) (cao:Option Addr) (clen ccap L B:Nat) (k n:Int) (ao:Option Addr) (len cap:Nat) (ts:List Tr) (w:World),Cur w p cao clen ccap->p<L->B≤w.heap.size->Hs L B w d ao len ts->cntS ts≤255 →
    Calls Try.prog 71 #[.pointer (some ⟨p,0,none⟩),.agg #[.int .i64 k,.int .i64 n,.slice ao len cap]] w fun e w'=>BdEnd w w' e p cao clen ccap (d+6) (cntS ts+6)
theorem bd_end {w wr:World} {p:Nat} {cao:Option Addr} {clen ccap d D c:Nat} {K N:Int} {ao:Option Addr} {len cap:Nat} {us:List Tr} (h:BdRel w wr p cao clen ccap d K N (.slice ao len cap) us) (hp:p<w.heap.size) (hl:us.length≤1000000) (hD:d+1≤D) (hc:cntS us≤c) :
 BdEnd w (set3 wr (w.heap.size+1) 0 (.int .i64 K) (.int .i64 N) (.slice ao len cap)) (.returned (.agg #[.int .i64 K,.int .i64 N,.slice ao len cap])) p cao clen ccap D c:=by
 obtain⟨h1,h2⟩:=bd_done h hp hl (.int .i64 K) (.int .i64 N) (.slice ao len cap)
 exact⟨K,N,ao,len,cap,us,rfl,h1,h2.deeper hD,hc⟩
set_option maxRecDepth 100000 in
set_option maxHeartbeats 4000000 in
theorem bd_step (d:Nat) (IH:0<d->SaidBd (d - 1)):SaidBd d:=by
 intro p cao clen ccap L B k n ao len cap ts w hc hpL hB hs hcnt
 have hp:=hc.lt
 have htl:ts.length≤255:=by have:=Qem ts;omega
 have hd0:0<ts.length->0<d:=by
  intro h
  cases d with
  | zero=>obtain⟨_,rfl⟩:=hs;simp at h
  | succ d=>omega
 have HD0:Hid (0<ts.length->0<d):=hd0
 have HCN:Hid (cntS ts≤255):=hcnt
 clear hd0
 have hX:Below w.heap.size w ((w.alloc (.cells #[.int .i64 k,.int .i64 n,.slice ao len cap] 26)).alloc (.cells #[.int .i64 0,.int .i64 0,.slice none 0 0] 26)):=((Below.refl _ _).alloc (Nat.le_refl _) _).alloc (by simp) _
 go_enter Try.func71,Try.ntmps71
 go_wp2_with fail
 refine (lc2_any d L B k n ao len cap ts _ (by simp;omega) (hs.below hX hB) (by omega)).mono ?_
 rintro e w1 ⟨v,rfl,hb1,ha1⟩
 simp only [World.size_alloc] at hb1 ha1
 obtain⟨ao1,cap1,rfl⟩:=ap_form ha1
 have hR:=bd_copied hc hb1 ha1
 obtain⟨m,hm⟩:∃ m,m=ts.length:=⟨_,rfl⟩
 rw [← hm] at hR htl ⊢
 have HM:Hid (m=ts.length):=hm
 have hml:ts.length≤1000000:=by omega
 have y0:w1.heap[w.heap.size]?=some (.cells #[.int .i64 k,.int .i64 n,.slice ao len cap] 26 (0,0)):=(hb1.block _ (by omega)).trans ((Below.heap_alloc _ _ _ (by simp)).trans (Qac rfl))
 obtain⟨f0,f1,f2⟩:=Qaf y0
 have f3:=Qad y0
 clear y0 hb1 ha1 hX hs hm
 go_wp2_with fail
 focus
  refine (Qcs p cao clen ccap 2 _ hR.drw.cur (by omega) (by omega)).mono ?_
  rintro e wa ⟨bb,rfl,hD⟩
  have hRa:=bd_drw hR hp hD
  clear hR hD f0 f1 f2 f3
  cases bb
 rotate_left 2
 focus
  refine (Qat p cao clen ccap 5 _ hR.drw.cur (by omega) (by omega)).mono ?_
  rintro e w2 ⟨x,rfl,hx0,hx5,hD⟩
  have hR2:=bd_drw hR hp hD
  clear hR hD f0 f1 f2 f3
 rotate_left 1
 focus
  have g2:=(Qaf hRa.box).2.2
  go_wp2_with fail
  refine (Qat p cao clen ccap 5 _ hRa.drw.cur (by omega) (by omega)).mono ?_
  rintro e w2 ⟨x,rfl,hx0,hx5,hD⟩
  have hR2:=bd_drw hRa hp hD
  clear hRa hD g2
 rotate_left 1
 · have hmp:0<m:=by omega
   have hd:0<d:=HD0.out (by have:=HM.out;omega)
   have g2:=(Qaf hRa.box).2.2
   go_wp2_with fail
   refine (Qat p cao clen ccap m _ hRa.drw.cur (by omega) (by omega)).mono ?_
   rintro e w3 ⟨x,rfl,hx0,hxm,hD⟩
   have hR3:=bd_drw hRa hp hD
   clear hRa hD g2
   obtain⟨j,rfl⟩:∃ j:Nat,x=j:=⟨x.toNat,by omega⟩
   have hjm:j<m:=by omega
   have hjt:j<ts.length:=by have:=HM.out;omega
   have hz3:=bd_size hR3
   obtain⟨ao2,cap2,e,bs,ho,hnd,hrng⟩:=Qdm hR3.ap rfl (by omega)
   injection e with e1 e2 e3
   subst e1
   clear e2 e3
   rcases ho with ⟨h0,_⟩|⟨g,cs,bss,e1,hlen,hm',hg,hcs,hbl,hbs,hE⟩
   · omega
   subst e1
   obtain⟨ao',len',cap',c0,c1,c2,hr⟩:=hE j hjt (by omega)
   have hgr:w.heap.size+2≤g∧g<w3.heap.size:=hrng g (by rw [hbs];simp)
   have hsE:Hs (w.heap.size+2) w3.heap.size w3.drew (d - 1) ao' len' ts[j].A:=(hr.hs fun b hb=>hrng b (by rw [hbs];exact List.mem_cons_of_mem _ (Qbj (by omega) hb))).drew
   have hDd:Drw w3 w3.drew p cao clen ccap:=⟨Qae _ (Below.refl _ _).drew,hR3.drw.cur.below (Below.refl _ _).drew⟩
   have hR3d:=bd_drw hR3 hp hDd
   have hcE:cntS ts[j].A≤255:=by have:=Qcn ts j hjt;have:=HCN.out;omega
   have hp2:p<w.heap.size+2:=by omega
   have hBD:w3.heap.size≤w3.drew.heap.size:=Nat.le_refl _
   have PART:Hid (∀ (w4:World) (K3 N3:Int) (ao3:Option Addr) (len3 cap3:Nat) (ts3:List Tr),Drw w3.drew w4 p cao clen ccap->Hs w3.drew.heap.size w4.heap.size w4 (d - 1+6) ao3 len3 ts3->cntS ts3≤cntS ts[j].A+6 →
    w4.cell? ⟨w.heap.size,2,none⟩=some (.slice (some ⟨g,0,none⟩) m cap1)∧w4.cell? ⟨w.heap.size,0,none⟩=some (.int .i64 k)∧w4.cell? ⟨w.heap.size,1,none⟩=some (.int .i64 n) ∧
    w4.cell? ⟨g,j*3,none⟩=some (.int .i64 ts[j].K)∧w4.cell? ⟨g,j*3+1,none⟩=some (.int .i64 ts[j].N)∧w4.cell? ⟨g,j*3+2,none⟩=some (.slice ao' len' cap')∧(∀ o,w4.frozen? ⟨g,o,none⟩=false) ∧
    w4.cell? ⟨w.heap.size+1,0,none⟩=some (.int .i64 0)∧w4.cell? ⟨w.heap.size+1,1,none⟩=some (.int .i64 0)∧w4.cell? ⟨w.heap.size+1,2,none⟩=some (.slice none 0 0)∧(∀ o,w4.frozen? ⟨w.heap.size+1,o,none⟩=false) ∧
    BdEnd w (set3 (set3 w4 g (j*3) (.int .i64 K3) (.int .i64 N3) (.slice ao3 len3 cap3)) (w.heap.size+1) 0 (.int .i64 k) (.int .i64 n) (.slice (some ⟨g,0,none⟩) m cap1)) (.returned (.agg #[.int .i64 k,.int .i64 n,.slice (some ⟨g,0,none⟩) m cap1])) p cao clen ccap (d+6) (cntS ts+6)):=by
    intro w4 K3 N3 ao3 len3 cap3 ts3 hD4 hs4 hc4
    obtain⟨⟨cs4,hg4,hsz4⟩,_,hgw,_,hR4,hend⟩:=bd_part (cap3:=cap3) hR3d hp hml j hjt hD4 hs4 (by omega) (K3:=K3) (N3:=N3)
    obtain⟨b0,b1,b2⟩:=Qaf hR4.box
    obtain⟨r0,r1,r2⟩:=Qaf hR4.res
    have hk:∀ o,w4.cell? ⟨g,o,none⟩=w3.cell? ⟨g,o,none⟩:=fun o=>World.cell?_of_block (a:=⟨g,o,none⟩) (hD4.grown.block g hgw (by simp;omega))
    obtain⟨hdr,hhs⟩:=hend (.int .i64 k) (.int .i64 n) (.slice (some ⟨g,0,none⟩) m cap1)
    have hcs2:=cntS_set ts j hjt ⟨K3,N3,ts3⟩
    rw [Qdd,Qdd] at hcs2
    simp only at hcs2
    have hde:d - 1+6+1=d+6:=by omega
    rw [hde] at hhs
    exact⟨b2,b0,b1,(hk _).trans c0,(hk _).trans c1,(hk _).trans c2,Qad hg4,r0,r1,r2,Qad hR4.res,_,_,_,_,_,_,rfl,hdr,hhs,by omega⟩
   obtain⟨b0,b1,b2⟩:=Qaf hR3.box
   have hjI:(0:Int)≤(j:Int):=by omega
   have hjl:(j:Int)<(m:Int):=by omega
   clear hE hr hrng hnd hbs hbl hcs hg hlen hm' hR3d hDd
   have hcD:=hR3.drw.cur.below (Below.refl w3.heap.size w3).drew
   go_wp2_with fail
   go_region_law (go_simp;go_at_call 71;refine (IH hd p cao clen ccap (w.heap.size+2) w3.heap.size _ _ _ _ _ ts[j].A _ hcD hp2 hBD hsE hcE).mono ?_;rintro e w4 ⟨K3,N3,ao3,len3,cap3,ts3,rfl,hD4,hs4,hc4⟩;obtain⟨q2,q0,q1,s0,s1,s2,s3,r0,r1,r2,r3,HE⟩:=PART.out w4 K3 N3 ao3 len3 cap3 ts3 hD4 hs4 hc4)
   all_goals
    go_wp2_with fail
    refine bodyPost_ret (v:=.agg #[.int .i64 k,.int .i64 n,.slice (some ⟨g,0,none⟩) m cap1]) (by simp [results,Try.results71,go_sem,r0,r1,r2]) rfl ?_
    exact HE
 all_goals
  rcases (by omega:x=0∨x=1∨x=2∨x=3∨x=4) with rfl|rfl|rfl|rfl|rfl
  · go_wp2_with fail
    refine (Qat p cao clen ccap 8 _ hR2.drw.cur (by omega) (by omega)).mono ?_
    rintro e w3 ⟨y,rfl,hy0,hy8,hD⟩
    have hR3:=bd_drw hR2 hp hD
    obtain⟨f0,f1,f2⟩:=Qaf hR3.box
    have f3:=Qad hR3.box
    obtain⟨r0,r1,r2⟩:=Qaf hR3.res
    have r3:=Qad hR3.res
    have HE:=bd_end (D:=d+6) (c:=cntS ts+6) (bd_setK hR3 hp y) hp hml (by omega) (by omega)
    go_wp2_with fail
    refine bodyPost_ret (v:=.agg #[.int .i64 y,.int .i64 n,.slice ao1 m cap1]) (by simp [results,Try.results71,go_sem,r0,r1,r2]) rfl ?_
    exact HE
  · have hA:Below w2.heap.size w2 (w2.alloc (.cells #[.int .i64 0,.int .i64 1,.int .i64 2,.int .i64 (-1)] 3)):=(Below.refl _ _).alloc (Nat.le_refl _) _
    go_wp2_with fail
    refine (Qdk p cao clen ccap w2.heap.size 4 4 [0,1,2,-1] _ (hR2.drw.cur.below hA) (by exact Qac rfl) (by have:=hR2.drw.cur.lt;omega) rfl (by omega) (by omega)).mono ?_
    rintro e w3 ⟨y,rfl,hy,hD⟩
    have hR3:=bd_drw hR2 hp ⟨Qab (Qae _ hA) hD.grown,hD.cur⟩
    obtain⟨f0,f1,f2⟩:=Qaf hR3.box
    have f3:=Qad hR3.box
    obtain⟨r0,r1,r2⟩:=Qaf hR3.res
    have r3:=Qad hR3.res
    have HE:=bd_end (D:=d+6) (c:=cntS ts+6) (bd_setN hR3 hp y) hp hml (by omega) (by omega)
    clear hy
    go_wp2_with fail
    refine bodyPost_ret (v:=.agg #[.int .i64 k,.int .i64 y,.slice ao1 m cap1]) (by simp [results,Try.results71,go_sem,r0,r1,r2]) rfl ?_
    exact HE
  · obtain⟨g,cap2,w3,hrun,q2,q3,hR3⟩:=bd_append hR2 hp hml
    rw [← HM.out] at hrun hR3
    have HR:Hid (_=_):=hrun
    have g2:=(Qaf hR2.box).2.2
    obtain⟨f0,f1,f2⟩:=Qaf hR3.box
    have f3:=Qad hR3.box
    obtain⟨r0,r1,r2⟩:=Qaf hR3.res
    have r3:=Qad hR3.res
    have HE:=bd_end (D:=d+6) (c:=cntS ts+6) hR3 hp (by have:=HM.out;simp;omega) (by omega) (by rw [cntS_snoc,Qdd];simp [cntS])
    clear hrun hR3
    go_wp2_with (at_builtin;refine Qdf HR.out (by rfl) _ _ (by rfl) (by rfl) (by rfl) (by rfl) ?_)
    refine bodyPost_ret (v:=.agg #[.int .i64 k,.int .i64 n,.slice (some ⟨g,0,none⟩) (m+1) cap2]) (by simp [results,Try.results71,go_sem,r0,r1,r2]) rfl ?_
    exact HE
  · go_wp2_with fail
    go_loopw [6] (fun i wr=>∃ (j:Nat) (K N:Int) (ao':Option Addr) (len' cap':Nat) (us:List Tr),j≤5∧i=.int .i64 j∧BdRel w wr p cao clen ccap (d - 1+j) K N (.slice ao' len' cap') us∧us.length≤255∧cntS us≤cntS ts+j) (fun i _=>5 - (intOf i).toNat)
    case atStart=>exact⟨0,k,n,ao1,m,cap1,ts,by omega,rfl,hR2,by have:=HM.out;omega,by omega⟩
    case round =>
     obtain⟨j,K,N,ao',len',cap',us,hj,rfl,hI,hul,huc⟩:=hrel
     have hzI:=bd_size hI
     obtain⟨f0,f1,f2⟩:=Qaf hI.box
     by_cases hlt:j<5
     · have hN:=bd_wrap hI hp (by omega)
       have hwl:w.heap.size<wr.heap.size:=by omega
       have f3:=Qad hI.box
       have HCT:Hid (cntS [(⟨K,N,us⟩:Tr)]≤cntS ts+(j+1)):=by
        show _≤_
        have:cntS [(⟨K,N,us⟩:Tr)]=1+cntS us:=by simp [cntS,Qdd]
        omega
       go_wp2_with fail
       go_roundw
       case rel=>exact⟨j+1,6,0,_,1,1,[⟨K,N,us⟩],by omega,by go_num,hN,by simp,HCT.out⟩
       case measure=>simp [intOf];omega
     · obtain⟨r0,r1,r2⟩:=Qaf hI.res
       have r3:=Qad hI.res
       have HE:=bd_end (D:=d+6) (c:=cntS ts+6) hI hp (by omega) (by omega) (by omega)
       go_wp2_with fail
       refine bodyPost_ret (v:=.agg #[.int .i64 K,.int .i64 N,.slice ao' len' cap']) (by simp [results,Try.results71,go_sem,r0,r1,r2]) rfl ?_
       exact HE
  · obtain⟨f0,f1,f2⟩:=Qaf hR2.box
    obtain⟨r0,r1,r2⟩:=Qaf hR2.res
    have r3:=Qad hR2.res
    have HE:=bd_end (D:=d+6) (c:=cntS ts+6) hR2 hp hml (by omega) (by omega)
    go_wp2_with fail
    refine bodyPost_ret (v:=.agg #[.int .i64 k,.int .i64 n,.slice ao1 m cap1]) (by simp [results,Try.results71,go_sem,r0,r1,r2]) rfl ?_
    exact HE
theorem bd_any:∀ d,SaidBd d:=by
 intro d
 induction d with
 | zero=>exact bd_step 0 (fun h=>by omega)
 | succ d ih=>exact bd_step (d+1) (fun _=>by simpa using ih)
theorem Hs.drw {L B:Nat} {w w':World} {p:Nat} {cao:Option Addr} {clen ccap d:Nat} {ao:Option Addr} {len:Nat} {ts:List Tr} (h:Hs L B w d ao len ts) (hD:Drw w w' p cao clen ccap) (hp:p<L) (hB:B≤w.heap.size):Hs L B w' d ao len ts :=
 h.keep (fun q hq hq'=>hD.grown.block q (by omega) (by simp;omega)) (Nat.le_refl _) (Nat.le_refl _)
set_option maxRecDepth 100000 in
set_option maxHeartbeats 2000000 in
theorem l1Any_any (p:Nat) (cao:Option Addr) (clen ccap:Nat) (w:World) (hc:Cur w p cao clen ccap) :
 Calls Try.prog 49 #[.pointer (some ⟨p,0,none⟩)] w fun e w'=>BdEnd w w' e p cao clen ccap 10 261:=by
 have hp:=hc.lt
 have hX:Below w.heap.size w (w.alloc (.cells #[.int .i64 0,.int .i64 0,.slice none 0 0] 26)):=(Below.refl _ _).alloc (Nat.le_refl _) _
 go_enter Try.func49,Try.ntmps49
 go_wp2_with fail
 refine (ty_any 4 (by omega) p cao clen ccap _ (hc.below hX)).mono ?_
 rintro e w1 ⟨K,N,ao,len,cap,ts,rfl,hD,ho,hcn⟩
 have hz1:=hD.grown.size
 simp only [World.size_alloc] at hz1
 have hr1:w1.heap[w.heap.size]?=some (.cells #[.int .i64 0,.int .i64 0,.slice none 0 0] 26 (0,0)):=(hD.grown.block _ (by simp) (by simp;omega)).trans (Qac rfl)
 have hs1:=ho.hs
 simp only [World.size_alloc] at hs1
 have hA:Below w1.heap.size w1 (w1.alloc (.cells #[.int .i64 K,.int .i64 N,.slice ao len cap] 26)):=(Below.refl _ _).alloc (Nat.le_refl _) _
 go_wp2_with fail
 refine (Qcs p cao clen ccap 6 _ (hD.cur.below hA) (by omega) (by omega)).mono ?_
 rintro e w2 ⟨bb,rfl,hD2⟩
 have hz2:=hD2.grown.size
 simp only [World.size_alloc] at hz2
 have t2:w2.heap[w1.heap.size]?=some (.cells #[.int .i64 K,.int .i64 N,.slice ao len cap] 26 (0,0)):=(hD2.grown.block _ (by simp) (by simp;omega)).trans (Qac rfl)
 have r2:w2.heap[w.heap.size]?=some (.cells #[.int .i64 0,.int .i64 0,.slice none 0 0] 26 (0,0)):=(hD2.grown.block _ (by simp;omega) (by simp;omega)).trans ((Below.heap_alloc _ _ _ (by omega)).trans hr1)
 have hs2:Hs (w.heap.size+1) w1.heap.size w2 4 ao len ts:=(hs1.below hA (Nat.le_refl _)).drw hD2 (by omega) (by simp)
 have hDw:Drw w w2 p cao clen ccap:=⟨Qab (Qab (Qae _ hX) hD.grown) (Qab (Qae _ hA) hD2.grown),hD2.cur⟩
 have HCN:Hid (cntS ts≤255):=by show _≤_;omega
 clear hcn hD2 hD hA hX hr1 hs1 ho
 obtain⟨f0,f1,f2⟩:=Qaf t2
 have f3:=Qad t2
 obtain⟨q0,q1,q2⟩:=Qaf r2
 have q3:=Qad r2
 cases bb
 · have HE:BdEnd w (set3 w2 w.heap.size 0 (.int .i64 K) (.int .i64 N) (.slice ao len cap)) (.returned (.agg #[.int .i64 K,.int .i64 N,.slice ao len cap])) p cao clen ccap 10 261:=by
    have:=HCN.out
    refine⟨K,N,ao,len,cap,ts,rfl,((hDw.set hp (Nat.le_refl _) _).set hp (Nat.le_refl _) _).set hp (Nat.le_refl _) _,?_,by omega⟩
    rw [Qbp]
    exact (hs2.keep (w':=set3 w2 w.heap.size 0 (.int .i64 K) (.int .i64 N) (.slice ao len cap)) (L':=w.heap.size) (B':=w2.heap.size) (fun x hx _=>Qau _ (by omega)) (by omega) (by omega)).deeper (by omega)
   go_wp2_with fail
   refine bodyPost_ret (v:=.agg #[.int .i64 K,.int .i64 N,.slice ao len cap]) (by simp [results,Try.results49,go_sem,q0,q1,q2]) rfl ?_
   exact HE
 · go_wp2_with fail
   refine (bd_any 4 p cao clen ccap (w.heap.size+1) w1.heap.size K N ao len cap ts _ hDw.cur (by omega) (by omega) hs2 HCN.out).mono ?_
   rintro e w3 ⟨K3,N3,ao3,len3,cap3,ts3,rfl,hD3,hs3,hc3⟩
   have hz3:=hD3.grown.size
   have t3:=(hD3.grown.block w1.heap.size (by omega) (by simp;omega)).trans t2
   have r3:=(hD3.grown.block w.heap.size (by omega) (by simp;omega)).trans r2
   have hDw3:=hDw.trans hD3
   clear f0 f1 f2 f3 q0 q1 q2 q3 t2 r2
   obtain⟨f0,f1,f2⟩:=Qaf t3
   have f3:=Qad t3
   obtain⟨q0,q1,q2⟩:=Qaf r3
   have q3:=Qad r3
   have HE:BdEnd w (set3 (set3 w3 w1.heap.size 0 (.int .i64 K3) (.int .i64 N3) (.slice ao3 len3 cap3)) w.heap.size 0 (.int .i64 K3) (.int .i64 N3) (.slice ao3 len3 cap3)) (.returned (.agg #[.int .i64 K3,.int .i64 N3,.slice ao3 len3 cap3])) p cao clen ccap 10 261:=by
    have:=HCN.out
    refine⟨K3,N3,ao3,len3,cap3,ts3,rfl,(((((hDw3.set hp (by omega) _).set hp (by omega) _).set hp (by omega) _).set hp (Nat.le_refl _) _).set hp (Nat.le_refl _) _).set hp (Nat.le_refl _) _,?_,by omega⟩
    rw [Qbp,Qbp]
    exact hs3.keep (fun x hx _=>by rw [Qau _ (by omega),Qau _ (by omega)]) (by omega) (Nat.le_refl _)
   have hne:w.heap.size≠w1.heap.size:=by omega
   go_wp2_with fail
   refine bodyPost_ret (v:=.agg #[.int .i64 K3,.int .i64 N3,.slice ao3 len3 cap3]) (by simp [results,Try.results49,go_sem,q0,q1,q2]) rfl ?_
   exact HE
theorem FldO.fm2 {w:World} {L B D d:Nat} {t:Tm} {a1 a2 a3:Option Addr} {l1 l2 l3:Nat} {bs:List Nat} (h:FldO w D (OwM w D d) t a1 l1 a2 l2 a3 l3 bs) (hb:∀ b∈bs,L≤b∧b<B):Fm L B w D d t a1 l1 a2 l2 a3 l3:=by
 obtain⟨p1,p2,p3,hp,h1,h2,h3,h4,h5⟩:=h
 rw [hp] at hb
 exact⟨h1,h2,h3.hs fun b hb'=>hb b (by simp [hb']),h4.hs fun b hb'=>hb b (by simp [hb']),OwM.hm (fun b hb'=>hb b (by simp [hb'])) h5⟩
theorem apm_part {base:Nat} {w:World} {D d:Nat} {ao:Option Addr} {l e:Nat} {ts:List Tm} (h:Qbr base w D d (.slice ao l e) l ts) (hl:l=ts.length) (hm:l≤1048576) (k:Nat) (hk:k<ts.length) :
 ∃ g cs a1 l1 c1 a2 l2 c2 a3 l3 c3,ao=some ⟨g,0,none⟩∧base≤g∧g<w.heap.size∧w.heap[g]?=some (.cells cs 29 (0,0))∧k*9+8<cs.size∧Nine w g (k*9) ts[k].K ts[k].N ts[k].S ts[k].Z ts[k].T.K ts[k].T.N (.slice a1 l1 c1) (.slice a2 l2 c2) (.slice a3 l3 c3)∧Fm base w.heap.size w D d ts[k] a1 l1 a2 l2 a3 l3 ∧
   ∀ (W:World) (D2 d2 D' d' M:Nat) (x:Tm) (x1:Option Addr) (n1 i1:Nat) (x2:Option Addr) (n2 i2:Nat) (x3:Option Addr) (n3 i3:Nat),(∀ b,base≤b->b<w.heap.size->W.heap[b]?=w.heap[b]?)->w.heap.size≤M->M≤W.heap.size->Fm M W.heap.size W D2 d2 x x1 n1 x2 n2 x3 n3->D≤D'->D2≤D'->d≤d'->d2≤d' →
    Hm base W.heap.size (set9 W g (k*9) (.int .i64 x.K) (.int .i64 x.N) (.string x.S) (.string x.Z) (.int .i64 x.T.K) (.int .i64 x.T.N) (.slice x1 n1 i1) (.slice x2 n2 i2) (.slice x3 n3 i3)) D' (d'+1) ao l (ts.set k x):=by
 obtain⟨a',c',ev,bs,ho,hnd,hrng⟩:=apm_done h hl (by omega)
 injection ev with ev1 _ ev3
 subst ev1
 rcases ho with ⟨h0,_⟩|⟨g,cs,bss,rfl,hl',hm',hg,hc,hbl,rfl,hE⟩
 · omega
 have hgb:=hrng g (by simp)
 obtain⟨a1,l1,c1,a2,l2,c2,a3,l3,c3,h9,hf⟩:=hE k hk (by omega)
 have hgf:g ∉ bss.flatten:=(List.nodup_cons.1 hnd).1
 refine⟨g,cs,a1,l1,c1,a2,l2,c2,a3,l3,c3,rfl,hgb.1,hgb.2,hg,by omega,h9,hf.fm2 fun b hb=>hrng b (List.mem_cons_of_mem _ (Qbj (by omega) hb)),?_⟩
 intro W D2 d2 D' d' M x x1 n1 i1 x2 n2 i2 x3 n3 i3 hk' hM hMW hx e1 e2 e3 e4
 have hgW:W.heap[g]?=some (.cells cs 29 (0,0)):=(hk' g hgb.1 hgb.2).trans hg
 have hoth:∀ b,b≠g->(set9 W g (k*9) (.int .i64 x.K) (.int .i64 x.N) (.string x.S) (.string x.Z) (.int .i64 x.T.K) (.int .i64 x.T.N) (.slice x1 n1 i1) (.slice x2 n2 i2) (.slice x3 n3 i3)).heap[b]?=W.heap[b]?:=fun b hb=>Qby b hb
 refine⟨by simpa using hl',hm',fun i hi=>⟨g,0,rfl,hgb.1,by omega,?_⟩⟩
 rw [Nat.zero_add]
 have hi1:i<ts.length:=by simpa using hi
 by_cases hik:i=k
 · subst hik
   refine⟨x1,n1,i1,x2,n2,i2,x3,n3,i3,?_,?_⟩
   · simp only [List.getElem_set_self]
     exact set9_cells hgW (by omega)
   · simp only [List.getElem_set_self]
     exact Fm.keep (L:=M) (B:=W.heap.size) (w:=W) (fun b hb _=>hoth b (by omega)) (by omega) (Nat.le_refl _) (hx.wider (fun _ _ _ q=>q.deeper e2) (fun _ _ _ q=>q.deeper e4 e2))
 · obtain⟨y1,k1,j1,y2,k2,j2,y3,k3,j3,y9,yf⟩:=hE i hi1 (by omega)
   have hin:∀ b∈bss[i]'(by omega),base≤b∧b<w.heap.size:=fun b hb=>hrng b (List.mem_cons_of_mem _ (Qbj (by omega) hb))
   have hbk:∀ b∈bss[i]'(by omega),(set9 W g (k*9) (.int .i64 x.K) (.int .i64 x.N) (.string x.S) (.string x.Z) (.int .i64 x.T.K) (.int .i64 x.T.N) (.slice x1 n1 i1) (.slice x2 n2 i2) (.slice x3 n3 i3)).heap[b]?=w.heap[b]?:=fun b hb=>(hoth b (fun e=>hgf (e ▸ Qbj (by omega) hb))).trans (hk' b (hin b hb).1 (hin b hb).2)
   refine⟨y1,k1,j1,y2,k2,j2,y3,k3,j3,?_,?_⟩
   · simp only [List.getElem_set_ne (fun e=>hik e.symm)]
     refine (y9.world (hk' g hgb.1 hgb.2)).of_cells fun q hq=>?_
     exact set9_far hgW _ (by omega)
   · simp only [List.getElem_set_ne (fun e=>hik e.symm)]
     exact Fld.wider (FldO.fm2 (L:=base) (B:=W.heap.size) (yf.keep hbk) fun b hb=>⟨(hin b hb).1,by have:=(hin b hb).2;omega⟩) (fun _ _ _ q=>q.deeper e1) (fun _ _ _ q=>q.deeper e3 e1)
theorem cntMS_set (ts:List Tm) (k:Nat) (hk:k<ts.length) (x:Tm) (n:Nat) (hx:cntM x≤cntM ts[k]+n):Qci (ts.set k x)≤Qci ts+n:=by
 have h:∀ (ts:List Tm) (k:Nat) (hk:k<ts.length),subMS (ts.set k x)+cntM ts[k]=subMS ts+cntM x:=by
  intro ts
  induction ts with
  | nil=>intro k hk;simp at hk
  | cons a ts ih =>
    intro k hk
    cases k with
    | zero=>simp [subMS];omega
    | succ k =>
      have:=ih k (by simpa using hk)
      simp [subMS] at this ⊢
      omega
 have h1:=h ts k hk
 rw [Qdb,Qdb,List.length_set]
 omega
theorem nodesG_mono {f g:Tm->Option Nat}:∀ (l:List Tm) (b:Nat),(∀ x∈l,∀ a,f x=some a->g x=some a)->Qax f l=some b->Qax g l=some b
 | [],b,_,h=>h
 | x::l,b,hfg,h=>by
   simp only [Qax] at h ⊢
   cases h1:f x with
   | none=>simp [h1] at h
   | some a =>
     cases h2:Qax f l with
     | none=>simp [h1,h2] at h
     | some c =>
       rw [hfg x (by simp) a h1,nodesG_mono l c (fun y hy=>hfg y (by simp [hy])) h2]
       simpa [h1,h2] using h
theorem nodesM_more:∀ (l:Nat) (t:Tm) (m:Nat),Qan l t=some m->Qan (l+1) t=some m:=by
 intro l
 induction l with
 | zero=>intro t m h;simp [Qan] at h
 | succ l ih =>
   intro t m h
   rw [Qan] at h ⊢
   split at h
   · rename_i hn
     rw [if_pos hn]
     obtain⟨b,hb,hm⟩:=Option.map_eq_some_iff.1 h
     rw [nodesG_mono t.A b (fun x _ a=>ih x a) hb]
     simp [hm]
   · simp at h
theorem nodesG_get {f:Tm->Option Nat}:∀ (l:List Tm) (b:Nat),Qax f l=some b->∀ i (h:i<l.length),∃ a,f l[i]=some a∧a≤b
 | [],b,_,i,hi=>by simp at hi
 | x::l,b,h,i,hi=>by
   simp only [Qax] at h
   cases h1:f x with
   | none=>simp [h1] at h
   | some a =>
     cases h2:Qax f l with
     | none=>simp [h1,h2] at h
     | some c =>
       simp [h1,h2] at h
       cases i with
       | zero=>exact⟨a,h1,by omega⟩
       | succ i =>
         obtain⟨a',h3,h4⟩:=nodesG_get l c h2 i (by simpa using hi)
         exact⟨a',by simpa using h3,by omega⟩
theorem nodesM_get {l:Nat} {t:Tm} {m:Nat} (h:Qan (l+1) t=some m):Qaz t=true∧∀ i (hi:i<t.A.length),∃ a,Qan l t.A[i]=some a∧a+1≤m:=by
 rw [Qan] at h
 split at h
 · rename_i hn
   obtain⟨b,hb,hm⟩:=Option.map_eq_some_iff.1 h
   refine⟨hn,fun i hi=>?_⟩
   obtain⟨a,h1,h2⟩:=nodesG_get t.A b hb i hi
   exact⟨a,h1,by omega⟩
 · simp at h
end Go.Proofs.Ytleghjgpnefliaa
