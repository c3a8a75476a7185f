/-
  What the program's 'sameAnyTerm' comes to, where the first term's lists have blocks of their own.
-/
import Derived.Test.YtleghjgpnefliaaFnoZ46
import Derived.Test.YtleghjgpnefliaaFnoZ1
import Derived.Deep.RegionHeld3
import Derived.Deep.RegionLaw
import Derived.Deep.Cut
import Derived.Deep.CutRange
namespace Go.Proofs.Ytleghjgpnefliaa
open Go.RowKit
set_option linter.unusedVariables false
set_option linter.unusedSimpArgs false
def MR (w:World) (D d L' B' mp:Nat) (b:Bool) (p:Value) (wr:World) (n:Nat):Prop :=
 ∃ v u ms its cs,p=.tuple #[v,u]∧MDyn w wr mp v ms u its cs∧MSt w D d L' B' ms its cs∧(b=true↔(∀ i∈ms,i.t=i.t')∧∀ i∈its,i.x=i.y)∧(ms.map fun i=>1+cntM i.t).sum=n∧n+(its.map fun i=>cnt i.x).sum≤1048577
set_option maxRecDepth 100000 in
set_option maxHeartbeats 16000000 in
theorem sameAnyTerm_any (D d L' B':Nat) (it0:Im) (b:Bool) (w:World) (hB':B'≤w.heap.size) (hok:ImOk w D d L' B' it0) (hnd:it0.bs.Nodup) (hrng:∀ x∈it0.bs,x<w.heap.size) (hb:b=true↔it0.t=it0.t') (hc:cntM it0.t≤1048576) :
 Calls Try.prog 26 #[.agg #[.int .i64 it0.t.K,.int .i64 it0.t.N,.string it0.t.S,.string it0.t.Z,.int .i64 it0.t.T.K,.int .i64 it0.t.T.N,.slice it0.a1 it0.l1 it0.c1,.slice it0.a2 it0.l2 it0.c2,.slice it0.a3 it0.l3 it0.c3],.agg #[.int .i64 it0.t'.K,.int .i64 it0.t'.N,.string it0.t'.S,.string it0.t'.Z,.int .i64 it0.t'.T.K,.int .i64 it0.t'.T.N,.slice it0.b1 it0.m1 it0.d1,.slice it0.b2 it0.m2 it0.d2,.slice it0.b3 it0.m3 it0.d3]] w fun e w'=>e=.returned (.bool b)∧Below w.heap.size w w':=by
 have hmk:∀ w:World,(Instr.makeMap 65 none).run Try.prog w=.ok (.map (some w.heap.size)) (w.alloc (.map #[] 0)):=fun w=>rfl
 obtain⟨X,hX⟩:∃ X,X=((((w.alloc (.cells #[.int .i64 it0.t.K,.int .i64 it0.t.N,.string it0.t.S,.string it0.t.Z,.int .i64 it0.t.T.K,.int .i64 it0.t.T.N,.slice it0.a1 it0.l1 it0.c1,.slice it0.a2 it0.l2 it0.c2,.slice it0.a3 it0.l3 it0.c3] 29)).alloc (.cells #[.int .i64 it0.t'.K,.int .i64 it0.t'.N,.string it0.t'.S,.string it0.t'.Z,.int .i64 it0.t'.T.K,.int .i64 it0.t'.T.N,.slice it0.b1 it0.m1 it0.d1,.slice it0.b2 it0.m2 it0.d2,.slice it0.b3 it0.m3 it0.d3] 29)).alloc (.map #[] 0)).alloc (.cells #[.int .i64 it0.t.K,.int .i64 it0.t.N,.string it0.t.S,.string it0.t.Z,.int .i64 it0.t.T.K,.int .i64 it0.t.T.N,.slice it0.a1 it0.l1 it0.c1,.slice it0.a2 it0.l2 it0.c2,.slice it0.a3 it0.l3 it0.c3,.int .i64 it0.t'.K,.int .i64 it0.t'.N,.string it0.t'.S,.string it0.t'.Z,.int .i64 it0.t'.T.K,.int .i64 it0.t'.T.N,.slice it0.b1 it0.m1 it0.d1,.slice it0.b2 it0.m2 it0.d2,.slice it0.b3 it0.m3 it0.d3] 67)):=⟨_,rfl⟩
 have hXb:Below w.heap.size w X:=by rw [hX];exact ((((Below.refl _ _).alloc (Nat.le_refl _) _).alloc (by simp) _).alloc (by simp;omega) _).alloc (by simp;omega) _
 have hXm:X.heap[w.heap.size+1+1]?=some (.map #[] 0):=by rw [hX,Below.heap_alloc _ _ _ (by simp)];exact Qac (by simp)
 have hXr:X.heap[w.heap.size+1+1+1]?=some (.cells #[.int .i64 it0.t.K,.int .i64 it0.t.N,.string it0.t.S,.string it0.t.Z,.int .i64 it0.t.T.K,.int .i64 it0.t.T.N,.slice it0.a1 it0.l1 it0.c1,.slice it0.a2 it0.l2 it0.c2,.slice it0.a3 it0.l3 it0.c3,.int .i64 it0.t'.K,.int .i64 it0.t'.N,.string it0.t'.S,.string it0.t'.Z,.int .i64 it0.t'.T.K,.int .i64 it0.t'.T.N,.slice it0.b1 it0.m1 it0.d1,.slice it0.b2 it0.m2 it0.d2,.slice it0.b3 it0.m3 it0.d3] 67 (0,0)):=by rw [hX];exact Qac (by simp)
 have hStart:MR w D d L' B' (w.heap.size+1+1) b (.tuple #[.slice (some ⟨w.heap.size+1+1+1,0,none⟩) 1 1,.slice none 0 0]) X (1+cntM it0.t):=by
  refine⟨_,_,[it0],[],[],rfl,⟨hXb,⟨rfl,Or.inr ⟨_,1,_,rfl,Nat.zero_le _,hXr,by simp,by unfold maxLen;simp,by simp,?_⟩⟩,⟨rfl,Or.inl ⟨rfl,rfl⟩⟩,fun x hx=>?_,fun x hx=>by simp [Value.ownBlock] at hx,⟨#[],0,hXm,fun e he=>by simp at he⟩⟩,⟨fun i hi=>?_,fun i hi=>by simp at hi,?_,fun x hx=>?_,fun x hx=>by simp at hx⟩,?_,by simp,by simp;omega⟩
  · simp [Im.cells]
  · have hx':w.heap.size+1+1+1=x:=by simpa [Value.ownBlock] using hx
    omega
  · simp at hi;subst hi;exact hok
  · simpa using hnd
  · exact hrng x (by simpa using hx)
  · rw [hb];simp
 obtain⟨μ,hμ⟩:=least_ex (MR w D d L' B' (w.heap.size+1+1) b)
 have HM:Hid (∀ v wr n,_):=hμ
 have HX:Hid (X=_):=hX
 have HC:Hid (w.heap.size+1+1=w.heap.size+2):=rfl
 clear hμ hX hXr hXm hok hnd hrng hb hc
 go_enter Try.func26,Try.ntmps26
 go_wp2_with fail
 rw [← HX.out]
 generalize hmp:w.heap.size+1+1=mp at *
 have HMP:Hid (w.heap.size+1+1=mp):=hmp
 clear hmp
 go_loopw [5,7] (fun ut uv wr=>∃ u v,ut=u∧uv=v∧∃ n,MR w D d L' B' mp b (.tuple #[v,u]) wr n) (fun ut uv wr=>μ (.tuple #[uv,ut]) wr)
 case atStart=>exact⟨_,_,rfl,rfl,_,hStart⟩
 case round =>
  obtain⟨wo,hwo⟩:∃ wo:World,wo=wr:=⟨_,rfl⟩
  subst hwo
  obtain⟨_,_,rfl,rfl,n0,hR0⟩:=hrel
  obtain⟨_,v0,t0,ms,its,cs,hp,hD,hS,hL,hsum,hbd⟩:=HM.out _ _ _ hR0
  simp only [Value.tuple.injEq,Array.mk.injEq,List.cons.injEq,and_true] at hp
  obtain⟨rfl,rfl⟩:=hp
  have HL:Hid (b=true↔_):=hL
  have HS:Hid (_=_):=hsum
  have HBD:Hid (_≤_):=hbd
  clear hL hsum hbd hR0 hStart
  have hszr:=hD.bel.size
  rcases (by simpa [List.concat_eq_append] using List.eq_nil_or_concat ms:ms=[]∨∃ init it,ms=init++[it]) with rfl|⟨init,it,rfl⟩
  · have hv:∃ ao cap,u7=.slice ao 0 cap:=by
     rcases hD.row.2 with ⟨e,_⟩|⟨g,cap,cur,e,_⟩
     · exact⟨none,0,e⟩
     · exact⟨_,cap,e⟩
    obtain⟨ao,cap,rfl⟩:=hv
    have hbl:b=true↔∀ i∈its,i.x=i.y:=by rw [HL.out];simp
    have hcl:(its.map fun i=>cnt i.x).sum≤1048577:=by have:=HBD.out;omega
    go_wp2_with fail
    refine (sameAny_gen D L' B' _ its _ b _ hD.rowT rfl (by omega) (fun x hx=>Or.inr (by have:=hD.blkT x hx;omega)) (mst_types hD hS hB') hbl hcl).mono ?_
    rintro e w1 ⟨rfl,hg1⟩
    go_wp2_with fail
    go_ret
    exact⟨rfl,below_grown hD.bel hg1 hD.blkT⟩
  · obtain⟨g,cap,rfl,hgl,hgw,hcap,hcap2,look,hD2⟩:=m_pop hD
    have hrange:wo.rangeAt g (init.length*18) (#[.int .i64 it.t.K,.int .i64 it.t.N,.string it.t.S,.string it.t.Z,.int .i64 it.t.T.K,.int .i64 it.t.T.N,.slice it.a1 it.l1 it.c1,.slice it.a2 it.l2 it.c2,.slice it.a3 it.l3 it.c3,.int .i64 it.t'.K,.int .i64 it.t'.N,.string it.t'.S,.string it.t'.Z,.int .i64 it.t'.T.K,.int .i64 it.t'.T.N,.slice it.b1 it.m1 it.d1,.slice it.b2 it.m2 it.d2,.slice it.b3 it.m3 it.d3]:Array Value).toList:=fun j v hj=>by
     have hj2:j<18:=by have:=(List.getElem?_eq_some_iff.1 hj).1;simpa using this
     rw [look j hj2,← Array.getElem?_toList];exact hj
    clear look
    have hitS:=hS.ow it (by simp)
    have hl2:=hitS.o2.len.2
    have hm2:=hitS.f.t2.len.2
    have hl3:=hitS.o3.len.2
    have hm3:=hitS.f.m.len.2
    have hA:Below wo.heap.size wo (wo.alloc (.cells #[.int .i64 it.t.K,.int .i64 it.t.N,.string it.t.S,.string it.t.Z,.int .i64 it.t.T.K,.int .i64 it.t.T.N,.slice it.a1 it.l1 it.c1,.slice it.a2 it.l2 it.c2,.slice it.a3 it.l3 it.c3,.int .i64 it.t'.K,.int .i64 it.t'.N,.string it.t'.S,.string it.t'.Z,.int .i64 it.t'.T.K,.int .i64 it.t'.T.N,.slice it.b1 it.m1 it.d1,.slice it.b2 it.m2 it.d2,.slice it.b3 it.m3 it.d3] 67)):=(Below.refl _ _).alloc (Nat.le_refl _) _
    have e1:((init.length:Int)+1 - 1)=init.length:=by omega
    go_wp2_with (first|(refine list_load ?_ 67 (.tmp 27) ?_ g (init.length*18) ?_ #[.int .i64 it.t.K,.int .i64 it.t.N,.string it.t.S,.string it.t.Z,.int .i64 it.t.T.K,.int .i64 it.t.T.N,.slice it.a1 it.l1 it.c1,.slice it.a2 it.l2 it.c2,.slice it.a3 it.l3 it.c3,.int .i64 it.t'.K,.int .i64 it.t'.N,.string it.t'.S,.string it.t'.Z,.int .i64 it.t'.T.K,.int .i64 it.t'.T.N,.slice it.b1 it.m1 it.d1,.slice it.b2 it.m2 it.d2,.slice it.b3 it.m3 it.d3] hrange _ Try.underlying67 rfl Try.infoTwoS ?_;rfl;rfl;rfl)|(refine list_store_new ?_ 67 (.tmp 8) (.tmp 28) ?_ wo #[.int .i64 it.t.K,.int .i64 it.t.N,.string it.t.S,.string it.t.Z,.int .i64 it.t.T.K,.int .i64 it.t.T.N,.slice it.a1 it.l1 it.c1,.slice it.a2 it.l2 it.c2,.slice it.a3 it.l3 it.c3,.int .i64 it.t'.K,.int .i64 it.t'.N,.string it.t'.S,.string it.t'.Z,.int .i64 it.t'.T.K,.int .i64 it.t'.T.N,.slice it.b1 it.m1 it.d1,.slice it.b2 it.m2 it.d2,.slice it.b3 it.m3 it.d3] ?_ ?_ ?_ Try.infoTwoS rfl ?_;rfl;rfl;exact⟨_,rfl,rfl⟩;rfl;rfl)|fail)
    refine (sameTermNode_any it.t it.t' _ _ _ _ _ _ _ _ _ _ _ _ _ _ _ hl2 hm2 hl3 hm3).mono ?_
    rintro e w1 ⟨rfl,hb1⟩
    have hbw1:Below wo.heap.size wo w1:=hA.trans (hb1.mono (by simp))
    have hD3:=m_below hD2 hbw1
    have hz1:=hb1.size
    simp only [World.size_alloc] at hz1
    have hbox:w1.heap[wo.heap.size]?=some (.cells #[.int .i64 it.t.K,.int .i64 it.t.N,.string it.t.S,.string it.t.Z,.int .i64 it.t.T.K,.int .i64 it.t.T.N,.slice it.a1 it.l1 it.c1,.slice it.a2 it.l2 it.c2,.slice it.a3 it.l3 it.c3,.int .i64 it.t'.K,.int .i64 it.t'.N,.string it.t'.S,.string it.t'.Z,.int .i64 it.t'.T.K,.int .i64 it.t'.T.N,.slice it.b1 it.m1 it.d1,.slice it.b2 it.m2 it.d2,.slice it.b3 it.m3 it.d3] 67 (0,0)):=(hb1.block wo.heap.size (by simp)).trans (Qac rfl)
    clear hrange
    cases hq:likeTm it.t it.t' it.l2 it.m2 it.l3 it.m3
    · have HF:Hid (b=false):=by
       show _=_
       rw [Bool.eq_false_iff];intro hh
       have e:=(HL.out.1 hh).1 it (by simp)
       have k2:=hitS.o2.len.1
       have k3:=hitS.o3.len.1
       have k4:=hitS.f.t2.len.1
       have k5:=hitS.f.m.len.1
       rw [k2,k3,k4,k5,e] at hq
       simp [likeTm] at hq
      clear hq
      go_wp2_with fail
      go_ret
      exact⟨Qak HF.out.symm,hD3.bel⟩
    have HQ:Hid (it.t.K=it.t'.K∧it.t.N=it.t'.N∧it.t.S=it.t'.S∧it.t.Z=it.t'.Z):=by
     simp only [likeTm,Bool.and_eq_true] at hq
     exact⟨beq_iff_eq.1 hq.1.1.1.1.1,beq_iff_eq.1 hq.1.1.1.1.2,bytes_eq hq.1.1.1.2,bytes_eq hq.1.1.2⟩
    have HQ2:Hid (it.l2=it.m2):=by
     simp only [likeTm,Bool.and_eq_true] at hq
     have:=beq_iff_eq.1 hq.1.2
     show _=_
     omega
    have HQ3:Hid (it.l3=it.m3):=by
     simp only [likeTm,Bool.and_eq_true] at hq
     have:=beq_iff_eq.1 hq.2
     show _=_
     omega
    clear hq
    obtain⟨cT,cT',oT',chT,hTa,hTl,hTc,hTt,hTt',hTp⟩:=m_tys hitS HQ2.out
    have HTA:Hid (0<it.l2->_):=hTa
    have HTL:Hid (chT.length=it.l2):=hTl
    have HTC:Hid (∀ x,_):=hTc
    have HTT:Hid (it.l2=it.t.Ts.length):=hTt
    have HTT':Hid (it.m2=it.t'.Ts.length):=hTt'
    have HTP:Hid (∀ i,_):=hTp
    clear hTa hTl hTc hTt hTt' hTp
    have hcnt:=lenT_le (ms:=init++[it]) (its:=its) (by have h1:=HS.out;have h2:=HBD.out;rw [← h1] at h2;exact h2)
    obtain⟨g2,cap2,w2,hrun,hN,hgr,hat⟩:=m_pushT hD3 hcnt.1 it.ty
    have hcnI:Hid (its.length≤1048577):=hcnt.1
    clear hcnt
    have hrun2:(Builtin.append_ #[64,64] 64 #[u5,.slice (some ⟨w1.heap.size,0,none⟩) 1 1]).run Try.prog (w1.alloc (.cells #[.int .i64 it.t.T.K,.int .i64 it.t.T.N,.slice it.a1 it.l1 it.c1,.int .i64 it.t'.T.K,.int .i64 it.t'.T.N,.slice it.b1 it.m1 it.d1] 70))=.ok (.slice (some ⟨g2,0,none⟩) (its.length+1) cap2) w2:=hrun
    have p4:w1.cell? ⟨wo.heap.size,4,none⟩=some (.int .i64 it.t.T.K):=Qaa hbox 4
    have p5:w1.cell? ⟨wo.heap.size,5,none⟩=some (.int .i64 it.t.T.N):=Qaa hbox 5
    have p6:w1.cell? ⟨wo.heap.size,6,none⟩=some (.slice it.a1 it.l1 it.c1):=Qaa hbox 6
    have p13:w1.cell? ⟨wo.heap.size,13,none⟩=some (.int .i64 it.t'.T.K):=Qaa hbox 13
    have p14:w1.cell? ⟨wo.heap.size,14,none⟩=some (.int .i64 it.t'.T.N):=Qaa hbox 14
    have p15:w1.cell? ⟨wo.heap.size,15,none⟩=some (.slice it.b1 it.m1 it.d1):=Qaa hbox 15
    have hltb:wo.heap.size<w1.heap.size:=by omega
    have HSO:Hid (∀ k,k<((init++[it]).map fun i=>1+cntM i.t).sum->k<μ (.tuple #[.slice (some ⟨g,0,none⟩) (init.length+1) cap,u5]) wo):=fun k hk=>by rw [← HS.out];exact hk
    have HBO:Hid (((init++[it]).map fun i=>1+cntM i.t).sum+(its.map fun i=>cnt i.x).sum≤1048577):=by have h:=HBD.out;rw [← HS.out] at h;exact h
    have HR2:Hid (_=_):=hrun2
    have hobT:∀ x,x<w.heap.size->u5.ownBlock≠some x:=fun x hx e=>by have:=hD3.blkT x e;omega
    have hobM:∀ x,x<w.heap.size->(Value.slice (some ⟨g,0,none⟩) init.length cap).ownBlock≠some x:=fun x hx e=>by have:=hD3.blk x e;omega
    have hob1:u5.ownBlock≠some wo.heap.size:=fun e=>by have:=(Qcw hD2.rowT e).1;omega
    have hbox2:w2.heap[wo.heap.size]?=some (.cells #[.int .i64 it.t.K,.int .i64 it.t.N,.string it.t.S,.string it.t.Z,.int .i64 it.t.T.K,.int .i64 it.t.T.N,.slice it.a1 it.l1 it.c1,.slice it.a2 it.l2 it.c2,.slice it.a3 it.l3 it.c3,.int .i64 it.t'.K,.int .i64 it.t'.N,.string it.t'.S,.string it.t'.Z,.int .i64 it.t'.T.K,.int .i64 it.t'.T.N,.slice it.b1 it.m1 it.d1,.slice it.b2 it.m2 it.d2,.slice it.b3 it.m3 it.d3] 67 (0,0)):=(hgr.block wo.heap.size hltb (fun e=>hob1 e.symm)).trans hbox
    have hob2:(Value.slice (some ⟨g2,0,none⟩) (its.length+1) cap2).ownBlock≠some wo.heap.size:=by
     simp only [Value.ownBlock]
     intro e
     have e':g2=wo.heap.size:=by simpa using e
     rcases hat with hat|hat
     · exact hob1 (by rw [hat,e'])
     · omega
    clear hrun hrun2 hb1 hbw1 hA hD hD2 hD3 hgr hat
    have p7:w2.cell? ⟨wo.heap.size,7,none⟩=some (.slice it.a2 it.l2 it.c2):=Qaa hbox2 7
    go_wp2_with (at_builtin;refine Qdf HR2.out (by rfl) _ _ (by rfl) (by rfl) (by rfl) (by rfl) ?_)
    clear p4 p5 p6 p13 p14 p15 p7 hbox HR2
    go_loopw [5,54] (fun u i wi=>∃ v,u=v∧∃ j:Nat,j≤it.l2∧i=.int .i64 j∧MDyn w wi mp (.slice (some ⟨g,0,none⟩) init.length cap) init v (its++[it.ty]++chT.take j) cs∧wi.heap[wo.heap.size]?=some (.cells #[.int .i64 it.t.K,.int .i64 it.t.N,.string it.t.S,.string it.t.Z,.int .i64 it.t.T.K,.int .i64 it.t.T.N,.slice it.a1 it.l1 it.c1,.slice it.a2 it.l2 it.c2,.slice it.a3 it.l3 it.c3,.int .i64 it.t'.K,.int .i64 it.t'.N,.string it.t'.S,.string it.t'.Z,.int .i64 it.t'.T.K,.int .i64 it.t'.T.N,.slice it.b1 it.m1 it.d1,.slice it.b2 it.m2 it.d2,.slice it.b3 it.m3 it.d3] 67 (0,0))∧v.ownBlock≠some wo.heap.size) (fun _ i _=>it.l2 - (intOf i).toNat)
    case atStart=>exact⟨_,rfl,0,by omega,rfl,by simpa using hN,hbox2,hob2⟩
    case round =>
     obtain⟨_,rfl,j,hj,rfl,hI,hbx,hob⟩:=hrel
     have hgI:=hI.bel
     have hszI:=hgI.size
     have hpbl:wo.heap.size<wr.heap.size:=(Array.getElem?_eq_some_iff.1 hbx).1
     by_cases hlt:j<it.l2
     · have hj1:j<chT.length:=by have:=HTL.out;omega
       have hj2:j<it.t.Ts.length:=by have:=HTT.out;omega
       have hj3:j<it.t'.Ts.length:=by have:=HTT'.out;have:=HQ2.out;omega
       obtain⟨hao,hao',hcB',hcW⟩:=HTA.out (by omega)
       have HAO:Hid (it.a2=_):=hao
       have HAO':Hid (it.b2=_):=hao'
       clear hao hao'
       obtain⟨_,_,_,_,y0,y1,y2,y3,y4,y5⟩:=HTP.out j hj1 hj2 hj3
       have hcc:∀ o,wr.cell? ⟨cT,o,none⟩=w.cell? ⟨cT,o,none⟩:=fun o=>World.cell?_of_block (a:=⟨cT,o,none⟩) (hgI.block cT hcW)
       have hcc':∀ o,wr.cell? ⟨cT',o,none⟩=w.cell? ⟨cT',o,none⟩:=fun o=>World.cell?_of_block (a:=⟨cT',o,none⟩) (hgI.block cT' (by omega))
       have hcl:cT<wr.heap.size:=by omega
       have hcl':cT'<wr.heap.size:=by omega
       have p7:wr.cell? ⟨wo.heap.size,7,none⟩=some (.slice (some ⟨cT,0,none⟩) it.l2 it.c2):=(Qaa hbx 7).trans (by rw [HAO.out];rfl)
       have p16:wr.cell? ⟨wo.heap.size,16,none⟩=some (.slice (some ⟨cT',oT',none⟩) it.m2 it.d2):=(Qaa hbx 16).trans (by rw [HAO'.out];rfl)
       have S0:wr.cell? ⟨wo.heap.size,7,none⟩=some (.slice (some ⟨cT,0,none⟩) it.l2 it.c2)∧wr.cell? ⟨wo.heap.size,16,none⟩=some (.slice (some ⟨cT',oT',none⟩) it.m2 it.d2)∧wr.cell? ⟨cT,j*3,none⟩=some (.int .i64 chT[j].k)∧wr.cell? ⟨cT,j*3+1,none⟩=some (.int .i64 chT[j].n)∧wr.cell? ⟨cT,j*3+2,none⟩=some (.slice chT[j].ao chT[j].len chT[j].cap)∧wr.cell? ⟨cT',oT'+j*3,none⟩=some (.int .i64 chT[j].k')∧wr.cell? ⟨cT',oT'+j*3+1,none⟩=some (.int .i64 chT[j].n')∧wr.cell? ⟨cT',oT'+j*3+2,none⟩=some (.slice chT[j].ao' chT[j].len' chT[j].cap'):=⟨p7,p16,(hcc _).trans y0,(hcc _).trans y1,(hcc _).trans y2,(hcc' _).trans y3,(hcc' _).trans y4,(hcc' _).trans y5⟩
       have SK:∀ w':World,w'.heap[wo.heap.size]?=wr.heap[wo.heap.size]?->w'.heap[cT]?=wr.heap[cT]?->w'.heap[cT']?=wr.heap[cT']?->w'.cell? ⟨wo.heap.size,7,none⟩=some (.slice (some ⟨cT,0,none⟩) it.l2 it.c2)∧w'.cell? ⟨wo.heap.size,16,none⟩=some (.slice (some ⟨cT',oT',none⟩) it.m2 it.d2)∧w'.cell? ⟨cT,j*3,none⟩=some (.int .i64 chT[j].k)∧w'.cell? ⟨cT,j*3+1,none⟩=some (.int .i64 chT[j].n)∧w'.cell? ⟨cT,j*3+2,none⟩=some (.slice chT[j].ao chT[j].len chT[j].cap)∧w'.cell? ⟨cT',oT'+j*3,none⟩=some (.int .i64 chT[j].k')∧w'.cell? ⟨cT',oT'+j*3+1,none⟩=some (.int .i64 chT[j].n')∧w'.cell? ⟨cT',oT'+j*3+2,none⟩=some (.slice chT[j].ao' chT[j].len' chT[j].cap'):=by
        intro w' k1 k2 k3
        have q1:∀ o,w'.cell? ⟨wo.heap.size,o,none⟩=wr.cell? ⟨wo.heap.size,o,none⟩:=fun o=>World.cell?_of_block (a:=⟨_,o,none⟩) k1
        have q2:∀ o,w'.cell? ⟨cT,o,none⟩=wr.cell? ⟨cT,o,none⟩:=fun o=>World.cell?_of_block (a:=⟨_,o,none⟩) k2
        have q3:∀ o,w'.cell? ⟨cT',o,none⟩=wr.cell? ⟨cT',o,none⟩:=fun o=>World.cell?_of_block (a:=⟨_,o,none⟩) k3
        obtain⟨r0,r1,r2,r3,r4,r5,r6,r7⟩:=S0
        exact⟨(q1 _).trans r0,(q1 _).trans r1,(q2 _).trans r2,(q2 _).trans r3,(q2 _).trans r4,(q3 _).trans r5,(q3 _).trans r6,(q3 _).trans r7⟩
       have SA:Hid (∀ o,(wr.alloc o).cell? ⟨wo.heap.size,7,none⟩=some (.slice (some ⟨cT,0,none⟩) it.l2 it.c2)∧(wr.alloc o).cell? ⟨wo.heap.size,16,none⟩=some (.slice (some ⟨cT',oT',none⟩) it.m2 it.d2)∧(wr.alloc o).cell? ⟨cT,j*3,none⟩=some (.int .i64 chT[j].k)∧(wr.alloc o).cell? ⟨cT,j*3+1,none⟩=some (.int .i64 chT[j].n)∧(wr.alloc o).cell? ⟨cT,j*3+2,none⟩=some (.slice chT[j].ao chT[j].len chT[j].cap)∧(wr.alloc o).cell? ⟨cT',oT'+j*3,none⟩=some (.int .i64 chT[j].k')∧(wr.alloc o).cell? ⟨cT',oT'+j*3+1,none⟩=some (.int .i64 chT[j].n')∧(wr.alloc o).cell? ⟨cT',oT'+j*3+2,none⟩=some (.slice chT[j].ao' chT[j].len' chT[j].cap')):=fun o=>SK (wr.alloc o) (Below.heap_alloc _ _ _ hpbl) (Below.heap_alloc _ _ _ hcl) (Below.heap_alloc _ _ _ hcl')
       have hId:=m_below hI (Below.refl _ _).drew
       have hnum:(its++[it.ty]++chT.take j).length≤1048577:=by
        have h2:=HBO.out
        have h3:=(sum_step (init:=init) (it:=it) (its:=its) (chT:=chT) (chM:=it.t.A.map fun a=>{ it with t:=a }) (List.ext_getElem (by simp;have:=HTL.out;have:=HTT.out;omega) (fun i h1 h2=>by simp only [List.getElem_map];exact (HTP.out i (by simpa using h1) h2 (by have:=HTT'.out;have:=HQ2.out;have:=HTT.out;omega)).1)) (by simp [Function.comp_def])).1
        have h4:=lenT_le h3
        have h5:=h4.1
        simp only [List.length_append,List.length_take] at h5 ⊢
        omega
       obtain⟨g3,cap3,w3,hrun,hN3,hgr,hat⟩:=m_pushT hId hnum chT[j]
       have hge:∀ x,x<w.heap.size->u5.ownBlock≠some x:=fun x hx e=>by have:=hI.blkT x e;omega
       have hk2:∀ x,x<wr.heap.size->u5.ownBlock≠some x->w3.heap[x]?=wr.heap[x]?:=fun x hx hne=>hgr.block x hx (fun e=>hne e.symm)
       have hbx2:w3.heap[wo.heap.size]?=_:=(hk2 _ hpbl hob).trans hbx
       have S2:Hid (w3.cell? ⟨wo.heap.size,7,none⟩=some (.slice (some ⟨cT,0,none⟩) it.l2 it.c2)∧w3.cell? ⟨wo.heap.size,16,none⟩=some (.slice (some ⟨cT',oT',none⟩) it.m2 it.d2)∧w3.cell? ⟨cT,j*3,none⟩=some (.int .i64 chT[j].k)∧w3.cell? ⟨cT,j*3+1,none⟩=some (.int .i64 chT[j].n)∧w3.cell? ⟨cT,j*3+2,none⟩=some (.slice chT[j].ao chT[j].len chT[j].cap)∧w3.cell? ⟨cT',oT'+j*3,none⟩=some (.int .i64 chT[j].k')∧w3.cell? ⟨cT',oT'+j*3+1,none⟩=some (.int .i64 chT[j].n')∧w3.cell? ⟨cT',oT'+j*3+2,none⟩=some (.slice chT[j].ao' chT[j].len' chT[j].cap')):=SK w3 (hk2 _ hpbl hob) (hk2 _ hcl (hge cT hcW)) (hk2 _ hcl' (hge cT' (by omega)))
       have hN2:MDyn w w3 mp (.slice (some ⟨g,0,none⟩) init.length cap) init (.slice (some ⟨g3,0,none⟩) ((its++[it.ty]++chT.take j).length+1) cap3) (its++[it.ty]++chT.take (j+1)) cs:=by
        rw [List.take_succ_eq_append_getElem hj1,← List.append_assoc];exact hN3
       have hob3:(Value.slice (some ⟨g3,0,none⟩) ((its++[it.ty]++chT.take j).length+1) cap3).ownBlock≠some wo.heap.size:=by
        simp only [Value.ownBlock]
        intro e
        have e':g3=wo.heap.size:=by simpa using e
        rcases hat with hat|hat
        · exact hob (by rw [hat,e'])
        · have:wr.drew.heap.size=wr.heap.size:=rfl
          omega
       have HR:Hid ((Builtin.append_ #[64,64] 64 #[u5,.slice (some ⟨wr.heap.size,0,none⟩) 1 1]).run Try.prog (wr.alloc (.cells #[.int .i64 chT[j].k,.int .i64 chT[j].n,.slice chT[j].ao chT[j].len chT[j].cap,.int .i64 chT[j].k',.int .i64 chT[j].n',.slice chT[j].ao' chT[j].len' chT[j].cap'] 70)).drew=.ok (.slice (some ⟨g3,0,none⟩) ((its++[it.ty]++chT.take j).length+1) cap3) w3):=hrun
       have hjI:(0:Int)≤(j:Int):=by omega
       have hjl:(j:Int)<(it.l2:Int):=by omega
       have hjl':(j:Int)<(it.m2:Int):=by have:=HQ2.out;omega
       obtain⟨m0,m1,m2,m3,m4,m5,m6,m7⟩:=S0
       clear hcc hcc' SK hk2 hge hrun hN3 hgr hat y0 y1 y2 y3 y4 y5 hId p7 p16
       generalize (its++[it.ty]++chT.take j).length+1=nn at *
       go_wp2_with fail
       go_region_held3 (fun w'=>w'.cell? ⟨wo.heap.size,7,none⟩=some (.slice (some ⟨cT,0,none⟩) it.l2 it.c2)∧w'.cell? ⟨wo.heap.size,16,none⟩=some (.slice (some ⟨cT',oT',none⟩) it.m2 it.d2)∧w'.cell? ⟨cT,j*3,none⟩=some (.int .i64 chT[j].k)∧w'.cell? ⟨cT,j*3+1,none⟩=some (.int .i64 chT[j].n)∧w'.cell? ⟨cT,j*3+2,none⟩=some (.slice chT[j].ao chT[j].len chT[j].cap)∧w'.cell? ⟨cT',oT'+j*3,none⟩=some (.int .i64 chT[j].k')∧w'.cell? ⟨cT',oT'+j*3+1,none⟩=some (.int .i64 chT[j].n')∧w'.cell? ⟨cT',oT'+j*3+2,none⟩=some (.slice chT[j].ao' chT[j].len' chT[j].cap'))
        (first|(refine⟨?_,?_,?_,?_,?_,?_,?_,?_⟩;exact m0;exact m1;exact m2;exact m3;exact m4;exact m5;exact m6;exact m7)|exact SA.out _|exact S2.out)
        (refine Qbs HR.out (by rfl) _ _ (by rfl) (by rfl) (by rfl) (by rfl) ?_)
       clear m0 m1 m2 m3 m4 m5 m6 m7
       go_wp2_with fail
       go_roundw
       case rel=>exact⟨_,rfl,j+1,by omega,by go_num,hN2,hbx2,hob3⟩
       case measure=>simp [intOf];omega
     · have hcT:chT.take j=chT:=List.take_of_length_le (by have:=HTL.out;omega)
       rw [hcT] at hI
       have HXT:Hid (chT.map It.x=it.t.Ts):=List.ext_getElem (by simp;have:=HTL.out;have:=HTT.out;omega) (fun i h1 h2=>by
        simp only [List.getElem_map];exact (HTP.out i (by simpa using h1) h2 (by have:=HTT'.out;have:=HQ2.out;have:=HTT.out;omega)).1)
       have HYT:Hid (chT.map It.y=it.t'.Ts):=List.ext_getElem (by simp;have:=HTL.out;have:=HTT'.out;have:=HQ2.out;omega) (fun i h1 h2=>by
        simp only [List.getElem_map];exact (HTP.out i (by simpa using h1) (by have:=HTT'.out;have:=HQ2.out;have:=HTT.out;omega) h2).2.1)
       have HOT:Hid (∀ i∈chT,Ow w D i.ao i.len i.ts i.bs∧Hs L' B' w D i.ao' i.len' i.ts'):=by
        intro i hi
        obtain⟨q,hq,rfl⟩:=List.getElem_of_mem hi
        have:=HTP.out q hq (by have:=HTL.out;have:=HTT.out;omega) (by have:=HTL.out;have:=HTT'.out;have:=HQ2.out;omega)
        exact⟨this.2.2.1,this.2.2.2.1⟩
       have p8:wr.cell? ⟨wo.heap.size,8,none⟩=some (.slice it.a3 it.l3 it.c3):=Qaa hbx 8
       have p17:wr.cell? ⟨wo.heap.size,17,none⟩=some (.slice it.b3 it.m3 it.d3):=Qaa hbx 17
       clear hcT hN
       by_cases h0:it.l3=0
       · have h0b:((it.l3:Int)==0)=true:=by simp [h0]
         have HN:Hid (MR w D d L' B' mp b (.tuple #[.slice (some ⟨g,0,none⟩) init.length cap,u5]) wr ((((init++[]):List Im).map fun i=>1+cntM i.t).sum)∧(((init++[]):List Im).map fun i=>1+cntM i.t).sum<(((init++[it]):List Im).map fun i=>1+cntM i.t).sum):=by
          have eA:it.t.A=[]:=List.length_eq_zero_iff.1 (by rw [← hitS.o3.len.1];exact h0)
          have eA':it.t'.A=[]:=List.length_eq_zero_iff.1 (by rw [← hitS.f.m.len.1,← HQ3.out];exact h0)
          have hss:=sum_step (init:=init) (it:=it) (its:=its) (chT:=chT) (chM:=[]) HXT.out (by rw [eA];rfl)
          refine⟨⟨_,_,init++[],its++[it.ty]++chT,[]++cs,rfl,by simpa using hI,mst_step hS chT [] [] HOT.out (fun i hi=>by simp at hi) HTC.out (fun x=>by simp) (fun b hb=>by simp at hb),all_step HL.out (like_step HQ.out HXT.out HYT.out (by rw [eA];rfl) (by rw [eA'];rfl)),rfl,?_⟩,?_⟩
          · exact Nat.le_trans hss.1 HBO.out
          · exact hss.2
         clear h0
         go_wp2_with fail
         go_roundw
         case rel=>exact⟨_,_,rfl,rfl,_,HN.out.1⟩
         case measure=>exact Nat.lt_of_le_of_lt (HM.out _ _ _ HN.out.1).1 (HSO.out _ HN.out.2)
       have h0b:((it.l3:Int)==0)=false:=by rw [beq_eq_false_iff_ne];omega
       have hpos:0<it.l3:=by omega
       have hpos':0<it.m3:=by have:=HQ3.out;omega
       obtain⟨c,c',o',ch,hao,hao',hLc',hc',hchl,hfro,hbs,hts,hts',hch⟩:=m_parts hitS HQ3.out hpos
       rw [hao] at p8
       rw [hao'] at p17
       have HAO:Hid (it.a3=_):=hao
       have HAO':Hid (it.b3=_):=hao'
       have HCL:Hid (ch.length=it.l3):=hchl
       have HBS:Hid (it.p3=_):=hbs
       have HTS:Hid (it.l3=it.t.A.length):=hts
       have HTS':Hid (it.m3=it.t'.A.length):=hts'
       have HCH:Hid (∀ i,_):=hch
       have HFR:Hid (∃ a,_):=hfro
       clear h0 hao hao' hchl hbs hts hts' hch hfro
       obtain⟨KEY,hKEY⟩:∃ K,K=Obj.cells #[.pointer (some ⟨c,0,none⟩),.pointer (some ⟨c',o',none⟩),.int .i64 (it.l3:Int)] 73 (0,0):=⟨_,rfl⟩
       have hYb:Below wr.heap.size wr (wr.alloc KEY).drew:=((Below.refl _ _).alloc (Nat.le_refl _) _).drew
       have hZb:Below wr.heap.size wr ((wr.alloc KEY).alloc (.cells #[] 74)).drew:=(((Below.refl _ _).alloc (Nat.le_refl _) _).alloc (by simp) _).drew
       have hDY:=m_below hI hYb
       have hDZ:=m_below hI hZb
       have hcb:c<w.heap.size:=hS.bnd c (by rw [List.flatMap_append];simp [Im.bs,HBS.out])
       have hcn:c ∉ cs:=by
        have hn:=hS.nodup
        rw [List.flatMap_append] at hn
        simp only [List.flatMap_cons,List.flatMap_nil,List.append_nil] at hn
        have:=(List.nodup_append.1 hn).2.2
        exact fun h=>this c (by simp [Im.bs,HBS.out]) c h rfl
       have hcb':c'<w.heap.size:=by omega
       have hfrW:∀ (W:World),Below w.heap.size w W->∀ x,x=c∨x∈cs->∃ a t,W.heap[x]?=some (.cells a t (0,0)):=by
        intro W hW x hx
        have hxb:x<w.heap.size:=by
         rcases hx with rfl|hx
         · exact hcb
         · exact hS.bnd x (List.mem_append_right _ hx)
        rw [hW.block x hxb]
        rcases hx with rfl|hx
        · exact HFR.out
        · exact hS.fro x hx
       have hmpw:w.heap.size≤mp:=by have:=HMP.out;omega
       obtain⟨esY,clY,hmY,hkY⟩:=hDY.map
       obtain⟨esZ,clZ,hmZ,hkZ⟩:=hDZ.map
       have hlk:(Instr.lookup 65 (.map (some mp)) (.agg #[.pointer (some ⟨c,0,none⟩),.pointer (some ⟨c',o',none⟩),.int .i64 (it.l3:Int)]) true).run Try.prog (wr.alloc KEY).drew=.ok (.tuple #[.agg #[],.bool false]) (wr.alloc KEY).drew:=lookupM_new hmY (hfrW _ hDY.bel) hcn hkY
       obtain⟨Z,hup,hDZ2,hZZ⟩:∃ Z,(Instr.mapUpdate 65 (.map (some mp)) (.agg #[.pointer (some ⟨c,0,none⟩),.pointer (some ⟨c',o',none⟩),.int .i64 (it.l3:Int)]) (.agg #[])).run Try.prog ((wr.alloc KEY).alloc (.cells #[] 74)).drew=.ok () Z∧MDyn w Z mp (.slice (some ⟨g,0,none⟩) init.length cap) init u5 (its++[it.ty]++chT) (c::cs)∧(∀ i,i≠mp->i<wr.heap.size->Z.heap[i]?=wr.heap[i]?)∧wr.heap.size≤Z.heap.size:=by
        refine⟨_,updateM_new hmZ (hfrW _ hDZ.bel) hcn hkZ,m_key hDZ hmpw hmZ hkZ c _ _,fun i hi hi2=>?_,?_⟩
        · show (Array.setIfInBounds _ _ _)[i]?=_
          rw [Array.getElem?_setIfInBounds,if_neg (fun e=>hi e.symm)]
          exact hZb.block i hi2
        · show _≤(Array.setIfInBounds _ _ _).size
          rw [Array.size_setIfInBounds];exact hZb.size
       have HK:Hid (KEY=_):=hKEY
       rw [hKEY] at hlk hup
       have hbm:wo.heap.size≠mp:=by
        obtain⟨es,cl,hm,_⟩:=hI.map
        intro e
        rw [e,hm] at hbx;cases hbx
       clear hKEY hmY hmZ hkY hkZ hDY hDZ hYb hZb
       have hpI:(0:Int)<(it.l3:Int):=by omega
       have hpI':(0:Int)<(it.m3:Int):=by omega
       have hboxZ:Z.heap[wo.heap.size]?=some (.cells #[.int .i64 it.t.K,.int .i64 it.t.N,.string it.t.S,.string it.t.Z,.int .i64 it.t.T.K,.int .i64 it.t.T.N,.slice it.a1 it.l1 it.c1,.slice it.a2 it.l2 it.c2,.slice it.a3 it.l3 it.c3,.int .i64 it.t'.K,.int .i64 it.t'.N,.string it.t'.S,.string it.t'.Z,.int .i64 it.t'.T.K,.int .i64 it.t'.T.N,.slice it.b1 it.m1 it.d1,.slice it.b2 it.m2 it.d2,.slice it.b3 it.m3 it.d3] 67 (0,0)):=(hZZ.1 wo.heap.size hbm hpbl).trans hbx
       have a8:∀ o,(wr.alloc o).cell? ⟨wo.heap.size,8,none⟩=some (.slice (some ⟨c,0,none⟩) it.l3 it.c3):=fun o=>(World.cell?_of_block (Below.heap_alloc _ _ _ hpbl)).trans p8
       have a17:∀ o,(wr.alloc o).cell? ⟨wo.heap.size,17,none⟩=some (.slice (some ⟨c',o',none⟩) it.m3 it.d3):=fun o=>(World.cell?_of_block (Below.heap_alloc _ _ _ hpbl)).trans p17
       go_wp2_with fail
       go_region_held3 (fun w'=>w'.cell? ⟨wo.heap.size,8,none⟩=some (.slice (some ⟨c,0,none⟩) it.l3 it.c3)∧w'.cell? ⟨wo.heap.size,17,none⟩=some (.slice (some ⟨c',o',none⟩) it.m3 it.d3)) (first|(refine⟨?_,?_⟩;exact p8;exact p17)|(refine⟨?_,?_⟩;exact a8 _;exact a17 _)) (fail)
       go_wp2_with fail
       clear hlk hup hbx p8 p17 a8 a17 hI hgI hszI hpbl
       go_loopw [7,101] (fun u i wi=>∃ v,u=v∧∃ j:Nat,j≤it.l3∧i=.int .i64 j∧MDyn w wi mp v (init++ch.take j) u5 (its++[it.ty]++chT) (c::cs)∧wi.heap[wo.heap.size]?=some (.cells #[.int .i64 it.t.K,.int .i64 it.t.N,.string it.t.S,.string it.t.Z,.int .i64 it.t.T.K,.int .i64 it.t.T.N,.slice it.a1 it.l1 it.c1,.slice it.a2 it.l2 it.c2,.slice it.a3 it.l3 it.c3,.int .i64 it.t'.K,.int .i64 it.t'.N,.string it.t'.S,.string it.t'.Z,.int .i64 it.t'.T.K,.int .i64 it.t'.T.N,.slice it.b1 it.m1 it.d1,.slice it.b2 it.m2 it.d2,.slice it.b3 it.m3 it.d3] 67 (0,0))∧v.ownBlock≠some wo.heap.size) (fun _ i _=>it.l3 - (intOf i).toNat)
       case atStart=>exact⟨_,rfl,0,by omega,rfl,by simpa using hDZ2,hboxZ,by simp [Value.ownBlock];omega⟩
       case round =>
        obtain⟨_,rfl,j,hj,rfl,hI,hbx,hob⟩:=hrel
        have hgI:=hI.bel
        have hszI:=hgI.size
        have hpbl:wo.heap.size<wr.heap.size:=(Array.getElem?_eq_some_iff.1 hbx).1
        by_cases hlt:j<it.l3
        · have hj1:j<ch.length:=by have:=HCL.out;omega
          have hj2:j<it.t.A.length:=by have:=HTS.out;omega
          have hj3:j<it.t'.A.length:=by have:=HTS'.out;have:=HQ3.out;omega
          obtain⟨hk1,hk2,hk3,⟨y0,y1,y2,y3,y4,y5,y6,y7,y8⟩,z0,z1,z2,z3,z4,z5,z6,z7,z8⟩:=HCH.out j hj1 hj2 hj3
          clear hk1 hk2 hk3
          have hcc:∀ o,wr.cell? ⟨c,o,none⟩=w.cell? ⟨c,o,none⟩:=fun o=>World.cell?_of_block (a:=⟨c,o,none⟩) (hgI.block c hcb)
          have hcc':∀ o,wr.cell? ⟨c',o,none⟩=w.cell? ⟨c',o,none⟩:=fun o=>World.cell?_of_block (a:=⟨c',o,none⟩) (hgI.block c' hcb')
          have hcl:c<wr.heap.size:=by omega
          have hcl':c'<wr.heap.size:=by omega
          have p8:wr.cell? ⟨wo.heap.size,8,none⟩=some (.slice (some ⟨c,0,none⟩) it.l3 it.c3):=(Qaa hbx 8).trans (by rw [HAO.out];rfl)
          have p17:wr.cell? ⟨wo.heap.size,17,none⟩=some (.slice (some ⟨c',o',none⟩) it.m3 it.d3):=(Qaa hbx 17).trans (by rw [HAO'.out];rfl)
          have S0:wr.cell? ⟨wo.heap.size,8,none⟩=some (.slice (some ⟨c,0,none⟩) it.l3 it.c3)∧wr.cell? ⟨wo.heap.size,17,none⟩=some (.slice (some ⟨c',o',none⟩) it.m3 it.d3)∧wr.cell? ⟨c,j*9,none⟩=some (.int .i64 ch[j].t.K)∧wr.cell? ⟨c,j*9+1,none⟩=some (.int .i64 ch[j].t.N)∧wr.cell? ⟨c,j*9+2,none⟩=some (.string ch[j].t.S)∧wr.cell? ⟨c,j*9+3,none⟩=some (.string ch[j].t.Z)∧wr.cell? ⟨c,j*9+4,none⟩=some (.int .i64 ch[j].t.T.K)∧wr.cell? ⟨c,j*9+5,none⟩=some (.int .i64 ch[j].t.T.N)∧wr.cell? ⟨c,j*9+6,none⟩=some (.slice ch[j].a1 ch[j].l1 ch[j].c1)∧wr.cell? ⟨c,j*9+7,none⟩=some (.slice ch[j].a2 ch[j].l2 ch[j].c2)∧wr.cell? ⟨c,j*9+8,none⟩=some (.slice ch[j].a3 ch[j].l3 ch[j].c3)∧wr.cell? ⟨c',o'+j*9,none⟩=some (.int .i64 ch[j].t'.K)∧wr.cell? ⟨c',o'+j*9+1,none⟩=some (.int .i64 ch[j].t'.N)∧wr.cell? ⟨c',o'+j*9+2,none⟩=some (.string ch[j].t'.S)∧wr.cell? ⟨c',o'+j*9+3,none⟩=some (.string ch[j].t'.Z)∧wr.cell? ⟨c',o'+j*9+4,none⟩=some (.int .i64 ch[j].t'.T.K)∧wr.cell? ⟨c',o'+j*9+5,none⟩=some (.int .i64 ch[j].t'.T.N)∧wr.cell? ⟨c',o'+j*9+6,none⟩=some (.slice ch[j].b1 ch[j].m1 ch[j].d1)∧wr.cell? ⟨c',o'+j*9+7,none⟩=some (.slice ch[j].b2 ch[j].m2 ch[j].d2)∧wr.cell? ⟨c',o'+j*9+8,none⟩=some (.slice ch[j].b3 ch[j].m3 ch[j].d3):=⟨p8,p17,(hcc _).trans y0,(hcc _).trans y1,(hcc _).trans y2,(hcc _).trans y3,(hcc _).trans y4,(hcc _).trans y5,(hcc _).trans y6,(hcc _).trans y7,(hcc _).trans y8,(hcc' _).trans z0,(hcc' _).trans z1,(hcc' _).trans z2,(hcc' _).trans z3,(hcc' _).trans z4,(hcc' _).trans z5,(hcc' _).trans z6,(hcc' _).trans z7,(hcc' _).trans z8⟩
          have SK:∀ w':World,w'.heap[wo.heap.size]?=wr.heap[wo.heap.size]?->w'.heap[c]?=wr.heap[c]?->w'.heap[c']?=wr.heap[c']?->w'.cell? ⟨wo.heap.size,8,none⟩=some (.slice (some ⟨c,0,none⟩) it.l3 it.c3)∧w'.cell? ⟨wo.heap.size,17,none⟩=some (.slice (some ⟨c',o',none⟩) it.m3 it.d3)∧w'.cell? ⟨c,j*9,none⟩=some (.int .i64 ch[j].t.K)∧w'.cell? ⟨c,j*9+1,none⟩=some (.int .i64 ch[j].t.N)∧w'.cell? ⟨c,j*9+2,none⟩=some (.string ch[j].t.S)∧w'.cell? ⟨c,j*9+3,none⟩=some (.string ch[j].t.Z)∧w'.cell? ⟨c,j*9+4,none⟩=some (.int .i64 ch[j].t.T.K)∧w'.cell? ⟨c,j*9+5,none⟩=some (.int .i64 ch[j].t.T.N)∧w'.cell? ⟨c,j*9+6,none⟩=some (.slice ch[j].a1 ch[j].l1 ch[j].c1)∧w'.cell? ⟨c,j*9+7,none⟩=some (.slice ch[j].a2 ch[j].l2 ch[j].c2)∧w'.cell? ⟨c,j*9+8,none⟩=some (.slice ch[j].a3 ch[j].l3 ch[j].c3)∧w'.cell? ⟨c',o'+j*9,none⟩=some (.int .i64 ch[j].t'.K)∧w'.cell? ⟨c',o'+j*9+1,none⟩=some (.int .i64 ch[j].t'.N)∧w'.cell? ⟨c',o'+j*9+2,none⟩=some (.string ch[j].t'.S)∧w'.cell? ⟨c',o'+j*9+3,none⟩=some (.string ch[j].t'.Z)∧w'.cell? ⟨c',o'+j*9+4,none⟩=some (.int .i64 ch[j].t'.T.K)∧w'.cell? ⟨c',o'+j*9+5,none⟩=some (.int .i64 ch[j].t'.T.N)∧w'.cell? ⟨c',o'+j*9+6,none⟩=some (.slice ch[j].b1 ch[j].m1 ch[j].d1)∧w'.cell? ⟨c',o'+j*9+7,none⟩=some (.slice ch[j].b2 ch[j].m2 ch[j].d2)∧w'.cell? ⟨c',o'+j*9+8,none⟩=some (.slice ch[j].b3 ch[j].m3 ch[j].d3):=by
           intro w' k1 k2 k3
           have q1:∀ o,w'.cell? ⟨wo.heap.size,o,none⟩=wr.cell? ⟨wo.heap.size,o,none⟩:=fun o=>World.cell?_of_block (a:=⟨_,o,none⟩) k1
           have q2:∀ o,w'.cell? ⟨c,o,none⟩=wr.cell? ⟨c,o,none⟩:=fun o=>World.cell?_of_block (a:=⟨_,o,none⟩) k2
           have q3:∀ o,w'.cell? ⟨c',o,none⟩=wr.cell? ⟨c',o,none⟩:=fun o=>World.cell?_of_block (a:=⟨_,o,none⟩) k3
           obtain⟨r0,r1,r2,r3,r4,r5,r6,r7,r8,r9,r10,r11,r12,r13,r14,r15,r16,r17,r18,r19⟩:=S0
           exact⟨(q1 _).trans r0,(q1 _).trans r1,(q2 _).trans r2,(q2 _).trans r3,(q2 _).trans r4,(q2 _).trans r5,(q2 _).trans r6,(q2 _).trans r7,(q2 _).trans r8,(q2 _).trans r9,(q2 _).trans r10,(q3 _).trans r11,(q3 _).trans r12,(q3 _).trans r13,(q3 _).trans r14,(q3 _).trans r15,(q3 _).trans r16,(q3 _).trans r17,(q3 _).trans r18,(q3 _).trans r19⟩
          have SA:Hid (∀ o,(wr.alloc o).cell? ⟨wo.heap.size,8,none⟩=some (.slice (some ⟨c,0,none⟩) it.l3 it.c3)∧(wr.alloc o).cell? ⟨wo.heap.size,17,none⟩=some (.slice (some ⟨c',o',none⟩) it.m3 it.d3)∧(wr.alloc o).cell? ⟨c,j*9,none⟩=some (.int .i64 ch[j].t.K)∧(wr.alloc o).cell? ⟨c,j*9+1,none⟩=some (.int .i64 ch[j].t.N)∧(wr.alloc o).cell? ⟨c,j*9+2,none⟩=some (.string ch[j].t.S)∧(wr.alloc o).cell? ⟨c,j*9+3,none⟩=some (.string ch[j].t.Z)∧(wr.alloc o).cell? ⟨c,j*9+4,none⟩=some (.int .i64 ch[j].t.T.K)∧(wr.alloc o).cell? ⟨c,j*9+5,none⟩=some (.int .i64 ch[j].t.T.N)∧(wr.alloc o).cell? ⟨c,j*9+6,none⟩=some (.slice ch[j].a1 ch[j].l1 ch[j].c1)∧(wr.alloc o).cell? ⟨c,j*9+7,none⟩=some (.slice ch[j].a2 ch[j].l2 ch[j].c2)∧(wr.alloc o).cell? ⟨c,j*9+8,none⟩=some (.slice ch[j].a3 ch[j].l3 ch[j].c3)∧(wr.alloc o).cell? ⟨c',o'+j*9,none⟩=some (.int .i64 ch[j].t'.K)∧(wr.alloc o).cell? ⟨c',o'+j*9+1,none⟩=some (.int .i64 ch[j].t'.N)∧(wr.alloc o).cell? ⟨c',o'+j*9+2,none⟩=some (.string ch[j].t'.S)∧(wr.alloc o).cell? ⟨c',o'+j*9+3,none⟩=some (.string ch[j].t'.Z)∧(wr.alloc o).cell? ⟨c',o'+j*9+4,none⟩=some (.int .i64 ch[j].t'.T.K)∧(wr.alloc o).cell? ⟨c',o'+j*9+5,none⟩=some (.int .i64 ch[j].t'.T.N)∧(wr.alloc o).cell? ⟨c',o'+j*9+6,none⟩=some (.slice ch[j].b1 ch[j].m1 ch[j].d1)∧(wr.alloc o).cell? ⟨c',o'+j*9+7,none⟩=some (.slice ch[j].b2 ch[j].m2 ch[j].d2)∧(wr.alloc o).cell? ⟨c',o'+j*9+8,none⟩=some (.slice ch[j].b3 ch[j].m3 ch[j].d3)):=fun o=>SK (wr.alloc o) (Below.heap_alloc _ _ _ hpbl) (Below.heap_alloc _ _ _ hcl) (Below.heap_alloc _ _ _ hcl')
          have hId:=m_below hI (Below.refl _ _).drew
          have hnum:(init++ch.take j).length≤1048577:=by
           have h2:=HBO.out
           have h3:=(sum_step (init:=init) (it:=it) (its:=its) (chT:=chT) (chM:=ch) HXT.out (List.ext_getElem (by simp;have:=HCL.out;have:=HTS.out;omega) (fun i h1 h2=>by simp only [List.getElem_map];exact (HCH.out i (by simpa using h1) h2 (by have:=HTS'.out;have:=HQ3.out;have:=HTS.out;omega)).1))).1
           have h5:=(lenT_le h3).2
           simp only [List.length_append,List.length_take] at h5 ⊢
           omega
          obtain⟨g3,cap3,w3,hrun,hN3,hgr,hat⟩:=m_push hId hnum ch[j]
          have hge:∀ x,x<w.heap.size->u7.ownBlock≠some x:=fun x hx e=>by have:=hI.blk x e;omega
          have hk2:∀ x,x<wr.heap.size->u7.ownBlock≠some x->w3.heap[x]?=wr.heap[x]?:=fun x hx hne=>hgr.block x hx (fun e=>hne e.symm)
          have hbx2:w3.heap[wo.heap.size]?=_:=(hk2 _ hpbl hob).trans hbx
          have S2:Hid (w3.cell? ⟨wo.heap.size,8,none⟩=some (.slice (some ⟨c,0,none⟩) it.l3 it.c3)∧w3.cell? ⟨wo.heap.size,17,none⟩=some (.slice (some ⟨c',o',none⟩) it.m3 it.d3)∧w3.cell? ⟨c,j*9,none⟩=some (.int .i64 ch[j].t.K)∧w3.cell? ⟨c,j*9+1,none⟩=some (.int .i64 ch[j].t.N)∧w3.cell? ⟨c,j*9+2,none⟩=some (.string ch[j].t.S)∧w3.cell? ⟨c,j*9+3,none⟩=some (.string ch[j].t.Z)∧w3.cell? ⟨c,j*9+4,none⟩=some (.int .i64 ch[j].t.T.K)∧w3.cell? ⟨c,j*9+5,none⟩=some (.int .i64 ch[j].t.T.N)∧w3.cell? ⟨c,j*9+6,none⟩=some (.slice ch[j].a1 ch[j].l1 ch[j].c1)∧w3.cell? ⟨c,j*9+7,none⟩=some (.slice ch[j].a2 ch[j].l2 ch[j].c2)∧w3.cell? ⟨c,j*9+8,none⟩=some (.slice ch[j].a3 ch[j].l3 ch[j].c3)∧w3.cell? ⟨c',o'+j*9,none⟩=some (.int .i64 ch[j].t'.K)∧w3.cell? ⟨c',o'+j*9+1,none⟩=some (.int .i64 ch[j].t'.N)∧w3.cell? ⟨c',o'+j*9+2,none⟩=some (.string ch[j].t'.S)∧w3.cell? ⟨c',o'+j*9+3,none⟩=some (.string ch[j].t'.Z)∧w3.cell? ⟨c',o'+j*9+4,none⟩=some (.int .i64 ch[j].t'.T.K)∧w3.cell? ⟨c',o'+j*9+5,none⟩=some (.int .i64 ch[j].t'.T.N)∧w3.cell? ⟨c',o'+j*9+6,none⟩=some (.slice ch[j].b1 ch[j].m1 ch[j].d1)∧w3.cell? ⟨c',o'+j*9+7,none⟩=some (.slice ch[j].b2 ch[j].m2 ch[j].d2)∧w3.cell? ⟨c',o'+j*9+8,none⟩=some (.slice ch[j].b3 ch[j].m3 ch[j].d3)):=SK w3 (hk2 _ hpbl hob) (hk2 _ hcl (hge c hcb)) (hk2 _ hcl' (hge c' hcb'))
          have hN2:MDyn w w3 mp (.slice (some ⟨g3,0,none⟩) ((init++ch.take j).length+1) cap3) (init++ch.take (j+1)) u5 (its++[it.ty]++chT) (c::cs):=by
           rw [List.take_succ_eq_append_getElem hj1,← List.append_assoc];exact hN3
          have hob3:(Value.slice (some ⟨g3,0,none⟩) ((init++ch.take j).length+1) cap3).ownBlock≠some wo.heap.size:=by
           simp only [Value.ownBlock]
           intro e
           have e':g3=wo.heap.size:=by simpa using e
           rcases hat with hat|hat
           · exact hob (by rw [hat,e'])
           · have:wr.drew.heap.size=wr.heap.size:=rfl
             omega
          have HR:Hid ((Builtin.append_ #[68,68] 68 #[u7,.slice (some ⟨wr.heap.size,0,none⟩) 1 1]).run Try.prog (wr.alloc (.cells #[.int .i64 ch[j].t.K,.int .i64 ch[j].t.N,.string ch[j].t.S,.string ch[j].t.Z,.int .i64 ch[j].t.T.K,.int .i64 ch[j].t.T.N,.slice ch[j].a1 ch[j].l1 ch[j].c1,.slice ch[j].a2 ch[j].l2 ch[j].c2,.slice ch[j].a3 ch[j].l3 ch[j].c3,.int .i64 ch[j].t'.K,.int .i64 ch[j].t'.N,.string ch[j].t'.S,.string ch[j].t'.Z,.int .i64 ch[j].t'.T.K,.int .i64 ch[j].t'.T.N,.slice ch[j].b1 ch[j].m1 ch[j].d1,.slice ch[j].b2 ch[j].m2 ch[j].d2,.slice ch[j].b3 ch[j].m3 ch[j].d3] 67)).drew=.ok (.slice (some ⟨g3,0,none⟩) ((init++ch.take j).length+1) cap3) w3):=hrun
          have hjI:(0:Int)≤(j:Int):=by omega
          have hjl:(j:Int)<(it.l3:Int):=by omega
          have hjl':(j:Int)<(it.m3:Int):=by have:=HQ3.out;omega
          obtain⟨m0,m1,m2,m3,m4,m5,m6,m7,m8,m9,m10,m11,m12,m13,m14,m15,m16,m17,m18,m19⟩:=S0
          clear hcc hcc' SK hk2 hge hrun hN3 hgr hat y0 z0 y1 z1 y2 z2 y3 z3 y4 z4 y5 z5 y6 z6 y7 z7 y8 z8 hId p8 p17
          generalize (init++ch.take j).length+1=nn at *
          go_wp2_with fail
          go_region_held3 (fun w'=>w'.cell? ⟨wo.heap.size,8,none⟩=some (.slice (some ⟨c,0,none⟩) it.l3 it.c3)∧w'.cell? ⟨wo.heap.size,17,none⟩=some (.slice (some ⟨c',o',none⟩) it.m3 it.d3)∧w'.cell? ⟨c,j*9,none⟩=some (.int .i64 ch[j].t.K)∧w'.cell? ⟨c,j*9+1,none⟩=some (.int .i64 ch[j].t.N)∧w'.cell? ⟨c,j*9+2,none⟩=some (.string ch[j].t.S)∧w'.cell? ⟨c,j*9+3,none⟩=some (.string ch[j].t.Z)∧w'.cell? ⟨c,j*9+4,none⟩=some (.int .i64 ch[j].t.T.K)∧w'.cell? ⟨c,j*9+5,none⟩=some (.int .i64 ch[j].t.T.N)∧w'.cell? ⟨c,j*9+6,none⟩=some (.slice ch[j].a1 ch[j].l1 ch[j].c1)∧w'.cell? ⟨c,j*9+7,none⟩=some (.slice ch[j].a2 ch[j].l2 ch[j].c2)∧w'.cell? ⟨c,j*9+8,none⟩=some (.slice ch[j].a3 ch[j].l3 ch[j].c3)∧w'.cell? ⟨c',o'+j*9,none⟩=some (.int .i64 ch[j].t'.K)∧w'.cell? ⟨c',o'+j*9+1,none⟩=some (.int .i64 ch[j].t'.N)∧w'.cell? ⟨c',o'+j*9+2,none⟩=some (.string ch[j].t'.S)∧w'.cell? ⟨c',o'+j*9+3,none⟩=some (.string ch[j].t'.Z)∧w'.cell? ⟨c',o'+j*9+4,none⟩=some (.int .i64 ch[j].t'.T.K)∧w'.cell? ⟨c',o'+j*9+5,none⟩=some (.int .i64 ch[j].t'.T.N)∧w'.cell? ⟨c',o'+j*9+6,none⟩=some (.slice ch[j].b1 ch[j].m1 ch[j].d1)∧w'.cell? ⟨c',o'+j*9+7,none⟩=some (.slice ch[j].b2 ch[j].m2 ch[j].d2)∧w'.cell? ⟨c',o'+j*9+8,none⟩=some (.slice ch[j].b3 ch[j].m3 ch[j].d3))
           (first|(refine⟨?_,?_,?_,?_,?_,?_,?_,?_,?_,?_,?_,?_,?_,?_,?_,?_,?_,?_,?_,?_⟩;exact m0;exact m1;exact m2;exact m3;exact m4;exact m5;exact m6;exact m7;exact m8;exact m9;exact m10;exact m11;exact m12;exact m13;exact m14;exact m15;exact m16;exact m17;exact m18;exact m19)|exact SA.out _|exact S2.out)
           (refine Qbs HR.out (by rfl) _ _ (by rfl) (by rfl) (by rfl) (by rfl) ?_)
          clear m0 m1 m2 m3 m4 m5 m6 m7 m8 m9 m10 m11 m12 m13 m14 m15 m16 m17 m18 m19
          go_wp2_with fail
          go_roundw
          case rel=>exact⟨_,rfl,j+1,by omega,by go_num,hN2,hbx2,hob3⟩
          case measure=>simp [intOf];omega
        · have HN:Hid (MR w D d L' B' mp b (.tuple #[u7,u5]) wr ((((init++ch):List Im).map fun i=>1+cntM i.t).sum)∧(((init++ch):List Im).map fun i=>1+cntM i.t).sum<(((init++[it]):List Im).map fun i=>1+cntM i.t).sum):=by
           have k1:=HCL.out
           have k2:=HTS.out
           have k3:=HTS'.out
           have k4:=HQ3.out
           have exM:ch.map Im.t=it.t.A:=List.ext_getElem (by simp;omega) (fun i h1 h2=>by simp only [List.getElem_map];exact (HCH.out i (by simpa using h1) h2 (by omega)).1)
           have eyM:ch.map Im.t'=it.t'.A:=List.ext_getElem (by simp;omega) (fun i h1 h2=>by simp only [List.getElem_map];exact (HCH.out i (by simpa using h1) (by omega) h2).2.1)
           have hss:=sum_step (init:=init) (it:=it) (its:=its) (chT:=chT) (chM:=ch) HXT.out exM
           have hlj:ch.take j=ch:=List.take_of_length_le (by omega)
           refine⟨⟨_,_,init++ch,its++[it.ty]++chT,[c]++cs,rfl,by rw [hlj] at hI;exact hI,mst_step hS chT ch [c] HOT.out (fun i hi=>?_) HTC.out (fun x=>?_) (fun b hb=>?_),all_step HL.out (like_step HQ.out HXT.out HYT.out exM eyM),rfl,Nat.le_trans hss.1 HBO.out⟩,hss.2⟩
           · obtain⟨q,hq,rfl⟩:=List.getElem_of_mem hi
             exact (HCH.out q hq (by omega) (by omega)).2.2.1
           · rw [HBS.out,List.count_cons,List.count_cons,List.count_nil];omega
           · simp at hb
             subst hb
             exact HFR.out
          go_wp2_with fail
          go_roundw
          case rel=>exact⟨_,_,rfl,rfl,_,HN.out.1⟩
          case measure=>exact Nat.lt_of_le_of_lt (HM.out _ _ _ HN.out.1).1 (HSO.out _ HN.out.2)
end Go.Proofs.Ytleghjgpnefliaa
