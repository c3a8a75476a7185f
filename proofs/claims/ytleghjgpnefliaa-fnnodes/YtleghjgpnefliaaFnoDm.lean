/-
  What the model's 'l3Make' comes to, given itself one level below, and 'l3Uses'.
-/
import Derived.Test.YtleghjgpnefliaaFnoDp
namespace Go.Proofs.Ytleghjgpnefliaa
open Go.RowKit
set_option linter.unusedVariables false
set_option linter.unusedSimpArgs false
def SaidUses (dep:Nat):Prop:=∀ (p:Nat) (cao:Option Addr) (clen ccap:Nat) (wv:Value) (t:Tr) (v:Value) (es:List Ev) (vs:Int) (w:World),Cur w p cao clen ccap->Ty2 w p (11 - dep) wv t->En2 w p 14 v es->es.length+4*dep+4≤300->0≤vs->vs≤2 →
    Calls Try.prog 76 #[.pointer (some ⟨p,0,none⟩),wv,v,.int .i64 ((dep:Int)+1),.int .i64 vs] w fun e w'=>∃ rv tm,∃ b:Bool,e=.returned (.tuple #[rv,.bool b])∧TmV w' w.heap.size 14 (16+dep+1) rv tm∧Drw w w' p cao clen ccap
theorem two_right {d:Nat} {a b:Tr} (h1:∃ m,Qai d a=some m) (h2:∃ m,Qai d b=some m):∀ u∈[a,b],∃ m,Qai d u=some m:=by
 intro u hu
 simp at hu
 rcases hu with h|h
 · rw [h];exact h1
 · rw [h];exact h2
theorem copy_any {W:World} {p k:Nat} {wv:Value} {t:Tr} (h:Ty2 W p k wv t) (hk:k≤14):Calls Try.prog 63 #[wv] W fun e w'=>∃ aC lC cC,e=.returned (.agg #[.int .i64 t.K,.int .i64 t.N,.slice aC lC cC])∧Below W.heap.size W w'∧OwR W.heap.size w'.heap.size w' k aC lC t.A:=by
 obtain⟨⟨ao,len,cap,rfl,hs⟩,m,hm⟩:=h
 have hcnt:=Qeb _ _ _ hm
 rw [Qdd] at hcnt
 have hmlt:=Qdr _ _ _ hm
 have hpow:2 ^ k≤16384:=by
  have:2 ^ k≤2 ^ 14:=Nat.pow_le_pow_right (by omega) hk
  simpa using this
 exact Qed k _ _ _ _ _ _ _ _ W (Nat.le_refl _) hs (by omega)
set_option maxRecDepth 100000 in
set_option maxHeartbeats 1000000 in
theorem make_zero:SaidMake 0:=by
 intro p cao clen ccap wv t v es vs w hc hwv hv hlen hv0 hv2
 have hp:=hc.lt
 obtain⟨⟨ao,len,cap,rfl,hs⟩,m,hm⟩:=hwv
 obtain⟨ae,ce,rfl⟩:=hv.1.form
 obtain⟨X,hX⟩:∃ X,X=(w.alloc (.cells #[.int .i64 t.K,.int .i64 t.N,.slice ao len cap] 26)).alloc (.cells #[.int .i64 0,.int .i64 0,.string ⟨#[]⟩,.string ⟨#[]⟩,.int .i64 0,.int .i64 0,.slice none 0 0,.slice none 0 0,.slice none 0 0] 29):=⟨_,rfl⟩
 have hXs:X.heap.size=w.heap.size+2:=by rw [hX];simp
 have hXb:Below w.heap.size w X:=by rw [hX];exact ((Below.refl _ _).alloc (Nat.le_refl _) _).alloc (by simp) _
 have hX1:X.heap[w.heap.size+1]?=some (.cells #[.int .i64 0,.int .i64 0,.string ⟨#[]⟩,.string ⟨#[]⟩,.int .i64 0,.int .i64 0,.slice none 0 0,.slice none 0 0,.slice none 0 0] 29 (0,0)):=by rw [hX];exact Qac (by simp)
 have hgX:w.grownBy X (some p):=Qae _ hXb
 have hwX:Ty2 X p 12 (.agg #[.int .i64 t.K,.int .i64 t.N,.slice ao len cap]) t:=⟨⟨ao,len,cap,rfl,hs_up hs hXb⟩,m,hm⟩
 have hvX:=hv.grown hgX
 have HX:Hid (X=_):=hX
 clear hX
 go_enter Try.func54,Try.ntmps54
 go_wp2_with fail
 rw [← HX.out]
 refine (leaf_any 12 (by omega) p cao clen ccap _ t _ es X (hc.below hXb) hwX hvX (by omega)).mono ?_
 rintro e w2 ⟨rv,tm,rfl,⟨q1,q2,q3,q4,q5,q6,q7,q8,q9,rfl,hF⟩,hD2⟩
 have r2:=(hD2.grown.block (w.heap.size+1) (by omega) (by simp;omega)).trans hX1
 have hz2:=hD2.grown.size
 obtain⟨y0,y1,y2,y3,y4,y5,y6,y7,y8⟩:=Nine.box r2
 have yf:=Qad r2
 go_wp2_with fail
 have fin:=Qar (w:=w) (r:=w.heap.size+1) (c1:=q3) (c2:=q6) (c3:=q9) hF (by omega) (by omega) hp ⟨Qab hgX hD2.grown,hD2.cur⟩
 exact bodyPost_ret (v:=.agg #[.int .i64 tm.K,.int .i64 tm.N,.string tm.S,.string tm.Z,.int .i64 tm.T.K,.int .i64 tm.T.N,.slice q1 q2 q3,.slice q4 q5 q6,.slice q7 q8 q9]) (by simp [results,Try.results54,go_sem,y0,y1,y2,y3,y4,y5,y6,y7,y8]) rfl ⟨_,_,rfl,fin.1.deeper (Nat.le_refl _) (by omega),fin.2⟩
set_option maxRecDepth 100000 in
set_option maxHeartbeats 8000000 in
theorem make_step (dep:Nat) (hdep:dep≤4) (IH:SaidMake dep) (IU:SaidUses dep) (IS:SaidShape dep):SaidMake (dep+1):=by
 intro p cao clen ccap wv t v es vs w hc hwv hv hlen hv0 hv2
 have hp:=hc.lt
 obtain⟨k,hk⟩:∃ k,k=11 - dep:=⟨_,rfl⟩
 rw [show 12 - (dep+1)=11 - dep by omega,← hk] at hwv
 have hk14:k≤14:=by omega
 obtain⟨⟨ao,len,cap,rfl,hs⟩,m,hm⟩:=hwv
 obtain⟨ae,ce,rfl⟩:=hv.1.form
 obtain⟨X,hX⟩:∃ X,X=(w.alloc (.cells #[.int .i64 t.K,.int .i64 t.N,.slice ao len cap] 26)).alloc (.cells #[.int .i64 0,.int .i64 0,.string ⟨#[]⟩,.string ⟨#[]⟩,.int .i64 0,.int .i64 0,.slice none 0 0,.slice none 0 0,.slice none 0 0] 29):=⟨_,rfl⟩
 have hXs:X.heap.size=w.heap.size+2:=by rw [hX];simp
 have hXb:Below w.heap.size w X:=by rw [hX];exact ((Below.refl _ _).alloc (Nat.le_refl _) _).alloc (by simp) _
 have hX0:X.heap[w.heap.size]?=some (.cells #[.int .i64 t.K,.int .i64 t.N,.slice ao len cap] 26 (0,0)):=by rw [hX,Below.heap_alloc _ _ _ (by simp)];exact Qac rfl
 have hX1:X.heap[w.heap.size+1]?=some (.cells #[.int .i64 0,.int .i64 0,.string ⟨#[]⟩,.string ⟨#[]⟩,.int .i64 0,.int .i64 0,.slice none 0 0,.slice none 0 0,.slice none 0 0] 29 (0,0)):=by rw [hX];exact Qac (by simp)
 have hcX:=hc.below hXb
 have hgX:w.grownBy X (some p):=Qae _ hXb
 have hsX:Hs (p+1) X.heap.size X k ao len t.A:=hs_up hs hXb
 have hvX:=hv.grown hgX
 obtain⟨x0,x1,x2⟩:=Qaf hX0
 have HX:Hid (X=_):=hX
 obtain⟨n,hn⟩:∃ n,n=es.length:=⟨_,rfl⟩
 have HN:Hid (n=es.length):=hn
 rw [← hn] at hlen ⊢
 have HKd:Hid (k=11 - dep):=hk
 have HTX:Hid (∀ W:World,X.grownBy W (some p)->Ty2 W p k (.agg #[.int .i64 t.K,.int .i64 t.N,.slice ao len cap]) t):=fun W hg=>⟨⟨ao,len,cap,rfl,hsX.keep (fun q hq1 hq2=>hg.block q hq2 (by simp;omega)) (Nat.le_refl _) hg.size⟩,m,hm⟩
 have HEX:Hid (∀ W:World,X.grownBy W (some p)->En2 W p 14 (.slice ae n ce) es):=fun W hg=>by have:=hvX.grown hg;rw [← HN.out] at this;exact this
 have HRX:Hid (∀ W:World,X.grownBy W (some p)->W.heap[w.heap.size+1]?=some (.cells #[.int .i64 0,.int .i64 0,.string ⟨#[]⟩,.string ⟨#[]⟩,.int .i64 0,.int .i64 0,.slice none 0 0,.slice none 0 0,.slice none 0 0] 29 (0,0))):=fun W hg=>(hg.block _ (by omega) (by simp;omega)).trans hX1
 have HBX:Hid (∀ W:World,X.grownBy W (some p)->W.heap[w.heap.size]?=some (.cells #[.int .i64 t.K,.int .i64 t.N,.slice ao len cap] 26 (0,0))):=fun W hg=>(hg.block _ (by omega) (by simp;omega)).trans hX0
 have HLn:Hid (es.length≤n+4):=by have:=HN.out;show _≤_;omega
 have hdp:¬ ((dep:Int)+1)≤0:=by omega
 clear hX hn hk
 go_enter Try.func54,Try.ntmps54
 go_wp2_with fail
 rw [← HX.out]
 refine (Qcs p cao clen ccap 3 X hcX (by omega) (by omega)).mono ?_
 rintro e wo ⟨bo,rfl,hDo⟩
 have bxo:=HBX.out wo hDo.grown
 obtain⟨xo0,xo1,xo2⟩:=Qaf bxo
 have hzo:=hDo.grown.size
 go_upto_if 23 with fail
 go_cut [] from 11 to 34 (fun wx=>Drw X wx p cao clen ccap)
 case first =>
  cases bo with
  | false =>
    go_wp2_with fail
    go_meet
    exact hDo
  | true =>
    go_wp2_with fail
    refine (IU p cao clen ccap _ t _ es vs wo hDo.cur (by have:=HTX.out wo hDo.grown;rw [HKd.out] at this;exact this) (HEX.out wo hDo.grown) (by have:=HN.out;omega) hv0 hv2).mono ?_
    rintro e w2 ⟨rv,tm,ok,rfl,⟨q1,q2,q3,q4,q5,q6,q7,q8,q9,rfl,hF⟩,hD2⟩
    have g2:X.grownBy w2 (some p):=Qab hDo.grown hD2.grown
    have r2:=HRX.out w2 g2
    have hz2:=hD2.grown.size
    obtain⟨y0,y1,y2,y3,y4,y5,y6,y7,y8⟩:=Nine.box r2
    have yf:=Qad r2
    have hrl:w.heap.size+1<w2.heap.size:=by omega
    cases ok with
    | true =>
      go_wp2_with fail
      have hba:Below w2.heap.size w2 (w2.alloc (.cells #[.int .i64 tm.K,.int .i64 tm.N,.string tm.S,.string tm.Z,.int .i64 tm.T.K,.int .i64 tm.T.N,.slice q1 q2 q3,.slice q4 q5 q6,.slice q7 q8 q9] 29)):=(Below.refl _ _).alloc (Nat.le_refl _) _
      have fin:=Qbf (w:=w) (w3:=w2) (O:=.cells #[.int .i64 tm.K,.int .i64 tm.N,.string tm.S,.string tm.Z,.int .i64 tm.T.K,.int .i64 tm.T.N,.slice q1 q2 q3,.slice q4 q5 q6,.slice q7 q8 q9] 29) (r:=w.heap.size+1) (L:=wo.heap.size) (c1:=q3) (c2:=q6) (c3:=q9) (Fm.keep (fun q _ hq=>hba.block q hq) (Nat.le_refl _) hba.size hF) (by omega) (by omega) hp ⟨Qab hgX g2,hD2.cur⟩
      exact bodyPost_ret (v:=.agg #[.int .i64 tm.K,.int .i64 tm.N,.string tm.S,.string tm.Z,.int .i64 tm.T.K,.int .i64 tm.T.N,.slice q1 q2 q3,.slice q4 q5 q6,.slice q7 q8 q9]) (by simp [results,Try.results54,go_sem,y0,y1,y2,y3,y4,y5,y6,y7,y8,hrl]) rfl ⟨_,_,rfl,fin.1,fin.2⟩
    | false =>
      go_wp2_with fail
      go_meet
      exact⟨Qab g2 (Qae _ ((Below.refl _ _).alloc (Nat.le_refl _) _)),hD2.cur.below ((Below.refl _ _).alloc (Nat.le_refl _) _)⟩
 case rest =>
  have hDc:Drw X wc p cao clen ccap:=hcut
  have hzc:=hDc.grown.size
  go_wp2_with fail
  refine (tv_any 2 (by omega) (by omega) p cao clen ccap vs wc hDc.cur hv0 hv2).mono ?_
  rintro e wt ⟨sK,sN,aS,lS,cS,sA,rfl,hDt,hoS,_,⟨mS,hmS⟩,_⟩
  obtain⟨st,hst⟩:∃ st:Tr,st=⟨sK,sN,sA⟩:=⟨_,rfl⟩
  obtain rfl:sK=st.K:=by rw [hst]
  obtain rfl:sN=st.N:=by rw [hst]
  obtain rfl:sA=st.A:=by rw [hst]
  clear hst
  rw [Qap] at hmS
  have hzt:=hDt.grown.size
  obtain⟨Y,hY⟩:∃ Y,Y=wt.alloc (.cells #[.int .i64 st.K,.int .i64 st.N,.slice aS lS cS] 26):=⟨_,rfl⟩
  have hYb:Below wt.heap.size wt Y:=by rw [hY];exact (Below.refl _ _).alloc (Nat.le_refl _) _
  have hY1:Y.heap[wt.heap.size]?=some (.cells #[.int .i64 st.K,.int .i64 st.N,.slice aS lS cS] 26 (0,0)):=by rw [hY];exact Qac rfl
  have hYz:wt.heap.size<Y.heap.size:=by rw [hY];simp
  have gY:X.grownBy Y (some p):=Qab hDc.grown (Qab hDt.grown (Qae _ hYb))
  have HY:Hid (Y=_):=hY
  clear hY
  go_wp2_with fail
  rw [← HY.out]
  refine (l3Fresh_any p cao clen ccap Y (hDt.cur.below hYb)).mono ?_
  rintro e wf ⟨s,rfl,hs1,hDf⟩
  have HS1:Hid (s.size=1):=hs1
  clear hs1
  go_wp2_with fail
  refine (Qat p cao clen ccap 11 wf hDf.cur (by omega) (by omega)).mono ?_
  rintro e wr ⟨x,rfl,hx0,hx1,hDb⟩
  have gX:X.grownBy wr (some p):=Qab gY (Qab hDf.grown hDb.grown)
  have gYr:Y.grownBy wr (some p):=Qab hDf.grown hDb.grown
  have hcur:=hDb.cur
  have hzr:=gX.size
  have hzy:=gYr.size
  have hgw:w.grownBy wr (some p):=Qab hgX gX
  have b0:=HBX.out wr gX
  have r0:=HRX.out wr gX
  have s0:=(gYr.block wt.heap.size hYz (by simp;omega)).trans hY1
  obtain⟨x0,x1,x2⟩:=Qaf b0
  obtain⟨z0,z1,z2⟩:=Qaf s0
  have hsS:Hs (p+1) wr.heap.size wr 2 aS lS st.A:=hoS.hs.keep (fun q hq1 hq2=>(gYr.block q (by omega) (by simp;omega)).trans (hYb.block q hq2)) (by omega) (by omega)
  have HR:Hid (∀ W:World,wr.grownBy W (some p)->W.heap[w.heap.size+1]?=some (.cells #[.int .i64 0,.int .i64 0,.string ⟨#[]⟩,.string ⟨#[]⟩,.int .i64 0,.int .i64 0,.slice none 0 0,.slice none 0 0,.slice none 0 0] 29 (0,0))):=fun W hg=>HRX.out W (Qab gX hg)
  have HDr:Hid (∀ W:World,wr.grownBy W (some p)->Cur W p cao clen ccap->Drw w W p cao clen ccap):=fun W hg hcu=>⟨Qab hgw hg,hcu⟩
  have hrp:w.heap.size+1<wr.heap.size:=by omega
  have TW:Hid (∀ W:World,wr.grownBy W (some p)->Ty2 W p k (.agg #[.int .i64 t.K,.int .i64 t.N,.slice ao len cap]) t):=fun W hg=>HTX.out W (Qab gX hg)
  have TS:Hid (∀ W:World,wr.grownBy W (some p)->Ty2 W p 2 (.agg #[.int .i64 st.K,.int .i64 st.N,.slice aS lS cS]) st):=fun W hg=>⟨⟨aS,lS,cS,rfl,hsS.keep (fun q hq1 hq2=>hg.block q hq2 (by simp;omega)) (Nat.le_refl _) hg.size⟩,mS,hmS⟩
  have TE:Hid (∀ W:World,wr.grownBy W (some p)->En2 W p 14 (.slice ae n ce) es):=fun W hg=>HEX.out W (Qab gX hg)
  have HMk:Hid (∀ (W:World) (kk:Nat) (wv:Value) (u:Tr) (v':Value) (es':List Ev),wr.grownBy W (some p)->Cur W p cao clen ccap->Ty2 W p kk wv u->kk≤12 - dep->En2 W p 14 v' es'->es'.length≤n+4->Calls Try.prog 54 #[.pointer (some ⟨p,0,none⟩),wv,v',.int .i64 (dep:Int),.int .i64 vs] W fun e w'=>∃ rv tm,e=.returned rv∧TmV w' W.heap.size 14 (16+dep) rv tm∧Drw W w' p cao clen ccap):=fun W kk wv u v' es' hg hcu ht hkk hE hl=>IH p cao clen ccap wv u v' es' vs W hcu (ht.up hkk) hE (by omega) hv0 hv2
  have HWi:Hid (∀ (W:World) (v':Value) (es':List Ev) (s:ByteArray) (kk:Nat) (tv:Value) (u:Tr),wr.grownBy W (some p)->En2 W p 14 v' es'->es'.length≤n+3->s.size=1->Ty2 W p kk tv u->kk≤14->Calls Try.prog 59 #[v',.string s,.int .i64 0,tv] W fun e w'=>∃ v2,e=.returned v2∧En2 w' p 14 v2 (es'++[⟨s,0,u⟩])∧Below W.heap.size W w'):=by
   intro W v' es' s kk tv u hg hE hl hs1 ht hkk
   have hz:=(Qab hgw hg).size
   refine (l3With_any p 14 v' es' s 0 tv u W (by omega) hE.1 (ht.up hkk).1 (by omega)).mono ?_
   rintro e w' ⟨v2,rfl,hE2,hb⟩
   refine⟨v2,rfl,⟨hE2,fun e he=>?_⟩,hb⟩
   rcases List.mem_append.1 he with he|he
   · exact hE.2 e he
   · rw [List.mem_singleton.1 he]
     exact⟨(ht.up hkk).2,Or.inl rfl,by show s.size≤8;omega⟩
  have hkd:k≤12 - dep:=by have:=HKd.out;omega
  have hkd1:k+1≤12 - dep:=by have:=HKd.out;omega
  have hk2:2≤k:=by have:=HKd.out;omega
  have HHs:∃ m,Qai k st=some m:=⟨mS,Qcm hk2 hmS⟩
  have HHw:∃ m,Qai k t=some m:=⟨m,hm⟩
  have N2a:∃ m,Qai (k+1) ⟨4,0,[st,t]⟩=some m:=Qcy (by rfl) (two_right HHs HHw)
  have N2b:∃ m,Qai (k+1) ⟨5,0,[t,st]⟩=some m:=Qcy (by rfl) (two_right HHw HHs)
  have N2c:∃ m,Qai (k+1) ⟨5,0,[st,t]⟩=some m:=Qcy (by rfl) (two_right HHs HHw)
  have N3:∃ m,Qai 3 ⟨6,0,[st]⟩=some m:=Qcy (by rfl) (fun u hu=>by rw [List.mem_singleton.1 hu];exact⟨mS,hmS⟩)
  have HS:Hid (∀ w':World,wr.grownBy w' (some p)->w'.cell? ⟨w.heap.size,0,none⟩=some (.int .i64 t.K)∧w'.cell? ⟨w.heap.size,1,none⟩=some (.int .i64 t.N)∧w'.cell? ⟨w.heap.size,2,none⟩=some (.slice ao len cap)∧w'.cell? ⟨wt.heap.size,0,none⟩=some (.int .i64 st.K)∧w'.cell? ⟨wt.heap.size,1,none⟩=some (.int .i64 st.N)∧w'.cell? ⟨wt.heap.size,2,none⟩=some (.slice aS lS cS)):=by
   intro w' hg
   have k1:w'.heap[w.heap.size]?=wr.heap[w.heap.size]?:=hg.block _ (by omega) (by simp;omega)
   have k2:w'.heap[wt.heap.size]?=wr.heap[wt.heap.size]?:=hg.block _ (by omega) (by simp;omega)
   exact⟨(World.cell?_of_block k1).trans x0,(World.cell?_of_block k1).trans x1,(World.cell?_of_block k1).trans x2,(World.cell?_of_block k2).trans z0,(World.cell?_of_block k2).trans z1,(World.cell?_of_block k2).trans z2⟩
  have hnw:w.heap.size≠w.heap.size+1:=by omega
  have hnb:wt.heap.size≠w.heap.size+1:=by omega
  have SF:Hid (∀ (W:World),wr.grownBy W (some p)->∀ (a0 a1 a2 a3 a4 a5 a6 a7 a8:Value) (O:Obj),((((((((((W.setCell ⟨w.heap.size+1,0,none⟩ a0).setCell ⟨w.heap.size+1,1,none⟩ a1).setCell ⟨w.heap.size+1,2,none⟩ a2).setCell ⟨w.heap.size+1,3,none⟩ a3).setCell ⟨w.heap.size+1,4,none⟩ a4).setCell ⟨w.heap.size+1,5,none⟩ a5).setCell ⟨w.heap.size+1,6,none⟩ a6).setCell ⟨w.heap.size+1,7,none⟩ a7).setCell ⟨w.heap.size+1,8,none⟩ a8).alloc O).cell? ⟨w.heap.size,0,none⟩=some (.int .i64 t.K)∧((((((((((W.setCell ⟨w.heap.size+1,0,none⟩ a0).setCell ⟨w.heap.size+1,1,none⟩ a1).setCell ⟨w.heap.size+1,2,none⟩ a2).setCell ⟨w.heap.size+1,3,none⟩ a3).setCell ⟨w.heap.size+1,4,none⟩ a4).setCell ⟨w.heap.size+1,5,none⟩ a5).setCell ⟨w.heap.size+1,6,none⟩ a6).setCell ⟨w.heap.size+1,7,none⟩ a7).setCell ⟨w.heap.size+1,8,none⟩ a8).alloc O).cell? ⟨w.heap.size,1,none⟩=some (.int .i64 t.N)∧((((((((((W.setCell ⟨w.heap.size+1,0,none⟩ a0).setCell ⟨w.heap.size+1,1,none⟩ a1).setCell ⟨w.heap.size+1,2,none⟩ a2).setCell ⟨w.heap.size+1,3,none⟩ a3).setCell ⟨w.heap.size+1,4,none⟩ a4).setCell ⟨w.heap.size+1,5,none⟩ a5).setCell ⟨w.heap.size+1,6,none⟩ a6).setCell ⟨w.heap.size+1,7,none⟩ a7).setCell ⟨w.heap.size+1,8,none⟩ a8).alloc O).cell? ⟨w.heap.size,2,none⟩=some (.slice ao len cap)∧((((((((((W.setCell ⟨w.heap.size+1,0,none⟩ a0).setCell ⟨w.heap.size+1,1,none⟩ a1).setCell ⟨w.heap.size+1,2,none⟩ a2).setCell ⟨w.heap.size+1,3,none⟩ a3).setCell ⟨w.heap.size+1,4,none⟩ a4).setCell ⟨w.heap.size+1,5,none⟩ a5).setCell ⟨w.heap.size+1,6,none⟩ a6).setCell ⟨w.heap.size+1,7,none⟩ a7).setCell ⟨w.heap.size+1,8,none⟩ a8).alloc O).cell? ⟨wt.heap.size,0,none⟩=some (.int .i64 st.K)∧((((((((((W.setCell ⟨w.heap.size+1,0,none⟩ a0).setCell ⟨w.heap.size+1,1,none⟩ a1).setCell ⟨w.heap.size+1,2,none⟩ a2).setCell ⟨w.heap.size+1,3,none⟩ a3).setCell ⟨w.heap.size+1,4,none⟩ a4).setCell ⟨w.heap.size+1,5,none⟩ a5).setCell ⟨w.heap.size+1,6,none⟩ a6).setCell ⟨w.heap.size+1,7,none⟩ a7).setCell ⟨w.heap.size+1,8,none⟩ a8).alloc O).cell? ⟨wt.heap.size,1,none⟩=some (.int .i64 st.N)∧((((((((((W.setCell ⟨w.heap.size+1,0,none⟩ a0).setCell ⟨w.heap.size+1,1,none⟩ a1).setCell ⟨w.heap.size+1,2,none⟩ a2).setCell ⟨w.heap.size+1,3,none⟩ a3).setCell ⟨w.heap.size+1,4,none⟩ a4).setCell ⟨w.heap.size+1,5,none⟩ a5).setCell ⟨w.heap.size+1,6,none⟩ a6).setCell ⟨w.heap.size+1,7,none⟩ a7).setCell ⟨w.heap.size+1,8,none⟩ a8).alloc O).cell? ⟨wt.heap.size,2,none⟩=some (.slice aS lS cS)):=by
   intro W hg a0 a1 a2 a3 a4 a5 a6 a7 a8 O
   obtain⟨v0,v1,v2,v3,v4,v5⟩:=HS.out W hg
   have hzz:=hg.size
   have kb:wt.heap.size<W.heap.size:=by omega
   have kw:w.heap.size<W.heap.size:=by omega
   exact⟨(Qam W (w.heap.size+1) a0 a1 a2 a3 a4 a5 a6 a7 a8 O w.heap.size 0 hnw kw).trans v0,(Qam W (w.heap.size+1) a0 a1 a2 a3 a4 a5 a6 a7 a8 O w.heap.size 1 hnw kw).trans v1,(Qam W (w.heap.size+1) a0 a1 a2 a3 a4 a5 a6 a7 a8 O w.heap.size 2 hnw kw).trans v2,(Qam W (w.heap.size+1) a0 a1 a2 a3 a4 a5 a6 a7 a8 O wt.heap.size 0 hnb kb).trans v3,(Qam W (w.heap.size+1) a0 a1 a2 a3 a4 a5 a6 a7 a8 O wt.heap.size 1 hnb kb).trans v4,(Qam W (w.heap.size+1) a0 a1 a2 a3 a4 a5 a6 a7 a8 O wt.heap.size 2 hnb kb).trans v5⟩
  have q0:wr.grownBy wr.drew (some p):=Qae _ ((Below.refl _ _).drew)
  have cu0:Cur wr.drew p cao clen ccap:=hcur.keep (w':=wr.drew) (fun _ _=>rfl)
  have hwlr:w.heap.size<wr.heap.size:=by omega
  have hwtr:wt.heap.size<wr.heap.size:=by omega
  have hx:x=0∨x=1∨x=2∨x=3∨x=4∨x=5∨x=6∨x=7∨x=8∨x=9∨x=10:=by omega
  clear hx0 hx1 IH hoS hsS hs hsX
  rcases hx with rfl|rfl|rfl|rfl|rfl|rfl|rfl|rfl|rfl|rfl|rfl
  · go_wp2_with fail
    go_region_held3 (fun w'=>w'.cell? ⟨w.heap.size,0,none⟩=some (.int .i64 t.K)∧w'.cell? ⟨w.heap.size,1,none⟩=some (.int .i64 t.N)∧w'.cell? ⟨w.heap.size,2,none⟩=some (.slice ao len cap)∧w'.cell? ⟨wt.heap.size,0,none⟩=some (.int .i64 st.K)∧w'.cell? ⟨wt.heap.size,1,none⟩=some (.int .i64 st.N)∧w'.cell? ⟨wt.heap.size,2,none⟩=some (.slice aS lS cS))
     (first|with_reducible exact HS.out _ (q4a _)|with_reducible exact HS.out _ q4|with_reducible exact HS.out _ q3|with_reducible exact HS.out _ q2|with_reducible exact HS.out _ q1|with_reducible exact HS.out _ q0|with_reducible exact SF.out _ q4 _ _ _ _ _ _ _ _ _ _)
     (first
       | (go_at_call 54;refine (HMk.out _ k _ _ _ es q3 cu3 (TW.out _ q3) hkd (TE.out _ q3) HLn.out).mono ?_;rintro e v4 ⟨rv4,tm4,rfl,⟨a41,l41,c41,a42,l42,c42,a43,l43,c43,rfl,hF4⟩,hD4⟩;have s4:=hD4.grown;have cu4:=hD4.cur;have q4:wr.grownBy v4 (some p):=Qab q3 s4;have q4a:∀ o,wr.grownBy (v4.alloc o) (some p):=fun o=>Qab q4 (Qae _ ((Below.refl _ _).alloc (Nat.le_refl _) _));have hrl:w.heap.size+1<v4.heap.size:=Nat.lt_of_lt_of_le hrp q4.size;obtain⟨g0,g1,g2,g3,g4,g5⟩:=HS.out _ q4;have r2:=HR.out v4 q4;obtain⟨y0,y1,y2,y3,y4,y5,y6,y7,y8⟩:=Nine.box r2;have yf:=Qad r2;have hwl2:w.heap.size<v4.heap.size:=Nat.lt_of_succ_lt hrl;have hwt2:wt.heap.size<v4.heap.size:=Nat.lt_of_lt_of_le hwtr q4.size)
       | (go_at_call 54;refine (HMk.out _ k _ _ _ es q2 cu2 (TW.out _ q2) hkd (TE.out _ q2) HLn.out).mono ?_;rintro e v3 ⟨rv3,tm3,rfl,⟨a31,l31,c31,a32,l32,c32,a33,l33,c33,rfl,hF3⟩,hD3⟩;have s3:=hD3.grown;have cu3:=hD3.cur;have q3:wr.grownBy v3 (some p):=Qab q2 s3)
       | (go_at_call 54;refine (HMk.out _ 1 _ _ _ es q1 cu1 (⟨hT1,leafW 1 (Nat.le_refl _) (by decide)⟩:Ty2 _ p 1 _ _) (by have:=HKd.out;omega) (TE.out _ q1) HLn.out).mono ?_;rintro e v2 ⟨rv2,tm2,rfl,⟨a21,l21,c21,a22,l22,c22,a23,l23,c23,rfl,hF2⟩,hD2⟩;have s2:=hD2.grown;have cu2:=hD2.cur;have q2:wr.grownBy v2 (some p):=Qab q1 s2)
       | (go_at_call 36;refine (l3Bool_any p 1 _ cu0.lt).mono ?_;rintro e v1 ⟨tv1,rfl,hT1,hb1⟩;have s1:_:=Qae (some p) hb1;have cu1:=cu0.below hb1;have q1:wr.grownBy v1 (some p):=Qab q0 s1))
    all_goals
     go_wp2_with fail
     have hz1:=s1.size
     have hz2:=s2.size
     have hz3:=s3.size
     have hz4:=s4.size
     have hzz0:=q4.size
     have hzd:wr.heap.size≤wr.drew.heap.size:=Nat.le_refl _
     have hG2:Fm wr.heap.size v4.heap.size v4 14 (16+dep) tm2 a21 l21 a22 l22 a23 l23:=Fm.keep (fun q h1 h2=>((Qab s3 s4)).block q h2 (by have hh:=h1;simp;omega)) q1.size ((Qab s3 s4)).size hF2
     have hG3:Fm wr.heap.size v4.heap.size v4 14 (16+dep) tm3 a31 l31 a32 l32 a33 l33:=Fm.keep (fun q h1 h2=>(s4).block q h2 (by have hh:=h1;simp;omega)) q2.size (s4).size hF3
     have hG4:Fm wr.heap.size v4.heap.size v4 14 (16+dep) tm4 a41 l41 a42 l42 a43 l43:=Fm.keep (fun _ _ _=>rfl) q3.size (Nat.le_refl _) hF4
     have fin:=Qbf (w:=w) (w3:=v4) (O:=.cells #[.int .i64 tm2.K,.int .i64 tm2.N,.string tm2.S,.string tm2.Z,.int .i64 tm2.T.K,.int .i64 tm2.T.N,.slice a21 l21 c21,.slice a22 l22 c22,.slice a23 l23 c23,.int .i64 tm3.K,.int .i64 tm3.N,.string tm3.S,.string tm3.Z,.int .i64 tm3.T.K,.int .i64 tm3.T.N,.slice a31 l31 c31,.slice a32 l32 c32,.slice a33 l33 c33,.int .i64 tm4.K,.int .i64 tm4.N,.string tm4.S,.string tm4.Z,.int .i64 tm4.T.K,.int .i64 tm4.T.N,.slice a41 l41 c41,.slice a42 l42 c42,.slice a43 l43 c43] 29) (r:=w.heap.size+1) (L:=wr.heap.size) (D:=14) (d:=16+dep+1) (t:=⟨8,0,⟨#[]⟩,⟨#[]⟩,⟨0,0,[]⟩,[],[tm2,tm3,tm4]⟩) (a1:=none) (l1:=0) (c1:=0) (a2:=none) (l2:=0) (c2:=0) (a3:=some ⟨v4.heap.size,0,none⟩) (l3:=3) (c3:=3)
      ⟨Nat.zero_le _,Nat.zero_le _,Hs.nil _ _ _ _ _,Hs.nil _ _ _ _ _,hm_new3 hG2 hG3 hG4 q4.size⟩ (by omega) (by omega) hp (HDr.out v4 q4 cu4)
     exact bodyPost_ret (v:=.agg #[.int .i64 8,.int .i64 0,.string ⟨#[]⟩,.string ⟨#[]⟩,.int .i64 0,.int .i64 0,.slice none 0 0,.slice none 0 0,.slice (some ⟨v4.heap.size,0,none⟩) 3 3]) (by simp [results,Try.results54,go_sem,y0,y1,y2,y3,y4,y5,y6,y7,y8,hrl]) rfl ⟨_,_,rfl,fin.1,fin.2⟩
  · go_wp2_with fail
    go_region_held3 (fun w'=>w'.cell? ⟨w.heap.size,0,none⟩=some (.int .i64 t.K)∧w'.cell? ⟨w.heap.size,1,none⟩=some (.int .i64 t.N)∧w'.cell? ⟨w.heap.size,2,none⟩=some (.slice ao len cap)∧w'.cell? ⟨wt.heap.size,0,none⟩=some (.int .i64 st.K)∧w'.cell? ⟨wt.heap.size,1,none⟩=some (.int .i64 st.N)∧w'.cell? ⟨wt.heap.size,2,none⟩=some (.slice aS lS cS))
     (first|with_reducible exact HS.out _ (q3a _)|with_reducible exact HS.out _ q3|with_reducible exact HS.out _ q2|with_reducible exact HS.out _ q1|with_reducible exact HS.out _ q0|with_reducible exact SF.out _ q3 _ _ _ _ _ _ _ _ _ _)
     (first
       | (go_at_call 54;refine (HMk.out _ k _ _ _ (es++[⟨s,0,st⟩]) q2 cu2 (TW.out _ q2) hkd hE2 (by have:=HN.out;simp;omega)).mono ?_;rintro e v3 ⟨rv3,tm3,rfl,⟨a31,l31,c31,a32,l32,c32,a33,l33,c33,rfl,hF3⟩,hD3⟩;have s3:=hD3.grown;have cu3:=hD3.cur;have q3:wr.grownBy v3 (some p):=Qab q2 s3;have q3a:∀ o,wr.grownBy (v3.alloc o) (some p):=fun o=>Qab q3 (Qae _ ((Below.refl _ _).alloc (Nat.le_refl _) _));have hrl:w.heap.size+1<v3.heap.size:=Nat.lt_of_lt_of_le hrp q3.size;obtain⟨g0,g1,g2,g3,g4,g5⟩:=HS.out _ q3;have r2:=HR.out v3 q3;obtain⟨y0,y1,y2,y3,y4,y5,y6,y7,y8⟩:=Nine.box r2;have yf:=Qad r2;have hwl2:w.heap.size<v3.heap.size:=Nat.lt_of_succ_lt hrl;have hwt2:wt.heap.size<v3.heap.size:=Nat.lt_of_lt_of_le hwtr q3.size)
       | (go_at_call 59;refine (HWi.out _ _ es _ 2 _ _ q1 (TE.out _ q1) (by have:=HN.out;simp;omega) HS1.out (TS.out _ q1) (by omega)).mono ?_;rintro e v2 ⟨ev2,rfl,hE2,hb2⟩;have s2:_:=Qae (some p) hb2;have cu2:=cu1.below hb2;have q2:wr.grownBy v2 (some p):=Qab q1 s2)
       | (go_at_call 54;refine (HMk.out _ 2 _ _ _ es q0 cu0 (TS.out _ q0) (by have:=HKd.out;omega) (TE.out _ q0) HLn.out).mono ?_;rintro e v1 ⟨rv1,tm1,rfl,⟨a11,l11,c11,a12,l12,c12,a13,l13,c13,rfl,hF1⟩,hD1⟩;have s1:=hD1.grown;have cu1:=hD1.cur;have q1:wr.grownBy v1 (some p):=Qab q0 s1))
    all_goals
     go_wp2_with fail
     have hz1:=s1.size
     have hz2:=s2.size
     have hz3:=s3.size
     have hzz0:=q3.size
     have hzd:wr.heap.size≤wr.drew.heap.size:=Nat.le_refl _
     have hG1:Fm wr.heap.size v3.heap.size v3 14 (16+dep) tm1 a11 l11 a12 l12 a13 l13:=Fm.keep (fun q h1 h2=>((Qab s2 s3)).block q h2 (by have hh:=h1;simp;omega)) (Nat.le_refl _) ((Qab s2 s3)).size hF1
     have hG3:Fm wr.heap.size v3.heap.size v3 14 (16+dep) tm3 a31 l31 a32 l32 a33 l33:=Fm.keep (fun _ _ _=>rfl) q2.size (Nat.le_refl _) hF3
     have fin:=Qbf (w:=w) (w3:=v3) (O:=.cells #[.int .i64 tm1.K,.int .i64 tm1.N,.string tm1.S,.string tm1.Z,.int .i64 tm1.T.K,.int .i64 tm1.T.N,.slice a11 l11 c11,.slice a12 l12 c12,.slice a13 l13 c13,.int .i64 tm3.K,.int .i64 tm3.N,.string tm3.S,.string tm3.Z,.int .i64 tm3.T.K,.int .i64 tm3.T.N,.slice a31 l31 c31,.slice a32 l32 c32,.slice a33 l33 c33] 29) (r:=w.heap.size+1) (L:=wr.heap.size) (D:=14) (d:=16+dep+1) (t:=⟨6,0,s,⟨#[]⟩,⟨0,0,[]⟩,[],[tm1,tm3]⟩) (a1:=none) (l1:=0) (c1:=0) (a2:=none) (l2:=0) (c2:=0) (a3:=some ⟨v3.heap.size,0,none⟩) (l3:=2) (c3:=2)
      ⟨(by have:=HS1.out;show s.size≤_;omega),Nat.zero_le _,Hs.nil _ _ _ _ _,Hs.nil _ _ _ _ _,Qca hG1 hG3 q3.size⟩ (by omega) (by omega) hp (HDr.out v3 q3 cu3)
     exact bodyPost_ret (v:=.agg #[.int .i64 6,.int .i64 0,.string s,.string ⟨#[]⟩,.int .i64 0,.int .i64 0,.slice none 0 0,.slice none 0 0,.slice (some ⟨v3.heap.size,0,none⟩) 2 2]) (by simp [results,Try.results54,go_sem,y0,y1,y2,y3,y4,y5,y6,y7,y8,hrl]) rfl ⟨_,_,rfl,fin.1,fin.2⟩
  · go_wp2_with fail
    go_region_held3 (fun w'=>w'.cell? ⟨w.heap.size,0,none⟩=some (.int .i64 t.K)∧w'.cell? ⟨w.heap.size,1,none⟩=some (.int .i64 t.N)∧w'.cell? ⟨w.heap.size,2,none⟩=some (.slice ao len cap)∧w'.cell? ⟨wt.heap.size,0,none⟩=some (.int .i64 st.K)∧w'.cell? ⟨wt.heap.size,1,none⟩=some (.int .i64 st.N)∧w'.cell? ⟨wt.heap.size,2,none⟩=some (.slice aS lS cS))
     (first|with_reducible exact HS.out _ (q3a _)|with_reducible exact HS.out _ q3|with_reducible exact HS.out _ q2|with_reducible exact HS.out _ q1|with_reducible exact HS.out _ q0|with_reducible exact SF.out _ q3 _ _ _ _ _ _ _ _ _ _)
     (first
       | (go_at_call 54;refine (HMk.out _ 2 _ _ _ es q2 cu2 (TS.out _ q2) (by have:=HKd.out;omega) (TE.out _ q2) HLn.out).mono ?_;rintro e v3 ⟨rv3,tm3,rfl,⟨a31,l31,c31,a32,l32,c32,a33,l33,c33,rfl,hF3⟩,hD3⟩;have s3:=hD3.grown;have cu3:=hD3.cur;have q3:wr.grownBy v3 (some p):=Qab q2 s3;have q3a:∀ o,wr.grownBy (v3.alloc o) (some p):=fun o=>Qab q3 (Qae _ ((Below.refl _ _).alloc (Nat.le_refl _) _));have hrl:w.heap.size+1<v3.heap.size:=Nat.lt_of_lt_of_le hrp q3.size;obtain⟨g0,g1,g2,g3,g4,g5⟩:=HS.out _ q3;have r2:=HR.out v3 q3;obtain⟨y0,y1,y2,y3,y4,y5,y6,y7,y8⟩:=Nine.box r2;have yf:=Qad r2;have hwl2:w.heap.size<v3.heap.size:=Nat.lt_of_succ_lt hrl;have hwt2:wt.heap.size<v3.heap.size:=Nat.lt_of_lt_of_le hwtr q3.size)
       | (go_at_call 54;refine (HMk.out _ (k+1) _ _ _ es q1 cu1 (⟨hT1,N2a⟩:Ty2 _ p (k+1) _ _) hkd1 (TE.out _ q1) HLn.out).mono ?_;rintro e v2 ⟨rv2,tm2,rfl,⟨a21,l21,c21,a22,l22,c22,a23,l23,c23,rfl,hF2⟩,hD2⟩;have s2:=hD2.grown;have cu2:=hD2.cur;have q2:wr.grownBy v2 (some p):=Qab q1 s2)
       | (go_at_call 55;refine (Qbw p k 4 _ _ _ _ _ cu0.lt ((TS.out _ q0).up (by omega)).1 ((TW.out _ q0).up (by omega)).1).mono ?_;rintro e v1 ⟨tv1,rfl,hT1,hb1⟩;have s1:_:=Qae (some p) hb1;have cu1:=cu0.below hb1;have q1:wr.grownBy v1 (some p):=Qab q0 s1))
    all_goals
     go_wp2_with fail
     have hz1:=s1.size
     have hz2:=s2.size
     have hz3:=s3.size
     have hzz0:=q3.size
     have hzd:wr.heap.size≤wr.drew.heap.size:=Nat.le_refl _
     have hG2:Fm wr.heap.size v3.heap.size v3 14 (16+dep) tm2 a21 l21 a22 l22 a23 l23:=Fm.keep (fun q h1 h2=>(s3).block q h2 (by have hh:=h1;simp;omega)) q1.size (s3).size hF2
     have hG3:Fm wr.heap.size v3.heap.size v3 14 (16+dep) tm3 a31 l31 a32 l32 a33 l33:=Fm.keep (fun _ _ _=>rfl) q2.size (Nat.le_refl _) hF3
     have fin:=Qbf (w:=w) (w3:=v3) (O:=.cells #[.int .i64 tm2.K,.int .i64 tm2.N,.string tm2.S,.string tm2.Z,.int .i64 tm2.T.K,.int .i64 tm2.T.N,.slice a21 l21 c21,.slice a22 l22 c22,.slice a23 l23 c23,.int .i64 tm3.K,.int .i64 tm3.N,.string tm3.S,.string tm3.Z,.int .i64 tm3.T.K,.int .i64 tm3.T.N,.slice a31 l31 c31,.slice a32 l32 c32,.slice a33 l33 c33] 29) (r:=w.heap.size+1) (L:=wr.heap.size) (D:=14) (d:=16+dep+1) (t:=⟨5,0,⟨#[]⟩,⟨#[]⟩,⟨0,0,[]⟩,[],[tm2,tm3]⟩) (a1:=none) (l1:=0) (c1:=0) (a2:=none) (l2:=0) (c2:=0) (a3:=some ⟨v3.heap.size,0,none⟩) (l3:=2) (c3:=2)
      ⟨Nat.zero_le _,Nat.zero_le _,Hs.nil _ _ _ _ _,Hs.nil _ _ _ _ _,Qca hG2 hG3 q3.size⟩ (by omega) (by omega) hp (HDr.out v3 q3 cu3)
     exact bodyPost_ret (v:=.agg #[.int .i64 5,.int .i64 0,.string ⟨#[]⟩,.string ⟨#[]⟩,.int .i64 0,.int .i64 0,.slice none 0 0,.slice none 0 0,.slice (some ⟨v3.heap.size,0,none⟩) 2 2]) (by simp [results,Try.results54,go_sem,y0,y1,y2,y3,y4,y5,y6,y7,y8,hrl]) rfl ⟨_,_,rfl,fin.1,fin.2⟩
  · go_wp2_with fail
    go_region_held3 (fun w'=>w'.cell? ⟨w.heap.size,0,none⟩=some (.int .i64 t.K)∧w'.cell? ⟨w.heap.size,1,none⟩=some (.int .i64 t.N)∧w'.cell? ⟨w.heap.size,2,none⟩=some (.slice ao len cap)∧w'.cell? ⟨wt.heap.size,0,none⟩=some (.int .i64 st.K)∧w'.cell? ⟨wt.heap.size,1,none⟩=some (.int .i64 st.N)∧w'.cell? ⟨wt.heap.size,2,none⟩=some (.slice aS lS cS))
     (first|with_reducible exact HS.out _ (q3a _)|with_reducible exact HS.out _ q3|with_reducible exact HS.out _ q2|with_reducible exact HS.out _ q1|with_reducible exact HS.out _ q0|with_reducible exact SF.out _ q3 _ _ _ _ _ _ _ _ _ _)
     (first
       | (go_at_call 54;refine (HMk.out _ 2 _ _ _ es q2 cu2 (TS.out _ q2) (by have:=HKd.out;omega) (TE.out _ q2) HLn.out).mono ?_;rintro e v3 ⟨rv3,tm3,rfl,⟨a31,l31,c31,a32,l32,c32,a33,l33,c33,rfl,hF3⟩,hD3⟩;have s3:=hD3.grown;have cu3:=hD3.cur;have q3:wr.grownBy v3 (some p):=Qab q2 s3;have q3a:∀ o,wr.grownBy (v3.alloc o) (some p):=fun o=>Qab q3 (Qae _ ((Below.refl _ _).alloc (Nat.le_refl _) _));have hrl:w.heap.size+1<v3.heap.size:=Nat.lt_of_lt_of_le hrp q3.size;obtain⟨g0,g1,g2,g3,g4,g5⟩:=HS.out _ q3;have r2:=HR.out v3 q3;obtain⟨y0,y1,y2,y3,y4,y5,y6,y7,y8⟩:=Nine.box r2;have yf:=Qad r2;have hwl2:w.heap.size<v3.heap.size:=Nat.lt_of_succ_lt hrl;have hwt2:wt.heap.size<v3.heap.size:=Nat.lt_of_lt_of_le hwtr q3.size)
       | (go_at_call 54;refine (HMk.out _ (k+1) _ _ _ es q1 cu1 (⟨hT1,N2a⟩:Ty2 _ p (k+1) _ _) hkd1 (TE.out _ q1) HLn.out).mono ?_;rintro e v2 ⟨rv2,tm2,rfl,⟨a21,l21,c21,a22,l22,c22,a23,l23,c23,rfl,hF2⟩,hD2⟩;have s2:=hD2.grown;have cu2:=hD2.cur;have q2:wr.grownBy v2 (some p):=Qab q1 s2)
       | (go_at_call 55;refine (Qbw p k 4 _ _ _ _ _ cu0.lt ((TS.out _ q0).up (by omega)).1 ((TW.out _ q0).up (by omega)).1).mono ?_;rintro e v1 ⟨tv1,rfl,hT1,hb1⟩;have s1:_:=Qae (some p) hb1;have cu1:=cu0.below hb1;have q1:wr.grownBy v1 (some p):=Qab q0 s1))
    all_goals
     go_wp2_with fail
     have hz1:=s1.size
     have hz2:=s2.size
     have hz3:=s3.size
     have hzz0:=q3.size
     have hzd:wr.heap.size≤wr.drew.heap.size:=Nat.le_refl _
     have hG2:Fm wr.heap.size v3.heap.size v3 14 (16+dep) tm2 a21 l21 a22 l22 a23 l23:=Fm.keep (fun q h1 h2=>(s3).block q h2 (by have hh:=h1;simp;omega)) q1.size (s3).size hF2
     have hG3:Fm wr.heap.size v3.heap.size v3 14 (16+dep) tm3 a31 l31 a32 l32 a33 l33:=Fm.keep (fun _ _ _=>rfl) q2.size (Nat.le_refl _) hF3
     have fin:=Qbf (w:=w) (w3:=v3) (O:=.cells #[.int .i64 tm2.K,.int .i64 tm2.N,.string tm2.S,.string tm2.Z,.int .i64 tm2.T.K,.int .i64 tm2.T.N,.slice a21 l21 c21,.slice a22 l22 c22,.slice a23 l23 c23,.int .i64 tm3.K,.int .i64 tm3.N,.string tm3.S,.string tm3.Z,.int .i64 tm3.T.K,.int .i64 tm3.T.N,.slice a31 l31 c31,.slice a32 l32 c32,.slice a33 l33 c33] 29) (r:=w.heap.size+1) (L:=wr.heap.size) (D:=14) (d:=16+dep+1) (t:=⟨5,0,⟨#[]⟩,⟨#[]⟩,⟨0,0,[]⟩,[],[tm2,tm3]⟩) (a1:=none) (l1:=0) (c1:=0) (a2:=none) (l2:=0) (c2:=0) (a3:=some ⟨v3.heap.size,0,none⟩) (l3:=2) (c3:=2)
      ⟨Nat.zero_le _,Nat.zero_le _,Hs.nil _ _ _ _ _,Hs.nil _ _ _ _ _,Qca hG2 hG3 q3.size⟩ (by omega) (by omega) hp (HDr.out v3 q3 cu3)
     exact bodyPost_ret (v:=.agg #[.int .i64 5,.int .i64 0,.string ⟨#[]⟩,.string ⟨#[]⟩,.int .i64 0,.int .i64 0,.slice none 0 0,.slice none 0 0,.slice (some ⟨v3.heap.size,0,none⟩) 2 2]) (by simp [results,Try.results54,go_sem,y0,y1,y2,y3,y4,y5,y6,y7,y8,hrl]) rfl ⟨_,_,rfl,fin.1,fin.2⟩
  · go_wp2_with fail
    go_region_held3 (fun w'=>w'.cell? ⟨w.heap.size,0,none⟩=some (.int .i64 t.K)∧w'.cell? ⟨w.heap.size,1,none⟩=some (.int .i64 t.N)∧w'.cell? ⟨w.heap.size,2,none⟩=some (.slice ao len cap)∧w'.cell? ⟨wt.heap.size,0,none⟩=some (.int .i64 st.K)∧w'.cell? ⟨wt.heap.size,1,none⟩=some (.int .i64 st.N)∧w'.cell? ⟨wt.heap.size,2,none⟩=some (.slice aS lS cS))
     (first|with_reducible exact HS.out _ (q7a _)|with_reducible exact HS.out _ q7|with_reducible exact HS.out _ q6|with_reducible exact HS.out _ q5|with_reducible exact HS.out _ q4|with_reducible exact HS.out _ q3|with_reducible exact HS.out _ q2|with_reducible exact HS.out _ q1|with_reducible exact HS.out _ q0|with_reducible exact SF.out _ q7 _ _ _ _ _ _ _ _ _ _)
     (first
       | (go_at_call 54;refine (HMk.out _ k _ _ _ ((es++[⟨⟨#[104]⟩,0,st⟩])++[⟨⟨#[114]⟩,0,⟨6,0,[st]⟩⟩]) q6 cu6 (TW.out _ q6) hkd hE6 (by have:=HN.out;simp;omega)).mono ?_;rintro e v7 ⟨rv7,tm7,rfl,⟨a71,l71,c71,a72,l72,c72,a73,l73,c73,rfl,hF7⟩,hD7⟩;have s7:=hD7.grown;have cu7:=hD7.cur;have q7:wr.grownBy v7 (some p):=Qab q6 s7;have q7a:∀ o,wr.grownBy (v7.alloc o) (some p):=fun o=>Qab q7 (Qae _ ((Below.refl _ _).alloc (Nat.le_refl _) _));have hrl:w.heap.size+1<v7.heap.size:=Nat.lt_of_lt_of_le hrp q7.size;obtain⟨g0,g1,g2,g3,g4,g5⟩:=HS.out _ q7;have r2:=HR.out v7 q7;obtain⟨y0,y1,y2,y3,y4,y5,y6,y7,y8⟩:=Nine.box r2;have yf:=Qad r2;have hwl2:w.heap.size<v7.heap.size:=Nat.lt_of_succ_lt hrl;have hwt2:wt.heap.size<v7.heap.size:=Nat.lt_of_lt_of_le hwtr q7.size)
       | (go_at_call 59;refine (HWi.out _ _ (es++[⟨⟨#[104]⟩,0,st⟩]) _ 3 _ _ q5 (hE4.grown s5) (by have:=HN.out;simp;omega) rfl (⟨hT5,N3⟩:Ty2 _ p 3 _ _) (by omega)).mono ?_;rintro e v6 ⟨ev6,rfl,hE6,hb6⟩;have s6:_:=Qae (some p) hb6;have cu6:=cu5.below hb6;have q6:wr.grownBy v6 (some p):=Qab q5 s6)
       | (go_at_call 37;refine (Qcr p 2 _ _ _ cu4.lt (TS.out _ q4).1).mono ?_;rintro e v5 ⟨tv5,rfl,hT5,hb5⟩;have s5:_:=Qae (some p) hb5;have cu5:=cu4.below hb5;have q5:wr.grownBy v5 (some p):=Qab q4 s5)
       | (go_at_call 59;refine (HWi.out _ _ es _ 2 _ _ q3 (TE.out _ q3) (by have:=HN.out;simp;omega) rfl (TS.out _ q3) (by omega)).mono ?_;rintro e v4 ⟨ev4,rfl,hE4,hb4⟩;have s4:_:=Qae (some p) hb4;have cu4:=cu3.below hb4;have q4:wr.grownBy v4 (some p):=Qab q3 s4)
       | (go_at_call 54;refine (HMk.out _ k _ _ _ es q2 cu2 (TW.out _ q2) hkd (TE.out _ q2) HLn.out).mono ?_;rintro e v3 ⟨rv3,tm3,rfl,⟨a31,l31,c31,a32,l32,c32,a33,l33,c33,rfl,hF3⟩,hD3⟩;have s3:=hD3.grown;have cu3:=hD3.cur;have q3:wr.grownBy v3 (some p):=Qab q2 s3)
       | (go_at_call 54;refine (HMk.out _ 3 _ _ _ es q1 cu1 (⟨hT1,N3⟩:Ty2 _ p 3 _ _) (by have:=HKd.out;omega) (TE.out _ q1) HLn.out).mono ?_;rintro e v2 ⟨rv2,tm2,rfl,⟨a21,l21,c21,a22,l22,c22,a23,l23,c23,rfl,hF2⟩,hD2⟩;have s2:=hD2.grown;have cu2:=hD2.cur;have q2:wr.grownBy v2 (some p):=Qab q1 s2)
       | (go_at_call 37;refine (Qcr p 2 _ _ _ cu0.lt (TS.out _ q0).1).mono ?_;rintro e v1 ⟨tv1,rfl,hT1,hb1⟩;have s1:_:=Qae (some p) hb1;have cu1:=cu0.below hb1;have q1:wr.grownBy v1 (some p):=Qab q0 s1))
    all_goals
     go_wp2_with fail
     have hz1:=s1.size
     have hz2:=s2.size
     have hz3:=s3.size
     have hz4:=s4.size
     have hz5:=s5.size
     have hz6:=s6.size
     have hz7:=s7.size
     have hzz0:=q7.size
     have hzd:wr.heap.size≤wr.drew.heap.size:=Nat.le_refl _
     have hG2:Fm wr.heap.size v7.heap.size v7 14 (16+dep) tm2 a21 l21 a22 l22 a23 l23:=Fm.keep (fun q h1 h2=>((Qab (Qab (Qab (Qab s3 s4) s5) s6) s7)).block q h2 (by have hh:=h1;simp;omega)) q1.size ((Qab (Qab (Qab (Qab s3 s4) s5) s6) s7)).size hF2
     have hG3:Fm wr.heap.size v7.heap.size v7 14 (16+dep) tm3 a31 l31 a32 l32 a33 l33:=Fm.keep (fun q h1 h2=>((Qab (Qab (Qab s4 s5) s6) s7)).block q h2 (by have hh:=h1;simp;omega)) q2.size ((Qab (Qab (Qab s4 s5) s6) s7)).size hF3
     have hG7:Fm wr.heap.size v7.heap.size v7 14 (16+dep) tm7 a71 l71 a72 l72 a73 l73:=Fm.keep (fun _ _ _=>rfl) q6.size (Nat.le_refl _) hF7
     have fin:=Qbf (w:=w) (w3:=v7) (O:=.cells #[.int .i64 tm2.K,.int .i64 tm2.N,.string tm2.S,.string tm2.Z,.int .i64 tm2.T.K,.int .i64 tm2.T.N,.slice a21 l21 c21,.slice a22 l22 c22,.slice a23 l23 c23,.int .i64 tm3.K,.int .i64 tm3.N,.string tm3.S,.string tm3.Z,.int .i64 tm3.T.K,.int .i64 tm3.T.N,.slice a31 l31 c31,.slice a32 l32 c32,.slice a33 l33 c33,.int .i64 tm7.K,.int .i64 tm7.N,.string tm7.S,.string tm7.Z,.int .i64 tm7.T.K,.int .i64 tm7.T.N,.slice a71 l71 c71,.slice a72 l72 c72,.slice a73 l73 c73] 29) (r:=w.heap.size+1) (L:=wr.heap.size) (D:=14) (d:=16+dep+1) (t:=⟨14,0,⟨#[104]⟩,⟨#[114]⟩,⟨0,0,[]⟩,[],[tm2,tm3,tm7]⟩) (a1:=none) (l1:=0) (c1:=0) (a2:=none) (l2:=0) (c2:=0) (a3:=some ⟨v7.heap.size,0,none⟩) (l3:=3) (c3:=3)
      ⟨(by show (1:Nat)≤_;omega),(by show (1:Nat)≤_;omega),Hs.nil _ _ _ _ _,Hs.nil _ _ _ _ _,hm_new3 hG2 hG3 hG7 q7.size⟩ (by omega) (by omega) hp (HDr.out v7 q7 cu7)
     exact bodyPost_ret (v:=.agg #[.int .i64 14,.int .i64 0,.string ⟨#[104]⟩,.string ⟨#[114]⟩,.int .i64 0,.int .i64 0,.slice none 0 0,.slice none 0 0,.slice (some ⟨v7.heap.size,0,none⟩) 3 3]) (by simp [results,Try.results54,go_sem,y0,y1,y2,y3,y4,y5,y6,y7,y8,hrl]) rfl ⟨_,_,rfl,fin.1,fin.2⟩
  · go_wp2_with fail
    refine (Qbw p k 5 _ _ _ _ _ hcur.lt ((TW.out _ (Qaq wr (some p))).up (by omega)).1 ((TS.out _ (Qaq wr (some p))).up (by omega)).1).mono ?_
    rintro e v1 ⟨tv1,rfl,hT1,hb1⟩
    have s1:_:=Qae (some p) hb1
    have cu1:=hcur.below hb1
    have q1:wr.grownBy v1 (some p):=Qab (Qaq wr (some p)) s1
    go_wp2_with fail
    refine (HMk.out _ (k+1) _ _ _ es q1 cu1 (⟨hT1,N2b⟩:Ty2 _ p (k+1) _ _) hkd1 (TE.out _ q1) HLn.out).mono ?_
    rintro e v2 ⟨rv2,tm2,rfl,⟨a21,l21,c21,a22,l22,c22,a23,l23,c23,rfl,hF2⟩,hD2⟩
    have s2:=hD2.grown
    have cu2:=hD2.cur
    have q2:wr.grownBy v2 (some p):=Qab q1 s2
    have q2a:∀ o,wr.grownBy (v2.alloc o) (some p):=fun o=>Qab q2 (Qae _ ((Below.refl _ _).alloc (Nat.le_refl _) _))
    have hrl:w.heap.size+1<v2.heap.size:=Nat.lt_of_lt_of_le hrp q2.size
    obtain⟨g0,g1,g2,g3,g4,g5⟩:=HS.out _ q2
    have r2:=HR.out v2 q2
    obtain⟨y0,y1,y2,y3,y4,y5,y6,y7,y8⟩:=Nine.box r2
    have yf:=Qad r2
    have hwl2:w.heap.size<v2.heap.size:=Nat.lt_of_succ_lt hrl
    have hwt2:wt.heap.size<v2.heap.size:=Nat.lt_of_lt_of_le hwtr q2.size
    go_wp2_with fail
    have hz1:=s1.size
    have hz2:=s2.size
    have hzz0:=q2.size
    have hG2:Fm wr.heap.size v2.heap.size v2 14 (16+dep) tm2 a21 l21 a22 l22 a23 l23:=Fm.keep (fun _ _ _=>rfl) q1.size (Nat.le_refl _) hF2
    have fin:=Qbf (w:=w) (w3:=v2) (O:=.cells #[.int .i64 tm2.K,.int .i64 tm2.N,.string tm2.S,.string tm2.Z,.int .i64 tm2.T.K,.int .i64 tm2.T.N,.slice a21 l21 c21,.slice a22 l22 c22,.slice a23 l23 c23] 29) (r:=w.heap.size+1) (L:=wr.heap.size) (D:=14) (d:=16+dep+1) (t:=⟨10,0,⟨#[]⟩,⟨#[]⟩,⟨0,0,[]⟩,[],[tm2]⟩) (a1:=none) (l1:=0) (c1:=0) (a2:=none) (l2:=0) (c2:=0) (a3:=some ⟨v2.heap.size,0,none⟩) (l3:=1) (c3:=1)
     ⟨Nat.zero_le _,Nat.zero_le _,Hs.nil _ _ _ _ _,Hs.nil _ _ _ _ _,hm_new1 hG2 q2.size⟩ (by omega) (by omega) hp (HDr.out v2 q2 cu2)
    exact bodyPost_ret (v:=.agg #[.int .i64 10,.int .i64 0,.string ⟨#[]⟩,.string ⟨#[]⟩,.int .i64 0,.int .i64 0,.slice none 0 0,.slice none 0 0,.slice (some ⟨v2.heap.size,0,none⟩) 1 1]) (by simp [results,Try.results54,go_sem,y0,y1,y2,y3,y4,y5,y6,y7,y8,hrl]) rfl ⟨_,_,rfl,fin.1,fin.2⟩
  · go_wp2_with fail
    refine (Qbw p k 5 _ _ _ _ _ hcur.lt ((TS.out _ (Qaq wr (some p))).up (by omega)).1 ((TW.out _ (Qaq wr (some p))).up (by omega)).1).mono ?_
    rintro e v1 ⟨tv1,rfl,hT1,hb1⟩
    have s1:_:=Qae (some p) hb1
    have cu1:=hcur.below hb1
    have q1:wr.grownBy v1 (some p):=Qab (Qaq wr (some p)) s1
    go_wp2_with fail
    refine (HMk.out _ (k+1) _ _ _ es q1 cu1 (⟨hT1,N2c⟩:Ty2 _ p (k+1) _ _) hkd1 (TE.out _ q1) HLn.out).mono ?_
    rintro e v2 ⟨rv2,tm2,rfl,⟨a21,l21,c21,a22,l22,c22,a23,l23,c23,rfl,hF2⟩,hD2⟩
    have s2:=hD2.grown
    have cu2:=hD2.cur
    have q2:wr.grownBy v2 (some p):=Qab q1 s2
    have q2a:∀ o,wr.grownBy (v2.alloc o) (some p):=fun o=>Qab q2 (Qae _ ((Below.refl _ _).alloc (Nat.le_refl _) _))
    have hrl:w.heap.size+1<v2.heap.size:=Nat.lt_of_lt_of_le hrp q2.size
    obtain⟨g0,g1,g2,g3,g4,g5⟩:=HS.out _ q2
    have r2:=HR.out v2 q2
    obtain⟨y0,y1,y2,y3,y4,y5,y6,y7,y8⟩:=Nine.box r2
    have yf:=Qad r2
    have hwl2:w.heap.size<v2.heap.size:=Nat.lt_of_succ_lt hrl
    have hwt2:wt.heap.size<v2.heap.size:=Nat.lt_of_lt_of_le hwtr q2.size
    go_wp2_with fail
    have hz1:=s1.size
    have hz2:=s2.size
    have hzz0:=q2.size
    have hG2:Fm wr.heap.size v2.heap.size v2 14 (16+dep) tm2 a21 l21 a22 l22 a23 l23:=Fm.keep (fun _ _ _=>rfl) q1.size (Nat.le_refl _) hF2
    have fin:=Qbf (w:=w) (w3:=v2) (O:=.cells #[.int .i64 tm2.K,.int .i64 tm2.N,.string tm2.S,.string tm2.Z,.int .i64 tm2.T.K,.int .i64 tm2.T.N,.slice a21 l21 c21,.slice a22 l22 c22,.slice a23 l23 c23] 29) (r:=w.heap.size+1) (L:=wr.heap.size) (D:=14) (d:=16+dep+1) (t:=⟨11,0,⟨#[]⟩,⟨#[]⟩,⟨0,0,[]⟩,[],[tm2]⟩) (a1:=none) (l1:=0) (c1:=0) (a2:=none) (l2:=0) (c2:=0) (a3:=some ⟨v2.heap.size,0,none⟩) (l3:=1) (c3:=1)
     ⟨Nat.zero_le _,Nat.zero_le _,Hs.nil _ _ _ _ _,Hs.nil _ _ _ _ _,hm_new1 hG2 q2.size⟩ (by omega) (by omega) hp (HDr.out v2 q2 cu2)
    exact bodyPost_ret (v:=.agg #[.int .i64 11,.int .i64 0,.string ⟨#[]⟩,.string ⟨#[]⟩,.int .i64 0,.int .i64 0,.slice none 0 0,.slice none 0 0,.slice (some ⟨v2.heap.size,0,none⟩) 1 1]) (by simp [results,Try.results54,go_sem,y0,y1,y2,y3,y4,y5,y6,y7,y8,hrl]) rfl ⟨_,_,rfl,fin.1,fin.2⟩
  · go_wp2_with fail
    go_region_held3 (fun w'=>w'.cell? ⟨w.heap.size,0,none⟩=some (.int .i64 t.K)∧w'.cell? ⟨w.heap.size,1,none⟩=some (.int .i64 t.N)∧w'.cell? ⟨w.heap.size,2,none⟩=some (.slice ao len cap)∧w'.cell? ⟨wt.heap.size,0,none⟩=some (.int .i64 st.K)∧w'.cell? ⟨wt.heap.size,1,none⟩=some (.int .i64 st.N)∧w'.cell? ⟨wt.heap.size,2,none⟩=some (.slice aS lS cS))
     (first|with_reducible exact HS.out _ (q4a _)|with_reducible exact HS.out _ q4|with_reducible exact HS.out _ q3|with_reducible exact HS.out _ q2|with_reducible exact HS.out _ q1|with_reducible exact HS.out _ q0|with_reducible exact SF.out _ q4 _ _ _ _ _ _ _ _ _ _)
     (first
       | (go_at_call 54;refine (HMk.out _ k _ _ _ (es++[⟨s,0,⟨1,0,[]⟩⟩]) q3 cu3 (TW.out _ q3) hkd hE3 (by have:=HN.out;simp;omega)).mono ?_;rintro e v4 ⟨rv4,tm4,rfl,⟨a41,l41,c41,a42,l42,c42,a43,l43,c43,rfl,hF4⟩,hD4⟩;have s4:=hD4.grown;have cu4:=hD4.cur;have q4:wr.grownBy v4 (some p):=Qab q3 s4;have q4a:∀ o,wr.grownBy (v4.alloc o) (some p):=fun o=>Qab q4 (Qae _ ((Below.refl _ _).alloc (Nat.le_refl _) _));have hrl:w.heap.size+1<v4.heap.size:=Nat.lt_of_lt_of_le hrp q4.size;obtain⟨g0,g1,g2,g3,g4,g5⟩:=HS.out _ q4;have r2:=HR.out v4 q4;obtain⟨y0,y1,y2,y3,y4,y5,y6,y7,y8⟩:=Nine.box r2;have yf:=Qad r2;have hwl2:w.heap.size<v4.heap.size:=Nat.lt_of_succ_lt hrl;have hwt2:wt.heap.size<v4.heap.size:=Nat.lt_of_lt_of_le hwtr q4.size)
       | (go_at_call 59;refine (HWi.out _ _ es _ 1 _ _ q2 (TE.out _ q2) (by have:=HN.out;simp;omega) HS1.out (⟨hT2,leafW 1 (Nat.le_refl _) (by decide)⟩:Ty2 _ p 1 _ _) (by omega)).mono ?_;rintro e v3 ⟨ev3,rfl,hE3,hb3⟩;have s3:_:=Qae (some p) hb3;have cu3:=cu2.below hb3;have q3:wr.grownBy v3 (some p):=Qab q2 s3)
       | (go_at_call 35;refine (Qee p 1 _ cu1.lt).mono ?_;rintro e v2 ⟨tv2,rfl,hT2,hb2⟩;have s2:_:=Qae (some p) hb2;have cu2:=cu1.below hb2;have q2:wr.grownBy v2 (some p):=Qab q1 s2)
       | (go_at_call 54;refine (HMk.out _ k _ _ _ es q0 cu0 (TW.out _ q0) hkd (TE.out _ q0) HLn.out).mono ?_;rintro e v1 ⟨rv1,tm1,rfl,⟨a11,l11,c11,a12,l12,c12,a13,l13,c13,rfl,hF1⟩,hD1⟩;have s1:=hD1.grown;have cu1:=hD1.cur;have q1:wr.grownBy v1 (some p):=Qab q0 s1))
    all_goals
     go_wp2_with fail
     have hz1:=s1.size
     have hz2:=s2.size
     have hz3:=s3.size
     have hz4:=s4.size
     have hzz0:=q4.size
     have hzd:wr.heap.size≤wr.drew.heap.size:=Nat.le_refl _
     have hG1:Fm wr.heap.size v4.heap.size v4 14 (16+dep) tm1 a11 l11 a12 l12 a13 l13:=Fm.keep (fun q h1 h2=>((Qab (Qab s2 s3) s4)).block q h2 (by have hh:=h1;simp;omega)) (Nat.le_refl _) ((Qab (Qab s2 s3) s4)).size hF1
     have hG4:Fm wr.heap.size v4.heap.size v4 14 (16+dep) tm4 a41 l41 a42 l42 a43 l43:=Fm.keep (fun _ _ _=>rfl) q3.size (Nat.le_refl _) hF4
     have fin:=Qbf (w:=w) (w3:=v4) (O:=.cells #[.int .i64 tm1.K,.int .i64 tm1.N,.string tm1.S,.string tm1.Z,.int .i64 tm1.T.K,.int .i64 tm1.T.N,.slice a11 l11 c11,.slice a12 l12 c12,.slice a13 l13 c13,.int .i64 tm4.K,.int .i64 tm4.N,.string tm4.S,.string tm4.Z,.int .i64 tm4.T.K,.int .i64 tm4.T.N,.slice a41 l41 c41,.slice a42 l42 c42,.slice a43 l43 c43] 29) (r:=w.heap.size+1) (L:=wr.heap.size) (D:=14) (d:=16+dep+1) (t:=⟨17,0,s,⟨#[]⟩,⟨0,0,[]⟩,[],[tm1,tm4]⟩) (a1:=none) (l1:=0) (c1:=0) (a2:=none) (l2:=0) (c2:=0) (a3:=some ⟨v4.heap.size,0,none⟩) (l3:=2) (c3:=2)
      ⟨(by have:=HS1.out;show s.size≤_;omega),Nat.zero_le _,Hs.nil _ _ _ _ _,Hs.nil _ _ _ _ _,Qca hG1 hG4 q4.size⟩ (by omega) (by omega) hp (HDr.out v4 q4 cu4)
     exact bodyPost_ret (v:=.agg #[.int .i64 17,.int .i64 0,.string s,.string ⟨#[]⟩,.int .i64 0,.int .i64 0,.slice none 0 0,.slice none 0 0,.slice (some ⟨v4.heap.size,0,none⟩) 2 2]) (by simp [results,Try.results54,go_sem,y0,y1,y2,y3,y4,y5,y6,y7,y8,hrl]) rfl ⟨_,_,rfl,fin.1,fin.2⟩
  · go_wp2_with fail
    refine (Qcs p cao clen ccap 3 _ hcur (by omega) (by omega)).mono ?_
    rintro e v1 ⟨bo8,rfl,hD1⟩
    have s1:=hD1.grown
    have cu1:=hD1.cur
    have q1:wr.grownBy v1 (some p):=Qab (Qaq wr (some p)) s1
    obtain⟨gg0,gg1,gg2,gg3,gg4,gg5⟩:=HS.out v1 q1
    cases bo8 with
    | false =>
      go_wp2_with fail
      refine (IS p cao clen ccap _ t _ es vs v1 cu1 (by have:=TW.out v1 q1;rw [HKd.out] at this;exact this) (TE.out v1 q1) (by have:=HN.out;omega) hv0 hv2).mono ?_
      rintro e w2 ⟨rv,tm,rfl,⟨u1,u2,u3,u4,u5,u6,u7,u8,u9,rfl,hF⟩,hDs⟩
      have gs:wr.grownBy w2 (some p):=Qab q1 hDs.grown
      have r2:=HR.out w2 gs
      have hz2:=hDs.grown.size
      have hzg:=(q1).size
      obtain⟨y0,y1,y2,y3,y4,y5,y6,y7,y8⟩:=Nine.box r2
      have yf:=Qad r2
      go_wp2_with fail
      have fin:=Qar (w:=w) (r:=w.heap.size+1) (c1:=u3) (c2:=u6) (c3:=u9) hF (by omega) (by omega) hp (HDr.out w2 gs hDs.cur)
      exact bodyPost_ret (v:=.agg #[.int .i64 tm.K,.int .i64 tm.N,.string tm.S,.string tm.Z,.int .i64 tm.T.K,.int .i64 tm.T.N,.slice u1 u2 u3,.slice u4 u5 u6,.slice u7 u8 u9]) (by simp [results,Try.results54,go_sem,y0,y1,y2,y3,y4,y5,y6,y7,y8]) rfl ⟨_,_,rfl,fin.1,fin.2⟩
    | true =>
      go_wp2_with fail
      refine ((copy_any (TW.out _ q1) hk14)).mono ?_
      rintro e v2 ⟨aC,lC,cC,rfl,hb2,hoC⟩
      have s2:_:=Qae (some p) hb2
      have cu2:=cu1.below hb2
      have q2:wr.grownBy v2 (some p):=Qab q1 s2
      go_wp2_with fail
      refine (Qee p 1 _ cu2.lt).mono ?_
      rintro e v3 ⟨tv3,rfl,hT3,hb3⟩
      have s3:_:=Qae (some p) hb3
      have cu3:=cu2.below hb3
      have q3:wr.grownBy v3 (some p):=Qab q2 s3
      go_wp2_with fail
      refine (HMk.out _ 1 _ _ _ es q3 cu3 (⟨hT3,leafW 1 (Nat.le_refl _) (by decide)⟩:Ty2 _ p 1 _ _) (by have:=HKd.out;omega) (TE.out _ q3) HLn.out).mono ?_
      rintro e v4 ⟨rv4,tm4,rfl,⟨a41,l41,c41,a42,l42,c42,a43,l43,c43,rfl,hF4⟩,hD4⟩
      have s4:=hD4.grown
      have cu4:=hD4.cur
      have q4:wr.grownBy v4 (some p):=Qab q3 s4
      have q4a:∀ o,wr.grownBy (v4.alloc o) (some p):=fun o=>Qab q4 (Qae _ ((Below.refl _ _).alloc (Nat.le_refl _) _))
      have hrl:w.heap.size+1<v4.heap.size:=Nat.lt_of_lt_of_le hrp q4.size
      obtain⟨g0,g1,g2,g3,g4,g5⟩:=HS.out _ q4
      have r2:=HR.out v4 q4
      obtain⟨y0,y1,y2,y3,y4,y5,y6,y7,y8⟩:=Nine.box r2
      have yf:=Qad r2
      have hwl2:w.heap.size<v4.heap.size:=Nat.lt_of_succ_lt hrl
      have hwt2:wt.heap.size<v4.heap.size:=Nat.lt_of_lt_of_le hwtr q4.size
      go_wp2_with fail
      have hz1:=s1.size
      have hz2:=s2.size
      have hz3:=s3.size
      have hz4:=s4.size
      have hzz0:=q4.size
      have hG4:Fm wr.heap.size v4.heap.size v4 14 (16+dep) tm4 a41 l41 a42 l42 a43 l43:=Fm.keep (fun _ _ _=>rfl) q3.size (Nat.le_refl _) hF4
      have hba:Below v4.heap.size v4 (v4.alloc (.cells #[.int .i64 tm4.K,.int .i64 tm4.N,.string tm4.S,.string tm4.Z,.int .i64 tm4.T.K,.int .i64 tm4.T.N,.slice a41 l41 c41,.slice a42 l42 c42,.slice a43 l43 c43] 29)):=(Below.refl _ _).alloc (Nat.le_refl _) _
      have hsT:Hs wr.heap.size (v4.alloc (.cells #[.int .i64 tm4.K,.int .i64 tm4.N,.string tm4.S,.string tm4.Z,.int .i64 tm4.T.K,.int .i64 tm4.T.N,.slice a41 l41 c41,.slice a42 l42 c42,.slice a43 l43 c43] 29)).heap.size (v4.alloc (.cells #[.int .i64 tm4.K,.int .i64 tm4.N,.string tm4.S,.string tm4.Z,.int .i64 tm4.T.K,.int .i64 tm4.T.N,.slice a41 l41 c41,.slice a42 l42 c42,.slice a43 l43 c43] 29)) 14 aC lC t.A:=(hoC.hs.keep (fun q h1 h2=>(hba.block q (by omega)).trans (((Qab s3 s4)).block q h2 (by have hh:=h1;simp;omega))) (by omega) (by have:=hba.size;omega)).deeper hk14
      have fin:=Qbf (w:=w) (w3:=v4) (O:=.cells #[.int .i64 tm4.K,.int .i64 tm4.N,.string tm4.S,.string tm4.Z,.int .i64 tm4.T.K,.int .i64 tm4.T.N,.slice a41 l41 c41,.slice a42 l42 c42,.slice a43 l43 c43] 29) (r:=w.heap.size+1) (L:=wr.heap.size) (D:=14) (d:=16+dep+1) (t:=⟨16,0,⟨#[]⟩,⟨#[]⟩,t,[],[tm4]⟩) (a1:=aC) (l1:=lC) (c1:=cC) (a2:=none) (l2:=0) (c2:=0) (a3:=some ⟨v4.heap.size,0,none⟩) (l3:=1) (c3:=1)
       ⟨Nat.zero_le _,Nat.zero_le _,hsT,Hs.nil _ _ _ _ _,hm_new1 hG4 q4.size⟩ (by omega) (by omega) hp (HDr.out v4 q4 cu4)
      exact bodyPost_ret (v:=.agg #[.int .i64 16,.int .i64 0,.string ⟨#[]⟩,.string ⟨#[]⟩,.int .i64 t.K,.int .i64 t.N,.slice aC lC cC,.slice none 0 0,.slice (some ⟨v4.heap.size,0,none⟩) 1 1]) (by simp [results,Try.results54,go_sem,y0,y1,y2,y3,y4,y5,y6,y7,y8,hrl]) rfl ⟨_,_,rfl,fin.1,fin.2⟩
  · go_wp2_with fail
    refine (IS p cao clen ccap _ t _ es vs wr hcur (by have:=TW.out wr (Qaq wr (some p));rw [HKd.out] at this;exact this) (TE.out wr (Qaq wr (some p))) (by have:=HN.out;omega) hv0 hv2).mono ?_
    rintro e w2 ⟨rv,tm,rfl,⟨u1,u2,u3,u4,u5,u6,u7,u8,u9,rfl,hF⟩,hDs⟩
    have gs:wr.grownBy w2 (some p):=Qab (Qaq wr (some p)) hDs.grown
    have r2:=HR.out w2 gs
    have hz2:=hDs.grown.size
    have hzg:=((Qaq wr (some p))).size
    obtain⟨y0,y1,y2,y3,y4,y5,y6,y7,y8⟩:=Nine.box r2
    have yf:=Qad r2
    go_wp2_with fail
    have fin:=Qar (w:=w) (r:=w.heap.size+1) (c1:=u3) (c2:=u6) (c3:=u9) hF (by omega) (by omega) hp (HDr.out w2 gs hDs.cur)
    exact bodyPost_ret (v:=.agg #[.int .i64 tm.K,.int .i64 tm.N,.string tm.S,.string tm.Z,.int .i64 tm.T.K,.int .i64 tm.T.N,.slice u1 u2 u3,.slice u4 u5 u6,.slice u7 u8 u9]) (by simp [results,Try.results54,go_sem,y0,y1,y2,y3,y4,y5,y6,y7,y8]) rfl ⟨_,_,rfl,fin.1,fin.2⟩
  · go_wp2_with fail
    refine (IS p cao clen ccap _ t _ es vs wr hcur (by have:=TW.out wr (Qaq wr (some p));rw [HKd.out] at this;exact this) (TE.out wr (Qaq wr (some p))) (by have:=HN.out;omega) hv0 hv2).mono ?_
    rintro e w2 ⟨rv,tm,rfl,⟨u1,u2,u3,u4,u5,u6,u7,u8,u9,rfl,hF⟩,hDs⟩
    have gs:wr.grownBy w2 (some p):=Qab (Qaq wr (some p)) hDs.grown
    have r2:=HR.out w2 gs
    have hz2:=hDs.grown.size
    have hzg:=((Qaq wr (some p))).size
    obtain⟨y0,y1,y2,y3,y4,y5,y6,y7,y8⟩:=Nine.box r2
    have yf:=Qad r2
    go_wp2_with fail
    have fin:=Qar (w:=w) (r:=w.heap.size+1) (c1:=u3) (c2:=u6) (c3:=u9) hF (by omega) (by omega) hp (HDr.out w2 gs hDs.cur)
    exact bodyPost_ret (v:=.agg #[.int .i64 tm.K,.int .i64 tm.N,.string tm.S,.string tm.Z,.int .i64 tm.T.K,.int .i64 tm.T.N,.slice u1 u2 u3,.slice u4 u5 u6,.slice u7 u8 u9]) (by simp [results,Try.results54,go_sem,y0,y1,y2,y3,y4,y5,y6,y7,y8]) rfl ⟨_,_,rfl,fin.1,fin.2⟩
end Go.Proofs.Ytleghjgpnefliaa
