/-
  What the model's 'l3Uses' comes to, given 'l3Make' one level below.
-/
import Derived.Test.YtleghjgpnefliaaFnoDm
import Derived.Test.YtleghjgpnefliaaFnoZ15
namespace Go.Proofs.Ytleghjgpnefliaa
open Go.RowKit
set_option linter.unusedVariables false
set_option linter.unusedSimpArgs false
structure UsR (X vr:World) (p:Nat) (cao:Option Addr) (clen ccap tb k:Nat) (s:ByteArray) (v:Value) (us:List Tr):Prop where
 drw:Drw X vr p cao clen ccap
 box:vr.heap[tb]?=some (.cells #[.int .i64 3,.int .i64 0,.string s,.string ⟨#[]⟩,.int .i64 0,.int .i64 0,.slice none 0 0,v,.slice none 0 0] 29 (0,0))
 ts:TsRel (tb+1) vr 13 v us
 rt:∀ u∈us,∃ m,Qai k u=some m
theorem usr_next {X vr wx:World} {p:Nat} {cao:Option Addr} {clen ccap tb k:Nat} {s:ByteArray} {v:Value} {us:List Tr} (h:UsR X vr p cao clen ccap tb k s v us) (hp:p<X.heap.size) (hX:X.heap.size≤tb) (hg:vr.grownBy wx (some p)) (hcu:Cur wx p cao clen ccap) (hl:us.length≤10) {u:Tr} {ao:Option Addr} {len cap:Nat} (hH:Hs vr.heap.size wx.heap.size wx 13 ao len u.A) (hu:∃ m,Qai k u=some m) :
 ∃ g cap' w2,(Builtin.append_ #[24,24] 24 #[v,.slice (some ⟨wx.heap.size,0,none⟩) 1 1]).run Try.prog (wx.alloc (.cells #[.int .i64 u.K,.int .i64 u.N,.slice ao len cap] 26))=.ok (.slice (some ⟨g,0,none⟩) (us.length+1) cap') w2 ∧
   wx.cell? ⟨tb,7,none⟩=some v∧tb<wx.heap.size∧w2.cell? ⟨tb,7,none⟩=some v∧w2.frozen? ⟨tb,7,none⟩=false ∧
   UsR X (w2.setCell ⟨tb,7,none⟩ (.slice (some ⟨g,0,none⟩) (us.length+1) cap')) p cao clen ccap tb k s (.slice (some ⟨g,0,none⟩) (us.length+1) cap') (us++[u]):=by
 have hbl:tb<vr.heap.size:=(Array.getElem?_eq_some_iff.1 h.box).1
 have hz:=hg.size
 obtain⟨g,cap',w2,hrun,hT,hLo⟩:=ts_push h.ts (Sm.grown hg (by omega)) (by omega) (by omega) u.K u.N ao len cap u.A hH
 have bx:=(hg.block tb hbl (by simp;omega)).trans h.box
 have b2:=(hLo.block tb (by omega)).trans bx
 have hz0:=h.drw.grown.size
 refine⟨g,cap',w2,hrun,Qaa bx 7,by omega,Qaa b2 7,Qad b2 7,⟨⟨?_,?_⟩,?_,?_,?_⟩⟩
 · refine⟨hLo.os.trans (hg.os.trans h.drw.grown.os),hLo.tape.trans (hg.tape.trans h.drw.grown.tape),hLo.output.trans (hg.output.trans h.drw.grown.output),by simp;have:=hLo.size;omega,fun q hq hne=>?_⟩
   rw [Qah _ _ _ (by omega),hLo.block q (by omega),hg.block q (by omega) hne]
   exact h.drw.grown.block q hq hne
 · exact hcu.keep fun q hq=>by rw [Qah _ _ _ (by omega)];exact hLo.block q (by omega)
 · rw [Qas b2]
   rfl
 · rw [Qap] at hT
   exact ts_sm hT ⟨by simp,fun q hq _=>Qah _ _ _ (by omega)⟩
 · intro x hx
   rcases List.mem_append.1 hx with hx|hx
   · exact h.rt x hx
   · rw [List.mem_singleton.1 hx];exact hu
theorem grown_set3 {x:Option Nat} {v W:World} {q:Nat} {a b c:Value} (hq:v.heap.size≤q) (g:v.grownBy W x):v.grownBy (((W.setCell ⟨q,0,none⟩ a).setCell ⟨q,1,none⟩ b).setCell ⟨q,2,none⟩ c) x:=by
 refine⟨g.os,g.tape,g.output,by simp;exact g.size,fun r hr hne=>?_⟩
 rw [Qah _ _ _ (by omega),Qah _ _ _ (by omega),Qah _ _ _ (by omega)]
 exact g.block r hr hne
theorem put_meet {vr W:World} {p q L B:Nat} {cao:Option Addr} {clen ccap:Nat} {ty:Tr} {ya:Option Addr} {yl yc:Nat} (hq:vr.heap.size≤q) (hp:p<q) (hg:vr.grownBy W (some p)) (hcu:Cur W p cao clen ccap) (hbx:W.heap[q]?=some (.cells #[.int .i64 0,.int .i64 0,.slice none 0 0] 26 (0,0))) (hH:Hs L B W 18 ya yl ty.A) (hL:vr.heap.size≤L) (hB:B≤W.heap.size) (hne:∀ k,L≤k->k<B->k≠q) :
 ∃ (q':Nat) (ya':Option Addr) (yl' yc':Nat),Value.pointer (some ⟨q,0,none⟩)=.pointer (some ⟨q',0,none⟩)∧vr.grownBy (set3 W q 0 (.int .i64 ty.K) (.int .i64 ty.N) (.slice ya yl yc)) (some p)∧Cur (set3 W q 0 (.int .i64 ty.K) (.int .i64 ty.N) (.slice ya yl yc)) p cao clen ccap∧vr.heap.size≤q'∧(set3 W q 0 (.int .i64 ty.K) (.int .i64 ty.N) (.slice ya yl yc)).heap[q']?=some (.cells #[.int .i64 ty.K,.int .i64 ty.N,.slice ya' yl' yc'] 26 (0,0))∧Hs vr.heap.size (set3 W q 0 (.int .i64 ty.K) (.int .i64 ty.N) (.slice ya yl yc)).heap.size (set3 W q 0 (.int .i64 ty.K) (.int .i64 ty.N) (.slice ya yl yc)) 18 ya' yl' ty.A:=by
 have hb3:Below q W (set3 W q 0 (.int .i64 ty.K) (.int .i64 ty.N) (.slice ya yl yc)):=Qbg (Below.refl _ _) (Nat.le_refl _)
 refine⟨q,ya,yl,yc,rfl,⟨hb3.os.trans hg.os,hb3.tape.trans hg.tape,hb3.output.trans hg.output,by rw [Qbp];exact hg.size,fun k hk hn=>by rw [Qau _ (by omega)];exact hg.block k hk hn⟩,hcu.keep fun k hk=>Qau _ (by omega),hq,(Qbt hbx).trans rfl,hH.keep (fun k h1 h2=>Qau _ (hne k h1 h2)) hL (by rw [Qbp];exact hB)⟩
theorem cntS_rt {k:Nat} (hk:k≤14) {us:List Tr} (h:∀ u∈us,∃ m,Qai k u=some m) (hl:us.length≤2):cntS us≤1048576:=by
 have one:∀ u∈us,cnt u≤16384:=fun u hu=>by
  obtain⟨m,hm⟩:=h u hu
  have h1:=Qeb _ _ _ hm
  have h2:=Qdr _ _ _ hm
  have h3:2 ^ k≤2 ^ 14:=Nat.pow_le_pow_right (by omega) hk
  omega
 match us,hl,one with
 | [],_,_=>simp [cntS]
 | [a],_,one=>have:=one a (by simp);simp [cntS];omega
 | [a,b],_,one=>have:=one a (by simp);have:=one b (by simp);simp [cntS];omega
 | a::b::c::l,hl,_=>simp at hl
theorem hs_low {L B:Nat} {w:World}:∀ (l:Nat) (t:Tr) (m:Nat),Qai (l+1) t=some m->∀ {d:Nat} {ao:Option Addr} {len:Nat},Hs L B w d ao len t.A->Hs L B w l ao len t.A:=by
 intro l
 induction l with
 | zero =>
   intro t m h d ao len hs
   have hp:=(Qay (l:=0) (k:=t.K) (n:=t.N) (ts:=t.A) (m:=m) (by rw [Qap];exact h)).2
   have hA:t.A=[]:=by
    cases e:t.A with
    | nil=>rfl
    | cons x xs =>
      obtain⟨a,ha⟩:=hp 0 (by rw [e];simp)
      simp [Qai] at ha
   rw [hA] at hs ⊢
   exact⟨hs.len.1,rfl⟩
 | succ l ih =>
   intro t m h d ao len hs
   have hp:=(Qay (l:=l+1) (k:=t.K) (n:=t.N) (ts:=t.A) (m:=m) (by rw [Qap];exact h)).2
   refine⟨hs.len.1,hs.len.2,fun i hi=>?_⟩
   obtain⟨b,o,e,h1,h2,h3⟩:=hs.get i hi
   obtain⟨a,ha⟩:=hp i hi
   obtain⟨x,y,z,k1,k2,k3,k4⟩:=h3
   exact⟨b,o,e,h1,h2,x,y,z,k1,k2,k3,ih _ a ha k4⟩
set_option maxRecDepth 100000 in
set_option maxHeartbeats 8000000 in
theorem uses_step (dep:Nat) (hdep:dep≤4) (IH:SaidMake dep):SaidUses dep:=by
 intro p cao clen ccap wv t v es vs w hc hwv hv hlen hv0 hv2
 have hp:=hc.lt
 obtain⟨k,hk⟩:∃ k,k=11 - dep:=⟨_,rfl⟩
 rw [← hk] at hwv
 have hk14:k≤14:=by omega
 obtain⟨⟨ao,len,cap,rfl,hs⟩,m,hm⟩:=hwv
 obtain⟨ae,ce,rfl⟩:=hv.1.form
 obtain⟨X,hX⟩:∃ X,X=(w.alloc (.cells #[.int .i64 t.K,.int .i64 t.N,.slice ao len cap] 26)).alloc (.cells #[.int .i64 0,.int .i64 0,.string ⟨#[]⟩,.string ⟨#[]⟩,.int .i64 0,.int .i64 0,.slice none 0 0,.slice none 0 0,.slice none 0 0] 29):=⟨_,rfl⟩
 have hXs:X.heap.size=w.heap.size+2:=by rw [hX];simp
 have hXb:Below w.heap.size w X:=by rw [hX];exact ((Below.refl _ _).alloc (Nat.le_refl _) _).alloc (by simp) _
 have hX0:X.heap[w.heap.size]?=some (.cells #[.int .i64 t.K,.int .i64 t.N,.slice ao len cap] 26 (0,0)):=by rw [hX,Below.heap_alloc _ _ _ (by simp)];exact Qac rfl
 have hX1:X.heap[w.heap.size+1]?=some (.cells #[.int .i64 0,.int .i64 0,.string ⟨#[]⟩,.string ⟨#[]⟩,.int .i64 0,.int .i64 0,.slice none 0 0,.slice none 0 0,.slice none 0 0] 29 (0,0)):=by rw [hX];exact Qac (by simp)
 have hcX:=hc.below hXb
 have hgX:w.grownBy X (some p):=Qae _ hXb
 have hsX:Hs (p+1) X.heap.size X k ao len t.A:=hs_up hs hXb
 have hvX:=hv.grown hgX
 have HX:Hid (X=_):=hX
 obtain⟨n,hn⟩:∃ n,n=es.length:=⟨_,rfl⟩
 have HN:Hid (n=es.length):=hn
 rw [← hn] at hlen ⊢
 have HKd:Hid (k=11 - dep):=hk
 have HTX:Hid (∀ W:World,X.grownBy W (some p)->Ty2 W p k (.agg #[.int .i64 t.K,.int .i64 t.N,.slice ao len cap]) t):=fun W hg=>⟨⟨ao,len,cap,rfl,hsX.keep (fun q hq1 hq2=>hg.block q hq2 (by simp;omega)) (Nat.le_refl _) hg.size⟩,m,hm⟩
 have HEX:Hid (∀ W:World,X.grownBy W (some p)->En2 W p 14 (.slice ae n ce) es):=fun W hg=>by have:=hvX.grown hg;rw [← HN.out] at this;exact this
 have HRX:Hid (∀ W:World,X.grownBy W (some p)->W.heap[w.heap.size+1]?=some (.cells #[.int .i64 0,.int .i64 0,.string ⟨#[]⟩,.string ⟨#[]⟩,.int .i64 0,.int .i64 0,.slice none 0 0,.slice none 0 0,.slice none 0 0] 29 (0,0))):=fun W hg=>(hg.block _ (by omega) (by simp;omega)).trans hX1
 have HBX:Hid (∀ W:World,X.grownBy W (some p)->W.heap[w.heap.size]?=some (.cells #[.int .i64 t.K,.int .i64 t.N,.slice ao len cap] 26 (0,0))):=fun W hg=>(hg.block _ (by omega) (by simp;omega)).trans hX0
 clear hX hn hk
 go_enter Try.func76,Try.ntmps76
 go_wp2_with fail
 rw [← HX.out]
 go_loopw [12] (fun i wr=>∃ j:Nat,j≤n∧i=.int .i64 ((j:Int) - 1)∧Drw X wr p cao clen ccap) (fun i _=>(intOf i+1).toNat)
 case atStart=>exact⟨n,Nat.le_refl _,rfl,⟨Qaq _ _,hcX⟩⟩
 case round =>
  obtain⟨j,hj,rfl,hD⟩:=hrel
  have hzr:=hD.grown.size
  have b0:=HBX.out wr hD.grown
  have r0:=HRX.out wr hD.grown
  obtain⟨x0,x1,x2⟩:=Qaf b0
  cases j with
  | zero =>
    obtain⟨y0,y1,y2,y3,y4,y5,y6,y7,y8⟩:=Nine.box r0
    have yf:=Qad r0
    go_wp2_with fail
    have hF:Fm wr.heap.size wr.heap.size wr 14 (16+dep+1) ⟨0,0,⟨#[]⟩,⟨#[]⟩,⟨0,0,[]⟩,[],[]⟩ none 0 none 0 none 0:=⟨Nat.zero_le _,Nat.zero_le _,Hs.nil _ _ _ _ _,Hs.nil _ _ _ _ _,Hm.nil _ _ _ _ _ _⟩
    have fin:=Qar (w:=w) (r:=w.heap.size+1) (c1:=0) (c2:=0) (c3:=0) hF (by omega) (by omega) hp ⟨Qab hgX hD.grown,hD.cur⟩
    exact bodyPost_ret (v:=.tuple #[.agg #[.int .i64 0,.int .i64 0,.string ⟨#[]⟩,.string ⟨#[]⟩,.int .i64 0,.int .i64 0,.slice none 0 0,.slice none 0 0,.slice none 0 0],.bool false]) (by simp [results,Try.results76,go_sem,y0,y1,y2,y3,y4,y5,y6,y7,y8]) rfl ⟨_,_,_,rfl,fin.1,fin.2⟩
  | succ j =>
    have hj':j<es.length:=by have:=HN.out;omega
    have hvr:=hvX.grown hD.grown
    obtain⟨b,o,cp,a1,l1,c1,e,hb1,hb2,x0',x1',x2',x3',x4',hs1⟩:=hvX.1.get j hj'
    obtain⟨hev1,hev2,hev3⟩:=hvr.2 es[j] (List.getElem_mem hj')
    rw [← HN.out] at e
    injection e with ee1 ee2 ee3
    subst ee1 ee3
    have hw1:((j+1:Nat):Int) - 1=(j:Int):=by omega
    rw [hw1]
    have hge:0≤(j:Int):=by omega
    have hjn:(j:Int)<(n:Int):=by omega
    have HE1:Hid (∀ w':World,X.grownBy w' (some p)->w'.cell? ⟨b,o+j*5,none⟩=some (.string es[j].s)∧w'.cell? ⟨b,o+j*5+1,none⟩=some (.int .i64 es[j].n)∧w'.cell? ⟨b,o+j*5+2,none⟩=some (.int .i64 es[j].t.K)∧w'.cell? ⟨b,o+j*5+3,none⟩=some (.int .i64 es[j].t.N)∧w'.cell? ⟨b,o+j*5+4,none⟩=some (.slice a1 l1 c1)∧Hs (p+1) w'.heap.size w' 14 a1 l1 es[j].t.A):=by
     intro w' hg
     have q:=hg.block b hb2 (by simp;omega)
     exact⟨(World.cell?_of_block q).trans x0',(World.cell?_of_block q).trans x1',(World.cell?_of_block q).trans x2',(World.cell?_of_block q).trans x3',(World.cell?_of_block q).trans x4',hs1.keep (fun q hq1 hq2=>hg.block q hq2 (by simp;omega)) (Nat.le_refl _) hg.size⟩
    obtain⟨e0,e1,e2,e3,e4,_⟩:=HE1.out _ hD.grown
    clear x0' x1' x2' x3' x4'
    obtain⟨fi,hfi⟩:∃ fi,fi=fndK es es[j].s es.length:=⟨_,rfl⟩
    have HFind:Hid (∀ w',wr.grownBy w' (some p)->Calls Try.prog 65 #[.slice (some ⟨b,o,none⟩) n ce,.string es[j].s] w' fun e w''=>e=.returned (.int .i64 fi)∧w''=w'):=by
     intro w' hg
     have:=l3Find_any p 14 _ es es[j].s w' (hvr.1.grown hg) (by have:=HN.out;omega)
     rw [← hfi] at this
     rw [← HN.out] at this
     exact this
    clear hfi
    generalize es[j]=ev at *
    by_cases hn0:ev.n=0
    · have hnb:(ev.n==0)=true:=by simp [hn0]
      go_wp2_with fail
      go_roundw
      case rel=>exact⟨j,by omega,by go_num,hD⟩
      case measure=>simp [intOf]
    · have hnb:(ev.n==0)=false:=by simp [hn0]
      by_cases hfj:fi=(j:Int)
      · subst hfj
        go_wp2_with fail
        refine (HFind.out wr (Qaq _ _)).mono ?_
        rintro e w9 ⟨rfl,rfl⟩
        obtain⟨nn,hnn,hnn1,hnn2⟩:∃ nn:Nat,ev.n=nn∧1≤nn∧nn≤2:=by
         rcases hev2 with h|⟨h1,h2,_⟩
         · exact absurd h hn0
         · exact⟨ev.n.toNat,by omega,by omega,by omega⟩
        obtain⟨Y,hY⟩:∃ Y,Y=w9.alloc (.cells #[.int .i64 3,.int .i64 0,.string ev.s,.string ⟨#[]⟩,.int .i64 0,.int .i64 0,.slice none 0 0,.slice none 0 0,.slice none 0 0] 29):=⟨_,rfl⟩
        have hYb:Below w9.heap.size w9 Y:=by rw [hY];exact (Below.refl _ _).alloc (Nat.le_refl _) _
        have hY1:Y.heap[w9.heap.size]?=some (.cells #[.int .i64 3,.int .i64 0,.string ev.s,.string ⟨#[]⟩,.int .i64 0,.int .i64 0,.slice none 0 0,.slice none 0 0,.slice none 0 0] 29 (0,0)):=by rw [hY];exact Qac rfl
        have hYz:w9.heap.size<Y.heap.size:=by rw [hY];simp
        have gY:X.grownBy Y (some p):=Qab hD.grown (Qae _ hYb)
        have U0:UsR X Y p cao clen ccap w9.heap.size k ev.s (.slice none 0 0) []:=⟨⟨gY,hD.cur.below hYb⟩,hY1,⟨[],⟨rfl,Or.inl ⟨rfl,rfl⟩⟩,fun i hi=>by simp at hi⟩,fun u hu=>by simp at hu⟩
        have HY:Hid (Y=_):=hY
        rw [hnn] at e1
        have HNN:Hid (ev.n=nn):=hnn
        have hpX:p<X.heap.size:=by omega
        have HS:Hid (∀ w':World,X.grownBy w' (some p)->w'.cell? ⟨b,o+j*5+1,none⟩=some (.int .i64 nn)∧w'.cell? ⟨w.heap.size,0,none⟩=some (.int .i64 t.K)∧w'.cell? ⟨w.heap.size,1,none⟩=some (.int .i64 t.N)∧w'.cell? ⟨w.heap.size,2,none⟩=some (.slice ao len cap)):=by
         intro w' hg
         have q1:=(HE1.out w' hg).2.1
         rw [HNN.out] at q1
         obtain⟨q2,q3,q4⟩:=Qaf (HBX.out w' hg)
         exact⟨q1,q2,q3,q4⟩
        clear hY hnn hn0 hnb
        go_wp2_with fail
        rw [← HY.out]
        go_loopw [14] (fun i vr=>∃ (kk:Nat) (v:Value) (us:List Tr),kk≤nn∧i=.int .i64 kk∧us.length=kk∧UsR X vr p cao clen ccap w9.heap.size k ev.s v us) (fun i _=>nn - (intOf i).toNat)
        case atStart=>exact⟨0,_,_,by omega,rfl,rfl,U0⟩
        case round =>
         obtain⟨kk,v,us,hkk,rfl,hul,hU⟩:=hrel
         obtain⟨vr,hvr'⟩:∃ v,v=wr:=⟨_,rfl⟩
         subst hvr'
         obtain⟨g0,g1,g2,g3⟩:=HS.out _ hU.drw.grown
         by_cases hlt:kk<nn
         · go_wp2_with fail
           refine (tv_any 1 (by omega) (by omega) p cao clen ccap vs _ hU.drw.cur hv0 hv2).mono ?_
           rintro e w1 ⟨xK,xN,xa,xl,xc,xA,rfl,hD1,hoX,_,⟨mX,hmX⟩,_⟩
           have gx:X.grownBy w1 (some p):=Qab hU.drw.grown hD1.grown
           have hzx:=gx.size
           have hzv:=hD1.grown.size
           have hzU:=hU.drw.grown.size
           have hk1:1≤k:=by have:=HKd.out;omega
           obtain⟨st,hst⟩:∃ st:Tr,st=⟨xK,xN,xA⟩:=⟨_,rfl⟩
           obtain rfl:xK=st.K:=by rw [hst]
           obtain rfl:xN=st.N:=by rw [hst]
           obtain rfl:xA=st.A:=by rw [hst]
           clear hst
           rw [Qap] at hmX
           obtain⟨Wb,hWb⟩:∃ Wb,Wb=w1.alloc (.cells #[.int .i64 st.K,.int .i64 st.N,.slice xa xl xc] 26):=⟨_,rfl⟩
           have hWbb:Below w1.heap.size w1 Wb:=by rw [hWb];exact (Below.refl _ _).alloc (Nat.le_refl _) _
           have hWb1:Wb.heap[w1.heap.size]?=some (.cells #[.int .i64 st.K,.int .i64 st.N,.slice xa xl xc] 26 (0,0)):=by rw [hWb];exact Qac rfl
           have hWbz:w1.heap.size<Wb.heap.size:=by rw [hWb];simp
           have gb:X.grownBy Wb (some p):=Qab gx (Qae _ hWbb)
           have hcb:Cur Wb p cao clen ccap:=hD1.cur.below hWbb
           have HWb:Hid (Wb=_):=hWb
           clear hWb
           go_upto_region 10 with fail
           rw [← HWb.out]
           go_cut [71] from 59 to 71 (fun v wx=>∃ bb:Bool,v=.bool bb∧Wb.grownBy wx (some p)∧Cur wx p cao clen ccap)
           case first =>
            go_wp2_with fail
            refine (Qcs p cao clen ccap 2 Wb hcb (by omega) (by omega)).mono ?_
            rintro e w2 ⟨bo,rfl,hD2⟩
            have gw2:X.grownBy w2 (some p):=Qab gb hD2.grown
            obtain⟨f0,f1,f2,f3⟩:=HS.out _ gw2
            cases bo with
            | false =>
              go_wp2_with fail
              go_meet
              exact⟨_,rfl,hD2.grown,hD2.cur⟩
            | true =>
              obtain⟨⟨ta,tl,tc,hte,htH⟩,tm,htm⟩:=HTX.out w2 gw2
              simp only [Value.agg.injEq,Array.mk.injEq,List.cons.injEq,Value.slice.injEq,true_and,and_true] at hte
              obtain⟨rfl,rfl,rfl⟩:=hte
              have htm':Qai k ⟨t.K,t.N,t.A⟩=some tm:=by rw [Qap];exact htm
              go_wp2_with fail
              refine (lv_any k k (p+1) w2.heap.size t.K t.N ao len cap t.A tm w2 (Nat.le_refl _) htH htm').mono ?_
              rintro e w3 ⟨rfl,hb3⟩
              have g23:Wb.grownBy w3 (some p):=Qab hD2.grown (Qae _ hb3)
              obtain⟨d0,d1,d2,d3⟩:=HS.out _ (Qab gb g23)
              generalize Qce k ⟨t.K,t.N,t.A⟩=nv
              by_cases hvv:(nv:Int)≤vs
              · go_wp2_with fail
                refine (sTyNodes_any k (p+1) w3.heap.size t.K t.N ao len cap t.A w3 (Nat.le_refl _) (htH.keep (fun q _ hq=>hb3.block q hq) (Nat.le_refl _) hb3.size)).mono ?_
                rintro e w4 ⟨rfl,hb4⟩
                go_wp2_with fail
                go_meet
                exact⟨_,rfl,Qab g23 (Qae _ hb4),(hD2.cur.below hb3).below hb4⟩
              · go_wp2_with fail
                go_meet
                exact⟨_,rfl,g23,hD2.cur.below hb3⟩
           case rest =>
            obtain⟨bb,rfl,hgc,hcc⟩:=hcut
            obtain⟨vc,hvc⟩:∃ v,v=wc:=⟨_,rfl⟩
            subst hvc
            have gc:X.grownBy vc (some p):=Qab gb hgc
            have bxc:=(hgc.block _ hWbz (by simp;omega)).trans hWb1
            obtain⟨m0,m1,m2⟩:=Qaf bxc
            have mf:=Qad bxc
            obtain⟨d0,d1,d2,d3⟩:=HS.out _ gc
            go_upto_if 71 with fail
            go_cut [] from 72 to 73 (fun wx=>∃ (u:Tr) (ua:Option Addr) (ul uc:Nat),wx.heap[w1.heap.size]?=some (.cells #[.int .i64 u.K,.int .i64 u.N,.slice ua ul uc] 26 (0,0))∧vr.grownBy wx (some p)∧Cur wx p cao clen ccap∧Hs vr.heap.size wx.heap.size wx 13 ua ul u.A∧∃ m,Qai k u=some m)
            case first =>
             have hzc:=hgc.size
             have gvc:vr.grownBy vc (some p):=Qab hD1.grown (Qab (Qae _ hWbb) hgc)
             cases bb with
             | false =>
               go_wp2_with fail
               go_meet
               exact⟨st,xa,xl,xc,bxc,gvc,hcc,(hoX.hs.keep (fun q hq1 hq2=>(hgc.block q (by omega) (by simp;omega)).trans (hWbb.block q hq2)) (Nat.le_refl _) (by omega)).deeper (by omega),mX,Qcm hk1 hmX⟩
             | true =>
               go_wp2_with fail
               refine (copy_any (HTX.out vc gc) hk14).mono ?_
               rintro e w5 ⟨aC,lC,cC,rfl,hb5,hoC⟩
               have bx5:=(hb5.block _ (by omega)).trans bxc
               obtain⟨n0,n1,n2⟩:=Qaf bx5
               have nf:=Qad bx5
               have hz5:=hb5.size
               go_wp2_with fail
               go_meet
               have gz:∀ Wz,Wz=set3 w5 w1.heap.size 0 (.int .i64 t.K) (.int .i64 t.N) (.slice aC lC cC)->∃ (u:Tr) (ua:Option Addr) (ul uc:Nat),Wz.heap[w1.heap.size]?=some (.cells #[.int .i64 u.K,.int .i64 u.N,.slice ua ul uc] 26 (0,0))∧vr.grownBy Wz (some p)∧Cur Wz p cao clen ccap∧Hs vr.heap.size Wz.heap.size Wz 13 ua ul u.A∧∃ m,Qai k u=some m:=by
                rintro Wz rfl
                have ho:∀ q,q≠w1.heap.size->(set3 w5 w1.heap.size 0 (.int .i64 t.K) (.int .i64 t.N) (.slice aC lC cC)).heap[q]?=w5.heap[q]?:=fun q hq=>Qau _ hq
                have hb3:Below w1.heap.size w5 (set3 w5 w1.heap.size 0 (.int .i64 t.K) (.int .i64 t.N) (.slice aC lC cC)):=Qbg (Below.refl _ _) (Nat.le_refl _)
                refine⟨t,aC,lC,cC,?_,?_,?_,?_,m,hm⟩
                · exact (Qbt bx5).trans rfl
                · refine⟨hb3.os.trans (hb5.os.trans gvc.os),hb3.tape.trans (hb5.tape.trans gvc.tape),hb3.output.trans (hb5.output.trans gvc.output),by rw [Qbp];omega,fun q hq hne=>?_⟩
                  rw [ho q (by omega),hb5.block q (by omega)]
                  exact gvc.block q hq hne
                · exact (hcc.below hb5).keep fun q hq=>ho q (by omega)
                · exact (hoC.hs.keep (fun q hq1 hq2=>ho q (by omega)) (by omega) (by rw [Qbp];omega)).deeper (by have:=HKd.out;omega)
               exact gz _ rfl
            case rest =>
             obtain⟨u,ua,ul,uc,hbu,hgu,hcu,hHu,hmu⟩:=hcut
             obtain⟨vd,hvd⟩:∃ v,v=wc:=⟨_,rfl⟩
             subst hvd
             obtain⟨av,cv,rfl⟩:=ts_form hU.ts
             obtain⟨g,cp,w2,hrun,c7,htl,c72,f72,hU2⟩:=usr_next hU hpX (by omega) hgu hcu (by omega) (cap:=uc) hHu hmu
             obtain⟨m0,m1,m2⟩:=Qaf hbu
             rw [hul] at hrun hU2 c7 c72
             have HRn:Hid (_=_):=hrun
             have HU2:Hid (UsR _ _ _ _ _ _ _ _ _ _ _):=hU2
             have hc7a:(vd.alloc (.cells #[.int .i64 u.K,.int .i64 u.N,.slice ua ul uc] 26)).cell? ⟨w9.heap.size,7,none⟩=some (.slice av kk cv):=(World.cell?_of_block (Below.heap_alloc _ _ _ htl)).trans c7
             clear hrun hU2 hU
             go_wp2_with (first|(at_builtin;refine Qdf HRn.out (by rfl) _ _ (by rfl) (by rfl) (by rfl) (by rfl) ?_))
             go_roundw
             case rel=>exact⟨kk+1,_,_,by omega,by go_num,by simp [hul],HU2.out⟩
             case measure=>simp [intOf];omega
         · obtain rfl:kk=nn:=by omega
           obtain⟨sa,sc,hvs,hHus⟩:=ts_done hU.ts (by omega)
           rw [hul] at hvs hHus
           subst hvs
           obtain⟨e0,e1,e2,e3,e4,hHe⟩:=HE1.out _ hU.drw.grown
           have bx:=hU.box
           obtain⟨y0,y1,y2,y3,y4,y5,y6,y7,y8⟩:=Nine.box bx
           obtain⟨_,hn2,hrt⟩:0≤ev.n∧ev.n≤2∧RtV 4 ev.n ev.t:=by rcases hev2 with h|h;exact absurd (HNN.out.symm.trans h) (by omega);exact h
           obtain⟨⟨me,hme⟩,hve⟩:=hrt
           rw [HNN.out] at hve
           have hHus':Hs (w9.heap.size+1) vr.heap.size vr 14 sa kk us:=hHus
           have hcs:=cntS_rt (by have:=HKd.out;omega) hU.rt (by omega)
           obtain⟨mp,hmp⟩:=nodesW_put hU.rt 4 ev.t me hme (by omega)
           have hme':Qai 4 ⟨ev.t.K,ev.t.N,ev.t.A⟩=some me:=by rw [Qap];exact hme
           have hve':Qce 4 ⟨ev.t.K,ev.t.N,ev.t.A⟩≤kk:=by rw [Qap];omega
           have HLp:Hid (∀ w':World,vr.grownBy w' (some p)->Calls Try.prog 91 #[.agg #[.int .i64 ev.t.K,.int .i64 ev.t.N,.slice a1 l1 c1],.slice sa kk sc] w' fun e w''=>∃ ya yl yc,e=.returned (.agg #[.int .i64 (putW us 4 ev.t).K,.int .i64 (putW us 4 ev.t).N,.slice ya yl yc])∧Below w'.heap.size w' w''∧OwR w'.heap.size w''.heap.size w'' 18 ya yl (putW us 4 ev.t).A):=by
            intro w' hg
            have:=lp_any 4 14 14 (p+1) w'.heap.size (w9.heap.size+1) w'.heap.size ev.t.K ev.t.N a1 l1 c1 ev.t.A sa kk sc us me w' (Nat.le_refl _) (HE1.out _ (Qab hU.drw.grown hg)).2.2.2.2.2 (Nat.le_refl _) (hHus'.keep (fun q hq1 hq2=>hg.block q hq2 (by simp;omega)) (Nat.le_refl _) hg.size) hme' hve' hcs
            rw [Qap] at this
            exact this
           generalize putW us 4 ev.t=ty at *
           obtain⟨sm,hsm⟩:=Qcj ty t
           have hbl:w9.heap.size<vr.heap.size:=(Array.getElem?_eq_some_iff.1 bx).1
           have H13:Hid (∀ w':World,vr.grownBy w' (some p)->w'.cell? ⟨b,o+j*5+2,none⟩=some (.int .i64 ev.t.K)∧w'.cell? ⟨b,o+j*5+3,none⟩=some (.int .i64 ev.t.N)∧w'.cell? ⟨b,o+j*5+4,none⟩=some (.slice a1 l1 c1)∧w'.cell? ⟨w9.heap.size,7,none⟩=some (.slice sa kk sc)):=by
            intro w' hg
            obtain⟨_,_,q2,q3,q4,_⟩:=HE1.out _ (Qab hU.drw.grown hg)
            have:=Qaa ((hg.block _ hbl (by simp;omega)).trans bx) 7
            exact⟨q2,q3,q4,this⟩
           have g0:vr.grownBy vr.drew (some p):=Qae _ ((Below.refl _ _).drew)
           have hA:((vr.alloc (.cells #[.int .i64 0,.int .i64 0,.slice none 0 0] 26)).drew).heap[vr.heap.size]?=some (.cells #[.int .i64 0,.int .i64 0,.slice none 0 0] 26 (0,0)):=by show (vr.alloc _).heap[_]?=_;exact Qac rfl
           have g0a:∀ o,vr.grownBy (vr.alloc o).drew (some p):=fun o=>Qae _ (((Below.refl _ _).alloc (Nat.le_refl _) _).drew)
           go_upto_region 13 with fail
           go_cut [16] from 80 to 87 (fun v wx=>∃ (q:Nat) (ya:Option Addr) (yl yc:Nat),v=.pointer (some ⟨q,0,none⟩)∧vr.grownBy wx (some p)∧Cur wx p cao clen ccap∧vr.heap.size≤q∧wx.heap[q]?=some (.cells #[.int .i64 ty.K,.int .i64 ty.N,.slice ya yl yc] 26 (0,0))∧Hs vr.heap.size wx.heap.size wx 18 ya yl ty.A)
           case first =>
            go_wp2_with fail
            go_region_held3 (fun w'=>w'.cell? ⟨b,o+j*5+2,none⟩=some (.int .i64 ev.t.K)∧w'.cell? ⟨b,o+j*5+3,none⟩=some (.int .i64 ev.t.N)∧w'.cell? ⟨b,o+j*5+4,none⟩=some (.slice a1 l1 c1)∧w'.cell? ⟨w9.heap.size,7,none⟩=some (.slice sa kk sc))
             (first|with_reducible exact H13.out _ (grown_set3 (Nat.le_refl _) g2)|with_reducible exact H13.out _ (grown_set3 g2.size (g2a _))|with_reducible exact H13.out _ (g2a _)|with_reducible exact H13.out _ g2|with_reducible exact H13.out _ (g0a _)|with_reducible exact H13.out _ g0)
             (first
               | (go_at_call 91;refine (HLp.out _ (g0a _)).mono ?_;rintro e w2 ⟨ya,yl,yc,rfl,hb2',hoT⟩;have g2:vr.grownBy w2 (some p):=Qab (g0a _) (Qae _ hb2');have g2a:∀ o,vr.grownBy (w2.alloc o) (some p):=fun o=>Qab g2 (Qae _ ((Below.refl _ _).alloc (Nat.le_refl _) _));have bq:=(hb2'.block vr.heap.size (by simp)).trans hA;obtain⟨n0,n1,n2⟩:=Qaf bq;have nf:=Qad bq)
               | (go_at_call 91;refine (HLp.out _ g0).mono ?_;rintro e w2 ⟨ya,yl,yc,rfl,hb2',hoT⟩;have g2:vr.grownBy w2 (some p):=Qab g0 (Qae _ hb2');have g2a:∀ o,vr.grownBy (w2.alloc o) (some p):=fun o=>Qab g2 (Qae _ ((Below.refl _ _).alloc (Nat.le_refl _) _))))
            · go_wp2_with fail
              go_meet
              exact⟨w2.heap.size,ya,yl,yc,rfl,g2a _,((hU.drw.cur.below ((Below.refl _ _).drew)).below hb2').below ((Below.refl _ _).alloc (Nat.le_refl _) _),g2.size,Qac rfl,hoT.hs.keep (fun k _ hk=>Below.heap_alloc _ _ _ hk) (by simp) (by simp)⟩
            · go_wp2_with fail
              go_meet
              exact put_meet (Nat.le_refl _) (hU.drw.cur.lt) g2 (((hU.drw.cur.below ((Below.refl _ _).alloc (Nat.le_refl _) _)).below ((Below.refl _ _).drew)).below hb2') bq hoT.hs (by simp) (Nat.le_refl _) (fun k h1 h2=>by simp at h1;omega)
           case rest =>
            obtain⟨q,ya,yl,yc,rfl,hgq,hcq,hqv,hbq,hHq⟩:=hcut
            obtain⟨vq,hvq⟩:∃ v,v=wc:=⟨_,rfl⟩
            subst hvq
            have gXq:X.grownBy vq (some p):=Qab hU.drw.grown hgq
            have hzq:=hgq.size
            have hzX:=gXq.size
            have hql:q<vq.heap.size:=(Array.getElem?_eq_some_iff.1 hbq).1
            clear y0 y1 y2 y3 y4 y5 y6 y7 y8 e0 e1 e2 e3 e4
            obtain⟨q0,q1,q2⟩:=Qaf hbq
            obtain⟨x0,x1,x2⟩:=Qaf (HBX.out vq gXq)
            obtain⟨⟨ta,tl,tc,hte,htH⟩,tm,htm⟩:=HTX.out vq gXq
            simp only [Value.agg.injEq,Array.mk.injEq,List.cons.injEq,Value.slice.injEq,true_and,and_true] at hte
            obtain⟨rfl,rfl,rfl⟩:=hte
            have htH18:Hs (p+1) vq.heap.size vq 18 ao len t.A:=htH.deeper (by have:=HKd.out;omega)
            have K14:=ss_any 18 vr.heap.size vq.heap.size (p+1) vq.heap.size ty.K ty.N ya yl yc ty.A t.K t.N ao len cap t.A sm vq (Nat.le_refl _) (Nat.le_refl _) hHq htH18 (by rw [Qap,Qap];exact hsm)
            go_wp2_with fail
            refine K14.mono ?_
            rintro e w3 ⟨rfl,hb3⟩
            have hz3:=hb3.size
            have g3:X.grownBy w3 (some p):=Qab gXq (Qae _ hb3)
            have gv3:vr.grownBy w3 (some p):=Qab hgq (Qae _ hb3)
            have bx3:=(gv3.block _ hbl (by simp;omega)).trans bx
            have r3:=HRX.out w3 g3
            have bq3:=(hb3.block q hql).trans hbq
            have bw3:=HBX.out w3 g3
            have hq3:q<w3.heap.size:=by omega
            have hw3:w.heap.size<w3.heap.size:=by omega
            clear q0 q1 q2 x0 x1 x2 K14
            obtain⟨q0,q1,q2⟩:=Qaf bq3
            obtain⟨x0,x1,x2⟩:=Qaf bw3
            have HSm:Hid (sm=true↔ty=t):=hsm
            clear hsm
            cases sm with
            | true =>
              obtain⟨z0,z1,z2,z3,z4,z5,z6,z7,z8⟩:=Nine.box bx3
              obtain⟨y0,y1,y2,y3,y4,y5,y6,y7,y8⟩:=Nine.box r3
              have yf:=Qad r3
              go_wp2_with fail
              have hF:Fm (w9.heap.size+1) w3.heap.size w3 14 (16+dep+1) ⟨3,0,ev.s,⟨#[]⟩,⟨0,0,[]⟩,us,[]⟩ none 0 sa kk none 0:=⟨by show ev.s.size≤_;omega,Nat.zero_le _,Hs.nil _ _ _ _ _,hHus'.keep (fun r h1 h2=>gv3.block r h2 (by simp;omega)) (Nat.le_refl _) gv3.size,Hm.nil _ _ _ _ _ _⟩
              have fin:=Qar (w:=w) (r:=w.heap.size+1) (c1:=0) (c2:=sc) (c3:=0) hF (by omega) (by omega) hp ⟨Qab hgX g3,hcq.below hb3⟩
              exact bodyPost_ret (v:=.tuple #[.agg #[.int .i64 3,.int .i64 0,.string ev.s,.string ⟨#[]⟩,.int .i64 0,.int .i64 0,.slice none 0 0,.slice sa kk sc,.slice none 0 0],.bool true]) (by simp [results,Try.results76,go_sem,y0,y1,y2,y3,y4,y5,y6,y7,y8]) rfl ⟨_,_,_,rfl,fin.1,fin.2⟩
            | false =>
              have hHq3:Hs vr.heap.size vq.heap.size w3 18 ya yl ty.A:=hHq.keep (fun k _ hk=>hb3.block k hk) (Nat.le_refl _) (Nat.le_refl _)
              have htH3:Hs (p+1) vq.heap.size w3 18 ao len t.A:=htH18.keep (fun k _ hk=>hb3.block k hk) (Nat.le_refl _) (Nat.le_refl _)
              by_cases hk4:ty.K=4
              · have hk4b:(ty.K==4)=true:=by simp [hk4]
                have hl2:ty.A.length=2:=by
                 have h:=(Qay (l:=3+k) (k:=ty.K) (n:=ty.N) (ts:=ty.A) (m:=mp) (by rw [Qap,show 3+k+1=4+k by omega];exact hmp)).1
                 rw [hk4] at h
                 simp [Qbk] at h
                 have hp4:parts 4=2:=rfl
                 omega
                obtain⟨c,oc,ec,hc1,hc2,u1,w1l,w1c,g1K,g1N,g1S,hH1⟩:=hHq3.get 1 (by omega)
                obtain⟨c',oc',ec',_,_,u0,w0l,w0c,g0K,g0N,g0S,hH0⟩:=hHq3.get 0 (by omega)
                subst ec
                cases ec'
                obtain rfl:yl=2:=by have:=hHq3.len.1;omega
                rw [Nat.one_mul] at g1K g1N g1S
                rw [Nat.zero_mul,Nat.add_zero] at g0K g0N g0S
                have hc3:c<w3.heap.size:=by omega
                have HK4:Hid (ty.K=4):=hk4
                clear hk4
                have hn0:okT ty=true->∃ m0,Qai 5 (ty.A[0]'(by omega))=some m0:=fun h=>by
                 obtain⟨m6,h6⟩:=Qcx h
                 exact (Qay (l:=5) (k:=ty.K) (n:=ty.N) (ts:=ty.A) (m:=m6) (by rw [Qap];exact h6)).2 0 (by omega)
                obtain⟨t1,ht1⟩:∃ t1,t1=ty.A[1]'(by omega):=⟨_,rfl⟩
                obtain⟨t0,ht0⟩:∃ t0,t0=ty.A[0]'(by omega):=⟨_,rfl⟩
                rw [← ht1] at g1K g1N hH1
                rw [← ht0] at g0K g0N hH0 hn0
                clear ht0 ht1
                obtain⟨s1,hs1⟩:=Qcj t1 t
                have HS1:Hid (∀ w':World,Below w3.heap.size w3 w'->Calls Try.prog 62 #[.agg #[.int .i64 t1.K,.int .i64 t1.N,.slice u1 w1l w1c],.agg #[.int .i64 t.K,.int .i64 t.N,.slice ao len cap]] w' fun e w''=>e=.returned (.bool s1)∧Below w3.heap.size w3 w''):=fun w' hC =>
                 (ss_any 18 vr.heap.size vq.heap.size (p+1) vq.heap.size t1.K t1.N u1 w1l w1c t1.A t.K t.N ao len cap t.A s1 w' (by have:=hC.size;omega) (by have:=hC.size;omega) ((hH1.deeper (by omega)).keep (fun k _ hk=>hC.block k (by omega)) (Nat.le_refl _) (Nat.le_refl _)) (htH3.keep (fun k _ hk=>hC.block k (by omega)) (Nat.le_refl _) (Nat.le_refl _)) (by rw [Qap,Qap];exact hs1)).mono fun e w'' ⟨h1,h2⟩=>⟨h1,hC.trans (h2.mono hC.size)⟩
                clear hs1
                obtain⟨ob,hob⟩:∃ ob,okT ty=ob:=⟨_,rfl⟩
                have HOK:Hid (∀ w':World,Below w3.heap.size w3 w'->Calls Try.prog 88 #[.agg #[.int .i64 ty.K,.int .i64 ty.N,.slice (some ⟨c,oc,none⟩) 2 yc]] w' fun e w''=>e=.returned (.bool ob)∧Below w3.heap.size w3 w''):=fun w' hC=>by
                 have h:=Qbq 18 vr.heap.size vq.heap.size ty.K ty.N (some ⟨c,oc,none⟩) 2 yc ty.A w' (by have:=hC.size;omega) (hHq3.keep (fun k _ hk=>hC.block k (by omega)) (Nat.le_refl _) (Nat.le_refl _))
                 rw [Qap,hob] at h
                 exact h.mono fun e w'' ⟨h1,h2⟩=>⟨h1,hC.trans (h2.mono hC.size)⟩
                cases s1 with
                | false =>
                  go_wp2_with fail
                  refine Qaj (by kernel_rfl) (by kernel_rfl) ?_
                  repeat (first|go_big_quiet_skip|(go_big_quiet_want;unfold Oper.quiet;apply Exists.intro;refine⟨fun w' hC=>?_,?_⟩;(have k0:=(Qag hC hq3 0).trans q0;have k1:=(Qag hC hq3 1).trans q1;have k2:=(Qag hC hq3 2).trans q2;have j0:=(Qag hC hw3 0).trans x0;have j1:=(Qag hC hw3 1).trans x1;have j2:=(Qag hC hw3 2).trans x2;have l0:=(Qag hC hc3 _).trans g1K;have l1:=(Qag hC hc3 _).trans g1N;have l2:=(Qag hC hc3 _).trans g1S;unfold Oper.quietAt;go_simp;first|exact rfl|exact⟨rfl,rfl⟩|(go_at_call 62;exact HS1.out _ hC)|(go_at_call 88;exact HOK.out _ hC));go_big_quiet_on;simp only [Act.put,List.setIfInBounds_toArray,List.set_cons_zero,List.set_cons_succ]))
                  refine wpQuiet_nil ?_
                  intro w4 hb4
                  go_wp2_with fail
                  go_roundw
                  case rel=>exact⟨j,by omega,by go_num,⟨Qab g3 (Qae _ hb4),(hcq.below hb3).below hb4⟩⟩
                  case measure=>simp [intOf]
                | true =>
                  cases ob with
                  | false =>
                    go_wp2_with fail
                    refine Qaj (by kernel_rfl) (by kernel_rfl) ?_
                    repeat (first|go_big_quiet_skip|(go_big_quiet_want;unfold Oper.quiet;apply Exists.intro;refine⟨fun w' hC=>?_,?_⟩;(have k0:=(Qag hC hq3 0).trans q0;have k1:=(Qag hC hq3 1).trans q1;have k2:=(Qag hC hq3 2).trans q2;have j0:=(Qag hC hw3 0).trans x0;have j1:=(Qag hC hw3 1).trans x1;have j2:=(Qag hC hw3 2).trans x2;have l0:=(Qag hC hc3 _).trans g1K;have l1:=(Qag hC hc3 _).trans g1N;have l2:=(Qag hC hc3 _).trans g1S;unfold Oper.quietAt;go_simp;first|exact rfl|exact⟨rfl,rfl⟩|(go_at_call 62;exact HS1.out _ hC)|(go_at_call 88;exact HOK.out _ hC));go_big_quiet_on;simp only [Act.put,List.setIfInBounds_toArray,List.set_cons_zero,List.set_cons_succ]))
                    refine wpQuiet_nil ?_
                    intro w4 hb4
                    go_wp2_with fail
                    go_roundw
                    case rel=>exact⟨j,by omega,by go_num,⟨Qab g3 (Qae _ hb4),(hcq.below hb3).below hb4⟩⟩
                    case measure=>simp [intOf]
                  | true =>
                    go_wp2_with fail
                    refine Qaj (by kernel_rfl) (by kernel_rfl) ?_
                    repeat (first|go_big_quiet_skip|(go_big_quiet_want;unfold Oper.quiet;apply Exists.intro;refine⟨fun w' hC=>?_,?_⟩;(have k0:=(Qag hC hq3 0).trans q0;have k1:=(Qag hC hq3 1).trans q1;have k2:=(Qag hC hq3 2).trans q2;have j0:=(Qag hC hw3 0).trans x0;have j1:=(Qag hC hw3 1).trans x1;have j2:=(Qag hC hw3 2).trans x2;have l0:=(Qag hC hc3 _).trans g1K;have l1:=(Qag hC hc3 _).trans g1N;have l2:=(Qag hC hc3 _).trans g1S;unfold Oper.quietAt;go_simp;first|exact rfl|exact⟨rfl,rfl⟩|(go_at_call 62;exact HS1.out _ hC)|(go_at_call 88;exact HOK.out _ hC));go_big_quiet_on;simp only [Act.put,List.setIfInBounds_toArray,List.set_cons_zero,List.set_cons_succ]))
                    refine wpQuiet_nil ?_
                    intro w4 hb4
                    have g4:X.grownBy w4 (some p):=Qab g3 (Qae _ hb4)
                    have gv4:vr.grownBy w4 (some p):=Qab gv3 (Qae _ hb4)
                    have hz4:=hb4.size
                    have cur4:Cur w4 p cao clen ccap:=(hcq.below hb3).below hb4
                    have bx4:=(gv4.block _ hbl (by simp;omega)).trans bx
                    have bq4:=(hb4.block q (by omega)).trans bq3
                    have g0K4:=(Qag hb4 hc3 oc).trans g0K
                    have g0N4:=(Qag hb4 hc3 (oc+1)).trans g0N
                    have g0S4:=(Qag hb4 hc3 (oc+2)).trans g0S
                    have HSS:Hid (∀ W:World,w4.grownBy W (some p)->W.cell? ⟨w9.heap.size,0,none⟩=some (.int .i64 3)∧W.cell? ⟨w9.heap.size,1,none⟩=some (.int .i64 0)∧W.cell? ⟨w9.heap.size,2,none⟩=some (.string ev.s)∧W.cell? ⟨w9.heap.size,3,none⟩=some (.string ⟨#[]⟩)∧W.cell? ⟨w9.heap.size,4,none⟩=some (.int .i64 0)∧W.cell? ⟨w9.heap.size,5,none⟩=some (.int .i64 0)∧W.cell? ⟨w9.heap.size,6,none⟩=some (.slice none 0 0)∧W.cell? ⟨w9.heap.size,7,none⟩=some (.slice sa kk sc)∧W.cell? ⟨w9.heap.size,8,none⟩=some (.slice none 0 0)∧W.cell? ⟨q,2,none⟩=some (.slice (some ⟨c,oc,none⟩) 2 yc)∧W.cell? ⟨c,oc,none⟩=some (.int .i64 t0.K)∧W.cell? ⟨c,oc+1,none⟩=some (.int .i64 t0.N)∧W.cell? ⟨c,oc+2,none⟩=some (.slice u0 w0l w0c)):=by
                     intro W hg
                     have k1:W.heap[w9.heap.size]?=w4.heap[w9.heap.size]?:=hg.block _ (by omega) (by simp;omega)
                     have k2:W.heap[q]?=w4.heap[q]?:=hg.block _ (by omega) (by simp;omega)
                     have k3:W.heap[c]?=w4.heap[c]?:=hg.block _ (by omega) (by simp;omega)
                     obtain⟨z0,z1,z2,z3,z4,z5,z6,z7,z8⟩:=Nine.box bx4
                     obtain⟨_,_,q2'⟩:=Qaf bq4
                     exact⟨(World.cell?_of_block k1).trans z0,(World.cell?_of_block k1).trans z1,(World.cell?_of_block k1).trans z2,(World.cell?_of_block k1).trans z3,(World.cell?_of_block k1).trans z4,(World.cell?_of_block k1).trans z5,(World.cell?_of_block k1).trans z6,(World.cell?_of_block k1).trans z7,(World.cell?_of_block k1).trans z8,(World.cell?_of_block k2).trans q2',(World.cell?_of_block k3).trans g0K4,(World.cell?_of_block k3).trans g0N4,(World.cell?_of_block k3).trans g0S4⟩
                    have hn9:w9.heap.size≠w.heap.size+1:=by omega
                    have hnq:q≠w.heap.size+1:=by omega
                    have hnc:c≠w.heap.size+1:=by omega
                    have SF:Hid (∀ (W:World),w4.grownBy W (some p)->∀ (a0 a1 a2 a3 a4 a5 a6 a7 a8:Value) (O:Obj),((((((((((W.setCell ⟨w.heap.size+1,0,none⟩ a0).setCell ⟨w.heap.size+1,1,none⟩ a1).setCell ⟨w.heap.size+1,2,none⟩ a2).setCell ⟨w.heap.size+1,3,none⟩ a3).setCell ⟨w.heap.size+1,4,none⟩ a4).setCell ⟨w.heap.size+1,5,none⟩ a5).setCell ⟨w.heap.size+1,6,none⟩ a6).setCell ⟨w.heap.size+1,7,none⟩ a7).setCell ⟨w.heap.size+1,8,none⟩ a8).alloc O).cell? ⟨w9.heap.size,0,none⟩=some (.int .i64 3)∧((((((((((W.setCell ⟨w.heap.size+1,0,none⟩ a0).setCell ⟨w.heap.size+1,1,none⟩ a1).setCell ⟨w.heap.size+1,2,none⟩ a2).setCell ⟨w.heap.size+1,3,none⟩ a3).setCell ⟨w.heap.size+1,4,none⟩ a4).setCell ⟨w.heap.size+1,5,none⟩ a5).setCell ⟨w.heap.size+1,6,none⟩ a6).setCell ⟨w.heap.size+1,7,none⟩ a7).setCell ⟨w.heap.size+1,8,none⟩ a8).alloc O).cell? ⟨w9.heap.size,1,none⟩=some (.int .i64 0)∧((((((((((W.setCell ⟨w.heap.size+1,0,none⟩ a0).setCell ⟨w.heap.size+1,1,none⟩ a1).setCell ⟨w.heap.size+1,2,none⟩ a2).setCell ⟨w.heap.size+1,3,none⟩ a3).setCell ⟨w.heap.size+1,4,none⟩ a4).setCell ⟨w.heap.size+1,5,none⟩ a5).setCell ⟨w.heap.size+1,6,none⟩ a6).setCell ⟨w.heap.size+1,7,none⟩ a7).setCell ⟨w.heap.size+1,8,none⟩ a8).alloc O).cell? ⟨w9.heap.size,2,none⟩=some (.string ev.s)∧((((((((((W.setCell ⟨w.heap.size+1,0,none⟩ a0).setCell ⟨w.heap.size+1,1,none⟩ a1).setCell ⟨w.heap.size+1,2,none⟩ a2).setCell ⟨w.heap.size+1,3,none⟩ a3).setCell ⟨w.heap.size+1,4,none⟩ a4).setCell ⟨w.heap.size+1,5,none⟩ a5).setCell ⟨w.heap.size+1,6,none⟩ a6).setCell ⟨w.heap.size+1,7,none⟩ a7).setCell ⟨w.heap.size+1,8,none⟩ a8).alloc O).cell? ⟨w9.heap.size,3,none⟩=some (.string ⟨#[]⟩)∧((((((((((W.setCell ⟨w.heap.size+1,0,none⟩ a0).setCell ⟨w.heap.size+1,1,none⟩ a1).setCell ⟨w.heap.size+1,2,none⟩ a2).setCell ⟨w.heap.size+1,3,none⟩ a3).setCell ⟨w.heap.size+1,4,none⟩ a4).setCell ⟨w.heap.size+1,5,none⟩ a5).setCell ⟨w.heap.size+1,6,none⟩ a6).setCell ⟨w.heap.size+1,7,none⟩ a7).setCell ⟨w.heap.size+1,8,none⟩ a8).alloc O).cell? ⟨w9.heap.size,4,none⟩=some (.int .i64 0)∧((((((((((W.setCell ⟨w.heap.size+1,0,none⟩ a0).setCell ⟨w.heap.size+1,1,none⟩ a1).setCell ⟨w.heap.size+1,2,none⟩ a2).setCell ⟨w.heap.size+1,3,none⟩ a3).setCell ⟨w.heap.size+1,4,none⟩ a4).setCell ⟨w.heap.size+1,5,none⟩ a5).setCell ⟨w.heap.size+1,6,none⟩ a6).setCell ⟨w.heap.size+1,7,none⟩ a7).setCell ⟨w.heap.size+1,8,none⟩ a8).alloc O).cell? ⟨w9.heap.size,5,none⟩=some (.int .i64 0)∧((((((((((W.setCell ⟨w.heap.size+1,0,none⟩ a0).setCell ⟨w.heap.size+1,1,none⟩ a1).setCell ⟨w.heap.size+1,2,none⟩ a2).setCell ⟨w.heap.size+1,3,none⟩ a3).setCell ⟨w.heap.size+1,4,none⟩ a4).setCell ⟨w.heap.size+1,5,none⟩ a5).setCell ⟨w.heap.size+1,6,none⟩ a6).setCell ⟨w.heap.size+1,7,none⟩ a7).setCell ⟨w.heap.size+1,8,none⟩ a8).alloc O).cell? ⟨w9.heap.size,6,none⟩=some (.slice none 0 0)∧((((((((((W.setCell ⟨w.heap.size+1,0,none⟩ a0).setCell ⟨w.heap.size+1,1,none⟩ a1).setCell ⟨w.heap.size+1,2,none⟩ a2).setCell ⟨w.heap.size+1,3,none⟩ a3).setCell ⟨w.heap.size+1,4,none⟩ a4).setCell ⟨w.heap.size+1,5,none⟩ a5).setCell ⟨w.heap.size+1,6,none⟩ a6).setCell ⟨w.heap.size+1,7,none⟩ a7).setCell ⟨w.heap.size+1,8,none⟩ a8).alloc O).cell? ⟨w9.heap.size,7,none⟩=some (.slice sa kk sc)∧((((((((((W.setCell ⟨w.heap.size+1,0,none⟩ a0).setCell ⟨w.heap.size+1,1,none⟩ a1).setCell ⟨w.heap.size+1,2,none⟩ a2).setCell ⟨w.heap.size+1,3,none⟩ a3).setCell ⟨w.heap.size+1,4,none⟩ a4).setCell ⟨w.heap.size+1,5,none⟩ a5).setCell ⟨w.heap.size+1,6,none⟩ a6).setCell ⟨w.heap.size+1,7,none⟩ a7).setCell ⟨w.heap.size+1,8,none⟩ a8).alloc O).cell? ⟨w9.heap.size,8,none⟩=some (.slice none 0 0)∧((((((((((W.setCell ⟨w.heap.size+1,0,none⟩ a0).setCell ⟨w.heap.size+1,1,none⟩ a1).setCell ⟨w.heap.size+1,2,none⟩ a2).setCell ⟨w.heap.size+1,3,none⟩ a3).setCell ⟨w.heap.size+1,4,none⟩ a4).setCell ⟨w.heap.size+1,5,none⟩ a5).setCell ⟨w.heap.size+1,6,none⟩ a6).setCell ⟨w.heap.size+1,7,none⟩ a7).setCell ⟨w.heap.size+1,8,none⟩ a8).alloc O).cell? ⟨q,2,none⟩=some (.slice (some ⟨c,oc,none⟩) 2 yc)∧((((((((((W.setCell ⟨w.heap.size+1,0,none⟩ a0).setCell ⟨w.heap.size+1,1,none⟩ a1).setCell ⟨w.heap.size+1,2,none⟩ a2).setCell ⟨w.heap.size+1,3,none⟩ a3).setCell ⟨w.heap.size+1,4,none⟩ a4).setCell ⟨w.heap.size+1,5,none⟩ a5).setCell ⟨w.heap.size+1,6,none⟩ a6).setCell ⟨w.heap.size+1,7,none⟩ a7).setCell ⟨w.heap.size+1,8,none⟩ a8).alloc O).cell? ⟨c,oc,none⟩=some (.int .i64 t0.K)∧((((((((((W.setCell ⟨w.heap.size+1,0,none⟩ a0).setCell ⟨w.heap.size+1,1,none⟩ a1).setCell ⟨w.heap.size+1,2,none⟩ a2).setCell ⟨w.heap.size+1,3,none⟩ a3).setCell ⟨w.heap.size+1,4,none⟩ a4).setCell ⟨w.heap.size+1,5,none⟩ a5).setCell ⟨w.heap.size+1,6,none⟩ a6).setCell ⟨w.heap.size+1,7,none⟩ a7).setCell ⟨w.heap.size+1,8,none⟩ a8).alloc O).cell? ⟨c,oc+1,none⟩=some (.int .i64 t0.N)∧((((((((((W.setCell ⟨w.heap.size+1,0,none⟩ a0).setCell ⟨w.heap.size+1,1,none⟩ a1).setCell ⟨w.heap.size+1,2,none⟩ a2).setCell ⟨w.heap.size+1,3,none⟩ a3).setCell ⟨w.heap.size+1,4,none⟩ a4).setCell ⟨w.heap.size+1,5,none⟩ a5).setCell ⟨w.heap.size+1,6,none⟩ a6).setCell ⟨w.heap.size+1,7,none⟩ a7).setCell ⟨w.heap.size+1,8,none⟩ a8).alloc O).cell? ⟨c,oc+2,none⟩=some (.slice u0 w0l w0c)):=by
                     intro W hg a0 a1 a2 a3 a4 a5 a6 a7 a8 O
                     obtain⟨v0,v1,v2,v3,v4,v5,v6,v7,v8,v9,v10,v11,v12⟩:=HSS.out W hg
                     have hzz:=hg.size
                     have h9:w9.heap.size<W.heap.size:=by omega
                     have hqW:q<W.heap.size:=by omega
                     have hcW:c<W.heap.size:=by omega
                     exact⟨(Qam W (w.heap.size+1) a0 a1 a2 a3 a4 a5 a6 a7 a8 O w9.heap.size 0 hn9 h9).trans v0,(Qam W (w.heap.size+1) a0 a1 a2 a3 a4 a5 a6 a7 a8 O w9.heap.size 1 hn9 h9).trans v1,(Qam W (w.heap.size+1) a0 a1 a2 a3 a4 a5 a6 a7 a8 O w9.heap.size 2 hn9 h9).trans v2,(Qam W (w.heap.size+1) a0 a1 a2 a3 a4 a5 a6 a7 a8 O w9.heap.size 3 hn9 h9).trans v3,(Qam W (w.heap.size+1) a0 a1 a2 a3 a4 a5 a6 a7 a8 O w9.heap.size 4 hn9 h9).trans v4,(Qam W (w.heap.size+1) a0 a1 a2 a3 a4 a5 a6 a7 a8 O w9.heap.size 5 hn9 h9).trans v5,(Qam W (w.heap.size+1) a0 a1 a2 a3 a4 a5 a6 a7 a8 O w9.heap.size 6 hn9 h9).trans v6,(Qam W (w.heap.size+1) a0 a1 a2 a3 a4 a5 a6 a7 a8 O w9.heap.size 7 hn9 h9).trans v7,(Qam W (w.heap.size+1) a0 a1 a2 a3 a4 a5 a6 a7 a8 O w9.heap.size 8 hn9 h9).trans v8,(Qam W (w.heap.size+1) a0 a1 a2 a3 a4 a5 a6 a7 a8 O q 2 hnq hqW).trans v9,(Qam W (w.heap.size+1) a0 a1 a2 a3 a4 a5 a6 a7 a8 O c oc hnc hcW).trans v10,(Qam W (w.heap.size+1) a0 a1 a2 a3 a4 a5 a6 a7 a8 O c (oc+1) hnc hcW).trans v11,(Qam W (w.heap.size+1) a0 a1 a2 a3 a4 a5 a6 a7 a8 O c (oc+2) hnc hcW).trans v12⟩
                    obtain⟨m0,hm0⟩:=hn0 hob
                    have hH0':Hs vr.heap.size vq.heap.size w3 4 u0 w0l t0.A:=hs_low 4 t0 m0 hm0 hH0
                    have HMk:Hid (∀ W:World,w4.grownBy W (some p)->Cur W p cao clen ccap->Calls Try.prog 54 #[.pointer (some ⟨p,0,none⟩),.agg #[.int .i64 t0.K,.int .i64 t0.N,.slice u0 w0l w0c],.slice (some ⟨b,o,none⟩) n ce,.int .i64 (dep:Int),.int .i64 vs] W fun e w'=>∃ rv tm,e=.returned rv∧TmV w' W.heap.size 14 (16+dep) rv tm∧Drw W w' p cao clen ccap):=fun W hg hcu =>
                     IH p cao clen ccap _ t0 _ es vs W hcu ⟨⟨u0,w0l,w0c,rfl,((hH0'.keep (fun r h1 h2=>(hg.block r (by omega) (by simp;omega)).trans (hb4.block r (by omega))) (by omega) (by have:=hg.size;omega)).deeper (by omega))⟩,m0,Qcm (by omega) hm0⟩ (HEX.out W (Qab g4 hg)) (by have:=HN.out;omega) hv0 hv2
                    have q0g:w4.grownBy w4.drew (some p):=Qae _ ((Below.refl _ _).drew)
                    have cu0:Cur w4.drew p cao clen ccap:=cur4.keep (w':=w4.drew) (fun _ _=>rfl)
                    have hw1d:IntKind.i64.wrap ((dep:Int)+1 - 1)=(dep:Int):=by rw [IntKind.wrap_i64];omega
                    have hw0d:IntKind.i64.wrap (dep:Int)=(dep:Int):=by rw [IntKind.wrap_i64];omega
                    have hrp:w.heap.size+1<w4.heap.size:=by omega
                    clear HS1 HOK q0 q1 q2 x0 x1 x2 g1K g1N g1S g0K g0N g0S g0K4 g0N4 g0S4 bx4 bq4
                    go_wp2_with fail
                    go_region_held3 (fun w'=>w'.cell? ⟨w9.heap.size,0,none⟩=some (.int .i64 3)∧w'.cell? ⟨w9.heap.size,1,none⟩=some (.int .i64 0)∧w'.cell? ⟨w9.heap.size,2,none⟩=some (.string ev.s)∧w'.cell? ⟨w9.heap.size,3,none⟩=some (.string ⟨#[]⟩)∧w'.cell? ⟨w9.heap.size,4,none⟩=some (.int .i64 0)∧w'.cell? ⟨w9.heap.size,5,none⟩=some (.int .i64 0)∧w'.cell? ⟨w9.heap.size,6,none⟩=some (.slice none 0 0)∧w'.cell? ⟨w9.heap.size,7,none⟩=some (.slice sa kk sc)∧w'.cell? ⟨w9.heap.size,8,none⟩=some (.slice none 0 0)∧w'.cell? ⟨q,2,none⟩=some (.slice (some ⟨c,oc,none⟩) 2 yc)∧w'.cell? ⟨c,oc,none⟩=some (.int .i64 t0.K)∧w'.cell? ⟨c,oc+1,none⟩=some (.int .i64 t0.N)∧w'.cell? ⟨c,oc+2,none⟩=some (.slice u0 w0l w0c))
                     (first|with_reducible exact HSS.out _ (q1a _)|with_reducible exact HSS.out _ q1g|with_reducible exact HSS.out _ q0g|with_reducible exact SF.out _ q1g _ _ _ _ _ _ _ _ _ _)
                     ((go_at_call 54;refine (HMk.out _ q0g cu0).mono ?_;rintro e v1 ⟨rv,tm1,rfl,⟨a11,l11,c11,a12,l12,c12,a13,l13,c13,rfl,hF1⟩,hD1⟩;have s1g:=hD1.grown;have cu1:=hD1.cur;have q1g:w4.grownBy v1 (some p):=Qab q0g s1g;have q1a:∀ o,w4.grownBy (v1.alloc o) (some p):=fun o=>Qab q1g (Qae _ ((Below.refl _ _).alloc (Nat.le_refl _) _));have hrl:w.heap.size+1<v1.heap.size:=Nat.lt_of_lt_of_le hrp q1g.size;have r2:=HRX.out v1 (Qab g4 q1g);obtain⟨y0,y1,y2,y3,y4,y5,y6,y7,y8⟩:=Nine.box r2;have yf:=Qad r2;have hl9:w9.heap.size<v1.heap.size:=Nat.lt_of_lt_of_le (Nat.lt_of_lt_of_le hbl gv4.size) q1g.size;obtain⟨n0,n1,n2,n3,n4,n5,n6,n7,n8,n9,n10,n11,n12⟩:=HSS.out _ q1g))
                    all_goals
                     go_wp2_with fail
                     have hzv:=q1g.size
                     have hzd:w4.heap.size≤w4.drew.heap.size:=Nat.le_refl _
                     have gvv:vr.grownBy v1 (some p):=Qab gv4 q1g
                     have hG0:Fm (w9.heap.size+1) v1.heap.size v1 14 (16+dep) ⟨3,0,ev.s,⟨#[]⟩,⟨0,0,[]⟩,us,[]⟩ none 0 sa kk none 0:=⟨by show ev.s.size≤_;omega,Nat.zero_le _,Hs.nil _ _ _ _ _,hHus'.keep (fun r h1 h2=>gvv.block r h2 (by simp;omega)) (Nat.le_refl _) gvv.size,Hm.nil _ _ _ _ _ _⟩
                     have hG1:Fm (w9.heap.size+1) v1.heap.size v1 14 (16+dep) tm1 a11 l11 a12 l12 a13 l13:=Fm.keep (fun _ _ _=>rfl) (by have:w4.drew.heap.size=w4.heap.size:=rfl;omega) (Nat.le_refl _) hF1
                     have fin:=Qbf (w:=w) (w3:=v1) (O:=.cells #[.int .i64 3,.int .i64 0,.string ev.s,.string ⟨#[]⟩,.int .i64 0,.int .i64 0,.slice none 0 0,.slice sa kk sc,.slice none 0 0,.int .i64 tm1.K,.int .i64 tm1.N,.string tm1.S,.string tm1.Z,.int .i64 tm1.T.K,.int .i64 tm1.T.N,.slice a11 l11 c11,.slice a12 l12 c12,.slice a13 l13 c13] 29) (r:=w.heap.size+1) (L:=w9.heap.size+1) (D:=14) (d:=16+dep+1) (t:=⟨5,0,⟨#[]⟩,⟨#[]⟩,⟨0,0,[]⟩,[],[⟨3,0,ev.s,⟨#[]⟩,⟨0,0,[]⟩,us,[]⟩,tm1]⟩) (a1:=none) (l1:=0) (c1:=0) (a2:=none) (l2:=0) (c2:=0) (a3:=some ⟨v1.heap.size,0,none⟩) (l3:=2) (c3:=2)
                      ⟨Nat.zero_le _,Nat.zero_le _,Hs.nil _ _ _ _ _,Hs.nil _ _ _ _ _,Qca (c1:=0) (c2:=sc) (c3:=0) hG0 hG1 (by omega)⟩ (by omega) (by omega) hp ⟨Qab hgX (Qab g4 q1g),cu1⟩
                     exact bodyPost_ret (v:=.tuple #[.agg #[.int .i64 5,.int .i64 0,.string ⟨#[]⟩,.string ⟨#[]⟩,.int .i64 0,.int .i64 0,.slice none 0 0,.slice none 0 0,.slice (some ⟨v1.heap.size,0,none⟩) 2 2],.bool true]) (by simp [results,Try.results76,go_sem,y0,y1,y2,y3,y4,y5,y6,y7,y8,hrl]) rfl ⟨_,_,_,rfl,fin.1,fin.2⟩
              · have hk4b:(ty.K==4)=false:=by simp [hk4]
                clear hk4
                go_wp2_with fail
                refine Qaj (by kernel_rfl) (by kernel_rfl) ?_
                repeat (first|go_big_quiet_skip|(go_big_quiet_want;unfold Oper.quiet;apply Exists.intro;refine⟨fun w' hC=>?_,?_⟩;(have k0:=(Qag hC hq3 0).trans q0;have k1:=(Qag hC hq3 1).trans q1;have k2:=(Qag hC hq3 2).trans q2;have j0:=(Qag hC hw3 0).trans x0;have j1:=(Qag hC hw3 1).trans x1;have j2:=(Qag hC hw3 2).trans x2;unfold Oper.quietAt;go_simp;first|exact rfl|exact⟨rfl,rfl⟩);go_big_quiet_on;simp only [Act.put,List.setIfInBounds_toArray,List.set_cons_zero,List.set_cons_succ]))
                refine wpQuiet_nil ?_
                intro w4 hb4
                go_wp2_with fail
                go_roundw
                case rel=>exact⟨j,by omega,by go_num,⟨Qab g3 (Qae _ hb4),(hcq.below hb3).below hb4⟩⟩
                case measure=>simp [intOf]
      · have hfb:(fi==(j:Int))=false:=by simp [hfj]
        have hfb2:(fi != (j:Int))=true:=by simp [hfj]
        go_wp2_with fail
        refine (HFind.out wr (Qaq _ _)).mono ?_
        rintro e w9 ⟨rfl,rfl⟩
        go_wp2_with fail
        go_roundw
        case rel=>exact⟨j,by omega,by go_num,hD⟩
        case measure=>simp [intOf]
end Go.Proofs.Ytleghjgpnefliaa
