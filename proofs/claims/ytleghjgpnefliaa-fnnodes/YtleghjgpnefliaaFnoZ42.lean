/-
  The program's 'termAt', 'LambdaAt'.
-/
import Derived.Test.YtleghjgpnefliaaFnoZ40
import Derived.Test.YtleghjgpnefliaaFnoZ6
import Derived.Test.YtleghjgpnefliaaFnoZ41
import Derived.Test.YtleghjgpnefliaaFnoZ3
import Derived.Deep.RegionHeld3
import Derived.Deep.RegionLaw
import Derived.Sort.AtCall
import Derived.LoopN
import Derived.Test.YtleghjgpnefliaaFnoZ34
namespace Go.Proofs.Ytleghjgpnefliaa
open Go.RowKit
set_option linter.unusedVariables false
set_option linter.unusedSimpArgs false
set_option maxRecDepth 100000 in
set_option maxHeartbeats 2000000 in
theorem termAt_any (D d L B base:Nat) (v:Value) (A:List Tm) (n:Int) (w:World) (hB:B≤w.heap.size) (hT:TRow L B base w D d v A) (hl:A.length≤1000) (hc:∀ r∈A,cntM r≤1048576) :
 Calls Try.prog 19 #[v,.int .i64 n] w fun e w'=>TellM w w' (D+1) d e (nthM A n).1 (nthM A n).2:=by
 obtain⟨X,hX⟩:∃ X,X=(w.alloc (.cells #[.int .i64 0,.int .i64 0,.string ⟨#[]⟩,.string ⟨#[]⟩,.int .i64 0,.int .i64 0,.slice none 0 0,.slice none 0 0,.slice none 0 0] 29)):=⟨_,rfl⟩
 have hXs:X.heap.size=w.heap.size+1:=by rw [hX];simp
 have hXb:Below w.heap.size w X:=by rw [hX];exact (Below.refl _ _).alloc (Nat.le_refl _) _
 have x1:X.heap[w.heap.size]?=some (.cells #[.int .i64 0,.int .i64 0,.string ⟨#[]⟩,.string ⟨#[]⟩,.int .i64 0,.int .i64 0,.slice none 0 0,.slice none 0 0,.slice none 0 0] 29 (0,0)):=by rw [hX];exact Qac rfl
 have HX:Hid (X=_):=hX
 clear hX
 have hTX:=trow_bel hT hXb hB
 obtain⟨p0,p1,p2,p3,p4,p5,p6,p7,p8⟩:=Nine.box x1
 have pf:=Qad x1
 have HCN:Hid (∀ r∈A,cntM r≤1048576):=hc
 obtain⟨ao,cp,rfl⟩:=trow_form hT
 obtain⟨nA,hnA⟩:∃ x,A.length=x:=⟨_,rfl⟩
 have HNA:Hid (A.length=nA):=hnA
 rw [hnA] at hT hl ⊢
 clear hnA hTX hc
 by_cases hn0:n<0
 · have HV:Hid (nthM A n=(zTm,false)):=by show _=_;rw [nthM_no (by omega)]
   go_enter Try.func19,Try.ntmps19
   go_wp2_with fail
   rw [← HX.out]
   obtain⟨Y,hYe⟩:∃ Y,Y=X:=⟨_,rfl⟩
   have hYb:Below w.heap.size w Y:=by rw [hYe];exact hXb
   refine bodyPost_ret (v:=.tuple #[.agg #[.int .i64 0,.int .i64 0,.string ⟨#[]⟩,.string ⟨#[]⟩,.int .i64 0,.int .i64 0,.slice none 0 0,.slice none 0 0,.slice none 0 0],.bool false]) (by simp [results,Try.results19,go_sem,p0,p1,p2,p3,p4,p5,p6,p7,p8]) rfl ?_
   have hfin:TellM w Y (D+1) d (.returned (.tuple #[.agg #[.int .i64 0,.int .i64 0,.string ⟨#[]⟩,.string ⟨#[]⟩,.int .i64 0,.int .i64 0,.slice none 0 0,.slice none 0 0,.slice none 0 0],.bool false])) zTm false:=⟨none,0,0,none,0,0,none,0,0,rfl,hYb,zTm_fmO _ _ _ _ _ hYb.size⟩
   rw [hYe] at hfin
   rw [HV.out]
   exact hfin
 · by_cases hn1:n<nA
   · obtain⟨i,rfl⟩:∃ i:Nat,n=i:=⟨n.toNat,by omega⟩
     have hi:i<A.length:=by have:=HNA.out;omega
     have HV:Hid (nthM A i=(A[i],true)):=by show _=_;rw [nthM_at hi]
     have HNA2:=HNA.out
     obtain⟨g,cap',e,hgb,hgw,q1,n1,k1,q2,n2,k2,q3,n3,k3,h9,hfi⟩:=trow_at hT i hi
     injection e with e1 e2 e3
     subst e1
     subst e3
     have hci:=HCN.out A[i] (List.getElem_mem hi)
     obtain⟨R,hR⟩:∃ R,A[i]=R:=⟨_,rfl⟩
     rw [hR] at h9 hfi hci HV
     have hix:(i:Int)<(nA:Int):=hn1
     have hge:¬ (nA:Int)≤(i:Int):=by omega
     obtain⟨e0,e1,e2',e3,e4,e5,e6,e7,e8⟩:=h9
     have K:=ct_any D d L B R q1 n1 k1 q2 n2 k2 q3 n3 k3 X (by omega) (Fm.below hXb hB hfi) hci
     have hXz:w.heap.size+1≤X.heap.size:=by omega
     clear HNA2 e2 hR hT hXs
     go_enter Try.func19,Try.ntmps19
     go_wp2_with fail
     rw [← HX.out]
     refine K.mono ?_
     rintro e w2 ⟨b1,m1,s1,b2,s2,b3,s3,rfl,hb2,ho2⟩
     have hz2:=hb2.size
     have hbw2:Below w.heap.size w w2:=hXb.trans (hb2.mono (by omega))
     have x2:=(hb2.block (w.heap.size) (by omega)).trans x1
     clear p0 p1 p2 p3 p4 p5 p6 p7 p8 pf e0 e1 e2' e3 e4 e5 e6 e7 e8
     obtain⟨p0,p1,p2,p3,p4,p5,p6,p7,p8⟩:=Nine.box x2
     have pf:=Qad x2
     go_wp2_with fail
     obtain⟨Y,hYe⟩:∃ Y,Y=set9 w2 w.heap.size 0 (.int .i64 R.K) (.int .i64 R.N) (.string R.S) (.string R.Z) (.int .i64 R.T.K) (.int .i64 R.T.N) (.slice b1 m1 s1) (.slice b2 n2 s2) (.slice b3 n3 s3):=⟨_,rfl⟩
     have hYb:Below w.heap.size w Y:=by rw [hYe];exact Qcf hbw2 (by omega)
     have hYs:Y.heap.size=w2.heap.size:=by rw [hYe];exact Qcu _ _ _ _ _ _ _ _ _ _ _ _
     have hYo:∀ k,k≠w.heap.size->Y.heap[k]?=w2.heap[k]?:=fun k hk=>by rw [hYe];exact Qby k hk
     refine bodyPost_ret (v:=.tuple #[.agg #[.int .i64 R.K,.int .i64 R.N,.string R.S,.string R.Z,.int .i64 R.T.K,.int .i64 R.T.N,.slice b1 m1 s1,.slice b2 n2 s2,.slice b3 n3 s3],.bool true]) (by simp [results,Try.results19,go_sem,p0,p1,p2,p3,p4,p5,p6,p7,p8]) rfl ?_
     have hfin:TellM w Y (D+1) d (.returned (.tuple #[.agg #[.int .i64 R.K,.int .i64 R.N,.string R.S,.string R.Z,.int .i64 R.T.K,.int .i64 R.T.N,.slice b1 m1 s1,.slice b2 n2 s2,.slice b3 n3 s3],.bool true])) R true:=⟨_,_,_,_,_,_,_,_,_,rfl,hYb,ho2.keep (fun k hk1 hk2=>hYo k (by omega)) (by omega) (by omega)⟩
     rw [hYe] at hfin
     rw [HV.out]
     exact hfin
   · have HV:Hid (nthM A n=(zTm,false)):=by show _=_;rw [nthM_no (by have:=HNA.out;omega)]
     have hge:(nA:Int)≤n:=by omega
     go_enter Try.func19,Try.ntmps19
     go_wp2_with fail
     rw [← HX.out]
     obtain⟨Y,hYe⟩:∃ Y,Y=X:=⟨_,rfl⟩
     have hYb:Below w.heap.size w Y:=by rw [hYe];exact hXb
     refine bodyPost_ret (v:=.tuple #[.agg #[.int .i64 0,.int .i64 0,.string ⟨#[]⟩,.string ⟨#[]⟩,.int .i64 0,.int .i64 0,.slice none 0 0,.slice none 0 0,.slice none 0 0],.bool false]) (by simp [results,Try.results19,go_sem,p0,p1,p2,p3,p4,p5,p6,p7,p8]) rfl ?_
     have hfin:TellM w Y (D+1) d (.returned (.tuple #[.agg #[.int .i64 0,.int .i64 0,.string ⟨#[]⟩,.string ⟨#[]⟩,.int .i64 0,.int .i64 0,.slice none 0 0,.slice none 0 0,.slice none 0 0],.bool false])) zTm false:=⟨none,0,0,none,0,0,none,0,0,rfl,hYb,zTm_fmO _ _ _ _ _ hYb.size⟩
     rw [hYe] at hfin
     rw [HV.out]
     exact hfin
theorem Fm.deeperN {L B:Nat} {w:World} {D d d':Nat} {t:Tm} {a1 a2 a3:Option Addr} {l1 l2 l3:Nat} (hd:d≤d') (h:Fm L B w D d t a1 l1 a2 l2 a3 l3):Fm L B w D d' t a1 l1 a2 l2 a3 l3 :=
 h.wider (fun _ _ _ hr=>hr) (fun _ _ _ hr=>hr.deeper hd (Nat.le_refl _))
structure SeeN (L B base p D d:Nat) (I:List Tm->(Nat->Prop)->World->Prop):Prop where
 below:∀ X F w w',I X F w->Below w.heap.size w w'->I X F w'
 has:∀ X F w k,I X F w->F k->base≤k∧k<w.heap.size
 see:∀ (d':Nat) (t:Tm) (a1:Option Addr) (l1 c1:Nat) (a2:Option Addr) (l2 c2:Nat) (a3:Option Addr) (l3 c3:Nat) (X:List Tm) (F:Nat->Prop) (w:World),d'≤d->base≤w.heap.size->I X F w->Fm L B w D d' t a1 l1 a2 l2 a3 l3->Qaz t=true->X.length≤1000 →
  Calls Try.prog 24 #[.agg #[.int .i64 t.K,.int .i64 t.N,.string t.S,.string t.Z,.int .i64 t.T.K,.int .i64 t.T.N,.slice a1 l1 c1,.slice a2 l2 c2,.slice a3 l3 c3],.pointer (some ⟨p,0,none⟩)] w fun e w'=>e=.returned (.tuple #[])∧∃ F',I (X++[t]) F' w'∧Kf F w F' w'
def SaidEachN (l:Nat):Prop:=∀ (L B base p D d:Nat) (I:List Tm->(Nat->Prop)->World->Prop),SeeN L B base p D d I->B≤base->∀ (d':Nat) (t:Tm) (a1:Option Addr) (l1 c1:Nat) (a2:Option Addr) (l2 c2:Nat) (a3:Option Addr) (l3 c3:Nat) (X:List Tm) (F:Nat->Prop) (m:Nat) (w:World),d'≤d->base≤w.heap.size->I X F w->Fm L B w D d' t a1 l1 a2 l2 a3 l3->Qan l t=some m->X.length+m≤1000 →
    Calls Try.prog 23 #[.agg #[.int .i64 t.K,.int .i64 t.N,.string t.S,.string t.Z,.int .i64 t.T.K,.int .i64 t.T.N,.slice a1 l1 c1,.slice a2 l2 c2,.slice a3 l3 c3],.func (Fn.func 24) #[] #[.pointer (some ⟨p,0,none⟩)]] w fun e w'=>e=.returned (.tuple #[])∧∃ F',I (X++allW t) F' w'∧Kf F w F' w'
set_option maxRecDepth 100000 in
set_option maxHeartbeats 1000000 in
theorem eachN_succ (l:Nat) (IH:SaidEachN l):SaidEachN (l+1):=by
 intro L B base p D d I hS hB d' t a1 l1 c1 a2 l2 c2 a3 l3 c3 X F m w hd hb hI hf hm hX
 obtain⟨hn,hparts⟩:=Qbd hm
 obtain⟨hl3,hl3m⟩:=hf.m.len
 have HL:Hid (l3=t.A.length):=hl3
 have HN:Hid (∀ j (hj:j<t.A.length),∃ a,Qan l t.A[j]=some a∧(preW t j).length+1+a≤m):=fun j hj=>by
  obtain⟨a,ha⟩:=hparts j hj
  exact⟨a,ha,preW_len hm j hj ha⟩
 have hm0:0<m:=by have:=allW_len _ t m hm;rw [Qdn,List.length_cons] at this;omega
 obtain⟨W,hW⟩:∃ W,W=w.alloc (.cells #[.int .i64 t.K,.int .i64 t.N,.string t.S,.string t.Z,.int .i64 t.T.K,.int .i64 t.T.N,.slice a1 l1 c1,.slice a2 l2 c2,.slice a3 l3 c3] 29):=⟨_,rfl⟩
 have hWs:W.heap.size=w.heap.size+1:=by rw [hW];simp
 have hWb:Below w.heap.size w W:=by rw [hW];exact (Below.refl _ _).alloc (Nat.le_refl _) _
 have hW0:W.heap[w.heap.size]?=some (.cells #[.int .i64 t.K,.int .i64 t.N,.string t.S,.string t.Z,.int .i64 t.T.K,.int .i64 t.T.N,.slice a1 l1 c1,.slice a2 l2 c2,.slice a3 l3 c3] 29 (0,0)):=by rw [hW];exact Qac rfl
 have HW:Hid (W=_):=hW
 have hnF:¬ F w.heap.size:=fun e=>by have:=(hS.has _ _ _ _ hI e).2;omega
 have hIW:=hS.below _ _ _ _ hI hWb
 have hfW:Fm L B W D d' t a1 l1 a2 l2 a3 l3:=Fm.below hWb (by omega) hf
 have HSZ:Hid (W.heap.size=w.heap.size+1):=hWs
 have hltW:w.heap.size<W.heap.size:=by omega
 clear hW hparts hl3 hm hWs
 go_enter Try.func23,Try.ntmps23
 go_wp2_with fail
 rw [← HW.out]
 refine (hS.see d' t _ _ _ _ _ _ _ _ _ X F W hd (by omega) hIW hfW hn (by omega)).mono ?_
 rintro e w1 ⟨rfl,F1,hI1,hk1⟩
 have hz1:=hk1.size
 have x1:=(hk1.block w.heap.size hltW hnF).trans hW0
 have hnF1:¬ F1 w.heap.size:=fun e=>by
  rcases hk1.own _ e with e|e
  · exact hnF e
  · omega
 obtain⟨f0,f1,f2,f3,f4,f5,f6,f7,f8⟩:=Nine.box x1
 go_wp2_with fail
 go_loopw [12] (fun i wr=>∃ (j:Nat) (F2:Nat->Prop),j≤l3∧i=.int .i64 j∧I (X++t::preW t j) F2 wr∧Kf F W F2 wr) (fun i _=>l3 - (intOf i).toNat)
 case atStart=>exact⟨0,F1,by omega,rfl,by rw [preW_zero];exact hI1,hk1⟩
 case round =>
  obtain⟨j,F2,hj,rfl,hI2,hk2⟩:=hrel
  have hz2:=hk2.size
  by_cases hlt:j<l3
  · have hlt':j<t.A.length:=by have:=HL.out;omega
    obtain⟨a,ha,hal⟩:=HN.out j hlt'
    have hFb:∀ k,F k->base≤k:=fun k hk=>(hS.has _ _ _ _ hI hk).1
    have hbw:Below base w wr:=(hWb.mono hb).trans (hk2.below hFb (by omega))
    obtain⟨b,o,rfl,_,hbB,b1,m1,d1,b2,m2,d2,b3,m3,d3,h9,hf1⟩:=hf.m.get j hlt'
    have h9r:=h9.world (hbw.block b (by omega))
    obtain⟨e0,e1,e2,e3,e4,e5,e6,e7,e8⟩:=h9r
    have hba:Below wr.heap.size wr (wr.alloc (.cells #[.int .i64 t.A[j].K,.int .i64 t.A[j].N,.string t.A[j].S,.string t.A[j].Z,.int .i64 t.A[j].T.K,.int .i64 t.A[j].T.N,.slice b1 m1 d1,.slice b2 m2 d2,.slice b3 m3 d3] 29)):=(Below.refl _ _).alloc (Nat.le_refl _) _
    have hf2:Fm L B (wr.alloc (.cells #[.int .i64 t.A[j].K,.int .i64 t.A[j].N,.string t.A[j].S,.string t.A[j].Z,.int .i64 t.A[j].T.K,.int .i64 t.A[j].T.N,.slice b1 m1 d1,.slice b2 m2 d2,.slice b3 m3 d3] 29)) D (d' - 1) t.A[j] b1 m1 b2 m2 b3 m3:=Fm.keep (fun k _ hk=>(hba.block k (by omega)).trans (hbw.block k (by omega))) (Nat.le_refl _) (Nat.le_refl _) hf1
    have hIa:=hS.below _ _ _ _ hI2 hba
    have HNX:Hid (X++t::preW t (j+1)=(X++t::preW t j)++allW t.A[j]):=by show _=_;rw [preW_succ t j hlt'];simp
    have hlen:(X++t::preW t j).length+a≤1000:=by rw [List.length_append,List.length_cons];omega
    have HK2:Hid (Kf F W F2 wr):=hk2
    have HBA:Hid (Below _ _ _):=hba
    clear h9 hk2 hba hI2 HN hal
    go_wp2_with fail
    refine (IH L B base p D d I hS hB (d' - 1) t.A[j] _ _ _ _ _ _ _ _ _ _ F2 a _ (by omega) (by simp;omega) hIa hf2 ha hlen).mono ?_
    rintro e w3 ⟨rfl,F3,hI3,hk3⟩
    rw [← HNX.out] at hI3
    have hkn:Kf F W F3 w3:=(HK2.out.trans (Kf.of_below HBA.out)).trans hk3
    clear hk3
    go_wp2_with fail
    go_roundw
    case rel=>exact⟨j+1,F3,by omega,by go_num,hI3,hkn⟩
    case measure=>simp [intOf];omega
  · have HK:Hid (X++allW t=X++t::preW t j):=by show _=_;rw [preW_all t j (by have:=HL.out;omega)]
    go_wp2_with fail
    refine bodyPost_end (v:=.tuple #[]) (by simp [results,Try.results23,go_sem]) rfl ?_
    exact⟨rfl,F2,by rw [HK.out];exact hI2,(Kf.of_below hWb).trans hk2⟩
theorem eachN_any (l:Nat):SaidEachN l:=by
 induction l with
 | zero=>intro L B base p D d I hS hB d' t a1 l1 c1 a2 l2 c2 a3 l3 c3 X F m w hd hb hI hf hm;simp [Qan] at hm
 | succ l ih=>exact eachN_succ l ih
def IN (L B D d p:Nat) (X:List Tm) (F:Nat->Prop) (w:World):Prop :=
 ∃ v,w.heap[p]?=some (.cells #[v] 27 (0,0))∧TRow L B (p+1) w D d v X∧F=fun k=>k=p∨v.ownBlock=some k
set_option maxRecDepth 100000 in
set_option maxHeartbeats 2000000 in
theorem seeN_any (L B p D d:Nat) (hBp:B≤p):SeeN L B p p D d (IN L B D d p):=by
 refine⟨?_,?_,?_⟩
 · rintro X F w w' ⟨v,h1,h2,h3⟩ hb
   have hp:=(Array.getElem?_eq_some_iff.1 h1).1
   exact⟨v,(hb.block p hp).trans h1,trow_bel h2 hb (by omega),h3⟩
 · rintro X F w k ⟨v,h1,h2,rfl⟩ hk
   have hp:=(Array.getElem?_eq_some_iff.1 h1).1
   rcases hk with rfl|hk
   · exact⟨Nat.le_refl _,hp⟩
   · have:=Qeg h2 hk;omega
 · rintro d' t a1 l1 c1 a2 l2 c2 a3 l3 c3 X F w hd hb ⟨v,hpb,hT,rfl⟩ hf hn hX
   have hp:=(Array.getElem?_eq_some_iff.1 hpb).1
   obtain⟨W,hW⟩:∃ W,W=w.alloc (.cells #[.int .i64 t.K,.int .i64 t.N,.string t.S,.string t.Z,.int .i64 t.T.K,.int .i64 t.T.N,.slice a1 l1 c1,.slice a2 l2 c2,.slice a3 l3 c3] 29):=⟨_,rfl⟩
   have hWs:W.heap.size=w.heap.size+1:=by rw [hW];simp
   have hWb:Below w.heap.size w W:=by rw [hW];exact (Below.refl _ _).alloc (Nat.le_refl _) _
   have hW0:W.heap[w.heap.size]?=some (.cells #[.int .i64 t.K,.int .i64 t.N,.string t.S,.string t.Z,.int .i64 t.T.K,.int .i64 t.T.N,.slice a1 l1 c1,.slice a2 l2 c2,.slice a3 l3 c3] 29 (0,0)):=by rw [hW];exact Qac rfl
   have hpW:=(hWb.block p hp).trans hpb
   have y0:=cell_1 hpW
   have hXl:X.length≤1000:=hX
   obtain⟨f0,f1,f2,f3,f4,f5,f6,f7,f8⟩:=Nine.box hW0
   · obtain⟨ao,cap,rfl⟩:=trow_form hT
     obtain⟨n,hn0⟩:∃ n,X.length=n:=⟨_,rfl⟩
     have HW:Hid (W=w.alloc (.cells #[.int .i64 t.K,.int .i64 t.N,.string t.S,.string t.Z,.int .i64 t.T.K,.int .i64 t.T.N,.slice a1 l1 c1,.slice a2 l2 c2,.slice a3 l3 c3] 29)):=by show _=_;rw [hW]
     have hBd:Below w.heap.size w W.drew:=hWb.drew
     obtain⟨g,cp,w2,hrun,hgb,⟨cs,hrow,hcsz⟩,hko2,hY⟩:=trow_lay (trow_bel hT hBd (by omega)) (show p+1≤W.heap.size by omega) (by omega) (by omega) (c1:=c1) (c2:=c2) (c3:=c3) (Fm.below hBd (by omega) (Fm.deeperN hd hf)) (W.alloc (.cells z9.toArray 29)).drew rfl
     rw [hn0] at hrun hcsz hY hko2
     have HY:Hid (∀ Y:World,Y=set9 w2 g (n*9) (.int .i64 t.K) (.int .i64 t.N) (.string t.S) (.string t.Z) (.int .i64 t.T.K) (.int .i64 t.T.N) (.slice a1 l1 c1) (.slice a2 l2 c2) (.slice a3 l3 c3)->∃ F',IN L B D d p (X++[t]) F' (Y.setCell ⟨p,0,none⟩ (.slice (some ⟨g,0,none⟩) (n+1) cp))∧Kf (fun k=>k=p∨Value.ownBlock (.slice ao n cap)=some k) w F' (Y.setCell ⟨p,0,none⟩ (.slice (some ⟨g,0,none⟩) (n+1) cp))):=by
      intro Y hYe
      obtain⟨hTY,hkY⟩:=hY Y (by rw [hYe])
      have hown:∀ k,Value.ownBlock (.slice ao n cap)=some k->p<k:=fun k e=>by have:=(Qeg hT (by rw [hn0];exact e)).1;omega
      have hpY:Y.heap[p]?=_:=(hkY.block p (show p<W.heap.size by omega) (fun e=>by have:=hown p e;omega)).trans hpW
      refine⟨(fun k=>k=p∨Value.ownBlock (.slice (some ⟨g,0,none⟩) (n+1) cp)=some k),⟨_,by rw [Qas hpY];rfl,?_,rfl⟩,⟨hkY.os.trans hWb.os,hkY.tape.trans hWb.tape,hkY.output.trans hWb.output,?_,fun k hk hnk=>?_,fun k hk=>?_⟩⟩
      · refine trow_keep hTY (fun k hk=>Qah _ _ _ ?_) (fun k _ hk=>Qah _ _ _ (by omega))
        have:=(Qeg hTY hk).1
        omega
      · have h5:W.heap.size≤Y.heap.size:=hkY.size
        rw [World.size_setCell]
        omega
      · have h1:k≠p:=fun e=>hnk (Or.inl e)
        rw [Qah _ _ _ h1]
        exact (hkY.block k (show k<W.heap.size by omega) (fun e=>hnk (Or.inr e))).trans (hWb.block k hk)
      · rcases hk with hk|hk
        · exact Or.inl (Or.inl hk)
        · rcases hkY.own k hk with e|e
          · exact Or.inl (Or.inr e)
          · exact Or.inr (Nat.le_trans (show w.heap.size≤W.heap.size by omega) e)
     have HYa:=HY.out _ rfl
     have HYb:=HYa
     rw [← set9_comm w2 (show p≠g by omega)] at HYb
     rw [set9_eq] at HYa HYb
     replace HYa:Hid (∃ F',_):=HYa
     replace HYb:Hid (∃ F',_):=HYb
     clear HY
     have hown:Value.ownBlock (.slice ao n cap)≠some p:=fun e=>by have:=(Qeg hT (by rw [hn0];exact e)).1;omega
     have hp2:w2.heap[p]?=_:=(hko2.block p (show p<W.heap.size by omega) hown).trans hpW
     have hownw:Value.ownBlock (.slice ao n cap)≠some w.heap.size:=fun e=>by have:=(Qeg hT (by rw [hn0];exact e)).2;omega
     have hltw:w.heap.size<W.heap.size:=by omega
     obtain⟨k0,k1,k2,k3,k4,k5,k6,k7,k8⟩:=Nine.box ((hko2.block w.heap.size hltw hownw).trans hW0)
     have q0:=cell_1 hp2
     have q1:=Qad hp2 0
     have g0:=Qaa hrow (n*9)
     have g1:=Qaa hrow (n*9+1)
     have g2:=Qaa hrow (n*9+2)
     have g3:=Qaa hrow (n*9+3)
     have g4:=Qaa hrow (n*9+4)
     have g5:=Qaa hrow (n*9+5)
     have g6:=Qaa hrow (n*9+6)
     have g7:=Qaa hrow (n*9+7)
     have g8:=Qaa hrow (n*9+8)
     rw [Array.getElem?_eq_getElem (by omega)] at g0 g1 g2 g3 g4 g5 g6 g7 g8
     have r0:=Qad hrow
     have hpg:p≠g:=by omega
     have HR:Hid (_=_):=hrun
     have hnX:n≤1000:=by omega
     have hltp:p<W.heap.size:=by omega
     have hix:(n:Int)<(n:Int)+1:=by omega
     rw [hn0] at y0 q0 ⊢
     clear hW hpb hpW hT hW0 hWs hn0 hb hY hko2 hrun hp2 hrow hown hownw
     go_enter Try.func24,Try.ntmps24
     go_wp2_with fail
     rw [← HW.out]
     go_region_law (first|(refine Qbs HR.out (by rfl) _ _ (by rfl) (by rfl) (by rfl) (by rfl) ?_))
     all_goals
      go_wp2_with fail
      refine bodyPost_end (v:=.tuple #[]) (by simp [results,Try.results24,go_sem]) rfl ?_
      refine⟨rfl,?_⟩
      first|with_reducible exact HYa.out|with_reducible exact HYb.out
set_option maxRecDepth 100000 in
set_option maxHeartbeats 1000000 in
theorem nodeAt_any (D d L B:Nat) (t:Tm) (a1:Option Addr) (l1 c1:Nat) (a2:Option Addr) (l2 c2:Nat) (a3:Option Addr) (l3 c3:Nat) (n:Int) (w:World) (hB:B≤w.heap.size) (hf:Fm L B w D d t a1 l1 a2 l2 a3 l3) (hc:cntM t≤1048576) :
 Calls Try.prog 11 #[.agg #[.int .i64 t.K,.int .i64 t.N,.string t.S,.string t.Z,.int .i64 t.T.K,.int .i64 t.T.N,.slice a1 l1 c1,.slice a2 l2 c2,.slice a3 l3 c3],.int .i64 n] w fun e w'=>TellM w w' (D+1) d e (natM t n).1 (natM t n).2:=by
 obtain⟨W,hW⟩:∃ W,W=((w.alloc (.cells #[.int .i64 t.K,.int .i64 t.N,.string t.S,.string t.Z,.int .i64 t.T.K,.int .i64 t.T.N,.slice a1 l1 c1,.slice a2 l2 c2,.slice a3 l3 c3] 29)).alloc (.cells #[.int .i64 0,.int .i64 0,.string ⟨#[]⟩,.string ⟨#[]⟩,.int .i64 0,.int .i64 0,.slice none 0 0,.slice none 0 0,.slice none 0 0] 29)).alloc (.cells #[.slice none 0 0] 27):=⟨_,rfl⟩
 have hWs:W.heap.size=w.heap.size+3:=by rw [hW];simp
 have hWb:Below w.heap.size w W:=by rw [hW];exact (((Below.refl _ _).alloc (Nat.le_refl _) _).alloc (by simp) _).alloc (by simp;omega) _
 have hWz:W.heap[w.heap.size+1]?=some (.cells #[.int .i64 0,.int .i64 0,.string ⟨#[]⟩,.string ⟨#[]⟩,.int .i64 0,.int .i64 0,.slice none 0 0,.slice none 0 0,.slice none 0 0] 29 (0,0)):=by rw [hW,Below.heap_alloc _ _ _ (by simp)];exact Qac (by simp)
 have hW0:W.heap[w.heap.size]?=some (.cells #[.int .i64 t.K,.int .i64 t.N,.string t.S,.string t.Z,.int .i64 t.T.K,.int .i64 t.T.N,.slice a1 l1 c1,.slice a2 l2 c2,.slice a3 l3 c3] 29 (0,0)):=by rw [hW,Below.heap_alloc _ _ _ (by simp;omega),Below.heap_alloc _ _ _ (by simp)];exact Qac rfl
 have hW1:W.heap[w.heap.size+2]?=some (.cells #[.slice none 0 0] 27 (0,0)):=by rw [hW];exact Qac (by simp)
 have HW:Hid (W=_):=hW
 have HS:Hid (W.heap.size=w.heap.size+3):=hWs
 have hfW:=Fm.below hWb hB hf
 clear hW hWs
 cases hq:okM t
 · have HQ:Hid (okM t=false):=hq
   have HT:Hid (nodT t=[]):=by show _=_;simp [nodT,hq]
   have HV:Hid (natM t n=nthM [] n):=by show _=_;unfold natM;rw [HT.out]
   clear hq
   go_enter Try.func11,Try.ntmps11
   go_wp2_with fail
   rw [← HW.out]
   refine (termOk_any D d L B t _ _ _ _ _ _ _ _ _ _ (by have:=HS.out;omega) hfW).mono ?_
   rintro e w1 ⟨rfl,hb1⟩
   rw [HQ.out]
   have y1:=cell_1 ((hb1.block (w.heap.size+2) (by have:=HS.out;omega)).trans hW1)
   have z1:=(hb1.block (w.heap.size+1) (by have:=HS.out;omega)).trans hWz
   have hz1':w.heap.size+3≤w1.heap.size:=by have:=HS.out;have:=hb1.size;omega
   have hbw:Below w.heap.size w w1:=hWb.trans (hb1.mono (by have:=HS.out;omega))
   go_wp2_with fail
   refine (termAt_any D d L B 0 _ [] n _ (by have:=hbw.size;omega) (trow_nil _ _ _ _ _ _) (by simp) (fun r h=>by simp at h)).mono ?_
   rintro e w3 ht
   obtain⟨b1,m1,e1,b2,m2,e2,b3,m3,e3,rfl,hb3,ho⟩:=ht
   have hz3:=hb3.size
   have hbw3:Below w.heap.size w w3:=hbw.trans (hb3.mono (by omega))
   have x3:=(hb3.block (w.heap.size+1) (by omega)).trans z1
   obtain⟨p0,p1,p2,p3,p4,p5,p6,p7,p8⟩:=Nine.box x3
   have pf:=Qad x3
   obtain⟨R,hR⟩:∃ R,(nthM ([]) n).1=R:=⟨_,rfl⟩
   obtain⟨rb,hrb⟩:∃ rb,(nthM ([]) n).2=rb:=⟨_,rfl⟩
   have HV2:Hid ((natM t n).1=R∧(natM t n).2=rb):=by rw [HV.out];exact⟨hR,hrb⟩
   rw [hR] at ho ⊢
   rw [hrb]
   clear hR hrb
   go_wp2_with fail
   obtain⟨Y,hYe⟩:∃ Y,Y=set9 w3 (w.heap.size+1) 0 (.int .i64 R.K) (.int .i64 R.N) (.string R.S) (.string R.Z) (.int .i64 R.T.K) (.int .i64 R.T.N) (.slice b1 m1 e1) (.slice b2 m2 e2) (.slice b3 m3 e3):=⟨_,rfl⟩
   have hYb:Below w.heap.size w Y:=by rw [hYe];exact Qcf hbw3 (by omega)
   have hYs:Y.heap.size=w3.heap.size:=by rw [hYe];exact Qcu _ _ _ _ _ _ _ _ _ _ _ _
   have hYo:∀ k,k≠w.heap.size+1->Y.heap[k]?=w3.heap[k]?:=fun k hk=>by rw [hYe];exact Qby k hk
   refine bodyPost_ret (v:=.tuple #[.agg #[.int .i64 R.K,.int .i64 R.N,.string R.S,.string R.Z,.int .i64 R.T.K,.int .i64 R.T.N,.slice b1 m1 e1,.slice b2 m2 e2,.slice b3 m3 e3],.bool rb]) (by simp [results,Try.results11,go_sem,p0,p1,p2,p3,p4,p5,p6,p7,p8]) rfl ?_
   have hfin:TellM w Y (D+1) d (.returned (.tuple #[.agg #[.int .i64 R.K,.int .i64 R.N,.string R.S,.string R.Z,.int .i64 R.T.K,.int .i64 R.T.N,.slice b1 m1 e1,.slice b2 m2 e2,.slice b3 m3 e3],.bool rb])) R rb:=⟨_,_,_,_,_,_,_,_,_,rfl,hYb,ho.keep (fun k hk1 hk2=>hYo k (by omega)) (by omega) (by omega)⟩
   rw [hYe] at hfin
   rw [HV2.out.1,HV2.out.2]
   exact hfin
 · have HQ:Hid (okM t=true):=hq
   have HT:Hid (nodT t=[]++allW t):=by show _=_;simp [nodT,hq]
   have HV:Hid (natM t n=nthM (nodT t) n):=rfl
   have hnl:=nodT_len t
   have HCN:Hid (∀ r∈nodT t,cntM r≤1048576):=fun r h=>Nat.le_trans (nodT_cnt h) hc
   obtain⟨m,hm,hm6⟩:=Qeh hq
   clear hq
   go_enter Try.func11,Try.ntmps11
   go_wp2_with fail
   rw [← HW.out]
   refine (termOk_any D d L B t _ _ _ _ _ _ _ _ _ _ (by have:=HS.out;omega) hfW).mono ?_
   rintro e w1 ⟨rfl,hb1⟩
   rw [HQ.out]
   have x1:=(hb1.block (w.heap.size+2) (by have:=HS.out;omega)).trans hW1
   have x0:=(hb1.block w.heap.size (by have:=HS.out;omega)).trans hW0
   have z1:=(hb1.block (w.heap.size+1) (by have:=HS.out;omega)).trans hWz
   have hz1':w.heap.size+3≤w1.heap.size:=by have:=HS.out;have:=hb1.size;omega
   have hbw:Below w.heap.size w w1:=hWb.trans (hb1.mono (by have:=HS.out;omega))
   have hz1:w.heap.size+3≤w1.heap.size:=by have:=HS.out;have:=hb1.size;omega
   obtain⟨f0,f1,f2,f3,f4,f5,f6,f7,f8⟩:=Nine.box x0
   have hI:IN L B D d (w.heap.size+2) [] (fun k=>k=w.heap.size+2∨Value.ownBlock (.slice none 0 0)=some k) w1:=⟨_,x1,trow_nil _ _ _ _ _ _,rfl⟩
   go_wp2_with fail
   refine (eachN_any 24 L B (w.heap.size+2) (w.heap.size+2) D d (IN L B D d (w.heap.size+2)) (seeN_any L B (w.heap.size+2) D d (by omega)) (by omega) d t _ _ _ _ _ _ _ _ _ [] _ m w1 (Nat.le_refl _) (by omega) hI (Fm.below hbw hB hf) hm (by simp;omega)).mono ?_
   rintro e w2 ⟨rfl,F2,⟨v,hv1,hv2,rfl⟩,hk⟩
   have y1:=cell_1 hv1
   obtain⟨ao,cp,rfl⟩:=trow_form hv2
   have z2:=(hk.block (w.heap.size+1) (by omega) (fun e=>by rcases e with e|e;omega;cases e)).trans z1
   have hz2':=hk.size
   have hbw2:Below w.heap.size w w2:=hbw.trans (hk.below (fun k hk=>by rcases hk with rfl|hk;omega;cases hk) (by omega))
   rw [← HT.out] at hv2 y1
   clear f0 f1 f2 f3 f4 f5 f6 f7 f8 hv1
   go_wp2_with fail
   refine (termAt_any D d L B 0 _ (nodT t) n _ (by have:=hbw2.size;omega) (trow_le hv2 (Nat.zero_le _)) (by have:=hbw2.size;omega) HCN.out).mono ?_
   rintro e w3 ht
   obtain⟨b1,m1,e1,b2,m2,e2,b3,m3,e3,rfl,hb3,ho⟩:=ht
   have hz3:=hb3.size
   have hbw3:Below w.heap.size w w3:=hbw2.trans (hb3.mono (by omega))
   have x3:=(hb3.block (w.heap.size+1) (by omega)).trans z2
   obtain⟨p0,p1,p2,p3,p4,p5,p6,p7,p8⟩:=Nine.box x3
   have pf:=Qad x3
   obtain⟨R,hR⟩:∃ R,(nthM ((nodT t)) n).1=R:=⟨_,rfl⟩
   obtain⟨rb,hrb⟩:∃ rb,(nthM ((nodT t)) n).2=rb:=⟨_,rfl⟩
   have HV2:Hid ((natM t n).1=R∧(natM t n).2=rb):=by rw [HV.out];exact⟨hR,hrb⟩
   rw [hR] at ho ⊢
   rw [hrb]
   clear hR hrb
   go_wp2_with fail
   obtain⟨Y,hYe⟩:∃ Y,Y=set9 w3 (w.heap.size+1) 0 (.int .i64 R.K) (.int .i64 R.N) (.string R.S) (.string R.Z) (.int .i64 R.T.K) (.int .i64 R.T.N) (.slice b1 m1 e1) (.slice b2 m2 e2) (.slice b3 m3 e3):=⟨_,rfl⟩
   have hYb:Below w.heap.size w Y:=by rw [hYe];exact Qcf hbw3 (by omega)
   have hYs:Y.heap.size=w3.heap.size:=by rw [hYe];exact Qcu _ _ _ _ _ _ _ _ _ _ _ _
   have hYo:∀ k,k≠w.heap.size+1->Y.heap[k]?=w3.heap[k]?:=fun k hk=>by rw [hYe];exact Qby k hk
   refine bodyPost_ret (v:=.tuple #[.agg #[.int .i64 R.K,.int .i64 R.N,.string R.S,.string R.Z,.int .i64 R.T.K,.int .i64 R.T.N,.slice b1 m1 e1,.slice b2 m2 e2,.slice b3 m3 e3],.bool rb]) (by simp [results,Try.results11,go_sem,p0,p1,p2,p3,p4,p5,p6,p7,p8]) rfl ?_
   have hfin:TellM w Y (D+1) d (.returned (.tuple #[.agg #[.int .i64 R.K,.int .i64 R.N,.string R.S,.string R.Z,.int .i64 R.T.K,.int .i64 R.T.N,.slice b1 m1 e1,.slice b2 m2 e2,.slice b3 m3 e3],.bool rb])) R rb:=⟨_,_,_,_,_,_,_,_,_,rfl,hYb,ho.keep (fun k hk1 hk2=>hYo k (by omega)) (by omega) (by omega)⟩
   rw [hYe] at hfin
   rw [HV2.out.1,HV2.out.2]
   exact hfin
end Go.Proofs.Ytleghjgpnefliaa
