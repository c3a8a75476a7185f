/-
  What the model's 'l3Type' comes to at a term that is right node by node.
-/
import Derived.Test.YtleghjgpnefliaaFnoZ27
import Derived.Test.YtleghjgpnefliaaFnoZ31
import Derived.Test.YtleghjgpnefliaaFnoTg2
namespace Go.Proofs.Ytleghjgpnefliaa
open Go.RowKit
set_option linter.unusedVariables false
set_option linter.unusedSimpArgs false
theorem Kr.alloc {X W:World} {r:Nat} (h:Kr X r W) (o:Obj):Kr X r (W.alloc o):=h.below ((Below.refl _ _).alloc (Nat.le_refl _) o)
theorem HsQ.allocr {P:Nat->Prop} {w:World} {d:Nat} {ao:Option Addr} {len:Nat} {ts:List Tr} (h:HsQ P w d ao len ts) (o:Obj):HsQ P (w.alloc o) d ao len ts:=h.below ((Below.refl _ _).alloc (Nat.le_refl _) o)
theorem Kr.base {X W W':World} {r B:Nat} (h:Kr X r W) (hb:Below B W W') (hB:B=X.heap.size) (hr:r<X.heap.size):Kr X r W':=by
 subst hB
 exact⟨Nat.le_trans h.size hb.size,hb.os.trans h.os,hb.tape.trans h.tape,hb.output.trans h.output,fun k hk hne=>(hb.block k hk).trans (h.blk k hk hne),by
  obtain⟨c0,c1,c2,hb0⟩:=h.box
  exact⟨c0,c1,c2,(hb.block r hr).trans hb0⟩⟩
theorem cnt_tys {l:List Tr} (h:∀ u∈l,okT u=true) (hl:l.length≤2):cntS l≤1048576:=by
 have one:∀ u,okT u=true->cnt u≤64:=fun u hu=>by
  obtain⟨m,hm⟩:=Qcx hu
  have:=Qdr _ _ _ hm
  rw [Qeb _ _ _ hm]
  omega
 match l,hl with
 | [],_=>simp [cntS]
 | [a],_=>have:=one a (h a (by simp));simp [cntS];omega
 | [a,b],_=>have:=one a (h a (by simp));have:=one b (h b (by simp));simp [cntS];omega
 | _::_::_::_,h=>simp at h
theorem nodeM_ts {t:Tm} (h:Qaz t=true):(∀ u∈t.Ts,okT u=true)∧cntS t.Ts≤1048576:=by
 unfold Qaz at h
 simp only [Bool.and_eq_true] at h
 have h1:=h.2
 unfold Qdh at h1
 simp only [Bool.and_eq_true,decide_eq_true_eq,List.all_eq_true] at h1
 have:=shS_bd t.K
 exact⟨h1.2,cnt_tys h1.2 (by omega)⟩
set_option maxRecDepth 100000 in
set_option maxHeartbeats 16000000 in
theorem type_step (n:Nat) (IH:Qdu n):Qdu (n+1):=by
 intro P p L B D d m t a1 l1 c1 a2 l2 c2 a3 l3 c3 v es vs w hp hPp hPn hLB hB hD hf hm hE hR hl
 obtain⟨hn,hparts⟩:=Qbd hm
 obtain⟨k1',k17,hsh⟩:=Qbe hn
 have hl3:=hf.m.len.1
 have hl3m:=hf.m.len.2
 have hT:HsQ P w 14 a1 l1 t.T.A:=(HsQ.of hLB hB hf.t1).deeper hD
 obtain⟨X,hX⟩:∃ X,X=(w.alloc (.cells #[.int .i64 t.K,.int .i64 t.N,.string t.S,.string t.Z,.int .i64 t.T.K,.int .i64 t.T.N,.slice a1 l1 c1,.slice a2 l2 c2,.slice a3 l3 c3] 29)).alloc (.cells #[.int .i64 0,.int .i64 0,.slice none 0 0] 26):=⟨_,rfl⟩
 have hXs:X.heap.size=w.heap.size+1+1:=by rw [hX];simp
 have hXb:Below w.heap.size w X:=by rw [hX];exact ((Below.refl _ _).alloc (Nat.le_refl _) _).alloc (by simp) _
 have hX0:X.heap[w.heap.size]?=some (.cells #[.int .i64 t.K,.int .i64 t.N,.string t.S,.string t.Z,.int .i64 t.T.K,.int .i64 t.T.N,.slice a1 l1 c1,.slice a2 l2 c2,.slice a3 l3 c3] 29 (0,0)):=by rw [hX,Below.heap_alloc _ _ _ (by simp)];exact Qac rfl
 have hX1:X.heap[w.heap.size+1]?=some (.cells #[.int .i64 0,.int .i64 0,.slice none 0 0] 26 (0,0)):=by rw [hX];exact Qac (by simp)
 have kX:Kr X (w.heap.size+1) X:=⟨Nat.le_refl _,rfl,rfl,rfl,fun _ _ _=>rfl,_,_,_,hX1⟩
 have HX:Hid (X=_):=hX
 have HKW:Hid (∀ W,Kr X (w.heap.size+1) W->∀ k,k<w.heap.size->W.heap[k]?=w.heap[k]?):=fun W hW k hk=>(hW.blk k (by omega) (by omega)).trans (hXb.block k hk)
 have HSZ:Hid (∀ W,Kr X (w.heap.size+1) W->w.heap.size+1+1≤W.heap.size):=fun W hW=>by have:=hW.size;omega
 have HBW:Hid (∀ W,Kr X (w.heap.size+1) W->Below w.heap.size w W):=fun W hW=>⟨hW.os.trans hXb.os,hW.tape.trans hXb.tape,hW.output.trans hXb.output,by have:=HSZ.out W hW;omega,fun k hk=>HKW.out W hW k hk⟩
 have HPW:Hid (∀ W,Kr X (w.heap.size+1) W->∀ k,W.heap.size≤k->(fun k=>P k∧k≠w.heap.size+1) k):=fun W hW k hk=>by have:=HSZ.out W hW;exact⟨hPn k (by omega),by omega⟩
 have HE:Hid (∀ W,Kr X (w.heap.size+1) W->EnQ (fun k=>P k∧k≠w.heap.size+1) W 14 v es):=fun W hW=>hE.keep (fun k _ hk=>HKW.out W hW k hk) (fun k h hk=>⟨h,by omega⟩) (by have:=HSZ.out W hW;omega)
 have HF:Hid (∀ W,Kr X (w.heap.size+1) W->Fm L B W D d t a1 l1 a2 l2 a3 l3):=fun W hW=>Fm.keep (fun k _ hk=>HKW.out W hW k (by omega)) (Nat.le_refl _) (Nat.le_refl _) hf
 have HT:Hid (∀ W,Kr X (w.heap.size+1) W->HsQ (fun k=>P k∧k≠w.heap.size+1) W 5 a1 l1 t.T.A):=fun W hW=>hsq_own hn (hT.keep (fun k _ hk=>HKW.out W hW k hk) (fun k h hk=>⟨h,by omega⟩) (by have:=HSZ.out W hW;omega))
 have HC:Hid (∀ W,Kr X (w.heap.size+1) W->W.cell? ⟨w.heap.size,0,none⟩=some (.int .i64 t.K)∧W.cell? ⟨w.heap.size,1,none⟩=some (.int .i64 t.N)∧W.cell? ⟨w.heap.size,2,none⟩=some (.string t.S)∧W.cell? ⟨w.heap.size,3,none⟩=some (.string t.Z)∧W.cell? ⟨w.heap.size,4,none⟩=some (.int .i64 t.T.K)∧W.cell? ⟨w.heap.size,5,none⟩=some (.int .i64 t.T.N)∧W.cell? ⟨w.heap.size,6,none⟩=some (.slice a1 l1 c1)∧W.cell? ⟨w.heap.size,7,none⟩=some (.slice a2 l2 c2)∧W.cell? ⟨w.heap.size,8,none⟩=some (.slice a3 l3 c3)):=fun W hW=>by
  have r:=(hW.blk w.heap.size (by omega) (by omega)).trans hX0
  exact⟨Qaa r 0,Qaa r 1,Qaa r 2,Qaa r 3,Qaa r 4,Qaa r 5,Qaa r 6,Qaa r 7,Qaa r 8⟩
 have HPoly:=l3Poly_any D d L B t a1 l1 c1 a2 l2 c2 a3 l3 c3 vs X (by omega) (HF.out X kX) hn
 have HNM:=l3Name_q (fun k=>P k∧k≠w.heap.size+1) p D d L B t a1 l1 c1 a2 l2 c2 a3 l3 c3 v es vs
 have HNM2:Hid (∀ W,Kr X (w.heap.size+1) W->Calls Try.prog 79 #[.agg #[.int .i64 t.K,.int .i64 t.N,.string t.S,.string t.Z,.int .i64 t.T.K,.int .i64 t.T.N,.slice a1 l1 c1,.slice a2 l2 c2,.slice a3 l3 c3],v,.int .i64 vs] W fun e w'=>CkQ (fun k=>P k∧k≠w.heap.size+1) e w'∧Below W.heap.size W w'):=fun W hW =>
  HNM W (by have:=HSZ.out W hW;omega) (fun k hk=>hPp k hk.1) (HPW.out W hW) (by have:=HSZ.out W hW;omega) (HF.out W hW) (nodeM_ts hn).1 (HE.out W hW) hR (by omega) (nodeM_ts hn).2
 have HPA:Hid (∀ (W:World) (av:Value) (j:Nat) (u:Tr) (fa:Option Addr) (fl fc:Nat),Kr X (w.heap.size+1) W->(∀ g,av.ownBlock=some g->w.heap.size+1+1≤g∧g<W.heap.size)->j<l3->HsQ (fun k=>(fun k=>P k∧k≠w.heap.size+1) k∧av.ownBlock≠some k) W 14 fa fl u.A->(0<j->∃ m,Qai 6 u=some m)->(t.K=14->0<j->u.K=6) →
  Calls Try.prog 80 #[.agg #[.int .i64 t.K,.int .i64 t.N,.string t.S,.string t.Z,.int .i64 t.T.K,.int .i64 t.T.N,.slice a1 l1 c1,.slice a2 l2 c2,.slice a3 l3 c3],.int .i64 (j:Int),.agg #[.int .i64 u.K,.int .i64 u.N,.slice fa fl fc],v,.int .i64 vs] W fun e w'=>CkQ (fun k=>(fun k=>P k∧k≠w.heap.size+1) k∧av.ownBlock≠some k) e w'∧Below W.heap.size W w'):=fun W av j u fa fl fc hW hav hj hu hur hu6 =>
  l3Part_q n IH _ p L B D d m t a1 l1 c1 a2 l2 c2 a3 l3 c3 j u fa fl fc v es vs W (by have:=HSZ.out W hW;omega) (fun k hk=>hPp k hk.1.1) (fun k hk=>⟨HPW.out W hW k hk,fun e=>by have:=(hav k e).2;omega⟩) (fun k hk1 hk2=>⟨⟨hLB k hk1 hk2,by omega⟩,fun e=>by have:=(hav k e).1;omega⟩) (by have:=HSZ.out W hW;omega) hD (HF.out W hW) hm (by omega) hu hur hu6
   (hE.keep (fun k _ hk=>HKW.out W hW k hk) (fun k h hk=>⟨⟨h,by omega⟩,fun e=>by have:=(hav k e).1;omega⟩) (by have:=HSZ.out W hW;omega)) hR hl
 have HWH:Hid (∀ (W:World) (av:Value) (us:List Tr),Kr X (w.heap.size+1) W->YRow (fun k=>P k∧k≠w.heap.size+1) (w.heap.size+1+1) W 5 av us->t.K≠3->us.length=l3->(∀ u∈us,∃ m,Qai 6 u=some m)->Calls Try.prog 81 #[.agg #[.int .i64 t.K,.int .i64 t.N,.string t.S,.string t.Z,.int .i64 t.T.K,.int .i64 t.T.N,.slice a1 l1 c1,.slice a2 l2 c2,.slice a3 l3 c3],av] W fun e w'=>WhQ (fun k=>P k∧k≠w.heap.size+1) W e w'):=fun W av us hW hv h3 hl hR =>
  l3Whole_q (fun k=>P k∧k≠w.heap.size+1) t a1 l1 c1 a2 l2 c2 a3 l3 c3 _ av us W (HPW.out W hW) hn h3 (hsq_own hn (hT.keep (fun k _ hk=>HKW.out W hW k hk) (fun k h hk=>⟨⟨h,by omega⟩,fun e=>by have:=(Qdv hv e).1;omega⟩) (by have:=HSZ.out W hW;omega))) hv (by omega) hR
 obtain⟨x0,x1,x2,x3,x4,x5,x6,x7,x8⟩:=HC.out X kX
 have HSH:Hid ((t.A.length:Int)=shP t.K):=hsh
 have HL3:Hid (l3=t.A.length):=hl3
 have hr2:w.heap.size+1<w.heap.size+1+1:=by omega
 cases hk3:(t.K==3)
 case true =>
  clear hX hX0 HNM hl hR hE hT hsh hl3 hf hm hparts IH HPA HWH
  go_enter Try.func61,Try.ntmps61
  go_wp2_with fail
  rw [← HX.out]
  refine HPoly.mono ?_
  rintro e w1 ⟨⟨bb,rfl⟩,hb1⟩
  have k1:=Kr.below kX hb1
  obtain⟨zc0,zc1,zc2,zb⟩:=k1.box;obtain⟨z0,z1,z2⟩:=Qaf zb;have zf:=Qad zb
  clear x0 x1 x2 x3 x4 x5 x6 x7 x8 HPoly
  obtain⟨x0,x1,x2,x3,x4,x5,x6,x7,x8⟩:=HC.out w1 k1
  cases bb with
  | true =>
    go_wp2_with fail
    exact bodyPost_ret (v:=.tuple #[.agg #[.int .i64 0,.int .i64 0,.slice none 0 0],.int .i64 4]) (by simp [results,Try.results61,go_sem,z0,z1,z2]) rfl ⟨CkQ.bad _ _ _ (by omega),HBW.out _ (by (repeat (first|with_reducible exact k3|with_reducible exact k2|with_reducible exact k1|with_reducible refine Kr.set ?_ _ _|with_reducible refine Kr.drew ?_|with_reducible refine Kr.alloc ?_ _)))⟩
  | false =>
    go_wp2_with fail
    refine (HNM2.out w1 k1).mono ?_
    rintro e v2 ⟨⟨ya,yl,yc,y,code,rfl,hy,hyr⟩,hb⟩
    have k2:=Kr.below k1 hb
    clear z0 z1 z2 zf
    obtain⟨zc0,zc1,zc2,zb⟩:=k2.box;obtain⟨z0,z1,z2⟩:=Qaf zb;have zf:=Qad zb
    have HYR:Hid (code=0->∃ m,Qai 6 y=some m):=hyr
    clear hyr
    go_wp2_with fail
    refine bodyPost_ret (v:=.tuple #[.agg #[.int .i64 y.K,.int .i64 y.N,.slice ya yl yc],.int .i64 code]) (by simp [results,Try.results61,go_sem,z0,z1,z2]) rfl ⟨⟨_,_,_,y,code,rfl,HsQ.mono (P:=(fun k=>P k∧k≠w.heap.size+1)) (fun _ h _=>And.left h) (by (repeat (first|with_reducible exact hy|with_reducible refine HsQ.setr ?_|with_reducible refine HsQ.drewr ?_|with_reducible refine HsQ.allocr ?_ _))),HYR.out⟩,HBW.out _ (by (repeat (first|with_reducible exact k3|with_reducible exact k2|with_reducible exact k1|with_reducible refine Kr.set ?_ _ _|with_reducible refine Kr.drew ?_|with_reducible refine Kr.alloc ?_ _)))⟩
 case false =>
  have HK3:Hid (t.K≠3):=by show ¬ _;simpa using hk3
  clear hX hX0 HNM hl hR hE hT hsh hl3 hf hm hparts IH HNM2
  go_enter Try.func61,Try.ntmps61
  go_wp2_with fail
  rw [← HX.out]
  refine HPoly.mono ?_
  rintro e w1 ⟨⟨bb,rfl⟩,hb1⟩
  have k1:=Kr.below kX hb1
  have hz1:=k1.size
  obtain⟨zc0,zc1,zc2,zb⟩:=k1.box;obtain⟨z0,z1,z2⟩:=Qaf zb;have zf:=Qad zb
  clear x0 x1 x2 x3 x4 x5 x6 x7 x8 HPoly
  obtain⟨x0,x1,x2,x3,x4,x5,x6,x7,x8⟩:=HC.out w1 k1
  cases bb with
  | true =>
    go_wp2_with fail
    exact bodyPost_ret (v:=.tuple #[.agg #[.int .i64 0,.int .i64 0,.slice none 0 0],.int .i64 4]) (by simp [results,Try.results61,go_sem,z0,z1,z2]) rfl ⟨CkQ.bad _ _ _ (by omega),HBW.out _ (by (repeat (first|with_reducible exact k3|with_reducible exact k2|with_reducible exact k1|with_reducible refine Kr.set ?_ _ _|with_reducible refine Kr.drew ?_|with_reducible refine Kr.alloc ?_ _)))⟩
  | false =>
    obtain⟨W,hW⟩:∃ W,W=w1.alloc (.cells #[] 26):=⟨_,rfl⟩
    have kW:Kr X (w.heap.size+1) W:=by rw [hW];exact Kr.alloc k1 _
    have hW0:W.heap[w1.heap.size]?=some (.cells #[] 26 (0,0)):=by rw [hW];exact Qac rfl
    have HW:Hid (W=_):=hW
    clear hW
    go_wp2_with fail
    rw [← HW.out]
    go_loopw [8,9] (fun av i wr=>∃ (j:Nat) (aj:Option Addr) (cj:Nat) (us:List Tr),i=.int .i64 j∧av=.slice aj j cj∧j≤l3∧Hid (us.length=j)∧YRow (fun k=>P k∧k≠w.heap.size+1) (w.heap.size+1+1) wr 5 (.slice aj j cj) us∧Hid (∀ u∈us,∃ m,Qai 6 u=some m)∧Hid (t.K=14->∀ u,us[0]?=some u->u.K=6)∧Kr X (w.heap.size+1) wr) (fun _ i _=>l3 - (intOf i).toNat)
    case atStart=>exact⟨0,_,_,[],rfl,rfl,by omega,rfl,yrow_emp hW0 (by omega),fun u hu=>by simp at hu,fun _ u hu=>by simp at hu,kW⟩
    case round =>
     obtain⟨j,aj,cj,us,rfl,rfl,hj,HUL,hY,HUR,HU6,kr⟩:=hrel
     have hzr:=kr.size
     clear z0 z1 z2 zf zb zc0 zc1 zc2 x0 x1 x2 x3 x4 x5 x6 x7 x8
     obtain⟨zc0,zc1,zc2,zb⟩:=kr.box;obtain⟨z0,z1,z2⟩:=Qaf zb;have zf:=Qad zb
     obtain⟨x0,x1,x2,x3,x4,x5,x6,x7,x8⟩:=HC.out wr kr
     have hbx:w.heap.size<wr.heap.size:=by omega
     have hrx:w.heap.size+1<wr.heap.size:=by omega
     by_cases hlt:j<l3
     · have hown:∀ g,(Value.slice aj j cj).ownBlock=some g->w.heap.size+1+1≤g∧g<wr.heap.size:=fun g hg=>Qdv hY hg
       by_cases hj0:j=0
       · subst hj0
         have HP:Hid (∀ W,Below wr.heap.size wr W->Calls Try.prog 80 #[.agg #[.int .i64 t.K,.int .i64 t.N,.string t.S,.string t.Z,.int .i64 t.T.K,.int .i64 t.T.N,.slice a1 l1 c1,.slice a2 l2 c2,.slice a3 l3 c3],.int .i64 0,.agg #[.int .i64 0,.int .i64 0,.slice none 0 0],v,.int .i64 vs] W fun e w'=>CkQ (fun k=>(fun k=>P k∧k≠w.heap.size+1) k∧(Value.slice aj 0 cj).ownBlock≠some k) e w'∧Below W.heap.size W w'):=fun W hb=>by
          have h:=HPA.out W (.slice aj 0 cj) 0 ⟨0,0,[]⟩ none 0 0 (kr.below hb) (fun g hg=>⟨(hown g hg).1,Nat.lt_of_lt_of_le (hown g hg).2 hb.size⟩) hlt (HsQ.nil _ _ _ _) (fun h=>absurd h (by omega)) (fun _ h=>absurd h (by omega))
          exact h
         clear HPA
         go_wp2_with fail
         refine Calls.mono (HP.out _ ((Below.refl _ _).alloc (Nat.le_refl _) _)) ?_
         rintro e w3 ⟨⟨ya,yl,yc,y,code,rfl,hy,hyr⟩,hb3⟩
         have hb3w:Below wr.heap.size wr w3:=((Below.refl _ _).alloc (Nat.le_refl _) _).trans (hb3.mono (by simp))
         have k3:=Kr.below kr hb3w
         have hz3:=k3.size
         have hbl:w.heap.size<w3.heap.size:=by omega
         have hrl:w.heap.size+1<w3.heap.size:=by omega
         clear HP z0 z1 z2 zf zb x0 x1 x2 x3 x4 x5 x6 x7 x8
         obtain⟨zc0,zc1,zc2,zb⟩:=k3.box;obtain⟨z0,z1,z2⟩:=Qaf zb;have zf:=Qad zb
         obtain⟨x0,x1,x2,x3,x4,x5,x6,x7,x8⟩:=HC.out w3 k3
         by_cases hc:code=0
         · subst hc
           obtain⟨my,hmy⟩:=hyr rfl
           have HYR:Hid (∃ m,Qai 6 y=some m):=⟨my,hmy⟩
           obtain⟨g2,c2,w5,hrun,hY2,hb5⟩:=yrow_push (yrow_below (yrow_below hY hb3w) ((Below.refl _ _).alloc (Nat.le_refl _) (.cells #[.int .i64 y.K,.int .i64 y.N,.slice ya yl yc] 26))) (by simp;omega) (by have:=HUL.out;have:=HL3.out;have:=HSH.out;have:=shP_bd t.K;omega) (t:=y) (ao:=ya) (len:=yl) (cap:=yc) ((hy.low 5 y my hmy).allocr _)
           have k5:Kr X (w.heap.size+1) w5:=Kr.base (Kr.alloc k3 _) hb5 hXs.symm (by omega)
           rw [HUL.out] at hrun hY2
           simp only [World.size_alloc] at hrun
           clear hy hyr hmy hb5
           cases hq14:(t.K==14) with
           | false =>
             have K14:Hid (t.K=14->∀ u,(us++[y])[0]?=some u->u.K=6):=fun h=>absurd h (by simpa using hq14)
             go_wp2_with (at_builtin;refine Qdf hrun (by rfl) _ _ (by rfl) (by rfl) (by rfl) (by rfl) ?_)
             clear hrun
             go_roundw
             case rel=>exact⟨0+1,_,_,us++[y],by go_num,rfl,by omega,by have:=HUL.out;show _=_;rw [List.length_append,this];rfl,hY2,fun u hu=>(List.mem_append.1 hu).elim (HUR.out u) (fun h=>by rw [List.mem_singleton.1 h];exact HYR.out),K14,k5⟩
             case measure=>simp [intOf];omega
           | true =>
             cases hq6:(y.K != 6) with
             | true =>
               go_wp2_with fail
               exact bodyPost_ret (v:=.tuple #[.agg #[.int .i64 0,.int .i64 0,.slice none 0 0],.int .i64 3]) (by simp [results,Try.results61,go_sem,z0,z1,z2,hrl]) rfl ⟨CkQ.bad _ _ _ (by omega),HBW.out _ (by (repeat (first|with_reducible exact k3|with_reducible exact k2|with_reducible exact k1|with_reducible refine Kr.set ?_ _ _|with_reducible refine Kr.drew ?_|with_reducible refine Kr.alloc ?_ _)))⟩
             | false =>
               have K14:Hid (t.K=14->∀ u,(us++[y])[0]?=some u->u.K=6):=fun _ u hu=>by have e:us=[]:=List.length_eq_zero_iff.1 HUL.out;subst e;simp at hu;subst hu;simpa using hq6
               go_wp2_with (at_builtin;refine Qdf hrun (by rfl) _ _ (by rfl) (by rfl) (by rfl) (by rfl) ?_)
               clear hrun
               go_roundw
               case rel=>exact⟨0+1,_,_,us++[y],by go_num,rfl,by omega,by have:=HUL.out;show _=_;rw [List.length_append,this];rfl,hY2,fun u hu=>(List.mem_append.1 hu).elim (HUR.out u) (fun h=>by rw [List.mem_singleton.1 h];exact HYR.out),K14,k5⟩
               case measure=>simp [intOf];omega
         · have hcb:(code != 0)=true:=by simp [hc]
           have HCN:Hid (code≠0):=hc
           clear hc hy hyr
           go_wp2_with fail
           exact bodyPost_ret (v:=.tuple #[.agg #[.int .i64 0,.int .i64 0,.slice none 0 0],.int .i64 code]) (by simp [results,Try.results61,go_sem,z0,z1,z2,hrl]) rfl ⟨CkQ.bad _ _ _ HCN.out,HBW.out _ (by (repeat (first|with_reducible exact k3|with_reducible exact k2|with_reducible exact k1|with_reducible refine Kr.set ?_ _ _|with_reducible refine Kr.drew ?_|with_reducible refine Kr.alloc ?_ _)))⟩
       · obtain⟨g,cap',ev,hgb,hgl,p0,n0,q0,f0,f1,f2,s0⟩:=yrow_at hY 0 (by have:=HUL.out;omega)
         obtain⟨u0,hu0⟩:∃ u0,us[0]'(by have:=HUL.out;omega)=u0:=⟨_,rfl⟩
         rw [hu0] at f0 f1 s0
         have hu0':us[0]?=some u0:=by rw [List.getElem?_eq_getElem (by have:=HUL.out;omega),hu0]
         have hm0:u0∈us:=List.mem_iff_getElem?.2 ⟨0,hu0'⟩
         injection ev with ev1 ev2 ev3
         subst ev1 ev3
         rw [Nat.zero_mul] at f0 f1 f2
         have HP:Hid (∀ W,Below wr.heap.size wr W->Calls Try.prog 80 #[.agg #[.int .i64 t.K,.int .i64 t.N,.string t.S,.string t.Z,.int .i64 t.T.K,.int .i64 t.T.N,.slice a1 l1 c1,.slice a2 l2 c2,.slice a3 l3 c3],.int .i64 (j:Int),.agg #[.int .i64 u0.K,.int .i64 u0.N,.slice p0 n0 q0],v,.int .i64 vs] W fun e w'=>CkQ (fun k=>(fun k=>P k∧k≠w.heap.size+1) k∧(Value.slice (some ⟨g,0,none⟩) j cj).ownBlock≠some k) e w'∧Below W.heap.size W w'):=fun W hb =>
          HPA.out W (.slice (some ⟨g,0,none⟩) j cj) j u0 p0 n0 q0 (kr.below hb) (fun g hg=>⟨(hown g hg).1,Nat.lt_of_lt_of_le (hown g hg).2 hb.size⟩) hlt ((s0.below hb).deeper (by omega)) (fun _=>HUR.out u0 hm0) (fun h14 _=>HU6.out h14 u0 hu0')
         have hgr:g≠w.heap.size+1:=by omega
         have hjp:0<j:=by omega
         clear HPA hu0 hm0 ev2
         go_wp2_with fail
         refine Calls.mono (HP.out _ ((Below.refl _ _).alloc (Nat.le_refl _) _)) ?_
         rintro e w3 ⟨⟨ya,yl,yc,y,code,rfl,hy,hyr⟩,hb3⟩
         have hb3w:Below wr.heap.size wr w3:=((Below.refl _ _).alloc (Nat.le_refl _) _).trans (hb3.mono (by simp))
         have k3:=Kr.below kr hb3w
         have hz3:=k3.size
         have hbl:w.heap.size<w3.heap.size:=by omega
         have hrl:w.heap.size+1<w3.heap.size:=by omega
         clear HP z0 z1 z2 zf zb x0 x1 x2 x3 x4 x5 x6 x7 x8 f0 f1 f2
         obtain⟨zc0,zc1,zc2,zb⟩:=k3.box;obtain⟨z0,z1,z2⟩:=Qaf zb;have zf:=Qad zb
         obtain⟨x0,x1,x2,x3,x4,x5,x6,x7,x8⟩:=HC.out w3 k3
         by_cases hc:code=0
         · subst hc
           obtain⟨my,hmy⟩:=hyr rfl
           have HYR:Hid (∃ m,Qai 6 y=some m):=⟨my,hmy⟩
           obtain⟨g2,c2,w5,hrun,hY2,hb5⟩:=yrow_push (yrow_below (yrow_below hY hb3w) ((Below.refl _ _).alloc (Nat.le_refl _) (.cells #[.int .i64 y.K,.int .i64 y.N,.slice ya yl yc] 26))) (by simp;omega) (by have:=HUL.out;have:=HL3.out;have:=HSH.out;have:=shP_bd t.K;omega) (t:=y) (ao:=ya) (len:=yl) (cap:=yc) ((hy.low 5 y my hmy).allocr _)
           have k5:Kr X (w.heap.size+1) w5:=Kr.base (Kr.alloc k3 _) hb5 hXs.symm (by omega)
           rw [HUL.out] at hrun hY2
           simp only [World.size_alloc] at hrun
           clear hy hyr hmy hb5
           have K14:Hid (t.K=14->∀ u,(us++[y])[0]?=some u->u.K=6):=fun h u hu=>by rw [List.getElem?_append_left (by have:=HUL.out;omega)] at hu;exact HU6.out h u hu
           have hjb:((j:Int)==0)=false:=by simp;omega
           cases hq14:(t.K==14)
           all_goals
            go_wp2_with (at_builtin;refine Qdf hrun (by rfl) _ _ (by rfl) (by rfl) (by rfl) (by rfl) ?_)
            clear hrun
            go_roundw
            case rel=>exact⟨j+1,_,_,us++[y],by go_num,rfl,by omega,by have:=HUL.out;show _=_;rw [List.length_append,this];rfl,hY2,fun u hu=>(List.mem_append.1 hu).elim (HUR.out u) (fun h=>by rw [List.mem_singleton.1 h];exact HYR.out),K14,k5⟩
            case measure=>simp [intOf];omega
         · have hcb:(code != 0)=true:=by simp [hc]
           have HCN:Hid (code≠0):=hc
           clear hc hy hyr
           go_wp2_with fail
           exact bodyPost_ret (v:=.tuple #[.agg #[.int .i64 0,.int .i64 0,.slice none 0 0],.int .i64 code]) (by simp [results,Try.results61,go_sem,z0,z1,z2,hrl]) rfl ⟨CkQ.bad _ _ _ HCN.out,HBW.out _ (by (repeat (first|with_reducible exact k3|with_reducible exact k2|with_reducible exact k1|with_reducible refine Kr.set ?_ _ _|with_reducible refine Kr.drew ?_|with_reducible refine Kr.alloc ?_ _)))⟩
     · have hjl:j=l3:=by omega
       have HJ:Hid (j=l3):=hjl
       have HWH2:=HWH.out wr (.slice aj j cj) us kr hY HK3.out (by have:=HUL.out;omega) HUR.out
       clear HPA HWH hjl
       go_wp2_with fail
       refine HWH2.mono ?_
       rintro e w3 ⟨⟨ya,yl,yc,y,bb,rfl,hy⟩,hb3⟩
       have k3:=Kr.below kr hb3
       clear HWH2 z0 z1 z2 zf zb
       obtain⟨zc0,zc1,zc2,zb⟩:=k3.box;obtain⟨z0,z1,z2⟩:=Qaf zb;have zf:=Qad zb
       have hrl:w.heap.size+1<w3.heap.size:=by have:=k3.size;omega
       cases bb with
       | false =>
         go_wp2_with fail
         exact bodyPost_ret (v:=.tuple #[.agg #[.int .i64 0,.int .i64 0,.slice none 0 0],.int .i64 3]) (by simp [results,Try.results61,go_sem,z0,z1,z2,hrl]) rfl ⟨CkQ.bad _ _ _ (by omega),HBW.out _ (by (repeat (first|with_reducible exact k3|with_reducible exact k2|with_reducible exact k1|with_reducible refine Kr.set ?_ _ _|with_reducible refine Kr.drew ?_|with_reducible refine Kr.alloc ?_ _)))⟩
       | true =>
         obtain⟨W3,hW3⟩:∃ W3,W3=w3.alloc (.cells #[.int .i64 y.K,.int .i64 y.N,.slice ya yl yc] 26):=⟨_,rfl⟩
         have hy3:HsQ (fun k=>P k∧k≠w.heap.size+1) W3 8 ya yl y.A:=by rw [hW3];exact hy.allocr _
         have k4:Kr X (w.heap.size+1) W3:=by rw [hW3];exact Kr.alloc k3 _
         have HG:=l3Good_any 8 0 W3.heap.size y ya yl yc W3 (Nat.le_refl _) (HsQ.hs (fun _ _=>Nat.zero_le _) hy3)
         have HW3:Hid (W3=_):=hW3
         clear hW3
         go_wp2_with fail
         rw [← HW3.out]
         refine HG.mono ?_
         rintro e w4 ⟨hr,hb4⟩
         have k3:=Kr.below k4 hb4
         clear HG z0 z1 z2 zf zb
         obtain⟨zc0,zc1,zc2,zb⟩:=k3.box;obtain⟨z0,z1,z2⟩:=Qaf zb;have zf:=Qad zb
         rcases hr with ⟨hok,rfl⟩|rfl
         · have hy:=(hy3.below hb4).deeper (d':=14) (by omega)
           have HOK:Hid (okT y=true):=hok
           clear hok
           go_wp2_with fail
           refine bodyPost_ret (v:=.tuple #[.agg #[.int .i64 y.K,.int .i64 y.N,.slice ya yl yc],.int .i64 0]) (by simp [results,Try.results61,go_sem,z0,z1,z2]) rfl ⟨⟨_,_,_,y,0,rfl,HsQ.mono (P:=(fun k=>P k∧k≠w.heap.size+1)) (fun _ h _=>And.left h) (by (repeat (first|with_reducible exact hy|with_reducible refine HsQ.setr ?_|with_reducible refine HsQ.drewr ?_|with_reducible refine HsQ.allocr ?_ _))),fun _=>Qcx HOK.out⟩,HBW.out _ (by (repeat (first|with_reducible exact k3|with_reducible exact k2|with_reducible exact k1|with_reducible refine Kr.set ?_ _ _|with_reducible refine Kr.drew ?_|with_reducible refine Kr.alloc ?_ _)))⟩
         · go_wp2_with fail
           exact bodyPost_ret (v:=.tuple #[.agg #[.int .i64 0,.int .i64 0,.slice none 0 0],.int .i64 3]) (by simp [results,Try.results61,go_sem,z0,z1,z2]) rfl ⟨CkQ.bad _ _ _ (by omega),HBW.out _ (by (repeat (first|with_reducible exact k3|with_reducible exact k2|with_reducible exact k1|with_reducible refine Kr.set ?_ _ _|with_reducible refine Kr.drew ?_|with_reducible refine Kr.alloc ?_ _)))⟩
end Go.Proofs.Ytleghjgpnefliaa
