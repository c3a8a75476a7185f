/-
  What the model's 'l18Beta' comes to: the first term within that may be put in is.
-/
import Derived.Test.YtcepgedbmffkdaaGreatFbaBt1
namespace Go.Proofs.YtcepgedbmffkdaaGreat
open Go.RowKit
set_option linter.unusedVariables false
set_option linter.unusedSimpArgs false
def SaidSbeta (l:Nat):Prop:=∀ (D d L B:Nat) (t:Tm) (a1:Option Addr) (l1 c1:Nat) (a2:Option Addr) (l2 c2:Nat) (a3:Option Addr) (l3 c3:Nat) (m n:Nat) (w:World),B≤w.heap.size →
    Fm L B w D d t a1 l1 a2 l2 a3 l3→nodesM l t=some m→nodesM 24 t=some n→n≤1000→cntM t≤1048576 →
    Calls Tryz.prog 18 #[.agg #[.int .i64 t.K,.int .i64 t.N,.string t.S,.string t.Z,.int .i64 t.T.K,.int .i64 t.T.N,.slice a1 l1 c1,.slice a2 l2 c2,.slice a3 l3 c3]] w fun e w'=>PutE w w' e (betaM l t)
theorem put_finB {w X W:World} {D d r:Nat} {T:Tm} {ok:Bool} {R:Tm × Bool} {bn:List Nat} {za zb zc:Option Addr} {la ca lb cb lc cc:Nat} (hb:Below w.heap.size w W) (hr:w.heap.size≤r) (hf:FldO W D (OwM W D d) T za la zb lb zc lc bn) (hnd:bn.Nodup) (hin:∀ g ∈ bn,r+1≤g∧g < W.heap.size) (hR:R=(T,ok)) :
    ∀ W',W'=set9 W r 0 (.int .i64 T.K) (.int .i64 T.N) (.string T.S) (.string T.Z) (.int .i64 T.T.K) (.int .i64 T.T.N) (.slice za la ca) (.slice zb lb cb) (.slice zc lc cc)→PutE w W' (.returned (.tuple #[.agg #[.int .i64 T.K,.int .i64 T.N,.string T.S,.string T.Z,.int .i64 T.T.K,.int .i64 T.T.N,.slice za la ca,.slice zb lb cb,.slice zc lc cc],.bool ok])) R:=fun W' hW'=>by
  have hWb:Below w.heap.size w W':=by rw [hW'];exact set9_below hb hr
  have hWs:W'.heap.size=W.heap.size:=by rw [hW'];exact set9_size _ _ _ _ _ _ _ _ _ _ _ _
  have hWo:∀ g,g≠r→W'.heap[g]?=W.heap[g]?:=fun g hg=>by rw [hW'];exact set9_other g hg
  rw [hR]
  exact ⟨D,d,za,la,ca,zb,lb,cb,zc,lc,cc,rfl,hWb,bn,FldO.keep (fun g hg=>hWo g (by have:=hin g hg;omega)) hf,hnd,fun g hg=>by have:=hin g hg;omega⟩
set_option maxRecDepth 100000 in
set_option maxHeartbeats 64000000 in
theorem sbeta_step (SP:∀ l,SaidSput l) (l:Nat) (IH:SaidSbeta l):SaidSbeta (l+1):=by
  intro D d L B t a1 l1 c1 a2 l2 c2 a3 l3 c3 m n w hB hf hm hn hn1 hct
  have HHM:Hid (nodesM (l+1) t=some m∧nodesM 24 t=some n):=⟨hm,hn⟩
  have HL:Hid (l3=t.A.length):=hf.m.len.1
  have hl3:=hf.m.len.2
  obtain ⟨X,hX⟩:∃ X,X=(w.alloc (.cells #[.int .i64 t.K,.int .i64 t.N,.string t.S,.string t.Z,.int .i64 t.T.K,.int .i64 t.T.N,.slice a1 l1 c1,.slice a2 l2 c2,.slice a3 l3 c3] 34)).alloc (.cells #[.int .i64 0,.int .i64 0,.string ⟨#[]⟩,.string ⟨#[]⟩,.int .i64 0,.int .i64 0,.slice none 0 0,.slice none 0 0,.slice none 0 0] 34):=⟨_,rfl⟩
  have hXs:X.heap.size=w.heap.size+2:=by rw [hX];simp
  have hXb:Below w.heap.size w X:=by rw [hX];exact ((Below.refl _ _).alloc (Nat.le_refl _) _).alloc (by simp) _
  have hX0:X.heap[w.heap.size]?=some (.cells #[.int .i64 t.K,.int .i64 t.N,.string t.S,.string t.Z,.int .i64 t.T.K,.int .i64 t.T.N,.slice a1 l1 c1,.slice a2 l2 c2,.slice a3 l3 c3] 34 (0,0)):=by rw [hX,Below.heap_alloc _ _ _ (by simp)];exact heap_new rfl
  have hX1:X.heap[w.heap.size+1]?=some (.cells #[.int .i64 0,.int .i64 0,.string ⟨#[]⟩,.string ⟨#[]⟩,.int .i64 0,.int .i64 0,.slice none 0 0,.slice none 0 0,.slice none 0 0] 34 (0,0)):=by rw [hX];exact heap_new (by simp)
  have HX:Hid (X=_):=hX
  clear hX
  have hBX:B≤X.heap.size:=by omega
  obtain ⟨x0,x1,x2,x3,x4,x5,x6,x7,x8⟩:=Nine.box hX0
  have KH:=sHere_any SP D d L B t a1 l1 c1 a2 l2 c2 a3 l3 c3 n X hBX (Fm.below hXb hB hf) hn hn1 hct
  obtain ⟨R,hR⟩:∃ R,hereM t=R:=⟨_,rfl⟩
  rw [hR] at KH
  have HR:Hid (hereM t=R):=hR
  obtain ⟨R1,ok⟩:=R
  clear hm hn hR
  go_enter Tryz.func18,Tryz.ntmps18
  go_upto_region 1 with fail
  rw [← HX.out]
  go_wp2_with fail
  refine KH.mono ?_
  rintro e w1 ⟨P,za,la,ca,zb,lb,cb,zc,lc,cc,rfl,hb1,hP⟩
  have z1:=hb1.size
  clear KH x0 x1 x2 x3 x4 x5 x6 x7 x8
  cases ok with
  | true =>
    obtain ⟨hPe,D6,d6,bn,hfO,hnd,hrg⟩:=hP rfl
    have hPe:P=R1:=hPe
    subst hPe
    obtain ⟨Y,hY⟩:∃ Y,Y=w1.alloc (.cells #[.int .i64 P.K,.int .i64 P.N,.string P.S,.string P.Z,.int .i64 P.T.K,.int .i64 P.T.N,.slice za la ca,.slice zb lb cb,.slice zc lc cc] 34):=⟨_,rfl⟩
    have hYb:Below w1.heap.size w1 Y:=by rw [hY];exact (Below.refl _ _).alloc (Nat.le_refl _) _
    have hYs:Y.heap.size=w1.heap.size+1:=by rw [hY];simp
    have hY0:Y.heap[w1.heap.size]?=some (.cells #[.int .i64 P.K,.int .i64 P.N,.string P.S,.string P.Z,.int .i64 P.T.K,.int .i64 P.T.N,.slice za la ca,.slice zb lb cb,.slice zc lc cc] 34 (0,0)):=by rw [hY];exact heap_new rfl
    have HY:Hid (Y=_):=hY
    have hYX:Below X.heap.size X Y:=hb1.trans (hYb.mono z1)
    have HFIN:Hid (∀ W',W'=set9 Y (w.heap.size+1) 0 (.int .i64 P.K) (.int .i64 P.N) (.string P.S) (.string P.Z) (.int .i64 P.T.K) (.int .i64 P.T.N) (.slice za la ca) (.slice zb lb cb) (.slice zc lc cc)→PutE w W' (.returned (.tuple #[.agg #[.int .i64 P.K,.int .i64 P.N,.string P.S,.string P.Z,.int .i64 P.T.K,.int .i64 P.T.N,.slice za la ca,.slice zb lb cb,.slice zc lc cc],.bool true])) (betaM (l+1) t)):=fun W' hW'=>by
      have hR2:(hereM t).2=true:=by rw [HR.out]
      refine put_finB (X:=X) (hXb.trans (hYX.mono (by omega))) (by omega) (FldO.keep (fun g hg=>hYb.block g (hrg g hg).2) hfO) hnd (fun g hg=>by have:=hrg g hg;omega) ?_ W' hW'
      rw [betaM_here hR2,HR.out]
    have rr:=(hYX.block (w.heap.size+1) (by omega)).trans hX1
    obtain ⟨y0,y1,y2,y3,y4,y5,y6,y7,y8⟩:=Nine.box rr
    have yf:=row_free rr
    obtain ⟨q0,q1,q2,q3,q4,q5,q6,q7,q8⟩:=Nine.box hY0
    clear hP hfO hrg hY hnd
    go_upto_region 2 with fail
    rw [← HY.out]
    go_wp2_with fail
    (try simp only [Exit.inBlock,Exit.then]);refine bodyPost_ret (v:=.tuple #[.agg #[.int .i64 P.K,.int .i64 P.N,.string P.S,.string P.Z,.int .i64 P.T.K,.int .i64 P.T.N,.slice za la ca,.slice zb lb cb,.slice zc lc cc],.bool true]) (by simp [results,Tryz.results18,go_sem,y0,y1,y2,y3,y4,y5,y6,y7,y8]) rfl ?_
    exact HFIN.out _ rfl
  | false =>
    have KC:=fun W (h:Below X.heap.size X W)=>lm_any D d L B t a1 l1 c1 a2 l2 c2 a3 l3 c3 W (by have:=h.size;omega) (Fm.below h (by omega) (Fm.below hXb hB hf)) hct
    obtain ⟨Y,hY⟩:∃ Y,Y=w1.alloc (.cells #[.int .i64 P.K,.int .i64 P.N,.string P.S,.string P.Z,.int .i64 P.T.K,.int .i64 P.T.N,.slice za la ca,.slice zb lb cb,.slice zc lc cc] 34):=⟨_,rfl⟩
    have hYb:Below w1.heap.size w1 Y:=by rw [hY];exact (Below.refl _ _).alloc (Nat.le_refl _) _
    have hYs:Y.heap.size=w1.heap.size+1:=by rw [hY];simp
    have HY:Hid (Y=_):=hY
    have hYX:Below X.heap.size X Y:=hb1.trans (hYb.mono z1)
    have KY:=KC Y hYX
    have rt:=(hYX.block w.heap.size (by omega)).trans hX0
    obtain ⟨x0,x1,x2,x3,x4,x5,x6,x7,x8⟩:=Nine.box rt
    clear hP hY KC hb1
    go_upto_region 4 with fail
    rw [← HY.out]
    go_wp2_with fail
    refine KY.mono ?_
    rintro e w2 ⟨r1,s1,v1,r2,v2,r3,v3,rfl,hb2,hO2⟩
    have z2:=hb2.size
    obtain ⟨V,hV⟩:∃ V,V=w2.alloc (.cells #[.int .i64 t.K,.int .i64 t.N,.string t.S,.string t.Z,.int .i64 t.T.K,.int .i64 t.T.N,.slice r1 s1 v1,.slice r2 l2 v2,.slice r3 l3 v3] 34):=⟨_,rfl⟩
    have hVb:Below w2.heap.size w2 V:=by rw [hV];exact (Below.refl _ _).alloc (Nat.le_refl _) _
    have hVs:V.heap.size=w2.heap.size+1:=by rw [hV];simp
    have hV0:V.heap[w2.heap.size]?=some (.cells #[.int .i64 t.K,.int .i64 t.N,.string t.S,.string t.Z,.int .i64 t.T.K,.int .i64 t.T.N,.slice r1 s1 v1,.slice r2 l2 v2,.slice r3 l3 v3] 34 (0,0)):=by rw [hV];exact heap_new rfl
    have HV:Hid (V=_):=hV
    have HQ:Hid (X.heap.size≤w2.heap.size):=by show _≤_;omega
    have hS0:SpS X V w2.heap.size X.heap.size t:=by
      obtain ⟨bn,hfO,hnd,hrg⟩:=hO2
      refine ⟨hYX.trans ((hb2.trans (hVb.mono z2)).mono (by omega)),⟨_,hV0,by simp⟩,bn,D+1,d,⟨r1,s1,v1,r2,l2,v2,r3,l3,v3,Nine.box hV0,FldO.keep (fun k hk=>hVb.block k (hrg k hk).2) hfO⟩,hnd,fun hh=>by have:=(hrg _ hh).2;omega,fun g hg=>by have:=hrg g hg;omega⟩
    clear x0 x1 x2 x3 x4 x5 x6 x7 x8 hV0 hO2 hVb hV rt KY hb2
    go_upto_region 5 with fail
    rw [← HV.out]
    go_wp2_with fail
    generalize w2.heap.size=q at *
    go_loopw [7] (fun y wr=>∃ i:Nat,y=.int .i64 i∧i≤l3∧Hid (∀ j (hj:j < t.A.length),j < i→(betaM l t.A[j]).2=false)∧Hid (SpS X wr q X.heap.size t)) (fun y _=>l3 - (intOf y).toNat)
    case atStart=>exact ⟨0,rfl,by omega,fun _ _ h=>by omega,hS0⟩
    case round =>
      obtain ⟨i,rfl,hi,hno,hS⟩:=hrel
      have hbr:=hS.out.bel
      have hzr:=hbr.size
      have tt:=(hbr.block w.heap.size (by omega)).trans hX0
      obtain ⟨x0,x1,x2,x3,x4,x5,x6,x7,x8⟩:=Nine.box tt
      have hbw:Below w.heap.size w wr:=hXb.trans (hbr.mono (by omega))
      by_cases hlt:i < l3
      · have hlt':i < t.A.length:=by have:=HL.out;omega
        obtain ⟨g,og,rfl,_,hgB,q1,n1,k1,q2,n2,k2,q3,n3,k3,y9,hf1⟩:=hf.m.get i hlt'
        obtain ⟨mj,hmj,_⟩:=(nodesM_get HHM.out.1).2 i hlt'
        obtain ⟨nj,hnj,hnj2⟩:=nodes24 HHM.out.2 hlt'
        rw [paGet hlt'] at hnj
        have KI:=IH D (d - 1) L B t.A[i] q1 n1 k1 q2 n2 k2 q3 n3 k3 mj nj wr (by omega) (Fm.below hbw hB hf1) hmj hnj (by omega) (by have:=cntMS_get t.A i hlt';have:=cntM_eq t;omega)
        obtain ⟨u0,u1,u2,u3,u4,u5,u6,u7,u8⟩:=y9.below hbw (by omega)
        have hil:(i:Int) < (l3:Int):=by omega
        have HI1:Hid (i+1≤l3):=by show _≤_;omega
        obtain ⟨R,hR⟩:∃ R,betaM l t.A[i]=R:=⟨_,rfl⟩
        rw [hR] at KI
        have HRI:Hid (betaM l t.A[i]=R):=hR
        obtain ⟨P,ok⟩:=R
        clear hR
        go_wp2_with fail
        refine KI.mono ?_
        rintro e w3 ⟨D6,d6,za,la,ca,zb,lb,cb,zc,lc,cc,rfl,hb3,hO3⟩
        have z3:=hb3.size
        obtain ⟨A,hA⟩:∃ A,A=w3.alloc (.cells #[.int .i64 P.K,.int .i64 P.N,.string P.S,.string P.Z,.int .i64 P.T.K,.int .i64 P.T.N,.slice za la ca,.slice zb lb cb,.slice zc lc cc] 34):=⟨_,rfl⟩
        have hAb:Below w3.heap.size w3 A:=by rw [hA];exact (Below.refl _ _).alloc (Nat.le_refl _) _
        have hAs:A.heap.size=w3.heap.size+1:=by rw [hA];simp
        have hA0:A.heap[w3.heap.size]?=some (.cells #[.int .i64 P.K,.int .i64 P.N,.string P.S,.string P.Z,.int .i64 P.T.K,.int .i64 P.T.N,.slice za la ca,.slice zb lb cb,.slice zc lc cc] 34 (0,0)):=by rw [hA];exact heap_new rfl
        have HA:Hid (A=_):=hA
        have hbA:Below wr.heap.size wr A:=hb3.trans (hAb.mono z3)
        have hSA:=hS.out.below hbA
        have hbAX:Below X.heap.size X A:=hbr.trans (hbA.mono hzr)
        have tA:=(hbA.block w.heap.size (by omega)).trans tt
        clear KI x0 x1 x2 x3 x4 x5 x6 x7 x8 u0 u1 u2 u3 u4 u5 u6 u7 u8 hb3 hA tt
        cases ok with
        | false =>
          have HNO2:Hid (∀ j (hj:j < t.A.length),j < i+1→(betaM l t.A[j]).2=false):=fun j hj hji=>by
            by_cases e:j=i
            · subst e;rw [HRI.out]
            · exact hno.out j hj (by omega)
          have HSA:Hid (SpS X A q X.heap.size t):=hSA
          clear hO3 hSA hA0
          obtain ⟨x0,x1,x2,x3,x4,x5,x6,x7,x8⟩:=Nine.box tA
          go_upto_region 9 with fail
          rw [← HA.out]
          go_wp2_with fail
          go_roundw
          case rel=>exact ⟨i+1,by go_num,HI1.out,HNO2,HSA⟩
          case measure=>have:=HI1.out;simp [intOf];omega
        | true =>
          obtain ⟨gR,lR,cR,hc8,hlR,hgRl,hgRz,hgRq,⟨csR,hrR⟩,⟨yR,v6,v7,v8,h9R⟩,hput⟩:=sps_part (hS.out) (Nat.le_refl _) HQ.out (i:=i) hlt'
          have hlR3:lR=l3:=by have:=HL.out;omega
          subst hlR3
          have hql:q < wr.heap.size:=by obtain ⟨cs,hq1,_⟩:=(hS.out).row;exact (Array.getElem?_eq_some_iff.1 hq1).1
          have hq8:=(bcell hbA hql 8).trans hc8
          obtain ⟨g0,g1,g2,g3,g4,g5,g6,g7,g8⟩:=h9R.below hbA hgRl
          have gf:=row_free ((hbA.block gR hgRl).trans hrR)
          have hOA:FmO wr.heap.size A.heap.size A D6 d6 P za la zb lb zc lc:=by
            obtain ⟨bn,hfO,hnd,hrg⟩:=hO3
            exact ⟨bn,FldO.keep (fun g hg=>hAb.block g (hrg g hg).2) hfO,hnd,fun g hg=>by have:=hrg g hg;omega⟩
          have hbl:w3.heap.size < A.heap.size:=by omega
          obtain ⟨e0,e1',e2',e3',e4,e5,e6,e7,e8⟩:=Nine.box hA0
          have HPUT:Hid (∀ W,W=set9 A gR (i * 9) (.int .i64 P.K) (.int .i64 P.N) (.string P.S) (.string P.Z) (.int .i64 P.T.K) (.int .i64 P.T.N) (.slice za la ca) (.slice zb lb cb) (.slice zc lc cc)→SpS X W q X.heap.size (setP t [i] P)):=fun W hW=>hput A W P D6 d6 wr.heap.size za la ca zb lb cb zc lc cc hbA (Nat.le_refl _) hOA hW (by omega)
          have HRB:Hid (betaM (l+1) t=(setP t [i] P,true)):=by
            show _=_
            have h2:(hereM t).2=false:=by rw [HR.out]
            rw [betaM_part h2 hlt' (fun j hj hji=>hno.out j hj hji) (by rw [HRI.out]),HRI.out]
            simp only [setP]
            rw [dif_pos hlt']
          clear hO3 hOA hput hSA hS tA
          go_upto_region 10 with fail
          rw [← HA.out]
          go_upto_region 11 with fail
          obtain ⟨W,hW⟩:∃ W,W=((((((((A.setCell ⟨gR,i * 9,none⟩ (.int .i64 P.K)).setCell ⟨gR,i * 9+1,none⟩ (.int .i64 P.N)).setCell ⟨gR,i * 9+2,none⟩ (.string P.S)).setCell ⟨gR,i * 9+3,none⟩ (.string P.Z)).setCell ⟨gR,i * 9+4,none⟩ (.int .i64 P.T.K)).setCell ⟨gR,i * 9+5,none⟩ (.int .i64 P.T.N)).setCell ⟨gR,i * 9+6,none⟩ (.slice za la ca)).setCell ⟨gR,i * 9+7,none⟩ (.slice zb lb cb)).setCell ⟨gR,i * 9+8,none⟩ (.slice zc lc cc):=⟨_,rfl⟩
          have hSW:=HPUT.out W hW
          have HW:Hid (W=_):=hW
          rw [← HW.out]
          clear hW HPUT g0 g1 g2 g3 g4 g5 g6 g7 g8 e0 e1' e2' e3' e4 e5 e6 e7 e8 gf hq8
          obtain ⟨T,hT⟩:∃ T,setP t [i] P=T:=⟨_,rfl⟩
          rw [hT] at hSW HRB
          clear hT
          obtain ⟨bsT,D7,d7,⟨za,la,ca,zb,lb,cb,zc,lc,cc,h9T,hfT⟩,hnd,hnb,hin⟩:=hSW.tree
          have hbWX:=hSW.bel
          have rr:=(hbWX.block (w.heap.size+1) (by omega)).trans hX1
          obtain ⟨y0,y1,y2,y3,y4,y5,y6,y7,y8⟩:=Nine.box rr
          have yf:=row_free rr
          obtain ⟨t0,t1,t2,t3,t4,t5,t6,t7,t8⟩:=h9T
          have HFIN:Hid (∀ W',W'=set9 W (w.heap.size+1) 0 (.int .i64 T.K) (.int .i64 T.N) (.string T.S) (.string T.Z) (.int .i64 T.T.K) (.int .i64 T.T.N) (.slice za la ca) (.slice zb lb cb) (.slice zc lc cc)→PutE w W' (.returned (.tuple #[.agg #[.int .i64 T.K,.int .i64 T.N,.string T.S,.string T.Z,.int .i64 T.T.K,.int .i64 T.T.N,.slice za la ca,.slice zb lb cb,.slice zc lc cc],.bool true])) (betaM (l+1) t)):=fun W' hW'=>put_finB (X:=X) (hXb.trans (hbWX.mono (by omega))) (by omega) hfT hnd (fun g hg=>by have:=hin g hg;omega) HRB.out W' hW'
          clear hfT hnd hnb hin hSW
          go_wp2_with fail
          (try simp only [Exit.inBlock,Exit.then]);refine bodyPost_ret (v:=.tuple #[.agg #[.int .i64 T.K,.int .i64 T.N,.string T.S,.string T.Z,.int .i64 T.T.K,.int .i64 T.T.N,.slice za la ca,.slice zb lb cb,.slice zc lc cc],.bool true]) (by simp [results,Tryz.results18,go_sem,y0,y1,y2,y3,y4,y5,y6,y7,y8]) rfl ?_
          exact HFIN.out _ rfl
      · have hno2:∀ j (hj:j < t.A.length),(betaM l t.A[j]).2=false:=fun j hj=>hno.out j hj (by have:=HL.out;omega)
        have HRB:Hid (betaM (l+1) t=(t,false)):=by
          show _=_
          have h2:(hereM t).2=false:=by rw [HR.out]
          exact betaM_none h2 hno2
        obtain ⟨bsT,D7,d7,⟨za,la,ca,zb,lb,cb,zc,lc,cc,h9T,hfT⟩,hnd,hnb,hin⟩:=hS.out.tree
        have rr:=(hbr.block (w.heap.size+1) (by omega)).trans hX1
        obtain ⟨y0,y1,y2,y3,y4,y5,y6,y7,y8⟩:=Nine.box rr
        have yf:=row_free rr
        obtain ⟨t0,t1,t2,t3,t4,t5,t6,t7,t8⟩:=h9T
        have HFIN:Hid (∀ W',W'=set9 wr (w.heap.size+1) 0 (.int .i64 t.K) (.int .i64 t.N) (.string t.S) (.string t.Z) (.int .i64 t.T.K) (.int .i64 t.T.N) (.slice za la ca) (.slice zb lb cb) (.slice zc lc cc)→PutE w W' (.returned (.tuple #[.agg #[.int .i64 t.K,.int .i64 t.N,.string t.S,.string t.Z,.int .i64 t.T.K,.int .i64 t.T.N,.slice za la ca,.slice zb lb cb,.slice zc lc cc],.bool false])) (betaM (l+1) t)):=fun W' hW'=>put_finB (X:=X) hbw (by omega) hfT hnd (fun g hg=>by have:=hin g hg;omega) HRB.out W' hW'
        clear hno2 hfT hin hnd hnb
        go_wp2_with fail
        (try simp only [Exit.inBlock,Exit.then]);refine bodyPost_ret (v:=.tuple #[.agg #[.int .i64 t.K,.int .i64 t.N,.string t.S,.string t.Z,.int .i64 t.T.K,.int .i64 t.T.N,.slice za la ca,.slice zb lb cb,.slice zc lc cc],.bool false]) (by simp [results,Tryz.results18,go_sem,y0,y1,y2,y3,y4,y5,y6,y7,y8]) rfl ?_
        exact HFIN.out _ rfl
theorem sbeta_any (SP:∀ l,SaidSput l):∀ l,SaidSbeta l:=by
  intro l
  induction l with
  | zero =>
    intro D d L B t a1 l1 c1 a2 l2 c2 a3 l3 c3 m n w _ _ hm
    simp [nodesM] at hm
  | succ l ih=>exact sbeta_step SP l ih
end Go.Proofs.YtcepgedbmffkdaaGreat
