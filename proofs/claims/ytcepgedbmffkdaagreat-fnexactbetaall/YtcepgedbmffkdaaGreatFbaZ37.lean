/-
  What the model's 'Beta' comes to.
-/
import Derived.Test.YtcepgedbmffkdaaGreatFbaZ27
import Derived.Test.YtcepgedbmffkdaaGreatFbaBt2
import Derived.Test.YtcepgedbmffkdaaGreatFbaZ20
namespace Go.Proofs.YtcepgedbmffkdaaGreat
open Go.RowKit
set_option linter.unusedVariables false
set_option linter.unusedSimpArgs false
set_option maxRecDepth 100000 in
set_option maxHeartbeats 16000000 in
theorem sBeta_any (SP:∀ l,SaidSput l) (D d L B:Nat) (t:Tm) (a1:Option Addr) (l1 c1:Nat) (a2:Option Addr) (l2 c2:Nat) (a3:Option Addr) (l3 c3:Nat) (w:World) (hB:B≤w.heap.size) (hf:Fm L B w D d t a1 l1 a2 l2 a3 l3) (hct:cntM t≤1048576) :
    Calls Tryz.prog 6 #[.agg #[.int .i64 t.K,.int .i64 t.N,.string t.S,.string t.Z,.int .i64 t.T.K,.int .i64 t.T.N,.slice a1 l1 c1,.slice a2 l2 c2,.slice a3 l3 c3]] w fun e w'=>PutE w w' e (betaT t):=by
  obtain ⟨X,hX⟩:∃ X,X=(w.alloc (.cells #[.int .i64 t.K,.int .i64 t.N,.string t.S,.string t.Z,.int .i64 t.T.K,.int .i64 t.T.N,.slice a1 l1 c1,.slice a2 l2 c2,.slice a3 l3 c3] 34)).alloc (.cells #[.int .i64 0,.int .i64 0,.string ⟨#[]⟩,.string ⟨#[]⟩,.int .i64 0,.int .i64 0,.slice none 0 0,.slice none 0 0,.slice none 0 0] 34):=⟨_,rfl⟩
  have hXs:X.heap.size=w.heap.size+2:=by rw [hX];simp
  have hXb:Below w.heap.size w X:=by rw [hX];exact ((Below.refl _ _).alloc (Nat.le_refl _) _).alloc (by simp) _
  have hX0:X.heap[w.heap.size]?=some (.cells #[.int .i64 t.K,.int .i64 t.N,.string t.S,.string t.Z,.int .i64 t.T.K,.int .i64 t.T.N,.slice a1 l1 c1,.slice a2 l2 c2,.slice a3 l3 c3] 34 (0,0)):=by rw [hX,Below.heap_alloc _ _ _ (by simp)];exact heap_new rfl
  have hX1:X.heap[w.heap.size+1]?=some (.cells #[.int .i64 0,.int .i64 0,.string ⟨#[]⟩,.string ⟨#[]⟩,.int .i64 0,.int .i64 0,.slice none 0 0,.slice none 0 0,.slice none 0 0] 34 (0,0)):=by rw [hX];exact heap_new (by simp)
  have HX:Hid (X=_):=hX
  clear hX
  have hBX:B≤X.heap.size:=by omega
  have hfX:=Fm.below hXb hB hf
  obtain ⟨x0,x1,x2,x3,x4,x5,x6,x7,x8⟩:=Nine.box hX0
  have K1:=sReady_any D d L B t a1 l1 c1 a2 l2 c2 a3 l3 c3 X hBX hfX
  obtain ⟨rd,hrd⟩:∃ rd,rdyM t=rd:=⟨_,rfl⟩
  rw [hrd] at K1
  have HRD:Hid (rdyM t=rd):=hrd
  go_enter Tryz.func6,Tryz.ntmps6
  go_upto_region 1 with fail
  rw [← HX.out]
  go_wp2_with fail
  refine K1.mono ?_
  rintro e w1 ⟨rfl,hb1⟩
  have z1:=hb1.size
  clear K1 x0 x1 x2 x3 x4 x5 x6 x7 x8 hrd
  cases rd with
  | false =>
    have rr:=(hb1.block (w.heap.size+1) (by omega)).trans hX1
    obtain ⟨y0,y1,y2,y3,y4,y5,y6,y7,y8⟩:=Nine.box rr
    have yf:=row_free rr
    have HFIN:Hid (PutE w (((((((((w1.setCell ⟨w.heap.size+1,0,none⟩ (.int .i64 0)).setCell ⟨w.heap.size+1,1,none⟩ (.int .i64 0)).setCell ⟨w.heap.size+1,2,none⟩ (.string ⟨#[]⟩)).setCell ⟨w.heap.size+1,3,none⟩ (.string ⟨#[]⟩)).setCell ⟨w.heap.size+1,4,none⟩ (.int .i64 0)).setCell ⟨w.heap.size+1,5,none⟩ (.int .i64 0)).setCell ⟨w.heap.size+1,6,none⟩ (.slice none 0 0)).setCell ⟨w.heap.size+1,7,none⟩ (.slice none 0 0)).setCell ⟨w.heap.size+1,8,none⟩ (.slice none 0 0)) (.returned (.tuple #[.agg #[.int .i64 0,.int .i64 0,.string ⟨#[]⟩,.string ⟨#[]⟩,.int .i64 0,.int .i64 0,.slice none 0 0,.slice none 0 0,.slice none 0 0],.bool false])) (betaT t)):=by
      show PutE _ _ _ _
      rw [betaT_not HRD.out]
      exact put_none (hXb.trans (hb1.mono (by omega))) (by omega) rr
    go_wp2_with fail
    (try simp only [Exit.inBlock,Exit.then]);refine bodyPost_ret (v:=.tuple #[.agg #[.int .i64 0,.int .i64 0,.string ⟨#[]⟩,.string ⟨#[]⟩,.int .i64 0,.int .i64 0,.slice none 0 0,.slice none 0 0,.slice none 0 0],.bool false]) (by simp [results,Tryz.results6,go_sem,y0,y1,y2,y3,y4,y5,y6,y7,y8]) rfl ?_
    exact HFIN.out
  | true =>
    obtain ⟨n,hn,hn2⟩:=okM_some (rdyM_ok HRD.out)
    have KB:=sbeta_any SP 24 D d L B t a1 l1 c1 a2 l2 c2 a3 l3 c3 n n w1 (by omega) (Fm.below hb1 hBX hfX) hn hn (by omega) hct
    obtain ⟨R,hR⟩:∃ R,betaM 24 t=R:=⟨_,rfl⟩
    rw [hR] at KB
    have HR:Hid (betaM 24 t=R):=hR
    obtain ⟨P,ok⟩:=R
    have rt:=(hb1.block w.heap.size (by omega)).trans hX0
    obtain ⟨x0,x1,x2,x3,x4,x5,x6,x7,x8⟩:=Nine.box rt
    clear hR
    go_wp2_with fail
    refine KB.mono ?_
    rintro e w2 ⟨D6,d6,za,la,ca,zb,lb,cb,zc,lc,cc,rfl,hb2,hO2⟩
    have z2:=hb2.size
    clear KB x0 x1 x2 x3 x4 x5 x6 x7 x8
    obtain ⟨Y,hY⟩:∃ Y,Y=w2.alloc (.cells #[.int .i64 P.K,.int .i64 P.N,.string P.S,.string P.Z,.int .i64 P.T.K,.int .i64 P.T.N,.slice za la ca,.slice zb lb cb,.slice zc lc cc] 34):=⟨_,rfl⟩
    have hYb:Below w2.heap.size w2 Y:=by rw [hY];exact (Below.refl _ _).alloc (Nat.le_refl _) _
    have hYs:Y.heap.size=w2.heap.size+1:=by rw [hY];simp
    have hY0:Y.heap[w2.heap.size]?=some (.cells #[.int .i64 P.K,.int .i64 P.N,.string P.S,.string P.Z,.int .i64 P.T.K,.int .i64 P.T.N,.slice za la ca,.slice zb lb cb,.slice zc lc cc] 34 (0,0)):=by rw [hY];exact heap_new rfl
    have HY:Hid (Y=_):=hY
    clear hY
    have hYX:Below X.heap.size X Y:=hb1.trans ((hb2.trans (hYb.mono z2)).mono z1)
    have hYw:Below w.heap.size w Y:=hXb.trans (hYX.mono (by omega))
    cases ok with
    | false =>
      have KC:=lm_any D d L B t a1 l1 c1 a2 l2 c2 a3 l3 c3 Y (by have:=(hYX).size;omega) (Fm.below hYX hBX hfX) hct
      have rt:=(hYX).block w.heap.size (by omega) |>.trans hX0
      obtain ⟨x0,x1,x2,x3,x4,x5,x6,x7,x8⟩:=Nine.box rt
      go_upto_region 4 with fail
      rw [← HY.out]
      go_wp2_with fail
      refine KC.mono ?_
      rintro e w9 ⟨r1,s1,v1,r2,v2,r3,v3,rfl,hb9,hO9⟩
      have z9:=hb9.size
      have hwz:=(hYX).size
      have rr:=(hb9.block (w.heap.size+1) (by omega)).trans ((hYX).block (w.heap.size+1) (by omega) |>.trans hX1)
      obtain ⟨y0,y1,y2,y3,y4,y5,y6,y7,y8⟩:=Nine.box rr
      have yf:=row_free rr
      have HFIN:Hid (PutE w (set9 w9 (w.heap.size+1) 0 (.int .i64 t.K) (.int .i64 t.N) (.string t.S) (.string t.Z) (.int .i64 t.T.K) (.int .i64 t.T.N) (.slice r1 s1 v1) (.slice r2 l2 v2) (.slice r3 l3 v3)) (.returned (.tuple #[.agg #[.int .i64 t.K,.int .i64 t.N,.string t.S,.string t.Z,.int .i64 t.T.K,.int .i64 t.T.N,.slice r1 s1 v1,.slice r2 l2 v2,.slice r3 l3 v3],.bool false])) (betaT t)):=by
        obtain ⟨bn,hfO,hnd,hrg⟩:=hO9
        exact put_finP ((hYw).trans (hb9.mono (by omega))) (by omega) hfO hnd (fun g hg=>by have:=hrg g hg;omega) (betaT_no HRD.out (by rw [HR.out])) _ rfl
      clear x0 x1 x2 x3 x4 x5 x6 x7 x8 KC hO9
      go_wp2_with fail
      (try simp only [Exit.inBlock,Exit.then]);refine bodyPost_ret (v:=.tuple #[.agg #[.int .i64 t.K,.int .i64 t.N,.string t.S,.string t.Z,.int .i64 t.T.K,.int .i64 t.T.N,.slice r1 s1 v1,.slice r2 l2 v2,.slice r3 l3 v3],.bool false]) (by simp [results,Tryz.results6,go_sem,y0,y1,y2,y3,y4,y5,y6,y7,y8]) rfl ?_
      exact HFIN.out
    | true =>
      obtain ⟨bn,hfO,hnd,hrg⟩:=hO2
      have hfY:=FldO.keep (fun k hk=>hYb.block k (hrg k hk).2) hfO
      have KT:=sTermOk_any D6 d6 0 w2.heap.size P za la ca zb lb cb zc lc cc Y (by omega) (FmO.fm ⟨bn,hfY,hnd,fun k hk=>⟨by omega,(hrg k hk).2⟩⟩)
      obtain ⟨oT,hoT⟩:∃ oT,okM P=oT:=⟨_,rfl⟩
      rw [hoT] at KT
      have HOT:Hid (okM P=oT):=hoT
      obtain ⟨q0,q1,q2,q3,q4,q5,q6,q7,q8⟩:=Nine.box hY0
      clear hoT
      go_upto_region 4 with fail
      rw [← HY.out]
      go_wp2_with fail
      refine KT.mono ?_
      rintro e w3 ⟨rfl,hb3⟩
      have z3:=hb3.size
      have h3X:Below X.heap.size X w3:=hYX.trans (hb3.mono (by omega))
      have h3w:Below w.heap.size w w3:=hYw.trans (hb3.mono (by omega))
      clear KT q0 q1 q2 q3 q4 q5 q6 q7 q8
      cases oT with
      | false =>
        have KC:=lm_any D d L B t a1 l1 c1 a2 l2 c2 a3 l3 c3 w3 (by have:=(h3X).size;omega) (Fm.below h3X hBX hfX) hct
        have rt:=(h3X).block w.heap.size (by omega) |>.trans hX0
        obtain ⟨x0,x1,x2,x3,x4,x5,x6,x7,x8⟩:=Nine.box rt
        go_wp2_with fail
        refine KC.mono ?_
        rintro e w9 ⟨r1,s1,v1,r2,v2,r3,v3,rfl,hb9,hO9⟩
        have z9:=hb9.size
        have hwz:=(h3X).size
        have rr:=(hb9.block (w.heap.size+1) (by omega)).trans ((h3X).block (w.heap.size+1) (by omega) |>.trans hX1)
        obtain ⟨y0,y1,y2,y3,y4,y5,y6,y7,y8⟩:=Nine.box rr
        have yf:=row_free rr
        have HFIN:Hid (PutE w (set9 w9 (w.heap.size+1) 0 (.int .i64 t.K) (.int .i64 t.N) (.string t.S) (.string t.Z) (.int .i64 t.T.K) (.int .i64 t.T.N) (.slice r1 s1 v1) (.slice r2 l2 v2) (.slice r3 l3 v3)) (.returned (.tuple #[.agg #[.int .i64 t.K,.int .i64 t.N,.string t.S,.string t.Z,.int .i64 t.T.K,.int .i64 t.T.N,.slice r1 s1 v1,.slice r2 l2 v2,.slice r3 l3 v3],.bool false])) (betaT t)):=by
          obtain ⟨bn,hfO,hnd,hrg⟩:=hO9
          exact put_finP ((h3w).trans (hb9.mono (by omega))) (by omega) hfO hnd (fun g hg=>by have:=hrg g hg;omega) (betaT_big HRD.out (by rw [HR.out];exact HOT.out)) _ rfl
        clear x0 x1 x2 x3 x4 x5 x6 x7 x8 KC hO9
        go_wp2_with fail
        (try simp only [Exit.inBlock,Exit.then]);refine bodyPost_ret (v:=.tuple #[.agg #[.int .i64 t.K,.int .i64 t.N,.string t.S,.string t.Z,.int .i64 t.T.K,.int .i64 t.T.N,.slice r1 s1 v1,.slice r2 l2 v2,.slice r3 l3 v3],.bool false]) (by simp [results,Tryz.results6,go_sem,y0,y1,y2,y3,y4,y5,y6,y7,y8]) rfl ?_
        exact HFIN.out
      | true =>
        have rr:=(h3X.block (w.heap.size+1) (by omega)).trans hX1
        obtain ⟨y0,y1,y2,y3,y4,y5,y6,y7,y8⟩:=Nine.box rr
        have yf:=row_free rr
        obtain ⟨q0,q1,q2,q3,q4,q5,q6,q7,q8⟩:=Nine.box ((hb3.block w2.heap.size (by omega)).trans hY0)
        have HFIN:Hid (PutE w (set9 w3 (w.heap.size+1) 0 (.int .i64 P.K) (.int .i64 P.N) (.string P.S) (.string P.Z) (.int .i64 P.T.K) (.int .i64 P.T.N) (.slice za la ca) (.slice zb lb cb) (.slice zc lc cc)) (.returned (.tuple #[.agg #[.int .i64 P.K,.int .i64 P.N,.string P.S,.string P.Z,.int .i64 P.T.K,.int .i64 P.T.N,.slice za la ca,.slice zb lb cb,.slice zc lc cc],.bool true])) (betaT t)) :=
          put_finP h3w (by omega) (FldO.keep (fun k hk=>hb3.block k (by have:=hrg k hk;omega)) hfY) hnd (fun g hg=>by have:=hrg g hg;omega) (by rw [betaT_yes HRD.out (by rw [HR.out]) (by rw [HR.out];exact HOT.out),HR.out]) _ rfl
        clear hfO hnd hrg hfY
        go_wp2_with fail
        (try simp only [Exit.inBlock,Exit.then]);refine bodyPost_ret (v:=.tuple #[.agg #[.int .i64 P.K,.int .i64 P.N,.string P.S,.string P.Z,.int .i64 P.T.K,.int .i64 P.T.N,.slice za la ca,.slice zb lb cb,.slice zc lc cc],.bool true]) (by simp [results,Tryz.results6,go_sem,y0,y1,y2,y3,y4,y5,y6,y7,y8]) rfl ?_
        exact HFIN.out
end Go.Proofs.YtcepgedbmffkdaaGreat

/-
  What the model's 'BetaAll' comes to.
-/
namespace Go.Proofs.YtcepgedbmffkdaaGreat
open Go.RowKit
set_option linter.unusedVariables false
set_option linter.unusedSimpArgs false
set_option maxRecDepth 100000 in
set_option maxHeartbeats 16000000 in
theorem sBetaAll_any (SP:∀ l,SaidSput l) (D d L B:Nat) (t:Tm) (a1:Option Addr) (l1 c1:Nat) (a2:Option Addr) (l2 c2:Nat) (a3:Option Addr) (l3 c3:Nat) (w:World) (hB:B≤w.heap.size) (hf:Fm L B w D d t a1 l1 a2 l2 a3 l3) (hct:cntM t≤1048576) :
    Calls Tryz.prog 12 #[.agg #[.int .i64 t.K,.int .i64 t.N,.string t.S,.string t.Z,.int .i64 t.T.K,.int .i64 t.T.N,.slice a1 l1 c1,.slice a2 l2 c2,.slice a3 l3 c3]] w fun e w'=>∃ D' d',NewM w D' d' (betaAllT t) e w':=by
  obtain ⟨X,hX⟩:∃ X,X=(w.alloc (.cells #[.int .i64 t.K,.int .i64 t.N,.string t.S,.string t.Z,.int .i64 t.T.K,.int .i64 t.T.N,.slice a1 l1 c1,.slice a2 l2 c2,.slice a3 l3 c3] 34)).alloc (.cells #[.int .i64 0,.int .i64 0,.string ⟨#[]⟩,.string ⟨#[]⟩,.int .i64 0,.int .i64 0,.slice none 0 0,.slice none 0 0,.slice none 0 0] 34):=⟨_,rfl⟩
  have hXs:X.heap.size=w.heap.size+2:=by rw [hX];simp
  have hXb:Below w.heap.size w X:=by rw [hX];exact ((Below.refl _ _).alloc (Nat.le_refl _) _).alloc (by simp) _
  have hX0:X.heap[w.heap.size]?=some (.cells #[.int .i64 t.K,.int .i64 t.N,.string t.S,.string t.Z,.int .i64 t.T.K,.int .i64 t.T.N,.slice a1 l1 c1,.slice a2 l2 c2,.slice a3 l3 c3] 34 (0,0)):=by rw [hX,Below.heap_alloc _ _ _ (by simp)];exact heap_new rfl
  have hX1:X.heap[w.heap.size+1]?=some (.cells #[.int .i64 0,.int .i64 0,.string ⟨#[]⟩,.string ⟨#[]⟩,.int .i64 0,.int .i64 0,.slice none 0 0,.slice none 0 0,.slice none 0 0] 34 (0,0)):=by rw [hX];exact heap_new (by simp)
  have HX:Hid (X=_):=hX
  clear hX
  have hBX:B≤X.heap.size:=by omega
  obtain ⟨rd,hrd⟩:∃ rd,rdyM t=rd:=⟨_,rfl⟩
  have HRD:Hid (rdyM t=rd):=hrd
  obtain ⟨x0,x1,x2,x3,x4,x5,x6,x7,x8⟩:=Nine.box hX0
  have hfX:=Fm.below hXb hB hf
  clear hrd
  go_enter Tryz.func12,Tryz.ntmps12
  go_upto_region 1 with fail
  rw [← HX.out]
  have KC:=lm_any D d L B t a1 l1 c1 a2 l2 c2 a3 l3 c3 X (by have:=(Below.refl X.heap.size X).size;omega) (Fm.below (Below.refl X.heap.size X) hBX hfX) hct
  go_wp2_with fail
  refine KC.mono ?_
  rintro e w2 ⟨r1,s1,v1,r2,v2,r3,v3,rfl,hb2,hO2⟩
  have z2:=hb2.size
  have hwz:=(Below.refl X.heap.size X).size
  obtain ⟨V,hV⟩:∃ V,V=w2.alloc (.cells #[.int .i64 t.K,.int .i64 t.N,.string t.S,.string t.Z,.int .i64 t.T.K,.int .i64 t.T.N,.slice r1 s1 v1,.slice r2 l2 v2,.slice r3 l3 v3] 34):=⟨_,rfl⟩
  have hVb:Below w2.heap.size w2 V:=by rw [hV];exact (Below.refl _ _).alloc (Nat.le_refl _) _
  have hVs:V.heap.size=w2.heap.size+1:=by rw [hV];simp
  have hV0:V.heap[w2.heap.size]?=some (.cells #[.int .i64 t.K,.int .i64 t.N,.string t.S,.string t.Z,.int .i64 t.T.K,.int .i64 t.T.N,.slice r1 s1 v1,.slice r2 l2 v2,.slice r3 l3 v3] 34 (0,0)):=by rw [hV];exact heap_new rfl
  have HV:Hid (V=_):=hV
  have HQ:Hid (X.heap.size≤w2.heap.size):=by show _≤_;omega
  have hS0:SpS X V w2.heap.size X.heap.size t:=by
    obtain ⟨bn,hfO,hnd,hrg⟩:=hO2
    refine ⟨(Below.refl X.heap.size X).trans ((hb2.trans (hVb.mono z2)).mono (by omega)),⟨_,hV0,by simp⟩,bn,D+1,d,⟨r1,s1,v1,r2,l2,v2,r3,l3,v3,Nine.box hV0,FldO.keep (fun k hk=>hVb.block k (hrg k hk).2) hfO⟩,hnd,fun hh=>by have:=(hrg _ hh).2;omega,fun g hg=>by have:=hrg g hg;omega⟩
  clear x0 x1 x2 x3 x4 x5 x6 x7 x8 hV0 hO2 hVb hV KC
  go_upto_region 2 with fail
  rw [← HV.out]
  cases rd with
  | false =>
    have HRB:Hid (betaAllT t=t):=by show _=_;unfold betaAllT;rw [if_neg (by rw [HRD.out];simp)]
    go_wp2_with fail
    generalize w2.heap.size=q at *
    go_loopw [4] (fun y wr=>y=.int .i64 0∧Hid (SpS X wr q X.heap.size t)) (fun y _=>150 - (intOf y).toNat)
    case atStart=>exact ⟨rfl,hS0⟩
    case round =>
      obtain ⟨rfl,hS⟩:=hrel
      have hbr:=hS.out.bel
      have hzr:=hbr.size
      have tt:=(hbr.block w.heap.size (by omega)).trans hX0
      obtain ⟨x0,x1,x2,x3,x4,x5,x6,x7,x8⟩:=Nine.box tt
      have KR:=sReady_any D d L B t a1 l1 c1 a2 l2 c2 a3 l3 c3 wr (by omega) (Fm.below hbr hBX hfX)
      rw [HRD.out] at KR
      go_wp2_with fail
      refine KR.mono ?_
      rintro e w5 ⟨rfl,hb5⟩
      have hS:Hid (SpS X w5 q X.heap.size t):=hS.out.below hb5
      have hbr:=hS.out.bel
      have hzr:=hbr.size
      clear KR x0 x1 x2 x3 x4 x5 x6 x7 x8
      obtain ⟨bN,D8,d8,⟨za,la,ca,zb,lb,cb,zc,lc,cc,h9N,hfN⟩,hndN,hnbN,hinN⟩:=hS.out.tree
      have rr:=(hbr.block (w.heap.size+1) (by omega)).trans hX1
      obtain ⟨y0,y1,y2,y3,y4,y5,y6,y7,y8⟩:=Nine.box rr
      have yf:=row_free rr
      have HFIN:Hid (∃ D' d',NewM w D' d' (betaAllT t) (.returned (.agg #[.int .i64 t.K,.int .i64 t.N,.string t.S,.string t.Z,.int .i64 t.T.K,.int .i64 t.T.N,.slice za la ca,.slice zb lb cb,.slice zc lc cc])) (set9 w5 (w.heap.size+1) 0 (.int .i64 t.K) (.int .i64 t.N) (.string t.S) (.string t.Z) (.int .i64 t.T.K) (.int .i64 t.T.N) (.slice za la ca) (.slice zb lb cb) (.slice zc lc cc))) :=
        new_finB (hXb.trans (hbr.mono (by omega))) (by omega) hfN hndN (fun g hg=>by have:=hinN g hg;omega) (HRB.out) _ rfl
      obtain ⟨q0,q1,q2,q3,q4,q5,q6,q7,q8⟩:=h9N
      clear hfN hndN hinN hnbN
      go_wp2_with fail
      (try simp only [Exit.inBlock,Exit.then]);refine bodyPost_ret (v:=.agg #[.int .i64 t.K,.int .i64 t.N,.string t.S,.string t.Z,.int .i64 t.T.K,.int .i64 t.T.N,.slice za la ca,.slice zb lb cb,.slice zc lc cc]) (by simp [results,Tryz.results12,go_sem,y0,y1,y2,y3,y4,y5,y6,y7,y8]) rfl ?_
      exact HFIN.out
  | true =>
    have HALL:Hid (allM (150 - 0) t=betaAllT t):=by show _=_;unfold betaAllT;rw [if_pos HRD.out]
    go_wp2_with fail
    generalize w2.heap.size=q at *
    go_loopw [4] (fun y wr=>∃ (i:Nat) (u:Tm),y=.int .i64 i∧i≤150∧Hid (allM (150 - i) u=betaAllT t)∧Hid (cntM u≤1048576)∧Hid (SpS X wr q X.heap.size u)) (fun y _=>150 - (intOf y).toNat)
    case atStart=>exact ⟨0,t,rfl,by omega,HALL.out,hct,hS0⟩
    case round =>
      obtain ⟨i,u,rfl,hi,hall,hcu,hS⟩:=hrel
      have hbr:=hS.out.bel
      have hzr:=hbr.size
      have hql:q < wr.heap.size:=by obtain ⟨cs,hq1,_⟩:=(hS.out).row;exact (Array.getElem?_eq_some_iff.1 hq1).1
      have tt:=(hbr.block w.heap.size (by omega)).trans hX0
      obtain ⟨x0,x1,x2,x3,x4,x5,x6,x7,x8⟩:=Nine.box tt
      have KR:=sReady_any D d L B t a1 l1 c1 a2 l2 c2 a3 l3 c3 wr (by omega) (Fm.below hbr hBX hfX)
      rw [HRD.out] at KR
      by_cases hlt:i < 150
      · obtain ⟨bsU,D7,d7,⟨xa,ka,ja,xb,kb,jb,xc,kc,jc,h9U,hfU⟩,hndU,hnbU,hinU⟩:=hS.out.tree
        have hFU:FmO X.heap.size wr.heap.size wr D7 d7 u xa ka xb kb xc kc:=⟨bsU,hfU,hndU,hinU⟩
        have H9U:Hid (Nine wr q 0 u.K u.N u.S u.Z u.T.K u.T.N (.slice xa ka ja) (.slice xb kb jb) (.slice xc kc jc)):=h9U
        have hil:(i:Int) < 150:=by omega
        have HI1:Hid (i+1≤150):=by show _≤_;omega
        clear hfU hndU hnbU hinU h9U
        go_wp2_with fail
        refine KR.mono ?_
        rintro e w5 ⟨rfl,hb5⟩
        have z5:=hb5.size
        clear KR
        obtain ⟨R,hR⟩:∃ R,betaT u=R:=⟨_,rfl⟩
        have KB:=sBeta_any SP D7 d7 X.heap.size wr.heap.size u xa ka ja xb kb jb xc kc jc w5 (by omega) (Fm.below hb5 (Nat.le_refl _) hFU.fm) hcu.out
        rw [hR] at KB
        have HR:Hid (betaT u=R):=hR
        obtain ⟨P,ok⟩:=R
        have hqW:q < (w5).heap.size:=by omega
        obtain ⟨u0,u1,u2,u3,u4,u5,u6,u7,u8⟩:=H9U.out.below hb5 hql
        clear hR
        go_wp2_with fail
        refine KB.mono ?_
        rintro e w6 ⟨D6,d6,za,la,ca,zb,lb,cb,zc,lc,cc,rfl,hb6,hO6⟩
        have z6:=hb6.size
        have hb6r:Below wr.heap.size wr w6:=hb5.trans (hb6.mono z5)
        have z6r:=hb6r.size
        obtain ⟨Y,hY⟩:∃ Y,Y=w6.alloc (.cells #[.int .i64 P.K,.int .i64 P.N,.string P.S,.string P.Z,.int .i64 P.T.K,.int .i64 P.T.N,.slice za la ca,.slice zb lb cb,.slice zc lc cc] 34):=⟨_,rfl⟩
        have hYb:Below w6.heap.size w6 Y:=by rw [hY];exact (Below.refl _ _).alloc (Nat.le_refl _) _
        have hYs:Y.heap.size=w6.heap.size+1:=by rw [hY];simp
        have hY0:Y.heap[w6.heap.size]?=some (.cells #[.int .i64 P.K,.int .i64 P.N,.string P.S,.string P.Z,.int .i64 P.T.K,.int .i64 P.T.N,.slice za la ca,.slice zb lb cb,.slice zc lc cc] 34 (0,0)):=by rw [hY];exact heap_new rfl
        have HY:Hid (Y=_):=hY
        have hYr:Below wr.heap.size wr Y:=hb6r.trans (hYb.mono z6r)
        clear hY KB u0 u1 u2 u3 u4 u5 u6 u7 u8 x0 x1 x2 x3 x4 x5 x6 x7 x8
        cases ok with
        | false =>
          have hSY:=hS.out.below hYr
          have hbY:=hSY.bel
          have hrb:betaAllT t=u:=by rw [← hall.out,allM_no (by rw [HR.out])]
          have HRB:Hid (betaAllT t=u):=hrb
          obtain ⟨bN,D8,d8,⟨za2,la2,ca2,zb2,lb2,cb2,zc2,lc2,cc2,h9N,hfN⟩,hndN,hnbN,hinN⟩:=hSY.tree
          have rr:=(hbY.block (w.heap.size+1) (by omega)).trans hX1
          obtain ⟨y0,y1,y2,y3,y4,y5,y6,y7,y8⟩:=Nine.box rr
          have yf:=row_free rr
          have HFIN:Hid (∃ D' d',NewM w D' d' (betaAllT t) (.returned (.agg #[.int .i64 u.K,.int .i64 u.N,.string u.S,.string u.Z,.int .i64 u.T.K,.int .i64 u.T.N,.slice za2 la2 ca2,.slice zb2 lb2 cb2,.slice zc2 lc2 cc2])) (set9 Y (w.heap.size+1) 0 (.int .i64 u.K) (.int .i64 u.N) (.string u.S) (.string u.Z) (.int .i64 u.T.K) (.int .i64 u.T.N) (.slice za2 la2 ca2) (.slice zb2 lb2 cb2) (.slice zc2 lc2 cc2))) :=
            new_finB (hXb.trans (hbY.mono (by omega))) (by omega) hfN hndN (fun g hg=>by have:=hinN g hg;omega) HRB.out _ rfl
          obtain ⟨q0,q1,q2,q3,q4,q5,q6,q7,q8⟩:=h9N
          clear hfN hndN hinN hnbN hSY hrb hO6 hS H9U
          go_upto_region 6 with fail
          rw [← HY.out]
          go_wp2_with fail
          (try simp only [Exit.inBlock,Exit.then]);refine bodyPost_ret (v:=.agg #[.int .i64 u.K,.int .i64 u.N,.string u.S,.string u.Z,.int .i64 u.T.K,.int .i64 u.T.N,.slice za2 la2 ca2,.slice zb2 lb2 cb2,.slice zc2 lc2 cc2]) (by simp [results,Tryz.results12,go_sem,y0,y1,y2,y3,y4,y5,y6,y7,y8]) rfl ?_
          exact HFIN.out
        | true =>
          have hO6Y:FmO wr.heap.size Y.heap.size Y D6 d6 P za la zb lb zc lc:=by
            obtain ⟨bn,hfn,hndn,hbn⟩:=hO6
            exact ⟨bn,FldO.keep (fun k hk=>hYb.block k (hbn k hk).2) hfn,hndn,fun k hk=>by have:=hbn k hk;have:=z5;omega⟩
          have HSN:Hid (SpS X ((((((((((Y.setCell ⟨q,0,none⟩ (.int .i64 P.K)).setCell ⟨q,1,none⟩ (.int .i64 P.N)).setCell ⟨q,2,none⟩ (.string P.S)).setCell ⟨q,3,none⟩ (.string P.Z)).setCell ⟨q,4,none⟩ (.int .i64 P.T.K)).setCell ⟨q,5,none⟩ (.int .i64 P.T.N)).setCell ⟨q,6,none⟩ (.slice za la ca)).setCell ⟨q,7,none⟩ (.slice zb lb cb)).setCell ⟨q,8,none⟩ (.slice zc lc cc))) q X.heap.size P):=sps_next hS.out hYr hO6Y HQ.out hzr _ rfl
          have HALL2:Hid (allM (150 - (i+1)) P=betaAllT t):=by
            show _=_
            rw [← hall.out,show 150 - i=150 - (i+1)+1 by omega,allM_yes (by rw [HR.out]),HR.out]
          have HCU2:Hid (cntM P≤1048576):=by
            have:=beta_cntB u hcu.out
            rw [HR.out] at this
            exact this
          have hqY:q < Y.heap.size:=by have:=hYr.size;omega
          obtain ⟨g0,g1,g2,g3,g4,g5,g6,g7,g8⟩:=H9U.out.below hYr hql
          obtain ⟨csq,hrq,_⟩:=(hS.out).row
          have gf:=row_free ((hYr.block q hql).trans hrq)
          obtain ⟨e0,e1',e2',e3',e4,e5,e6,e7,e8⟩:=Nine.box hY0
          clear hO6 hO6Y hFU hrq
          go_upto_region 6 with fail
          rw [← HY.out]
          go_wp2_with fail
          go_roundw
          case rel=>first | exact ⟨i+1,P,by go_num,HI1.out,HALL2,HCU2,HSN⟩ | ((repeat apply Exists.intro);exact ⟨⟨i+1,P,by go_num,HI1.out,HALL2,HCU2,HSN⟩,rfl⟩)
          case measure=>have:=HI1.out;simp [intOf];omega
      · have hi150:i=150:=by omega
        have HRB:Hid (betaAllT t=u):=by show _=_;rw [← hall.out,hi150];rfl
        have hil:¬ (i:Int) < 150:=by omega
        clear hall
        subst hi150
        obtain ⟨bN,D8,d8,⟨za,la,ca,zb,lb,cb,zc,lc,cc,h9N,hfN⟩,hndN,hnbN,hinN⟩:=hS.out.tree
        have rr:=(hbr.block (w.heap.size+1) (by omega)).trans hX1
        obtain ⟨y0,y1,y2,y3,y4,y5,y6,y7,y8⟩:=Nine.box rr
        have yf:=row_free rr
        have HFIN:Hid (∃ D' d',NewM w D' d' (betaAllT t) (.returned (.agg #[.int .i64 u.K,.int .i64 u.N,.string u.S,.string u.Z,.int .i64 u.T.K,.int .i64 u.T.N,.slice za la ca,.slice zb lb cb,.slice zc lc cc])) (set9 wr (w.heap.size+1) 0 (.int .i64 u.K) (.int .i64 u.N) (.string u.S) (.string u.Z) (.int .i64 u.T.K) (.int .i64 u.T.N) (.slice za la ca) (.slice zb lb cb) (.slice zc lc cc))) :=
          new_finB (hXb.trans (hbr.mono (by omega))) (by omega) hfN hndN (fun g hg=>by have:=hinN g hg;omega) (HRB.out) _ rfl
        obtain ⟨q0,q1,q2,q3,q4,q5,q6,q7,q8⟩:=h9N
        clear hfN hndN hinN hnbN
        go_wp2_with fail
        (try simp only [Exit.inBlock,Exit.then]);refine bodyPost_ret (v:=.agg #[.int .i64 u.K,.int .i64 u.N,.string u.S,.string u.Z,.int .i64 u.T.K,.int .i64 u.T.N,.slice za la ca,.slice zb lb cb,.slice zc lc cc]) (by simp [results,Tryz.results12,go_sem,y0,y1,y2,y3,y4,y5,y6,y7,y8]) rfl ?_
        exact HFIN.out
end Go.Proofs.YtcepgedbmffkdaaGreat

/-
  A copy of what need not be right, list by list: what has been copied, what is still to be, and what comes of it: no walk.
-/
namespace Go.Proofs.YtcepgedbmffkdaaGreat
open Go.RowKit
set_option linter.unusedVariables false
set_option linter.unusedSimpArgs false
def szK:Bool→Nat
  | true=>9
  | false=>3
def tyK:Bool→Nat
  | true=>34
  | false=>31
def slK:Bool→Nat→Option Bool
  | true,6=>some false
  | true,7=>some false
  | true,8=>some true
  | false,2=>some false
  | _,_=>none
structure Cl where
  h:Nat
  o:Nat
  k:Bool
  a:Option Addr
  l:Nat
  c:Nat
  tm:List Tm
  tr:List Tr
  bs:List Nat
abbrev Cl.val (x:Cl):Value:=.slice x.a x.l x.c
def Cl.ok (X:World) (D d:Nat) (x:Cl):Prop:=match x.k with
  | true=>OwM X D d x.a x.l x.tm x.bs
  | false=>Ow X D x.a x.l x.tr x.bs
structure Hd where
  h:Nat
  o:Nat
  k:Bool
  u:Value
def TrV (f:Nat→Nat) (E:List (Nat × Nat × Bool)) (k:Bool) (u u':Value):Prop :=
  (∃ ao c,u=.slice ao 0 c∧u'=.slice none 0 0)∨∃ g n c,u=.slice (some ⟨g,0,none⟩) n c∧0 < n∧(g,n,k) ∈ E∧u'=.slice (some ⟨f g,0,none⟩) n n
structure Gc (X wr:World) (D d:Nat) (f:Nat→Nat) (E:List (Nat × Nat × Bool)) (pend:List Cl) (hand:List Hd):Prop where
  row:∀ g n k,(g,n,k) ∈ E→0 < n∧n≤9223372036854775807∧(∃ cs,wr.heap[f g]?=some (.cells cs (tyK k) (0,0))∧n * szK k≤cs.size)∧∀ o,o < n * szK k→slK k (o % szK k)=none→wr.cell? ⟨f g,o,none⟩=X.cell? ⟨g,o,none⟩
  slot:∀ g n k o k',(g,n,k) ∈ E→o < n * szK k→slK k (o % szK k)=some k'→(∃ x ∈ pend,x.h=f g∧x.o=o)∨(∃ z ∈ hand,z.h=f g∧z.o=o)∨∃ u u',X.cell? ⟨g,o,none⟩=some u∧wr.cell? ⟨f g,o,none⟩=some u'∧TrV f E k' u u'
  pnd:∀ x ∈ pend,x.ok X D d∧wr.cell? ⟨x.h,x.o,none⟩=some x.val∧∃ g n k,(g,n,k) ∈ E∧x.h=f g∧x.o < n * szK k∧slK k (x.o % szK k)=some x.k∧X.cell? ⟨g,x.o,none⟩=some x.val
  hnd:∀ z ∈ hand,∃ g n k,(g,n,k) ∈ E∧z.h=f g∧z.o < n * szK k∧slK k (z.o % szK k)=some z.k∧X.cell? ⟨g,z.o,none⟩=some z.u
  ndo:(pend.flatMap Cl.bs ++ E.map Prod.fst).Nodup
  lto:∀ b ∈ pend.flatMap Cl.bs ++ E.map Prod.fst,b < X.heap.size
  ndn:((E.map Prod.fst).map f).Nodup
  ltn:∀ g n k,(g,n,k) ∈ E→f g < wr.heap.size
  nda:(pend.map (fun x=>(x.h,x.o)) ++ hand.map fun z=>(z.h,z.o)).Nodup
theorem Gc.perm {X wr:World} {D d:Nat} {f:Nat→Nat} {E:List (Nat × Nat × Bool)} {pend pend':List Cl} {hand:List Hd} (h:Gc X wr D d f E pend hand) (hp:pend.Perm pend'):Gc X wr D d f E pend' hand:=by
  refine ⟨h.row,fun g n k o k' h1 h2 h3=>?_,fun x hx=>h.pnd x (hp.mem_iff.2 hx),h.hnd,?_,fun b hb=>h.lto b ?_,h.ndn,h.ltn,?_⟩
  · rcases h.slot g n k o k' h1 h2 h3 with ⟨x,hx,e⟩ | e
    · exact Or.inl ⟨x,hp.mem_iff.1 hx,e⟩
    · exact Or.inr e
  · exact (((hp.flatMap_right _).append_right _).nodup_iff).1 h.ndo
  · exact ((hp.flatMap_right _).append_right _).mem_iff.2 hb
  · exact (((hp.map _).append_right _).nodup_iff).1 h.nda
theorem Gc.keep {X wr w1:World} {D d:Nat} {f:Nat→Nat} {E:List (Nat × Nat × Bool)} {pend:List Cl} {hand:List Hd} (h:Gc X wr D d f E pend hand) (hs:wr.heap.size≤w1.heap.size) (hb:∀ g n k,(g,n,k) ∈ E→w1.heap[f g]?=wr.heap[f g]?):Gc X w1 D d f E pend hand:=by
  have hc:∀ g n k o,(g,n,k) ∈ E→w1.cell? ⟨f g,o,none⟩=wr.cell? ⟨f g,o,none⟩:=fun g n k o hg=>World.cell?_of_block (hb g n k hg)
  refine ⟨fun g n k hg=>?_,fun g n k o k' h1 h2 h3=>?_,fun x hx=>?_,h.hnd,h.ndo,h.lto,h.ndn,fun g n k hg=>Nat.lt_of_lt_of_le (h.ltn g n k hg) hs,h.nda⟩
  · obtain ⟨h1,h2,⟨cs,h3,h4⟩,h5⟩:=h.row g n k hg
    exact ⟨h1,h2,⟨cs,(hb g n k hg).trans h3,h4⟩,fun o ho hk=>(hc g n k o hg).trans (h5 o ho hk)⟩
  · rcases h.slot g n k o k' h1 h2 h3 with e | e | ⟨u,u',e1,e2,e3⟩
    · exact Or.inl e
    · exact Or.inr (Or.inl e)
    · exact Or.inr (Or.inr ⟨u,u',e1,(hc g n k o h1).trans e2,e3⟩)
  · obtain ⟨h1,h2,g,n,k,h3,h4,h5⟩:=h.pnd x hx
    exact ⟨h1,by rw [h4] at h2 ⊢;exact (hc g n k _ h3).trans h2,g,n,k,h3,h4,h5⟩
theorem TrV.more {f f':Nat→Nat} {E E':List (Nat × Nat × Bool)} {k:Bool} {u u':Value} (h:TrV f E k u u') (hE:∀ e ∈ E,e ∈ E') (hf:∀ g n k,(g,n,k) ∈ E→f' g=f g):TrV f' E' k u u':=by
  rcases h with h | ⟨g,n,c,h1,h2,h3,h4⟩
  · exact Or.inl h
  · exact Or.inr ⟨g,n,c,h1,h2,hE _ h3,by rw [hf g n k h3];exact h4⟩
theorem Gc.empty {X wr:World} {D d:Nat} {f:Nat→Nat} {E:List (Nat × Nat × Bool)} {x:Cl} {rest:List Cl} {hand:List Hd} (h:Gc X wr D d f E (x :: rest) hand) (hl:x.l=0):Gc X wr D d f E rest (⟨x.h,x.o,x.k,x.val⟩ :: hand):=by
  refine ⟨h.row,fun g n k o k' h1 h2 h3=>?_,fun y hy=>h.pnd y (List.mem_cons_of_mem _ hy),fun z hz=>?_,?_,fun b hb=>h.lto b ?_,h.ndn,h.ltn,?_⟩
  · rcases h.slot g n k o k' h1 h2 h3 with ⟨y,hy,e⟩ | ⟨z,hz,e⟩ | e
    · rcases List.mem_cons.1 hy with rfl | hy
      · exact Or.inr (Or.inl ⟨_,List.mem_cons_self,e⟩)
      · exact Or.inl ⟨y,hy,e⟩
    · exact Or.inr (Or.inl ⟨z,List.mem_cons_of_mem _ hz,e⟩)
    · exact Or.inr (Or.inr e)
  · rcases List.mem_cons.1 hz with rfl | hz
    · exact (h.pnd x List.mem_cons_self).2.2
    · exact h.hnd z hz
  · have:=h.ndo
    rw [List.flatMap_cons,List.append_assoc] at this
    exact (List.nodup_append.1 this).2.1
  · rw [List.flatMap_cons,List.append_assoc]
    exact List.mem_append_right _ hb
  · have:=h.nda
    rw [List.map_cons,List.cons_append] at this
    rw [List.map_cons]
    exact (List.perm_middle.nodup_iff).2 this
theorem Gc.copy {X wr w1:World} {D d:Nat} {f:Nat→Nat} {E:List (Nat × Nat × Bool)} {x:Cl} {rest:List Cl} {hand:List Hd} (h:Gc X wr D d f E (x :: rest) hand) {g hb:Nat} {cs:Array Value} (hl:0 < x.l) (hx:x.l≤9223372036854775807) (hg:g ∈ x.bs)
    (hs:wr.heap.size≤hb) (hk:∀ g n k,(g,n,k) ∈ E→w1.heap[f g]?=wr.heap[f g]?) (hh:w1.heap[hb]?=some (.cells cs (tyK x.k) (0,0))) (hcs:cs.size=x.l * szK x.k) (hsame:∀ o,o < x.l * szK x.k→cs[o]?=X.cell? ⟨g,o,none⟩)
    (ncs:List Cl) (h1:∀ c ∈ ncs,c.h=hb∧c.o < x.l * szK x.k∧slK x.k (c.o % szK x.k)=some c.k∧X.cell? ⟨g,c.o,none⟩=some c.val∧c.ok X D d) (h2:∀ o k',o < x.l * szK x.k→slK x.k (o % szK x.k)=some k'→∃ c ∈ ncs,c.o=o) (h3:(ncs.flatMap Cl.bs ++ [g]).Perm x.bs) (h4:(ncs.map Cl.o).Nodup) :
    Gc X w1 D d (fun y=>if y=g then hb else f y) ((g,x.l,x.k) :: E) (ncs ++ rest) (⟨x.h,x.o,x.k,x.val⟩ :: hand):=by
  have hndo:=h.ndo
  rw [List.flatMap_cons,List.append_assoc] at hndo
  have hdis:∀ n k,(g,n,k) ∉ E:=fun n k he=>by
    exact (List.nodup_append.1 hndo).2.2 g hg g (List.mem_append_right _ (List.mem_map.2 ⟨_,he,rfl⟩)) rfl
  have hne:∀ g' n k,(g',n,k) ∈ E→g'≠g:=fun g' n k he e=>hdis n k (e ▸ he)
  have hf:∀ g' n k,(g',n,k) ∈ E→(if g'=g then hb else f g')=f g':=fun g' n k he=>if_neg (hne g' n k he)
  have hlt:hb < w1.heap.size:=(Array.getElem?_eq_some_iff.1 hh).1
  have hfb:∀ g' n k,(g',n,k) ∈ E→f g'≠hb:=fun g' n k he e=>by have:=h.ltn g' n k he;omega
  have hcell:∀ o,o < x.l * szK x.k→w1.cell? ⟨hb,o,none⟩=X.cell? ⟨g,o,none⟩:=fun o ho=>(row_cell hh o).trans (hsame o ho)
  have hc:∀ g' n k o,(g',n,k) ∈ E→w1.cell? ⟨f g',o,none⟩=wr.cell? ⟨f g',o,none⟩:=fun g' n k o he=>World.cell?_of_block (hk g' n k he)
  refine ⟨fun g' n k he=>?_,fun g' n k o k' he ho hsl=>?_,fun y hy=>?_,fun z hz=>?_,?_,?_,?_,fun g' n k he=>?_,?_⟩
  · rcases List.mem_cons.1 he with e | he
    · cases e
      rw [if_pos rfl]
      exact ⟨hl,hx,⟨cs,hh,by omega⟩,fun o ho _=>hcell o ho⟩
    · rw [hf g' n k he]
      obtain ⟨q1,q2,⟨cs',q3,q4⟩,q5⟩:=h.row g' n k he
      exact ⟨q1,q2,⟨cs',(hk g' n k he).trans q3,q4⟩,fun o ho hn=>(hc g' n k o he).trans (q5 o ho hn)⟩
  · rcases List.mem_cons.1 he with e | he
    · cases e
      rw [if_pos rfl]
      obtain ⟨c,hcm,hco⟩:=h2 o k' ho hsl
      exact Or.inl ⟨c,List.mem_append_left _ hcm,(h1 c hcm).1,hco⟩
    · rw [hf g' n k he]
      rcases h.slot g' n k o k' he ho hsl with ⟨y,hy,e⟩ | ⟨z,hz,e⟩ | ⟨u,u',e1,e2,e3⟩
      · rcases List.mem_cons.1 hy with rfl | hy
        · exact Or.inr (Or.inl ⟨_,List.mem_cons_self,e⟩)
        · exact Or.inl ⟨y,List.mem_append_right _ hy,e⟩
      · exact Or.inr (Or.inl ⟨z,List.mem_cons_of_mem _ hz,e⟩)
      · exact Or.inr (Or.inr ⟨u,u',e1,(hc g' n k o he).trans e2,e3.more (fun e he=>List.mem_cons_of_mem _ he) hf⟩)
  · rcases List.mem_append.1 hy with hy | hy
    · obtain ⟨q1,q2,q3,q4,q5⟩:=h1 y hy
      exact ⟨q5,by rw [q1,hcell _ q2];exact q4,g,x.l,x.k,List.mem_cons_self,by rw [if_pos rfl];exact q1,q2,q3,q4⟩
    · obtain ⟨q1,q2,g',n,k,q3,q4,q5⟩:=h.pnd y (List.mem_cons_of_mem _ hy)
      exact ⟨q1,by rw [q4] at q2 ⊢;exact (hc g' n k _ q3).trans q2,g',n,k,List.mem_cons_of_mem _ q3,by rw [hf g' n k q3];exact q4,q5⟩
  · rcases List.mem_cons.1 hz with rfl | hz
    · obtain ⟨_,_,g',n,k,q3,q4,q5⟩:=h.pnd x List.mem_cons_self
      exact ⟨g',n,k,List.mem_cons_of_mem _ q3,by rw [hf g' n k q3];exact q4,q5⟩
    · obtain ⟨g',n,k,q3,q4,q5⟩:=h.hnd z hz
      exact ⟨g',n,k,List.mem_cons_of_mem _ q3,by rw [hf g' n k q3];exact q4,q5⟩
  · have hp:((ncs ++ rest).flatMap Cl.bs ++ ((g,x.l,x.k) :: E).map Prod.fst).Perm (x.bs ++ (rest.flatMap Cl.bs ++ E.map Prod.fst)):=by
      rw [List.flatMap_append,List.map_cons,List.append_assoc]
      refine List.Perm.trans ?_ (h3.append_right _)
      rw [List.append_assoc]
      refine List.Perm.append_left _ ?_
      exact List.perm_middle
    exact (hp.nodup_iff).2 hndo
  · intro b hb'
    have hp:((ncs ++ rest).flatMap Cl.bs ++ ((g,x.l,x.k) :: E).map Prod.fst).Perm (x.bs ++ (rest.flatMap Cl.bs ++ E.map Prod.fst)):=by
      rw [List.flatMap_append,List.map_cons,List.append_assoc]
      refine List.Perm.trans ?_ (h3.append_right _)
      rw [List.append_assoc]
      refine List.Perm.append_left _ ?_
      exact List.perm_middle
    refine h.lto b ?_
    rw [List.flatMap_cons,List.append_assoc]
    exact hp.mem_iff.1 hb'
  · rw [List.map_cons,List.map_cons,List.nodup_cons]
    have e:(E.map Prod.fst).map (fun y=>if y=g then hb else f y)=(E.map Prod.fst).map f:=List.map_congr_left fun y hy=>by
      obtain ⟨⟨g',n,k⟩,he,rfl⟩:=List.mem_map.1 hy
      exact hf g' n k he
    rw [e]
    refine ⟨fun hm=>?_,h.ndn⟩
    obtain ⟨y,hy,e⟩:=List.mem_map.1 hm
    obtain ⟨⟨g',n,k⟩,he,rfl⟩:=List.mem_map.1 hy
    simp only [if_true] at e
    exact hfb g' n k he e
  · rcases List.mem_cons.1 he with e | he
    · cases e
      rw [if_pos rfl];exact hlt
    · rw [hf g' n k he]
      have:=h.ltn g' n k he
      omega
  · have hnda:=h.nda
    rw [List.map_cons,List.cons_append] at hnda
    rw [List.map_append,List.map_cons,List.append_assoc]
    have hrest:(rest.map (fun x=>(x.h,x.o)) ++ (x.h,x.o) :: hand.map fun z=>(z.h,z.o)).Nodup:=(List.perm_middle.nodup_iff).2 hnda
    refine List.nodup_append.2 ⟨?_,hrest,?_⟩
    · have:(ncs.map fun x=>(x.h,x.o))=(ncs.map Cl.o).map fun o=>(hb,o):=by
        rw [List.map_map]
        exact List.map_congr_left fun c hcm=>by simp [(h1 c hcm).1]
      rw [this]
      exact List.Pairwise.map _ (fun a b hab e=>hab (by simpa using e)) h4
    · intro a ha b hb' e
      subst e
      obtain ⟨c,hcm,rfl⟩:=List.mem_map.1 ha
      have hch:=(h1 c hcm).1
      have hold:∀ y:Nat × Nat,y ∈ (rest.map (fun x=>(x.h,x.o)) ++ (x.h,x.o) :: hand.map fun z=>(z.h,z.o))→y.1 < wr.heap.size:=fun y hy=>by
        rcases List.mem_append.1 hy with hy | hy
        · obtain ⟨q,hq,rfl⟩:=List.mem_map.1 hy
          obtain ⟨_,_,g',n,k,q3,q4,_⟩:=h.pnd q (List.mem_cons_of_mem _ hq)
          have:=h.ltn g' n k q3
          simp only [q4];exact this
        · rcases List.mem_cons.1 hy with rfl | hy
          · obtain ⟨_,_,g',n,k,q3,q4,_⟩:=h.pnd x List.mem_cons_self
            have:=h.ltn g' n k q3
            simp only [q4];exact this
          · obtain ⟨q,hq,rfl⟩:=List.mem_map.1 hy
            obtain ⟨g',n,k,q3,q4,_⟩:=h.hnd q hq
            have:=h.ltn g' n k q3
            simp only [q4];exact this
      have:=hold _ hb'
      simp only at this
      omega
theorem Gc.inj {X wr:World} {D d:Nat} {f:Nat→Nat} {E:List (Nat × Nat × Bool)} {pend:List Cl} {hand:List Hd} (h:Gc X wr D d f E pend hand) {g n:Nat} {k:Bool} {g' n':Nat} {k':Bool} (h1:(g,n,k) ∈ E) (h2:(g',n',k') ∈ E) (e:f g=f g'):(g,n,k)=(g',n',k'):=by
  have hnd:=h.ndn
  rw [List.map_map] at hnd
  obtain ⟨i,hi,ei⟩:=List.getElem_of_mem h1
  obtain ⟨j,hj,ej⟩:=List.getElem_of_mem h2
  have:=(List.getElem_inj (h₀:=by simpa using hi) (h₁:=by simpa using hj) hnd).1 (by simp [ei,ej,e])
  subst this
  rw [← ei,← ej]
theorem Gc.lay {X wr:World} {D d:Nat} {f:Nat→Nat} {E:List (Nat × Nat × Bool)} {pend:List Cl} {z:Hd} {hand:List Hd} (h:Gc X wr D d f E pend (z :: hand)) {u':Value} (ht:TrV f E z.k z.u u'):Gc X (wr.setCell ⟨z.h,z.o,none⟩ u') D d f E pend hand:=by
  obtain ⟨g0,n0,k0,q1,q2,q3,q4,q5⟩:=h.hnd z List.mem_cons_self
  have hnda:=h.nda
  have hother:∀ h' o',(h',o')≠(z.h,z.o)→(wr.setCell ⟨z.h,z.o,none⟩ u').cell? ⟨h',o',none⟩=wr.cell? ⟨h',o',none⟩:=fun h' o' hne=>by
    by_cases e:h'=z.h
    · subst e
      obtain ⟨_,_,⟨cs,hc,hcz⟩,_⟩:=h.row g0 n0 k0 q1
      rw [← q2] at hc
      rw [row_cell (row_set hc _ _),row_cell hc,Array.getElem?_setIfInBounds,if_neg (fun e=>hne (by rw [e]))]
    · exact World.cell?_of_block (row_other _ _ _ e)
  have hat:(wr.setCell ⟨z.h,z.o,none⟩ u').cell? ⟨z.h,z.o,none⟩=some u':=by
    obtain ⟨_,_,⟨cs,hc,hcz⟩,_⟩:=h.row g0 n0 k0 q1
    rw [← q2] at hc
    rw [row_cell (row_set hc _ _),Array.getElem?_setIfInBounds]
    simp;omega
  refine ⟨fun g n k hg=>?_,fun g n k o k' h1 h2 h3=>?_,fun x hx=>?_,fun y hy=>h.hnd y (List.mem_cons_of_mem _ hy),h.ndo,h.lto,h.ndn,fun g n k hg=>by simpa using h.ltn g n k hg,?_⟩
  · obtain ⟨r1,r2,⟨cs,r3,r4⟩,r5⟩:=h.row g n k hg
    refine ⟨r1,r2,?_,fun o ho hk=>(hother _ _ fun e=>?_).trans (r5 o ho hk)⟩
    · by_cases e:f g=z.h
      · exact ⟨_,by rw [← e];exact row_set r3 _ _,by simpa using r4⟩
      · exact ⟨cs,(row_other _ _ _ e).trans r3,r4⟩
    · have e1:f g=z.h:=congrArg Prod.fst e
      have e2:o=z.o:=congrArg Prod.snd e
      cases h.inj hg q1 (e1.trans q2)
      rw [e2,q4] at hk
      cases hk
  · by_cases e:(f g,o)=(z.h,z.o)
    · have e1:f g=z.h:=congrArg Prod.fst e
      have e2:o=z.o:=congrArg Prod.snd e
      cases h.inj h1 q1 (e1.trans q2)
      rw [e2,q4] at h3
      cases h3
      exact Or.inr (Or.inr ⟨z.u,u',by rw [e2];exact q5,by rw [e1,e2];exact hat,ht⟩)
    · rcases h.slot g n k o k' h1 h2 h3 with e' | ⟨y,hy,e'⟩ | ⟨u,u2,e1,e2,e3⟩
      · exact Or.inl e'
      · rcases List.mem_cons.1 hy with rfl | hy
        · exact absurd (by rw [e'.1,e'.2]) e
        · exact Or.inr (Or.inl ⟨y,hy,e'⟩)
      · exact Or.inr (Or.inr ⟨u,u2,e1,(hother _ _ e).trans e2,e3⟩)
  · obtain ⟨r1,r2,r3⟩:=h.pnd x hx
    refine ⟨r1,(hother _ _ fun e=>?_).trans r2,r3⟩
    exact (List.nodup_append.1 hnda).2.2 _ (List.mem_map.2 ⟨x,hx,rfl⟩) (z.h,z.o) (by simp) e
  · rw [List.map_cons] at hnda
    have:=(List.perm_middle.nodup_iff).1 hnda
    exact (List.nodup_cons.1 this).2
end Go.Proofs.YtcepgedbmffkdaaGreat
