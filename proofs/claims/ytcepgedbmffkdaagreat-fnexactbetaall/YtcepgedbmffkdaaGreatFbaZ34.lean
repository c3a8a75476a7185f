/-
  What the program's 'Beta' comes to.
-/
import Derived.Test.YtcepgedbmffkdaaGreatFbaZ27
import Derived.Test.YtcepgedbmffkdaaGreatFbaFp
import Derived.Test.YtcepgedbmffkdaaGreatFbaZ21
namespace Go.Proofs.YtcepgedbmffkdaaGreat
open Go.RowKit
set_option linter.unusedVariables false
set_option linter.unusedSimpArgs false
set_option maxRecDepth 100000 in
set_option maxHeartbeats 16000000 in
theorem beta_any (D d L B:Nat) (t:Tm) (a1:Option Addr) (l1 c1:Nat) (a2:Option Addr) (l2 c2:Nat) (a3:Option Addr) (l3 c3:Nat) (w:World) (hB:B≤w.heap.size) (hf:Fm L B w D d t a1 l1 a2 l2 a3 l3) (hct:cntM t≤1048576) :
    Calls Tryz.prog 8 #[.agg #[.int .i64 t.K,.int .i64 t.N,.string t.S,.string t.Z,.int .i64 t.T.K,.int .i64 t.T.N,.slice a1 l1 c1,.slice a2 l2 c2,.slice a3 l3 c3]] w fun e w'=>PutE w w' e (betaT t):=by
  obtain ⟨X,hX⟩:∃ X,X=(w.alloc (.cells #[.int .i64 t.K,.int .i64 t.N,.string t.S,.string t.Z,.int .i64 t.T.K,.int .i64 t.T.N,.slice a1 l1 c1,.slice a2 l2 c2,.slice a3 l3 c3] 34)).alloc (.cells #[.int .i64 0,.int .i64 0,.string ⟨#[]⟩,.string ⟨#[]⟩,.int .i64 0,.int .i64 0,.slice none 0 0,.slice none 0 0,.slice none 0 0] 34):=⟨_,rfl⟩
  have hXs:X.heap.size=w.heap.size+2:=by rw [hX];simp
  have hXb:Below w.heap.size w X:=by rw [hX];exact ((Below.refl _ _).alloc (Nat.le_refl _) _).alloc (by simp) _
  have hX0:X.heap[w.heap.size]?=some (.cells #[.int .i64 t.K,.int .i64 t.N,.string t.S,.string t.Z,.int .i64 t.T.K,.int .i64 t.T.N,.slice a1 l1 c1,.slice a2 l2 c2,.slice a3 l3 c3] 34 (0,0)):=by rw [hX,Below.heap_alloc _ _ _ (by simp)];exact heap_new rfl
  have hX1:X.heap[w.heap.size+1]?=some (.cells #[.int .i64 0,.int .i64 0,.string ⟨#[]⟩,.string ⟨#[]⟩,.int .i64 0,.int .i64 0,.slice none 0 0,.slice none 0 0,.slice none 0 0] 34 (0,0)):=by rw [hX];exact heap_new (by simp)
  have HX:Hid (X=_):=hX
  clear hX
  have hBX:B≤X.heap.size:=by omega
  have hfX:=Fm.below hXb hB hf
  obtain ⟨x0,x1,x2,x3,x4,x5,x6,x7,x8⟩:=Nine.box hX0
  have K1:=ready_any D d L B t a1 l1 c1 a2 l2 c2 a3 l3 c3 X hBX hfX
  obtain ⟨rd,hrd⟩:∃ rd,rdyM t=rd:=⟨_,rfl⟩
  rw [hrd] at K1
  have HRD:Hid (rdyM t=rd):=hrd
  go_enter Tryz.func8,Tryz.ntmps8
  go_upto_region 1 with fail
  rw [← HX.out]
  go_wp2_with fail
  refine K1.mono ?_
  rintro e w1 ⟨rfl,hb1⟩
  have z1:=hb1.size
  clear K1 x0 x1 x2 x3 x4 x5 x6 x7 x8 hrd
  cases rd with
  | false =>
    have rr:=(hb1.block (w.heap.size+1) (by omega)).trans hX1
    obtain ⟨y0,y1,y2,y3,y4,y5,y6,y7,y8⟩:=Nine.box rr
    have yf:=row_free rr
    have HFIN:Hid (PutE w (((((((((w1.setCell ⟨w.heap.size+1,0,none⟩ (.int .i64 0)).setCell ⟨w.heap.size+1,1,none⟩ (.int .i64 0)).setCell ⟨w.heap.size+1,2,none⟩ (.string ⟨#[]⟩)).setCell ⟨w.heap.size+1,3,none⟩ (.string ⟨#[]⟩)).setCell ⟨w.heap.size+1,4,none⟩ (.int .i64 0)).setCell ⟨w.heap.size+1,5,none⟩ (.int .i64 0)).setCell ⟨w.heap.size+1,6,none⟩ (.slice none 0 0)).setCell ⟨w.heap.size+1,7,none⟩ (.slice none 0 0)).setCell ⟨w.heap.size+1,8,none⟩ (.slice none 0 0)) (.returned (.tuple #[.agg #[.int .i64 0,.int .i64 0,.string ⟨#[]⟩,.string ⟨#[]⟩,.int .i64 0,.int .i64 0,.slice none 0 0,.slice none 0 0,.slice none 0 0],.bool false])) (betaT t)):=by
      show PutE _ _ _ _
      rw [betaT_not HRD.out]
      exact put_none (hXb.trans (hb1.mono (by omega))) (by omega) rr
    go_wp2_with fail
    (try simp only [Exit.inBlock,Exit.then]);refine bodyPost_ret (v:=.tuple #[.agg #[.int .i64 0,.int .i64 0,.string ⟨#[]⟩,.string ⟨#[]⟩,.int .i64 0,.int .i64 0,.slice none 0 0,.slice none 0 0,.slice none 0 0],.bool false]) (by simp [results,Tryz.results8,go_sem,y0,y1,y2,y3,y4,y5,y6,y7,y8]) rfl ?_
    exact HFIN.out
  | true =>
    obtain ⟨n,hn,hn2⟩:=okM_some (rdyM_ok HRD.out)
    have KB:=ct_any D d L B t a1 l1 c1 a2 l2 c2 a3 l3 c3 w1 (by omega) (Fm.below hb1 hBX hfX) hct
    have rt:=(hb1.block w.heap.size (by omega)).trans hX0
    obtain ⟨x0,x1,x2,x3,x4,x5,x6,x7,x8⟩:=Nine.box rt
    go_wp2_with fail
    refine KB.mono ?_
    rintro e w2 ⟨r1,s1,v1,r2,v2,r3,v3,rfl,hb2,hO2⟩
    have z2:=hb2.size
    clear KB x0 x1 x2 x3 x4 x5 x6 x7 x8
    obtain ⟨Y,hY⟩:∃ Y,Y=w2.alloc (.cells #[.int .i64 t.K,.int .i64 t.N,.string t.S,.string t.Z,.int .i64 t.T.K,.int .i64 t.T.N,.slice r1 s1 v1,.slice r2 l2 v2,.slice r3 l3 v3] 34):=⟨_,rfl⟩
    have hYb:Below w2.heap.size w2 Y:=by rw [hY];exact (Below.refl _ _).alloc (Nat.le_refl _) _
    have hYs:Y.heap.size=w2.heap.size+1:=by rw [hY];simp
    have hY0:Y.heap[w2.heap.size]?=some (.cells #[.int .i64 t.K,.int .i64 t.N,.string t.S,.string t.Z,.int .i64 t.T.K,.int .i64 t.T.N,.slice r1 s1 v1,.slice r2 l2 v2,.slice r3 l3 v3] 34 (0,0)):=by rw [hY];exact heap_new rfl
    have HY:Hid (Y=_):=hY
    clear hY
    have hYX:Below X.heap.size X Y:=hb1.trans ((hb2.trans (hYb.mono z2)).mono z1)
    have hYw:Below w.heap.size w Y:=hXb.trans (hYX.mono (by omega))
    obtain ⟨bn,hfO,hnd,hrg⟩:=hO2
    obtain ⟨vf,hvf,hform⟩:=fo_any 24 D d L B t a1 l1 c1 a2 l2 c2 a3 l3 c3 n X hBX hfX hn (by omega)
    have KFo:=hform Y hYX
    have rtY:=(hYX.block w.heap.size (by omega)).trans hX0
    obtain ⟨x0,x1,x2,x3,x4,x5,x6,x7,x8⟩:=Nine.box rtY
    clear hform
    go_upto_region 4 with fail
    rw [← HY.out]
    go_wp2_with fail
    refine KFo.mono ?_
    rintro e w3 ⟨rfl,hb3⟩
    have z3:=hb3.size
    have h3X:Below X.heap.size X w3:=hYX.trans (hb3.mono (by omega))
    have hY3:=(hb3.block w2.heap.size (by omega)).trans hY0
    have hO9:Own9 w3 (D+1) d w2.heap.size 0 t bn:=⟨r1,s1,v1,r2,l2,v2,r3,l3,v3,Nine.box hY3,FldO.keep (fun k hk=>(hb3.block k (by have:=(hrg k hk).2;omega)).trans (hYb.block k (hrg k hk).2)) hfO⟩
    have KF:=fi_any 24 L B D X t vf n n w3 (D+1) d w2.heap.size 0 bn hvf hn hn hn2 hct hO9 hnd (fun h=>by have:=(hrg _ h).2;omega) (fun k hk=>by have:=(hrg k hk).2;omega) ⟨_,_,hY3,by simp⟩
    obtain ⟨R,hR⟩:∃ R,betaM 24 t=R:=⟨_,rfl⟩
    rw [hR] at KF
    have HR:Hid (betaM 24 t=R):=hR
    obtain ⟨P,ok⟩:=R
    clear hR hO9 hfO KFo x0 x1 x2 x3 x4 x5 x6 x7 x8
    go_wp2_with fail
    refine KF.mono ?_
    rintro e w4 ⟨rfl,hno,hyes⟩
    clear KF
    cases ok with
    | false =>
      have hb4:=hno rfl
      have z4:=hb4.size
      have h4X:Below X.heap.size X w4:=h3X.trans (hb4.mono (by omega))
      have h4w:Below w.heap.size w w4:=hXb.trans (h4X.mono (by omega))
      clear hno hyes
      have KC:=ct_any D d L B t a1 l1 c1 a2 l2 c2 a3 l3 c3 w4 (by have:=(h4X).size;omega) (Fm.below h4X hBX hfX) hct
      have rt:=(h4X).block w.heap.size (by omega) |>.trans hX0
      obtain ⟨x0,x1,x2,x3,x4,x5,x6,x7,x8⟩:=Nine.box rt
      go_wp2_with fail
      refine KC.mono ?_
      rintro e w9 ⟨r1,s1,v1,r2,v2,r3,v3,rfl,hb9,hO9⟩
      have z9:=hb9.size
      have hwz:=(h4X).size
      have rr:=(hb9.block (w.heap.size+1) (by omega)).trans ((h4X).block (w.heap.size+1) (by omega) |>.trans hX1)
      obtain ⟨y0,y1,y2,y3,y4,y5,y6,y7,y8⟩:=Nine.box rr
      have yf:=row_free rr
      have HFIN:Hid (PutE w (set9 w9 (w.heap.size+1) 0 (.int .i64 t.K) (.int .i64 t.N) (.string t.S) (.string t.Z) (.int .i64 t.T.K) (.int .i64 t.T.N) (.slice r1 s1 v1) (.slice r2 l2 v2) (.slice r3 l3 v3)) (.returned (.tuple #[.agg #[.int .i64 t.K,.int .i64 t.N,.string t.S,.string t.Z,.int .i64 t.T.K,.int .i64 t.T.N,.slice r1 s1 v1,.slice r2 l2 v2,.slice r3 l3 v3],.bool false])) (betaT t)):=by
        obtain ⟨bn,hfO,hnd,hrg⟩:=hO9
        exact put_finP ((h4w).trans (hb9.mono (by omega))) (by omega) hfO hnd (fun g hg=>by have:=hrg g hg;omega) (betaT_no HRD.out (by rw [HR.out])) _ rfl
      clear x0 x1 x2 x3 x4 x5 x6 x7 x8 KC hO9
      go_wp2_with fail
      (try simp only [Exit.inBlock,Exit.then]);refine bodyPost_ret (v:=.tuple #[.agg #[.int .i64 t.K,.int .i64 t.N,.string t.S,.string t.Z,.int .i64 t.T.K,.int .i64 t.T.N,.slice r1 s1 v1,.slice r2 l2 v2,.slice r3 l3 v3],.bool false]) (by simp [results,Tryz.results8,go_sem,y0,y1,y2,y3,y4,y5,y6,y7,y8]) rfl ?_
      exact HFIN.out
    | true =>
      obtain ⟨hWk,hrw,_,d',bN,hON,hndN,hinN⟩:=hyes rfl
      have z4:=hWk.size
      have h4X:Below X.heap.size X w4:=⟨hWk.os.trans h3X.os,hWk.tape.trans h3X.tape,hWk.output.trans h3X.output,by omega,fun k hk=>(hWk.block k (by omega) (fun h=>by
        rcases List.mem_cons.1 h with h | h
        · omega
        · have:=(hrg k h).1;omega)).trans (h3X.block k hk)⟩
      have h4w:Below w.heap.size w w4:=hXb.trans (h4X.mono (by omega))
      have hinN2:∀ k ∈ bN,w.heap.size+2≤k∧k < w4.heap.size:=fun k hk=>by
        have h:=hinN k hk
        rcases h.1 with h1 | h1
        · have:=(hrg k h1).1;exact ⟨by omega,h.2⟩
        · exact ⟨by omega,h.2⟩
      obtain ⟨cs4,hr4,_⟩:=hrw _ _ hY3
      obtain ⟨za,la,ca,zb,lb,cb,zc,lc,cc,h9N,hfN⟩:=hON
      have h9N:Nine w4 w2.heap.size 0 P.K P.N P.S P.Z P.T.K P.T.N (.slice za la ca) (.slice zb lb cb) (.slice zc lc cc):=h9N
      have hfN:FldO w4 (D+1+1) (OwM w4 (D+1+1) d') P za la zb lb zc lc bN:=hfN
      have KT:=termOk_any (D+1+1) d' 0 w4.heap.size P za la ca zb lb cb zc lc cc w4 (Nat.le_refl _) (FmO.fm ⟨bN,hfN,hndN,fun k hk=>⟨by omega,(hinN2 k hk).2⟩⟩)
      obtain ⟨oT,hoT⟩:∃ oT,okM P=oT:=⟨_,rfl⟩
      rw [hoT] at KT
      have HOT:Hid (okM P=oT):=hoT
      have H9:Hid (Nine w4 w2.heap.size 0 P.K P.N P.S P.Z P.T.K P.T.N (.slice za la ca) (.slice zb lb cb) (.slice zc lc cc)):=h9N
      obtain ⟨q0,q1,q2,q3,q4,q5,q6,q7,q8⟩:=h9N
      clear hoT hno hyes hrw hWk
      go_wp2_with fail
      refine KT.mono ?_
      rintro e w5 ⟨rfl,hb5⟩
      have z5:=hb5.size
      have h5X:Below X.heap.size X w5:=h4X.trans (hb5.mono (by omega))
      have h5w:Below w.heap.size w w5:=h4w.trans (hb5.mono (by omega))
      clear KT q0 q1 q2 q3 q4 q5 q6 q7 q8
      cases oT with
      | false =>
        have KC:=ct_any D d L B t a1 l1 c1 a2 l2 c2 a3 l3 c3 w5 (by have:=(h5X).size;omega) (Fm.below h5X hBX hfX) hct
        have rt:=(h5X).block w.heap.size (by omega) |>.trans hX0
        obtain ⟨x0,x1,x2,x3,x4,x5,x6,x7,x8⟩:=Nine.box rt
        go_wp2_with fail
        refine KC.mono ?_
        rintro e w9 ⟨r1,s1,v1,r2,v2,r3,v3,rfl,hb9,hO9⟩
        have z9:=hb9.size
        have hwz:=(h5X).size
        have rr:=(hb9.block (w.heap.size+1) (by omega)).trans ((h5X).block (w.heap.size+1) (by omega) |>.trans hX1)
        obtain ⟨y0,y1,y2,y3,y4,y5,y6,y7,y8⟩:=Nine.box rr
        have yf:=row_free rr
        have HFIN:Hid (PutE w (set9 w9 (w.heap.size+1) 0 (.int .i64 t.K) (.int .i64 t.N) (.string t.S) (.string t.Z) (.int .i64 t.T.K) (.int .i64 t.T.N) (.slice r1 s1 v1) (.slice r2 l2 v2) (.slice r3 l3 v3)) (.returned (.tuple #[.agg #[.int .i64 t.K,.int .i64 t.N,.string t.S,.string t.Z,.int .i64 t.T.K,.int .i64 t.T.N,.slice r1 s1 v1,.slice r2 l2 v2,.slice r3 l3 v3],.bool false])) (betaT t)):=by
          obtain ⟨bn,hfO,hnd,hrg⟩:=hO9
          exact put_finP ((h5w).trans (hb9.mono (by omega))) (by omega) hfO hnd (fun g hg=>by have:=hrg g hg;omega) (betaT_big HRD.out (by rw [HR.out];exact HOT.out)) _ rfl
        clear x0 x1 x2 x3 x4 x5 x6 x7 x8 KC hO9
        go_wp2_with fail
        (try simp only [Exit.inBlock,Exit.then]);refine bodyPost_ret (v:=.tuple #[.agg #[.int .i64 t.K,.int .i64 t.N,.string t.S,.string t.Z,.int .i64 t.T.K,.int .i64 t.T.N,.slice r1 s1 v1,.slice r2 l2 v2,.slice r3 l3 v3],.bool false]) (by simp [results,Tryz.results8,go_sem,y0,y1,y2,y3,y4,y5,y6,y7,y8]) rfl ?_
        exact HFIN.out
      | true =>
        have rr:=(h5X.block (w.heap.size+1) (by omega)).trans hX1
        obtain ⟨y0,y1,y2,y3,y4,y5,y6,y7,y8⟩:=Nine.box rr
        have yf:=row_free rr
        obtain ⟨q0,q1,q2,q3,q4,q5,q6,q7,q8⟩:=H9.out.below hb5 (by omega)
        have HFIN:Hid (PutE w (set9 w5 (w.heap.size+1) 0 (.int .i64 P.K) (.int .i64 P.N) (.string P.S) (.string P.Z) (.int .i64 P.T.K) (.int .i64 P.T.N) (.slice za la ca) (.slice zb lb cb) (.slice zc lc cc)) (.returned (.tuple #[.agg #[.int .i64 P.K,.int .i64 P.N,.string P.S,.string P.Z,.int .i64 P.T.K,.int .i64 P.T.N,.slice za la ca,.slice zb lb cb,.slice zc lc cc],.bool true])) (betaT t)) :=
          put_finP h5w (by omega) (FldO.keep (fun k hk=>hb5.block k (hinN2 k hk).2) hfN) hndN (fun g hg=>by have:=hinN2 g hg;omega) (by rw [betaT_yes HRD.out (by rw [HR.out]) (by rw [HR.out];exact HOT.out),HR.out]) _ rfl
        clear hfN hndN hinN hinN2
        go_wp2_with fail
        (try simp only [Exit.inBlock,Exit.then]);refine bodyPost_ret (v:=.tuple #[.agg #[.int .i64 P.K,.int .i64 P.N,.string P.S,.string P.Z,.int .i64 P.T.K,.int .i64 P.T.N,.slice za la ca,.slice zb lb cb,.slice zc lc cc],.bool true]) (by simp [results,Tryz.results8,go_sem,y0,y1,y2,y3,y4,y5,y6,y7,y8]) rfl ?_
        exact HFIN.out
end Go.Proofs.YtcepgedbmffkdaaGreat

/-
  What the program's 'BetaAll' comes to, given what 'ownTerm' does.
-/
namespace Go.Proofs.YtcepgedbmffkdaaGreat
open Go.RowKit
set_option linter.unusedVariables false
set_option linter.unusedSimpArgs false
def SaidOT:Prop:=∀ (D d L B:Nat) (t:Tm) (a1:Option Addr) (l1 c1:Nat) (a2:Option Addr) (l2 c2:Nat) (a3:Option Addr) (l3 c3:Nat) (w:World),B≤w.heap.size→FmO L B w D d t a1 l1 a2 l2 a3 l3→cntM t≤1048576→Calls Tryz.prog 38 #[.agg #[.int .i64 t.K,.int .i64 t.N,.string t.S,.string t.Z,.int .i64 t.T.K,.int .i64 t.T.N,.slice a1 l1 c1,.slice a2 l2 c2,.slice a3 l3 c3]] w (NewM w D d t)
set_option maxRecDepth 100000 in
set_option maxHeartbeats 16000000 in
theorem betaAll_any (OT:SaidOT) (D d L B:Nat) (t:Tm) (a1:Option Addr) (l1 c1:Nat) (a2:Option Addr) (l2 c2:Nat) (a3:Option Addr) (l3 c3:Nat) (w:World) (hB:B≤w.heap.size) (hfo:FmO L B w D d t a1 l1 a2 l2 a3 l3) (hct:cntM t≤1048576) :
    Calls Tryz.prog 13 #[.agg #[.int .i64 t.K,.int .i64 t.N,.string t.S,.string t.Z,.int .i64 t.T.K,.int .i64 t.T.N,.slice a1 l1 c1,.slice a2 l2 c2,.slice a3 l3 c3]] w fun e w'=>∃ D' d',NewM w D' d' (betaAllT t) e w':=by
  have hf:=hfo.fm
  obtain ⟨X,hX⟩:∃ X,X=(w.alloc (.cells #[.int .i64 t.K,.int .i64 t.N,.string t.S,.string t.Z,.int .i64 t.T.K,.int .i64 t.T.N,.slice a1 l1 c1,.slice a2 l2 c2,.slice a3 l3 c3] 34)).alloc (.cells #[.int .i64 0,.int .i64 0,.string ⟨#[]⟩,.string ⟨#[]⟩,.int .i64 0,.int .i64 0,.slice none 0 0,.slice none 0 0,.slice none 0 0] 34):=⟨_,rfl⟩
  have hXs:X.heap.size=w.heap.size+2:=by rw [hX];simp
  have hXb:Below w.heap.size w X:=by rw [hX];exact ((Below.refl _ _).alloc (Nat.le_refl _) _).alloc (by simp) _
  have hX0:X.heap[w.heap.size]?=some (.cells #[.int .i64 t.K,.int .i64 t.N,.string t.S,.string t.Z,.int .i64 t.T.K,.int .i64 t.T.N,.slice a1 l1 c1,.slice a2 l2 c2,.slice a3 l3 c3] 34 (0,0)):=by rw [hX,Below.heap_alloc _ _ _ (by simp)];exact heap_new rfl
  have hX1:X.heap[w.heap.size+1]?=some (.cells #[.int .i64 0,.int .i64 0,.string ⟨#[]⟩,.string ⟨#[]⟩,.int .i64 0,.int .i64 0,.slice none 0 0,.slice none 0 0,.slice none 0 0] 34 (0,0)):=by rw [hX];exact heap_new (by simp)
  have HX:Hid (X=_):=hX
  clear hX
  have hBX:B≤X.heap.size:=by omega
  obtain ⟨rd,hrd⟩:∃ rd,rdyM t=rd:=⟨_,rfl⟩
  have HRD:Hid (rdyM t=rd):=hrd
  obtain ⟨x0,x1,x2,x3,x4,x5,x6,x7,x8⟩:=Nine.box hX0
  have hfX:=Fm.below hXb hB hf
  have K1:=ready_any D d L B t a1 l1 c1 a2 l2 c2 a3 l3 c3 X hBX hfX
  rw [hrd] at K1
  clear hrd
  go_enter Tryz.func13,Tryz.ntmps13
  go_upto_region 1 with fail
  rw [← HX.out]
  go_wp2_with fail
  refine K1.mono ?_
  rintro e w1 ⟨rfl,hb1⟩
  have z1:=hb1.size
  clear K1 x0 x1 x2 x3 x4 x5 x6 x7 x8
  have rt:=(hb1.block w.heap.size (by omega)).trans hX0
  obtain ⟨x0,x1,x2,x3,x4,x5,x6,x7,x8⟩:=Nine.box rt
  cases rd with
  | false =>
    have HRB:Hid (betaAllT t=t):=by show _=_;unfold betaAllT;rw [if_neg (by rw [HRD.out];simp)]
    have KO:=OT D d L B t a1 l1 c1 a2 l2 c2 a3 l3 c3 w1 (by omega) ((hfo.below hXb hB).below hb1 hBX) hct
    go_wp2_with fail
    refine KO.mono ?_
    rintro e w9 ⟨r1,s1,v1,r2,s2,v2,r3,s3,v3,rfl,hb9,hO9⟩
    have z9:=hb9.size
    have rr:=(hb9.block (w.heap.size+1) (by omega)).trans ((hb1.block (w.heap.size+1) (by omega)).trans hX1)
    obtain ⟨y0,y1,y2,y3,y4,y5,y6,y7,y8⟩:=Nine.box rr
    have yf:=row_free rr
    have HFIN:Hid (∃ D' d',NewM w D' d' (betaAllT t) (.returned (.agg #[.int .i64 t.K,.int .i64 t.N,.string t.S,.string t.Z,.int .i64 t.T.K,.int .i64 t.T.N,.slice r1 s1 v1,.slice r2 s2 v2,.slice r3 s3 v3])) (set9 w9 (w.heap.size+1) 0 (.int .i64 t.K) (.int .i64 t.N) (.string t.S) (.string t.Z) (.int .i64 t.T.K) (.int .i64 t.T.N) (.slice r1 s1 v1) (.slice r2 s2 v2) (.slice r3 s3 v3))):=by
      obtain ⟨bn,hfO,hnd,hrg⟩:=hO9
      exact new_finB (hXb.trans ((hb1.trans (hb9.mono z1)).mono (by omega))) (by omega) hfO hnd (fun g hg=>by have:=hrg g hg;omega) HRB.out _ rfl
    clear x0 x1 x2 x3 x4 x5 x6 x7 x8 KO hO9
    go_wp2_with fail
    (try simp only [Exit.inBlock,Exit.then]);refine bodyPost_ret (v:=.agg #[.int .i64 t.K,.int .i64 t.N,.string t.S,.string t.Z,.int .i64 t.T.K,.int .i64 t.T.N,.slice r1 s1 v1,.slice r2 s2 v2,.slice r3 s3 v3]) (by simp [results,Tryz.results13,go_sem,y0,y1,y2,y3,y4,y5,y6,y7,y8]) rfl ?_
    exact HFIN.out
  | true =>
    have KC:=ct_any D d L B t a1 l1 c1 a2 l2 c2 a3 l3 c3 w1 (by have:=(hb1).size;omega) (Fm.below (hb1) hBX hfX) hct
    go_wp2_with fail
    refine KC.mono ?_
    rintro e w2 ⟨r1,s1,v1,r2,v2,r3,v3,rfl,hb2,hO2⟩
    have z2:=hb2.size
    have hwz:=(hb1).size
    obtain ⟨V,hV⟩:∃ V,V=w2.alloc (.cells #[.int .i64 t.K,.int .i64 t.N,.string t.S,.string t.Z,.int .i64 t.T.K,.int .i64 t.T.N,.slice r1 s1 v1,.slice r2 l2 v2,.slice r3 l3 v3] 34):=⟨_,rfl⟩
    have hVb:Below w2.heap.size w2 V:=by rw [hV];exact (Below.refl _ _).alloc (Nat.le_refl _) _
    have hVs:V.heap.size=w2.heap.size+1:=by rw [hV];simp
    have hV0:V.heap[w2.heap.size]?=some (.cells #[.int .i64 t.K,.int .i64 t.N,.string t.S,.string t.Z,.int .i64 t.T.K,.int .i64 t.T.N,.slice r1 s1 v1,.slice r2 l2 v2,.slice r3 l3 v3] 34 (0,0)):=by rw [hV];exact heap_new rfl
    have HV:Hid (V=_):=hV
    have HQ:Hid (X.heap.size≤w2.heap.size):=by show _≤_;omega
    have hS0:SpS X V w2.heap.size X.heap.size t:=by
      obtain ⟨bn,hfO,hnd,hrg⟩:=hO2
      refine ⟨(hb1).trans ((hb2.trans (hVb.mono z2)).mono (by omega)),⟨_,hV0,by simp⟩,bn,D+1,d,⟨r1,s1,v1,r2,l2,v2,r3,l3,v3,Nine.box hV0,FldO.keep (fun k hk=>hVb.block k (hrg k hk).2) hfO⟩,hnd,fun hh=>by have:=(hrg _ hh).2;omega,fun g hg=>by have:=hrg g hg;omega⟩
    clear x0 x1 x2 x3 x4 x5 x6 x7 x8 hV0 hO2 hVb hV KC
    go_upto_region 4 with fail
    rw [← HV.out]
    have HALL:Hid (allM (150 - 0) t=betaAllT t):=by show _=_;unfold betaAllT;rw [if_pos HRD.out]
    go_wp2_with fail
    generalize w2.heap.size=q at *
    go_loopw [13] (fun y wr=>∃ (i:Nat) (u:Tm),y=.int .i64 i∧i≤150∧Hid (allM (150 - i) u=betaAllT t)∧Hid (cntM u≤1048576)∧Hid (SpS X wr q X.heap.size u)) (fun y _=>150 - (intOf y).toNat)
    case atStart=>exact ⟨0,t,rfl,by omega,HALL.out,hct,hS0⟩
    case round =>
      obtain ⟨i,u,rfl,hi,hall,hcu,hS⟩:=hrel
      have hbr:=hS.out.bel
      have hzr:=hbr.size
      have hql:q < wr.heap.size:=by obtain ⟨cs,hq1,_⟩:=(hS.out).row;exact (Array.getElem?_eq_some_iff.1 hq1).1
      by_cases hlt:i < 150
      · obtain ⟨bsU,D7,d7,⟨xa,ka,ja,xb,kb,jb,xc,kc,jc,h9U,hfU⟩,hndU,hnbU,hinU⟩:=hS.out.tree
        have hFU:FmO X.heap.size wr.heap.size wr D7 d7 u xa ka xb kb xc kc:=⟨bsU,hfU,hndU,hinU⟩
        have H9U:Hid (Nine wr q 0 u.K u.N u.S u.Z u.T.K u.T.N (.slice xa ka ja) (.slice xb kb jb) (.slice xc kc jc)):=h9U
        have hil:(i:Int) < 150:=by omega
        have HI1:Hid (i+1≤150):=by show _≤_;omega
        clear hfU hndU hnbU hinU h9U
        obtain ⟨R,hR⟩:∃ R,betaT u=R:=⟨_,rfl⟩
        have KB:=beta_any D7 d7 X.heap.size wr.heap.size u xa ka ja xb kb jb xc kc jc wr (Nat.le_refl _) ( hFU.fm) hcu.out
        rw [hR] at KB
        have HR:Hid (betaT u=R):=hR
        obtain ⟨P,ok⟩:=R
        have hqW:q < (wr).heap.size:=hql
        obtain ⟨u0,u1,u2,u3,u4,u5,u6,u7,u8⟩:=H9U.out
        clear hR
        go_wp2_with fail
        refine KB.mono ?_
        rintro e w6 ⟨D6,d6,za,la,ca,zb,lb,cb,zc,lc,cc,rfl,hb6,hO6⟩
        have z6:=hb6.size
        have hb6r:Below wr.heap.size wr w6:=hb6
        have z6r:=hb6r.size
        obtain ⟨Y,hY⟩:∃ Y,Y=w6.alloc (.cells #[.int .i64 P.K,.int .i64 P.N,.string P.S,.string P.Z,.int .i64 P.T.K,.int .i64 P.T.N,.slice za la ca,.slice zb lb cb,.slice zc lc cc] 34):=⟨_,rfl⟩
        have hYb:Below w6.heap.size w6 Y:=by rw [hY];exact (Below.refl _ _).alloc (Nat.le_refl _) _
        have hYs:Y.heap.size=w6.heap.size+1:=by rw [hY];simp
        have hY0:Y.heap[w6.heap.size]?=some (.cells #[.int .i64 P.K,.int .i64 P.N,.string P.S,.string P.Z,.int .i64 P.T.K,.int .i64 P.T.N,.slice za la ca,.slice zb lb cb,.slice zc lc cc] 34 (0,0)):=by rw [hY];exact heap_new rfl
        have HY:Hid (Y=_):=hY
        have hYr:Below wr.heap.size wr Y:=hb6r.trans (hYb.mono z6r)
        clear hY KB u0 u1 u2 u3 u4 u5 u6 u7 u8
        cases ok with
        | false =>
          have hSY:=hS.out.below hYr
          have hbY:=hSY.bel
          have hrb:betaAllT t=u:=by rw [← hall.out,allM_no (by rw [HR.out])]
          have HRB:Hid (betaAllT t=u):=hrb
          obtain ⟨bN,D8,d8,⟨za2,la2,ca2,zb2,lb2,cb2,zc2,lc2,cc2,h9N,hfN⟩,hndN,hnbN,hinN⟩:=hSY.tree
          have rr:=(hbY.block (w.heap.size+1) (by omega)).trans hX1
          obtain ⟨y0,y1,y2,y3,y4,y5,y6,y7,y8⟩:=Nine.box rr
          have yf:=row_free rr
          have HFIN:Hid (∃ D' d',NewM w D' d' (betaAllT t) (.returned (.agg #[.int .i64 u.K,.int .i64 u.N,.string u.S,.string u.Z,.int .i64 u.T.K,.int .i64 u.T.N,.slice za2 la2 ca2,.slice zb2 lb2 cb2,.slice zc2 lc2 cc2])) (set9 Y (w.heap.size+1) 0 (.int .i64 u.K) (.int .i64 u.N) (.string u.S) (.string u.Z) (.int .i64 u.T.K) (.int .i64 u.T.N) (.slice za2 la2 ca2) (.slice zb2 lb2 cb2) (.slice zc2 lc2 cc2))) :=
            new_finB (hXb.trans (hbY.mono (by omega))) (by omega) hfN hndN (fun g hg=>by have:=hinN g hg;omega) HRB.out _ rfl
          obtain ⟨q0,q1,q2,q3,q4,q5,q6,q7,q8⟩:=h9N
          clear hfN hndN hinN hnbN hSY hrb hO6 hS H9U
          go_upto_region 7 with fail
          rw [← HY.out]
          go_wp2_with fail
          (try simp only [Exit.inBlock,Exit.then]);refine bodyPost_ret (v:=.agg #[.int .i64 u.K,.int .i64 u.N,.string u.S,.string u.Z,.int .i64 u.T.K,.int .i64 u.T.N,.slice za2 la2 ca2,.slice zb2 lb2 cb2,.slice zc2 lc2 cc2]) (by simp [results,Tryz.results13,go_sem,y0,y1,y2,y3,y4,y5,y6,y7,y8]) rfl ?_
          exact HFIN.out
        | true =>
          have hO6Y:FmO wr.heap.size Y.heap.size Y D6 d6 P za la zb lb zc lc:=by
            obtain ⟨bn,hfn,hndn,hbn⟩:=hO6
            exact ⟨bn,FldO.keep (fun k hk=>hYb.block k (hbn k hk).2) hfn,hndn,fun k hk=>by have:=hbn k hk;have:=z6;omega⟩
          have HSN:Hid (SpS X ((((((((((Y.setCell ⟨q,0,none⟩ (.int .i64 P.K)).setCell ⟨q,1,none⟩ (.int .i64 P.N)).setCell ⟨q,2,none⟩ (.string P.S)).setCell ⟨q,3,none⟩ (.string P.Z)).setCell ⟨q,4,none⟩ (.int .i64 P.T.K)).setCell ⟨q,5,none⟩ (.int .i64 P.T.N)).setCell ⟨q,6,none⟩ (.slice za la ca)).setCell ⟨q,7,none⟩ (.slice zb lb cb)).setCell ⟨q,8,none⟩ (.slice zc lc cc))) q X.heap.size P):=sps_next hS.out hYr hO6Y HQ.out hzr _ rfl
          have HALL2:Hid (allM (150 - (i+1)) P=betaAllT t):=by
            show _=_
            rw [← hall.out,show 150 - i=150 - (i+1)+1 by omega,allM_yes (by rw [HR.out]),HR.out]
          have HCU2:Hid (cntM P≤1048576):=by
            have:=beta_cntB u hcu.out
            rw [HR.out] at this
            exact this
          have hqY:q < Y.heap.size:=by have:=hYr.size;omega
          obtain ⟨g0,g1,g2,g3,g4,g5,g6,g7,g8⟩:=H9U.out.below hYr hql
          obtain ⟨csq,hrq,_⟩:=(hS.out).row
          have gf:=row_free ((hYr.block q hql).trans hrq)
          obtain ⟨e0,e1',e2',e3',e4,e5,e6,e7,e8⟩:=Nine.box hY0
          clear hO6 hO6Y hFU hrq
          go_upto_region 7 with fail
          rw [← HY.out]
          go_wp2_with fail
          go_roundw
          case rel=>first | exact ⟨i+1,P,by go_num,HI1.out,HALL2,HCU2,HSN⟩ | ((repeat apply Exists.intro);exact ⟨⟨i+1,P,by go_num,HI1.out,HALL2,HCU2,HSN⟩,rfl⟩)
          case measure=>have:=HI1.out;simp [intOf];omega
      · have hi150:i=150:=by omega
        have HRB:Hid (betaAllT t=u):=by show _=_;rw [← hall.out,hi150];rfl
        have hil:¬ (i:Int) < 150:=by omega
        clear hall
        subst hi150
        obtain ⟨bN,D8,d8,⟨za,la,ca,zb,lb,cb,zc,lc,cc,h9N,hfN⟩,hndN,hnbN,hinN⟩:=hS.out.tree
        have rr:=(hbr.block (w.heap.size+1) (by omega)).trans hX1
        obtain ⟨y0,y1,y2,y3,y4,y5,y6,y7,y8⟩:=Nine.box rr
        have yf:=row_free rr
        have HFIN:Hid (∃ D' d',NewM w D' d' (betaAllT t) (.returned (.agg #[.int .i64 u.K,.int .i64 u.N,.string u.S,.string u.Z,.int .i64 u.T.K,.int .i64 u.T.N,.slice za la ca,.slice zb lb cb,.slice zc lc cc])) (set9 wr (w.heap.size+1) 0 (.int .i64 u.K) (.int .i64 u.N) (.string u.S) (.string u.Z) (.int .i64 u.T.K) (.int .i64 u.T.N) (.slice za la ca) (.slice zb lb cb) (.slice zc lc cc))) :=
          new_finB (hXb.trans (hbr.mono (by omega))) (by omega) hfN hndN (fun g hg=>by have:=hinN g hg;omega) (HRB.out) _ rfl
        obtain ⟨q0,q1,q2,q3,q4,q5,q6,q7,q8⟩:=h9N
        clear hfN hndN hinN hnbN
        go_wp2_with fail
        (try simp only [Exit.inBlock,Exit.then]);refine bodyPost_ret (v:=.agg #[.int .i64 u.K,.int .i64 u.N,.string u.S,.string u.Z,.int .i64 u.T.K,.int .i64 u.T.N,.slice za la ca,.slice zb lb cb,.slice zc lc cc]) (by simp [results,Tryz.results13,go_sem,y0,y1,y2,y3,y4,y5,y6,y7,y8]) rfl ?_
        exact HFIN.out
end Go.Proofs.YtcepgedbmffkdaaGreat

/-
  What the model's 'Pure' comes to.
-/
namespace Go.Proofs.YtcepgedbmffkdaaGreat
open Go.RowKit
set_option linter.unusedVariables false
set_option linter.unusedSimpArgs false
def SaidSP (D d:Nat):Prop:=∀ (L B:Nat) (t:Tm) (a1:Option Addr) (l1 c1:Nat) (a2:Option Addr) (l2 c2:Nat) (a3:Option Addr) (l3 c3:Nat) (w:World),B≤w.heap.size→Fm L B w D d t a1 l1 a2 l2 a3 l3 →
    Calls Tryz.prog 63 #[.agg #[.int .i64 t.K,.int .i64 t.N,.string t.S,.string t.Z,.int .i64 t.T.K,.int .i64 t.T.N,.slice a1 l1 c1,.slice a2 l2 c2,.slice a3 l3 c3]] w fun e w'=>e=.returned (.bool (pureM t))∧Below w.heap.size w w'
theorem two_parts {l:List Tm} (h:l.length=2):l.all pureM=(pureM (l[0]'(by omega)) && pureM (l[1]'(by omega))):=by
  match l,h with
  | [x,y],_=>simp
set_option maxHeartbeats 2000000 in
theorem sp_step (D d:Nat) (IH:∀ d',d=d'+1→SaidSP D d'):SaidSP D d:=by
  intro L B t a1 l1 c1 a2 l2 c2 a3 l3 c3 w hB hf
  obtain ⟨X,hX⟩:∃ X,X=w.alloc (.cells #[.int .i64 t.K,.int .i64 t.N,.string t.S,.string t.Z,.int .i64 t.T.K,.int .i64 t.T.N,.slice a1 l1 c1,.slice a2 l2 c2,.slice a3 l3 c3] 34):=⟨_,rfl⟩
  have hXb:Below w.heap.size w X:=by rw [hX];exact (Below.refl _ _).alloc (Nat.le_refl _) _
  have hX1:X.heap[w.heap.size]?=some (.cells #[.int .i64 t.K,.int .i64 t.N,.string t.S,.string t.Z,.int .i64 t.T.K,.int .i64 t.T.N,.slice a1 l1 c1,.slice a2 l2 c2,.slice a3 l3 c3] 34 (0,0)):=by rw [hX];exact heap_new rfl
  have hXs:X.heap.size=w.heap.size+1:=by rw [hX];simp
  have HX:Hid (X=_):=hX
  clear hX
  have HL:Hid (l3=t.A.length):=hf.m.len.1
  have hl3:=hf.m.len.2
  obtain ⟨f0,f1,f2,f3,f4,f5,f6,f7,f8⟩:=Nine.box hX1
  rw [pureM_eq]
  by_cases hp:t.K=9∨t.K=13
  · rw [if_pos hp]
    by_cases h2:l3=2
    · subst h2
      have hlen:t.A.length=2:=HL.out.symm
      obtain ⟨p0,hp0⟩:∃ p0,pureM (t.A[0]'(by omega))=p0:=⟨_,rfl⟩
      obtain ⟨p1,hp1⟩:∃ p1,pureM (t.A[1]'(by omega))=p1:=⟨_,rfl⟩
      rw [two_parts hlen,hp0,hp1]
      simp only [hlen,decide_true,Bool.true_and]
      cases d with
      | zero=>have:=hf.m.1;omega
      | succ d =>
        have ih:=IH d rfl
        obtain ⟨b,o,rfl,hbL,hbB,x1,m1,k1,x2,m2,k2,x3,m3,k3,hn0,hf0⟩:=hf.m.2.2 0 (by omega)
        obtain ⟨b',o',heq,_,_,y1,n1,j1,y2,n2,j2,y3,n3,j3,hn1,hf1⟩:=hf.m.2.2 1 (by omega)
        cases heq
        have hbX:b < X.heap.size:=by omega
        have E:=hn0.below hXb (by omega)
        rw [HX.out,Nat.zero_mul,Nat.add_zero] at E
        obtain ⟨e0,e1,e2,e3,e4,e5,e6,e7,e8⟩:=E
        rw [Nat.one_mul] at hn1
        have hf0':=Fm.below hXb hB hf0
        have hk:(t.K == 9)=true∨((t.K == 9)=false∧(t.K == 13)=true):=by
          rcases hp with h | h
          · left;simp [h]
          · right;simp [h]
        have HP0:Hid (_=p0):=hp0
        have HP1:Hid (_=p1):=hp1
        clear hp0 hp1 hp
        rcases hk with hk | ⟨hk,hk2⟩
        all_goals
          go_enter Tryz.func63,Tryz.ntmps63
          go_wp2_with fail
          rw [← HX.out]
          refine (ih L B _ _ _ _ _ _ _ _ _ _ X (by omega) hf0').mono ?_
          rintro e w1 ⟨rfl,hb1⟩
          rw [HP0.out]
          have hz1:=hb1.size
          have hbw1:Below w.heap.size w w1:=hXb.trans (hb1.mono hXb.size)
          cases p0
          · go_wp2_with fail
            go_ret
            exact ⟨rfl,hbw1⟩
          · have z1:=(hb1.block w.heap.size (by omega)).trans hX1
            obtain ⟨_,_,_,_,_,_,_,_,g8⟩:=Nine.box z1
            obtain ⟨q0,q1,q2,q3,q4,q5,q6,q7,q8⟩:=hn1.below hbw1 (by omega)
            have hf1':=Fm.below hbw1 hB hf1
            clear f0 f1 f2 f3 f4 f5 f6 f7 f8 e0 e1 e2 e3 e4 e5 e6 e7 e8
            go_wp2_with fail
            refine (ih L B _ _ _ _ _ _ _ _ _ _ w1 (by omega) hf1').mono ?_
            rintro e w2 ⟨rfl,hb2⟩
            rw [HP1.out]
            go_wp2_with fail
            go_ret
            exact ⟨by cases p1 <;> rfl,hbw1.trans (hb2.mono hbw1.size)⟩
    · have hne:((l3:Int) == 2)=false:=by rw [beq_eq_false_iff_ne];omega
      have hlen:¬ t.A.length=2:=by have:=HL.out;omega
      simp only [hlen,decide_false,Bool.false_and]
      clear hlen
      have hk:(t.K == 9)=true∨((t.K == 9)=false∧(t.K == 13)=true):=by
        rcases hp with h | h
        · left;simp [h]
        · right;simp [h]
      rcases hk with hk | ⟨hk,hk2⟩
      all_goals
        go_enter Tryz.func63,Tryz.ntmps63
        go_wp2_with fail
        go_ret
        refine ⟨rfl,?_⟩
        first | exact hXb | (rw [← HX.out];exact hXb)
  · rw [if_neg hp]
    have h9:(t.K == 9)=false:=by rw [beq_eq_false_iff_ne];omega
    have h13:(t.K == 13)=false:=by rw [beq_eq_false_iff_ne];omega
    go_enter Tryz.func63,Tryz.ntmps63
    go_wp2_with fail
    rw [← HX.out]
    refine (sIsValue_any D d L B t _ _ _ _ _ _ _ _ _ X (by omega) (Fm.below hXb hB hf)).mono ?_
    rintro e w1 ⟨rfl,hb1⟩
    go_wp2_with fail
    go_ret
    exact ⟨rfl,hXb.trans (hb1.mono hXb.size)⟩
theorem sPure_any (D d:Nat):SaidSP D d:=by
  induction d with
  | zero=>exact sp_step D 0 (fun d' h=>by omega)
  | succ d ih=>exact sp_step D (d+1) (fun d' h=>by
    obtain rfl:d'=d:=by omega
    exact ih)
end Go.Proofs.YtcepgedbmffkdaaGreat
