/-
  What the program's 'putFirst' comes to: at the first term that may be put in, that one is.
-/
import Derived.Test.YtcepgedbmffkdaaGreatFbaPw
import Derived.Test.YtcepgedbmffkdaaGreatFbaPk
namespace Go.Proofs.YtcepgedbmffkdaaGreat
open Go.RowKit
set_option linter.unusedVariables false
set_option linter.unusedSimpArgs false
def FiE (w w':World) (D b o:Nat) (r:Tm × Bool) (bL:List Nat) (e:Ending):Prop :=
  e=.returned (.bool r.2)∧(r.2=false→Below w.heap.size w w') ∧
  (r.2=true→Wk (b :: bL) w w'∧(∀ (cs:Array Value) (ty:TypeId),w.heap[b]?=some (.cells cs ty (0,0))→∃ cs',w'.heap[b]?=some (.cells cs' ty (0,0))∧cs'.size=cs.size)∧(∀ q,q < o∨o+8 < q→w'.cell? ⟨b,q,none⟩=w.cell? ⟨b,q,none⟩) ∧
    ∃ d' bN,Own9 w' (D+1) d' b o r.1 bN∧bN.Nodup∧∀ k ∈ bN,(k ∈ bL∨w.heap.size≤k)∧k < w'.heap.size)
def SaidFi (l:Nat):Prop:=∀ (L B D0:Nat) (w0:World) (t:Tm) (vf:Value) (m n:Nat) (w:World) (D d b o:Nat) (bL:List Nat),Fv L B w0 D0 l t vf→nodesM l t=some m→nodesM 24 t=some n→n≤150→cntM t≤1048576 →
    Own9 w D d b o t bL→bL.Nodup→b ∉ bL→(∀ k ∈ bL,k < w.heap.size)→(∃ (cs:Array Value) (ty:TypeId),w.heap[b]?=some (.cells cs ty (0,0))∧o+8 < cs.size) →
    Calls Tryz.prog 26 #[.pointer (some ⟨b,o,none⟩),vf] w fun e w'=>FiE w w' D b o (betaM l t) bL e
set_option maxRecDepth 100000 in
set_option maxHeartbeats 16000000 in
theorem fi_step (l:Nat) (IH:SaidFi l):SaidFi (l+1):=by
  intro L B D0 w0 t vf m n w D d b o bL hv hm hn hn2 hct hO hnd hnb hin hrow
  have HROW:Hid (∃ (cs:Array Value) (ty:TypeId),w.heap[b]?=some (.cells cs ty (0,0))∧o+8 < cs.size):=hrow
  have hbw:b < w.heap.size:=by obtain ⟨cs,ty,h,_⟩:=hrow;exact (Array.getElem?_eq_some_iff.1 h).1
  have HO:Hid (Own9 w D d b o t bL):=hO
  obtain ⟨a1,l1,c1,a2,l2,c2,a3,l3,c3,h9,hf⟩:=hO
  have KW:=putWithin_any l L B D0 w0 t vf hv m n hm hn hn2 hct w D d a1 l1 c1 a2 l2 c2 a3 l3 c3 bL hf hnd hin
  obtain ⟨nd,v1,k1,j1,v2,k2,j2,p,_,_,hp,hvf⟩:=hv
  have HVF:Hid (vf=fval nd t.K t.N t.S t.Z t.T.K t.T.N (.slice v1 k1 j1) (.slice v2 k2 j2) (p 0) (p 1) (p 2)):=hvf
  have HP:Hid (∀ i (h:i < t.A.length),Fv L B w0 D0 l t.A[i] (p i)):=hp
  have HHM:Hid (nodesM (l+1) t=some m∧nodesM 24 t=some n):=⟨hm,hn⟩
  obtain ⟨hk1,hk2,hsh⟩:=nodeM_kinds (nodesM_get hm).1
  obtain ⟨x0,x1,x2,x3,x4,x5,x6,x7,x8⟩:=h9
  obtain ⟨ok,hok⟩:∃ ok,(hereM t).2=ok:=⟨_,rfl⟩
  have HOK:Hid ((hereM t).2=ok):=hok
  clear hvf hp hm hn hf hrow
  go_enter Tryz.func26,Tryz.ntmps26
  go_wp2_with fail
  refine KW.mono ?_
  rintro e w1 ⟨P,za,la,ca,zb,lb,cb,zc,lc,cc,rfl,hno,hyes⟩
  rw [hok] at hno hyes ⊢
  clear KW hok
  obtain ⟨Y,hY⟩:∃ Y,Y=w1.alloc (.cells #[.int .i64 P.K,.int .i64 P.N,.string P.S,.string P.Z,.int .i64 P.T.K,.int .i64 P.T.N,.slice za la ca,.slice zb lb cb,.slice zc lc cc] 34):=⟨_,rfl⟩
  have hYb:Below w1.heap.size w1 Y:=by rw [hY];exact (Below.refl _ _).alloc (Nat.le_refl _) _
  have hYs:Y.heap.size=w1.heap.size+1:=by rw [hY];simp
  have hY0:Y.heap[w1.heap.size]?=some (.cells #[.int .i64 P.K,.int .i64 P.N,.string P.S,.string P.Z,.int .i64 P.T.K,.int .i64 P.T.N,.slice za la ca,.slice zb lb cb,.slice zc lc cc] 34 (0,0)):=by rw [hY];exact heap_new rfl
  have HY:Hid (Y=_):=hY
  clear hY
  cases ok with
  | true =>
    obtain ⟨hPe,hWk,d',bsP,hfP,hndP,hinP⟩:=hyes rfl
    have hwk:=hWk.block b hbw hnb
    have z1:=hWk.size
    obtain ⟨cs,ty,hrb,hrs⟩:=HROW.out
    have hrbY:Y.heap[b]?=some (.cells cs ty (0,0)):=(hYb.block b (by omega)).trans (hwk.trans hrb)
    have hcY:∀ q,Y.cell? ⟨b,q,none⟩=w.cell? ⟨b,q,none⟩:=fun q=>World.cell?_of_block ((hYb.block b (by omega)).trans hwk)
    have HFIN:Hid (∀ W',W'=set9 Y b o (.int .i64 P.K) (.int .i64 P.N) (.string P.S) (.string P.Z) (.int .i64 P.T.K) (.int .i64 P.T.N) (.slice za la ca) (.slice zb lb cb) (.slice zc lc cc)→FiE w W' D b o (betaM (l+1) t) bL (.returned (.bool true))):=fun W' hW'=>by
      have hWo:∀ k,k≠b→W'.heap[k]?=Y.heap[k]?:=fun k hk=>by rw [hW'];exact set9_other k hk
      have hWs:W'.heap.size=Y.heap.size:=by rw [hW'];exact set9_size _ _ _ _ _ _ _ _ _ _ _ _
      have hWb:Below b Y W':=by rw [hW'];exact set9_below (Below.refl _ _) (Nat.le_refl _)
      rw [betaM_here HOK.out,← hPe]
      have hne:∀ k ∈ bsP,k≠b:=fun k hk e=>by
        rcases (hinP k hk).1 with h | h
        · exact hnb (e ▸ h)
        · omega
      refine ⟨rfl,(fun h=>by cases h),fun _=>⟨⟨hWb.os.trans (hYb.os.trans hWk.os),hWb.tape.trans (hYb.tape.trans hWk.tape),hWb.output.trans (hYb.output.trans hWk.output),by omega,fun k hk hs=>?_⟩,fun cs2 ty2 hr2=>?_,fun q hq=>?_,d',bsP,?_,hndP,fun k hk=>⟨(hinP k hk).1,by have:=(hinP k hk).2;omega⟩⟩⟩
      · exact (hWo k (fun e=>hs (by simp [e]))).trans ((hYb.block k (by omega)).trans (hWk.block k hk (fun h=>hs (List.mem_cons_of_mem _ h))))
      · rw [hrb] at hr2
        injection hr2 with hr2
        injection hr2 with e1 e2 _
        subst e1 e2
        rw [hW']
        exact set9_row hrbY
      · rw [hW']
        exact (set9_far hrbY q hq).trans (hcY q)
      · refine ⟨za,la,ca,zb,lb,cb,zc,lc,cc,?_,FldO.keep (fun k hk=>(hWo k (hne k hk)).trans (hYb.block k (hinP k hk).2)) hfP⟩
        rw [hW']
        exact set9_cells hrbY hrs
    obtain ⟨g0,g1,g2,g3,g4,g5,g6,g7,g8⟩:Nine Y b o t.K t.N t.S t.Z t.T.K t.T.N (.slice a1 l1 c1) (.slice a2 l2 c2) (.slice a3 l3 c3):=Nine.of_cells ⟨x0,x1,x2,x3,x4,x5,x6,x7,x8⟩ (fun i _=>hcY _)
    have gf:=row_free hrbY
    obtain ⟨q0,q1,q2,q3,q4,q5,q6,q7,q8⟩:=Nine.box hY0
    clear hno hyes x0 x1 x2 x3 x4 x5 x6 x7 x8 hWk hfP hndP hinP hPe hcY
    go_upto_region 2 with fail
    rw [← HY.out]
    go_wp2_with fail
    first | go_ret | fail "HERE"
    exact HFIN.out _ rfl
  | false =>
    have hb1:=hno rfl
    have z1:=hb1.size
    have hbY:Below w.heap.size w Y:=hb1.trans (hYb.mono z1)
    clear hno hyes x0 x1 x2 x3 x4 x5 x6 x7 x8
    go_upto_region 5 with fail
    rw [← HY.out]
    go_cut [1,22,23,24] from 7 (fun _ v len z wx=>∃ (ao:Option Addr) (cap:Nat),v=.slice ao t.A.length cap∧len=.int .i64 t.A.length∧z=.int .i64 0∧Below Y.heap.size Y wx∧∀ i (h:i < t.A.length),∃ g,ao=some ⟨g,0,none⟩∧g < wx.heap.size∧wx.cell? ⟨g,i,none⟩=some (p i))
    case first =>
      have hK:t.K=1∨t.K=2∨t.K=3∨t.K=4∨t.K=5∨t.K=6∨t.K=7∨t.K=8∨t.K=9∨t.K=10∨t.K=11∨t.K=12∨t.K=13∨t.K=14∨t.K=15∨t.K=16∨t.K=17:=by omega
      rcases hK with hK | hK | hK | hK | hK | hK | hK | hK | hK | hK | hK | hK | hK | hK | hK | hK | hK
      · have hl:t.A.length=0:=by have h:=hsh;rw [hK] at h;have h2:shP 1=0:=rfl;omega
        have hvk:vf=.iface 105 (.agg #[.int .i64 t.N]):=by rw [HVF.out,hK];rfl
        clear HVF
        subst hvk
        go_wp2_with fail
        refine (parts_1 t.S t.Z nd t.N t.T.K t.T.N v1 k1 j1 v2 k2 j2 0 0 0 .nilIface .nilIface .nilIface Y).mono ?_
        rintro e wx ⟨rfl,hXb⟩
        go_wp2_with fail
        go_meet
        case rel=>exact ⟨none,0,(by rw [hl] <;> rfl),(by rw [hl] <;> rfl),rfl,hXb,fun i hi=>by omega⟩
      · have hl:t.A.length=0:=by have h:=hsh;rw [hK] at h;have h2:shP 2=0:=rfl;omega
        have hvk:vf=.iface 106 (.agg #[.int .i64 t.N]):=by rw [HVF.out,hK];rfl
        clear HVF
        subst hvk
        go_wp2_with fail
        refine (parts_2 t.S t.Z nd t.N t.T.K t.T.N v1 k1 j1 v2 k2 j2 0 0 0 .nilIface .nilIface .nilIface Y).mono ?_
        rintro e wx ⟨rfl,hXb⟩
        go_wp2_with fail
        go_meet
        case rel=>exact ⟨none,0,(by rw [hl] <;> rfl),(by rw [hl] <;> rfl),rfl,hXb,fun i hi=>by omega⟩
      · have hl:t.A.length=0:=by have h:=hsh;rw [hK] at h;have h2:shP 3=0:=rfl;omega
        have hvk:vf=.iface 108 (.agg #[.string t.S,.slice v2 k2 j2]):=by rw [HVF.out,hK];rfl
        clear HVF
        subst hvk
        go_wp2_with fail
        refine (parts_3 t.S t.Z nd t.N t.T.K t.T.N v1 k1 j1 v2 k2 j2 0 0 0 .nilIface .nilIface .nilIface Y).mono ?_
        rintro e wx ⟨rfl,hXb⟩
        go_wp2_with fail
        go_meet
        case rel=>exact ⟨none,0,(by rw [hl] <;> rfl),(by rw [hl] <;> rfl),rfl,hXb,fun i hi=>by omega⟩
      · have hl:t.A.length=1:=by have h:=hsh;rw [hK] at h;have h2:shP 4=1:=rfl;omega
        obtain ⟨τ0,u0,e0⟩:=(HP.out 0 (by omega)).iface
        have hvk:vf=.iface 110 (.agg #[.int .i64 nd,.string t.S,.int .i64 t.T.K,.int .i64 t.T.N,.slice v1 k1 j1,.iface τ0 u0]):=by rw [HVF.out,hK,e0];rfl
        clear HVF
        subst hvk
        go_wp2_with fail
        refine (parts_4 t.S t.Z nd t.N t.T.K t.T.N v1 k1 j1 v2 k2 j2 τ0 0 0 u0 .nilIface .nilIface Y).mono ?_
        rintro e wx ⟨g,rfl,hXb,hg,hrow⟩
        go_wp2_with fail
        go_meet
        case rel =>
          refine ⟨some ⟨g,0,none⟩,1,(by rw [hl] <;> rfl),(by rw [hl] <;> rfl),rfl,hXb,fun i hi=>⟨g,rfl,(Array.getElem?_eq_some_iff.1 hrow).1,?_⟩⟩
          have:i=0:=by omega
          obtain rfl:=this
          rw [e0];exact row_cell hrow 0
      · have hl:t.A.length=2:=by have h:=hsh;rw [hK] at h;have h2:shP 5=2:=rfl;omega
        obtain ⟨τ0,u0,e0⟩:=(HP.out 0 (by omega)).iface
        obtain ⟨τ1,u1,e1⟩:=(HP.out 1 (by omega)).iface
        have hvk:vf=.iface 112 (.agg #[.int .i64 nd,.iface τ0 u0,.iface τ1 u1]):=by rw [HVF.out,hK,e0,e1];rfl
        clear HVF
        subst hvk
        go_wp2_with fail
        refine (parts_5 t.S t.Z nd t.N t.T.K t.T.N v1 k1 j1 v2 k2 j2 τ0 τ1 0 u0 u1 .nilIface Y).mono ?_
        rintro e wx ⟨g,rfl,hXb,hg,hrow⟩
        go_wp2_with fail
        go_meet
        case rel =>
          refine ⟨some ⟨g,0,none⟩,2,(by rw [hl] <;> rfl),(by rw [hl] <;> rfl),rfl,hXb,fun i hi=>⟨g,rfl,(Array.getElem?_eq_some_iff.1 hrow).1,?_⟩⟩
          have:i=0∨i=1:=by omega
          rcases this with rfl | rfl
          · rw [e0];exact row_cell hrow 0
          · rw [e1];exact row_cell hrow 1
      · have hl:t.A.length=2:=by have h:=hsh;rw [hK] at h;have h2:shP 6=2:=rfl;omega
        obtain ⟨τ0,u0,e0⟩:=(HP.out 0 (by omega)).iface
        obtain ⟨τ1,u1,e1⟩:=(HP.out 1 (by omega)).iface
        have hvk:vf=.iface 114 (.agg #[.string t.S,.int .i64 t.N,.iface τ0 u0,.iface τ1 u1]):=by rw [HVF.out,hK,e0,e1];rfl
        clear HVF
        subst hvk
        go_wp2_with fail
        refine (parts_6 t.S t.Z nd t.N t.T.K t.T.N v1 k1 j1 v2 k2 j2 τ0 τ1 0 u0 u1 .nilIface Y).mono ?_
        rintro e wx ⟨g,rfl,hXb,hg,hrow⟩
        go_wp2_with fail
        go_meet
        case rel =>
          refine ⟨some ⟨g,0,none⟩,2,(by rw [hl] <;> rfl),(by rw [hl] <;> rfl),rfl,hXb,fun i hi=>⟨g,rfl,(Array.getElem?_eq_some_iff.1 hrow).1,?_⟩⟩
          have:i=0∨i=1:=by omega
          rcases this with rfl | rfl
          · rw [e0];exact row_cell hrow 0
          · rw [e1];exact row_cell hrow 1
      · have hl:t.A.length=2:=by have h:=hsh;rw [hK] at h;have h2:shP 7=2:=rfl;omega
        obtain ⟨τ0,u0,e0⟩:=(HP.out 0 (by omega)).iface
        obtain ⟨τ1,u1,e1⟩:=(HP.out 1 (by omega)).iface
        have hvk:vf=.iface 116 (.agg #[.string t.S,.int .i64 t.N,.int .i64 t.T.K,.int .i64 t.T.N,.slice v1 k1 j1,.iface τ0 u0,.iface τ1 u1]):=by rw [HVF.out,hK,e0,e1];rfl
        clear HVF
        subst hvk
        go_wp2_with fail
        refine (parts_7 t.S t.Z nd t.N t.T.K t.T.N v1 k1 j1 v2 k2 j2 τ0 τ1 0 u0 u1 .nilIface Y).mono ?_
        rintro e wx ⟨g,rfl,hXb,hg,hrow⟩
        go_wp2_with fail
        go_meet
        case rel =>
          refine ⟨some ⟨g,0,none⟩,2,(by rw [hl] <;> rfl),(by rw [hl] <;> rfl),rfl,hXb,fun i hi=>⟨g,rfl,(Array.getElem?_eq_some_iff.1 hrow).1,?_⟩⟩
          have:i=0∨i=1:=by omega
          rcases this with rfl | rfl
          · rw [e0];exact row_cell hrow 0
          · rw [e1];exact row_cell hrow 1
      · have hl:t.A.length=3:=by have h:=hsh;rw [hK] at h;have h2:shP 8=3:=rfl;omega
        obtain ⟨τ0,u0,e0⟩:=(HP.out 0 (by omega)).iface
        obtain ⟨τ1,u1,e1⟩:=(HP.out 1 (by omega)).iface
        obtain ⟨τ2,u2,e2⟩:=(HP.out 2 (by omega)).iface
        have hvk:vf=.iface 118 (.agg #[.iface τ0 u0,.iface τ1 u1,.iface τ2 u2]):=by rw [HVF.out,hK,e0,e1,e2];rfl
        clear HVF
        subst hvk
        go_wp2_with fail
        refine (parts_8 t.S t.Z nd t.N t.T.K t.T.N v1 k1 j1 v2 k2 j2 τ0 τ1 τ2 u0 u1 u2 Y).mono ?_
        rintro e wx ⟨g,rfl,hXb,hg,hrow⟩
        go_wp2_with fail
        go_meet
        case rel =>
          refine ⟨some ⟨g,0,none⟩,3,(by rw [hl] <;> rfl),(by rw [hl] <;> rfl),rfl,hXb,fun i hi=>⟨g,rfl,(Array.getElem?_eq_some_iff.1 hrow).1,?_⟩⟩
          have:i=0∨i=1∨i=2:=by omega
          rcases this with rfl | rfl | rfl
          · rw [e0];exact row_cell hrow 0
          · rw [e1];exact row_cell hrow 1
          · rw [e2];exact row_cell hrow 2
      · have hl:t.A.length=2:=by have h:=hsh;rw [hK] at h;have h2:shP 9=2:=rfl;omega
        obtain ⟨τ0,u0,e0⟩:=(HP.out 0 (by omega)).iface
        obtain ⟨τ1,u1,e1⟩:=(HP.out 1 (by omega)).iface
        have hvk:vf=.iface 120 (.agg #[.iface τ0 u0,.iface τ1 u1]):=by rw [HVF.out,hK,e0,e1];rfl
        clear HVF
        subst hvk
        go_wp2_with fail
        refine (parts_9 t.S t.Z nd t.N t.T.K t.T.N v1 k1 j1 v2 k2 j2 τ0 τ1 0 u0 u1 .nilIface Y).mono ?_
        rintro e wx ⟨g,rfl,hXb,hg,hrow⟩
        go_wp2_with fail
        go_meet
        case rel =>
          refine ⟨some ⟨g,0,none⟩,2,(by rw [hl] <;> rfl),(by rw [hl] <;> rfl),rfl,hXb,fun i hi=>⟨g,rfl,(Array.getElem?_eq_some_iff.1 hrow).1,?_⟩⟩
          have:i=0∨i=1:=by omega
          rcases this with rfl | rfl
          · rw [e0];exact row_cell hrow 0
          · rw [e1];exact row_cell hrow 1
      · have hl:t.A.length=1:=by have h:=hsh;rw [hK] at h;have h2:shP 10=1:=rfl;omega
        obtain ⟨τ0,u0,e0⟩:=(HP.out 0 (by omega)).iface
        have hvk:vf=.iface 122 (.agg #[.iface τ0 u0]):=by rw [HVF.out,hK,e0];rfl
        clear HVF
        subst hvk
        go_wp2_with fail
        refine (parts_10 t.S t.Z nd t.N t.T.K t.T.N v1 k1 j1 v2 k2 j2 τ0 0 0 u0 .nilIface .nilIface Y).mono ?_
        rintro e wx ⟨g,rfl,hXb,hg,hrow⟩
        go_wp2_with fail
        go_meet
        case rel =>
          refine ⟨some ⟨g,0,none⟩,1,(by rw [hl] <;> rfl),(by rw [hl] <;> rfl),rfl,hXb,fun i hi=>⟨g,rfl,(Array.getElem?_eq_some_iff.1 hrow).1,?_⟩⟩
          have:i=0:=by omega
          obtain rfl:=this
          rw [e0];exact row_cell hrow 0
      · have hl:t.A.length=1:=by have h:=hsh;rw [hK] at h;have h2:shP 11=1:=rfl;omega
        obtain ⟨τ0,u0,e0⟩:=(HP.out 0 (by omega)).iface
        have hvk:vf=.iface 123 (.agg #[.iface τ0 u0]):=by rw [HVF.out,hK,e0];rfl
        clear HVF
        subst hvk
        go_wp2_with fail
        refine (parts_11 t.S t.Z nd t.N t.T.K t.T.N v1 k1 j1 v2 k2 j2 τ0 0 0 u0 .nilIface .nilIface Y).mono ?_
        rintro e wx ⟨g,rfl,hXb,hg,hrow⟩
        go_wp2_with fail
        go_meet
        case rel =>
          refine ⟨some ⟨g,0,none⟩,1,(by rw [hl] <;> rfl),(by rw [hl] <;> rfl),rfl,hXb,fun i hi=>⟨g,rfl,(Array.getElem?_eq_some_iff.1 hrow).1,?_⟩⟩
          have:i=0:=by omega
          obtain rfl:=this
          rw [e0];exact row_cell hrow 0
      · have hl:t.A.length=0:=by have h:=hsh;rw [hK] at h;have h2:shP 12=0:=rfl;omega
        have hvk:vf=.iface 125 (.agg #[.int .i64 t.T.K,.int .i64 t.T.N,.slice v1 k1 j1]):=by rw [HVF.out,hK];rfl
        clear HVF
        subst hvk
        go_wp2_with fail
        refine (parts_12 t.S t.Z nd t.N t.T.K t.T.N v1 k1 j1 v2 k2 j2 0 0 0 .nilIface .nilIface .nilIface Y).mono ?_
        rintro e wx ⟨rfl,hXb⟩
        go_wp2_with fail
        go_meet
        case rel=>exact ⟨none,0,(by rw [hl] <;> rfl),(by rw [hl] <;> rfl),rfl,hXb,fun i hi=>by omega⟩
      · have hl:t.A.length=2:=by have h:=hsh;rw [hK] at h;have h2:shP 13=2:=rfl;omega
        obtain ⟨τ0,u0,e0⟩:=(HP.out 0 (by omega)).iface
        obtain ⟨τ1,u1,e1⟩:=(HP.out 1 (by omega)).iface
        have hvk:vf=.iface 127 (.agg #[.iface τ0 u0,.iface τ1 u1]):=by rw [HVF.out,hK,e0,e1];rfl
        clear HVF
        subst hvk
        go_wp2_with fail
        refine (parts_13 t.S t.Z nd t.N t.T.K t.T.N v1 k1 j1 v2 k2 j2 τ0 τ1 0 u0 u1 .nilIface Y).mono ?_
        rintro e wx ⟨g,rfl,hXb,hg,hrow⟩
        go_wp2_with fail
        go_meet
        case rel =>
          refine ⟨some ⟨g,0,none⟩,2,(by rw [hl] <;> rfl),(by rw [hl] <;> rfl),rfl,hXb,fun i hi=>⟨g,rfl,(Array.getElem?_eq_some_iff.1 hrow).1,?_⟩⟩
          have:i=0∨i=1:=by omega
          rcases this with rfl | rfl
          · rw [e0];exact row_cell hrow 0
          · rw [e1];exact row_cell hrow 1
      · have hl:t.A.length=3:=by have h:=hsh;rw [hK] at h;have h2:shP 14=3:=rfl;omega
        obtain ⟨τ0,u0,e0⟩:=(HP.out 0 (by omega)).iface
        obtain ⟨τ1,u1,e1⟩:=(HP.out 1 (by omega)).iface
        obtain ⟨τ2,u2,e2⟩:=(HP.out 2 (by omega)).iface
        have hvk:vf=.iface 129 (.agg #[.string t.S,.string t.Z,.iface τ0 u0,.iface τ1 u1,.iface τ2 u2]):=by rw [HVF.out,hK,e0,e1,e2];rfl
        clear HVF
        subst hvk
        go_wp2_with fail
        refine (parts_14 t.S t.Z nd t.N t.T.K t.T.N v1 k1 j1 v2 k2 j2 τ0 τ1 τ2 u0 u1 u2 Y).mono ?_
        rintro e wx ⟨g,rfl,hXb,hg,hrow⟩
        go_wp2_with fail
        go_meet
        case rel =>
          refine ⟨some ⟨g,0,none⟩,3,(by rw [hl] <;> rfl),(by rw [hl] <;> rfl),rfl,hXb,fun i hi=>⟨g,rfl,(Array.getElem?_eq_some_iff.1 hrow).1,?_⟩⟩
          have:i=0∨i=1∨i=2:=by omega
          rcases this with rfl | rfl | rfl
          · rw [e0];exact row_cell hrow 0
          · rw [e1];exact row_cell hrow 1
          · rw [e2];exact row_cell hrow 2
      · have hl:t.A.length=2:=by have h:=hsh;rw [hK] at h;have h2:shP 15=2:=rfl;omega
        obtain ⟨τ0,u0,e0⟩:=(HP.out 0 (by omega)).iface
        obtain ⟨τ1,u1,e1⟩:=(HP.out 1 (by omega)).iface
        have hvk:vf=.iface 131 (.agg #[.int .i64 t.N,.iface τ0 u0,.iface τ1 u1]):=by rw [HVF.out,hK,e0,e1];rfl
        clear HVF
        subst hvk
        go_wp2_with fail
        refine (parts_15 t.S t.Z nd t.N t.T.K t.T.N v1 k1 j1 v2 k2 j2 τ0 τ1 0 u0 u1 .nilIface Y).mono ?_
        rintro e wx ⟨g,rfl,hXb,hg,hrow⟩
        go_wp2_with fail
        go_meet
        case rel =>
          refine ⟨some ⟨g,0,none⟩,2,(by rw [hl] <;> rfl),(by rw [hl] <;> rfl),rfl,hXb,fun i hi=>⟨g,rfl,(Array.getElem?_eq_some_iff.1 hrow).1,?_⟩⟩
          have:i=0∨i=1:=by omega
          rcases this with rfl | rfl
          · rw [e0];exact row_cell hrow 0
          · rw [e1];exact row_cell hrow 1
      · have hl:t.A.length=1:=by have h:=hsh;rw [hK] at h;have h2:shP 16=1:=rfl;omega
        obtain ⟨τ0,u0,e0⟩:=(HP.out 0 (by omega)).iface
        have hvk:vf=.iface 133 (.agg #[.int .i64 t.T.K,.int .i64 t.T.N,.slice v1 k1 j1,.iface τ0 u0]):=by rw [HVF.out,hK,e0];rfl
        clear HVF
        subst hvk
        go_wp2_with fail
        refine (parts_16 t.S t.Z nd t.N t.T.K t.T.N v1 k1 j1 v2 k2 j2 τ0 0 0 u0 .nilIface .nilIface Y).mono ?_
        rintro e wx ⟨g,rfl,hXb,hg,hrow⟩
        go_wp2_with fail
        go_meet
        case rel =>
          refine ⟨some ⟨g,0,none⟩,1,(by rw [hl] <;> rfl),(by rw [hl] <;> rfl),rfl,hXb,fun i hi=>⟨g,rfl,(Array.getElem?_eq_some_iff.1 hrow).1,?_⟩⟩
          have:i=0:=by omega
          obtain rfl:=this
          rw [e0];exact row_cell hrow 0
      · have hl:t.A.length=2:=by have h:=hsh;rw [hK] at h;have h2:shP 17=2:=rfl;omega
        obtain ⟨τ0,u0,e0⟩:=(HP.out 0 (by omega)).iface
        obtain ⟨τ1,u1,e1⟩:=(HP.out 1 (by omega)).iface
        have hvk:vf=.iface 135 (.agg #[.string t.S,.iface τ0 u0,.iface τ1 u1]):=by rw [HVF.out,hK,e0,e1];rfl
        clear HVF
        subst hvk
        go_wp2_with fail
        refine (parts_17 t.S t.Z nd t.N t.T.K t.T.N v1 k1 j1 v2 k2 j2 τ0 τ1 0 u0 u1 .nilIface Y).mono ?_
        rintro e wx ⟨g,rfl,hXb,hg,hrow⟩
        go_wp2_with fail
        go_meet
        case rel =>
          refine ⟨some ⟨g,0,none⟩,2,(by rw [hl] <;> rfl),(by rw [hl] <;> rfl),rfl,hXb,fun i hi=>⟨g,rfl,(Array.getElem?_eq_some_iff.1 hrow).1,?_⟩⟩
          have:i=0∨i=1:=by omega
          rcases this with rfl | rfl
          · rw [e0];exact row_cell hrow 0
          · rw [e1];exact row_cell hrow 1
    case rest =>
      obtain ⟨ao,cap,rfl,rfl,rfl,hbc,hpc⟩:=hcut
      have HPC:Hid (∀ i (h:i < t.A.length),∃ g,ao=some ⟨g,0,none⟩∧g < wc.heap.size∧wc.cell? ⟨g,i,none⟩=some (p i)):=hpc
      obtain ⟨al,hal⟩:∃ al,t.A.length=al:=⟨_,rfl⟩
      have HAL:Hid (t.A.length=al):=hal
      rw [hal]
      have hbcw:Below w.heap.size w wc:=hbY.trans (hbc.mono hbY.size)
      have hal2:al≤3:=by have:=hsh;have h3:=(shP_bd t.K).2;omega
      clear hpc hal hsh
      go_wp2_with fail
      go_loopw [24] (fun y wr=>∃ i:Nat,y=.int .i64 i∧i≤al∧Hid (∀ j (hj:j < t.A.length),j < i→(betaM l t.A[j]).2=false)∧Hid (Below wc.heap.size wc wr)) (fun y _=>al - (intOf y).toNat)
      case atStart=>exact ⟨0,rfl,by omega,fun _ _ h=>by omega,Below.refl _ _⟩
      case round =>
        obtain ⟨i,rfl,hi,hnot,hbr⟩:=hrel
        have zr:=hbr.out.size
        have hbw':Below w.heap.size w wr:=hbcw.trans (hbr.out.mono hbcw.size)
        by_cases hlt:i < al
        · have hlt':i < t.A.length:=by have:=HAL.out;omega
          obtain ⟨gp,eao,hgp,hgc⟩:=HPC.out i hlt'
          subst eao
          have hgc2:=(bcell hbr.out hgp i).trans hgc
          have hOr:Own9 wr D d b o t bL:=HO.out.keep (fun q _=>bcell hbw' hbw _) (fun k hk=>hbw'.block k (hin k hk))
          obtain ⟨g,ll,cg,csg,bi,di,hc8,hll,hg,hgs,hgin,hgi,hni,hsi,hOi,hback⟩:=hOr.redo hnd hnb (fun k hk=>by have:=hin k hk;have:=hbw'.size;omega) (by have:=hbw'.size;omega) hlt'
          have hll2:ll=al:=by have:=HAL.out;omega
          subst hll2
          obtain ⟨mj,hmj,_⟩:=(nodesM_get HHM.out.1).2 i hlt'
          obtain ⟨nj,hnj,hnj2⟩:=(nodesM_get HHM.out.2).2 i hlt'
          have KI:=IH L B D0 w0 t.A[i] (p i) mj nj wr D di g (i * 9) bi (HP.out i hlt') hmj (nodesM_more 23 _ _ hnj) (by omega) (by have:=cntMS_get t.A i hlt';have:=cntM_eq t;omega) hOi hni hgi (fun k hk=>by have:=hin k (hsi k hk);have:=hbw'.size;omega) ⟨csg,_,hg,by omega⟩
          obtain ⟨R,hR⟩:∃ R,betaM l t.A[i]=R:=⟨_,rfl⟩
          rw [hR] at KI
          have HRI:Hid (betaM l t.A[i]=R):=hR
          obtain ⟨Q,ok⟩:=R
          have hil:(i:Int) < (ll:Int):=by omega
          have HI1:Hid (i+1≤ll):=by show _≤_;omega
          have HG:Hid (wr.heap[g]?=some (.cells csg 34 (0,0))):=hg
          have HBK:Hid (∀ (w':World) (x:Tm) (D' d':Nat) (bi':List Nat) (cs':Array Value),D≤D'→Own9 w' D' d' g (i * 9) x bi'→bi'.Nodup→(∀ k ∈ bi',k ∈ bi∨wr.heap.size≤k)→(∀ k,k < wr.heap.size→k≠g→k ∉ bi→w'.heap[k]?=wr.heap[k]?)→w'.heap[g]?=some (.cells cs' 34 (0,0))→cs'.size=csg.size→(∀ q,q < i * 9∨i * 9+8 < q→w'.cell? ⟨g,q,none⟩=wr.cell? ⟨g,q,none⟩)→∃ bs' d'',Own9 w' D' d'' b o { t with A:=t.A.set i x } bs'∧bs'.Nodup∧(∀ k ∈ bs',k ∈ bL∨k ∈ bi')):=hback
          clear hR hback hOi hg hOr hgs hll
          go_wp2_with fail
          refine KI.mono ?_
          rintro e w2 ⟨rfl,hno2,hyes2⟩
          clear KI
          cases ok with
          | false =>
            have hb2:=hno2 rfl
            have HNOT:Hid (∀ j (hj:j < t.A.length),j < i+1→(betaM l t.A[j]).2=false):=fun j hj hji=>by
              by_cases e:j=i
              · subst e;rw [HRI.out]
              · exact hnot.out j hj (by omega)
            have HB2:Hid (Below wc.heap.size wc w2):=hbr.out.trans (hb2.mono zr)
            clear hno2 hyes2 hc8 hgc2
            go_wp2_with fail
            go_roundw
            case rel=>first | exact ⟨i+1,by go_num,HI1.out,HNOT,HB2⟩ | ((repeat apply Exists.intro);exact ⟨⟨i+1,by go_num,HI1.out,HNOT,HB2⟩,rfl⟩)
            case measure=>have:=HI1.out;simp [intOf];omega
          | true =>
            obtain ⟨hWk,hrw,hfar,d',bi',hOn,hnn,hinn⟩:=hyes2 rfl
            have HFIN:Hid (FiE w w2 D b o (betaM (l+1) t) bL (.returned (.bool true))):=by
              have hRB:betaM (l+1) t=({ t with A:=t.A.set i Q },true):=by
                rw [betaM_part HOK.out hlt' (fun j hj hji=>hnot.out j hj hji) (by rw [HRI.out]),HRI.out]
              obtain ⟨cs',hg',hcs'⟩:=hrw _ _ HG.out
              obtain ⟨bs',d'',hO2,hnd2,hin2⟩:=HBK.out w2 Q (D+1) d' bi' cs' (Nat.le_succ D) hOn hnn (fun k hk=>(hinn k hk).1) (fun k hk h1 h2=>hWk.block k hk (fun h=>by rcases List.mem_cons.1 h with h | h;exact h1 h;exact h2 h)) hg' hcs' hfar
              have hbg:b ∉ g :: bi:=fun h=>by
                rcases List.mem_cons.1 h with h | h
                · exact hnb (h ▸ hgin)
                · exact hnb (hsi b h)
              have hsz:=hbw'.size
              have hszk:=hWk.size
              have hbb:w2.heap[b]?=w.heap[b]?:=(hWk.block b (by omega) hbg).trans (hbw'.block b hbw)
              rw [hRB]
              refine ⟨rfl,(fun h=>by cases h),fun _=>⟨?_,fun cs2 ty2 hr2=>⟨cs2,hbb.trans hr2,rfl⟩,fun q _=>World.cell?_of_block hbb,d'',bs',hO2,hnd2,fun k hk=>?_⟩⟩
              · refine (Wk.of_below (S:=b :: bL) hbw').trans (hWk.mono fun k hk=>Or.inl ?_)
                rcases List.mem_cons.1 hk with h | h
                · rw [h];exact List.mem_cons_of_mem _ hgin
                · exact List.mem_cons_of_mem _ (hsi k h)
              · rcases hin2 k hk with h | h
                · exact ⟨Or.inl h,by have:=hin k h;omega⟩
                · have h3:=hinn k h
                  rcases h3.1 with h4 | h4
                  · exact ⟨Or.inl (hsi k h4),h3.2⟩
                  · exact ⟨Or.inr (by omega),h3.2⟩
            clear hno2 hyes2 hc8 hgc2 hWk hrw hfar hOn hnn hinn
            go_wp2_with fail
            go_ret
            exact HFIN.out
        · have HFIN:Hid (FiE w wr D b o (betaM (l+1) t) bL (.returned (.bool false))):=by
            have hRB:betaM (l+1) t=(t,false):=betaM_none HOK.out fun j hj=>hnot.out j hj (by have:=HAL.out;omega)
            rw [hRB]
            exact ⟨rfl,fun _=>hbw',fun h=>by cases h⟩
          go_wp2_with fail
          go_ret
          exact HFIN.out
theorem fi_any:∀ l,SaidFi l:=by
  intro l
  induction l with
  | zero =>
    intro L B D0 w0 t vf m n w D d b o bL hv
    exact hv.elim
  | succ l ih=>exact fi_step l ih
end Go.Proofs.YtcepgedbmffkdaaGreat
