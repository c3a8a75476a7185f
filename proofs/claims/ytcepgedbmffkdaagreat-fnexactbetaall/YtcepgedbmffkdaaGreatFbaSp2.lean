/-
  What the model's 'l18Put' comes to: its walk.
-/
import Derived.Test.YtcepgedbmffkdaaGreatFbaZ20
namespace Go.Proofs.YtcepgedbmffkdaaGreat
open Go.RowKit
set_option linter.unusedVariables false
set_option linter.unusedSimpArgs false
set_option maxRecDepth 100000 in
set_option maxHeartbeats 64000000 in
theorem sput_step (l:Nat) (IH:SaidSput l):SaidSput (l+1):=by
  intro D d L B D0 d0 L0 B0 base t x a1 l1 c1 a2 l2 c2 a3 l3 c3 b1 m1 e1 b2 m2 e2 b3 m3 e3 m s F fo fn fc w hB hB0 hf hx hm hm1 hct hcx hF hFl
  have hHM:Hid (nodesM (l+1) t=some m):=hm
  have HL:Hid (l3=t.A.length):=hf.m.len.1
  have hl3:=hf.m.len.2
  have hnl:=nodeM_len (nodesM_get hm).1
  obtain ⟨X,hX⟩:∃ X,X=((w.alloc (.cells #[.int .i64 t.K,.int .i64 t.N,.string t.S,.string t.Z,.int .i64 t.T.K,.int .i64 t.T.N,.slice a1 l1 c1,.slice a2 l2 c2,.slice a3 l3 c3] 34)).alloc (.cells #[.int .i64 x.K,.int .i64 x.N,.string x.S,.string x.Z,.int .i64 x.T.K,.int .i64 x.T.N,.slice b1 m1 e1,.slice b2 m2 e2,.slice b3 m3 e3] 34)).alloc (.cells #[.int .i64 0,.int .i64 0,.string ⟨#[]⟩,.string ⟨#[]⟩,.int .i64 0,.int .i64 0,.slice none 0 0,.slice none 0 0,.slice none 0 0] 34):=⟨_,rfl⟩
  have hXs:X.heap.size=w.heap.size+3:=by rw [hX];simp
  have hXb:Below w.heap.size w X:=by rw [hX];exact (((Below.refl _ _).alloc (Nat.le_refl _) _).alloc (by simp) _).alloc (by simp;omega) _
  have hX0:X.heap[w.heap.size]?=some (.cells #[.int .i64 t.K,.int .i64 t.N,.string t.S,.string t.Z,.int .i64 t.T.K,.int .i64 t.T.N,.slice a1 l1 c1,.slice a2 l2 c2,.slice a3 l3 c3] 34 (0,0)):=by rw [hX,Below.heap_alloc _ _ _ (by simp;omega),Below.heap_alloc _ _ _ (by simp)];exact heap_new rfl
  have hX1:X.heap[w.heap.size+1]?=some (.cells #[.int .i64 x.K,.int .i64 x.N,.string x.S,.string x.Z,.int .i64 x.T.K,.int .i64 x.T.N,.slice b1 m1 e1,.slice b2 m2 e2,.slice b3 m3 e3] 34 (0,0)):=by rw [hX,Below.heap_alloc _ _ _ (by simp)];exact heap_new (by simp)
  have hX2:X.heap[w.heap.size+2]?=some (.cells #[.int .i64 0,.int .i64 0,.string ⟨#[]⟩,.string ⟨#[]⟩,.int .i64 0,.int .i64 0,.slice none 0 0,.slice none 0 0,.slice none 0 0] 34 (0,0)):=by rw [hX];exact heap_new (by simp)
  have HX:Hid (X=_):=hX
  clear hX
  have hBX:B≤X.heap.size:=by omega
  have hstr:(t.S.toList == s.toList)=decide (bs t.S=bs s):=by
    rw [Bool.eq_iff_iff,beq_iff_eq,decide_eq_true_eq]
    rw [ByteArray.toList_eq,ByteArray.toList_eq]
    exact Iff.rfl
  have HNO:Hid (∀ W,Below X.heap.size X W→putOk F (usesP (bs s) (l+1) t)=false→PutE w (((((((((W.setCell ⟨w.heap.size+2,0,none⟩ (.int .i64 0)).setCell ⟨w.heap.size+2,1,none⟩ (.int .i64 0)).setCell ⟨w.heap.size+2,2,none⟩ (.string ⟨#[]⟩)).setCell ⟨w.heap.size+2,3,none⟩ (.string ⟨#[]⟩)).setCell ⟨w.heap.size+2,4,none⟩ (.int .i64 0)).setCell ⟨w.heap.size+2,5,none⟩ (.int .i64 0)).setCell ⟨w.heap.size+2,6,none⟩ (.slice none 0 0)).setCell ⟨w.heap.size+2,7,none⟩ (.slice none 0 0)).setCell ⟨w.heap.size+2,8,none⟩ (.slice none 0 0)) (.returned (.tuple #[.agg #[.int .i64 0,.int .i64 0,.string ⟨#[]⟩,.string ⟨#[]⟩,.int .i64 0,.int .i64 0,.slice none 0 0,.slice none 0 0,.slice none 0 0],.bool false])) (spR F x (usesP (bs s) (l+1) t) t)):=fun W hW hno=>by
    rw [spR_no hno]
    exact put_none (hXb.trans (hW.mono (by omega))) (by omega) ((hW.block _ (by omega)).trans hX2)
  obtain ⟨x0,x1,x2,x3,x4,x5,x6,x7,x8⟩:=Nine.box hX0
  by_cases hv:t.K=3∧bs t.S=bs s
  · have HE:Hid (usesP (bs s) (l+1) t=[([],[])]):=usesP_var hv
    have hq:(t.S.toList == s.toList)=true:=by rw [hstr];simpa using hv.2
    have hK:(t.K == 3)=true:=by simpa using hv.1
    have hR:spR F x (usesP (bs s) (l+1) t) t=(x,true):=by
      rw [HE.out,spR_yes (by simp [putOk,freeAt])]
      rfl
    rw [hR]
    have KC:=lm_any D0 d0 L0 B0 x b1 m1 e1 b2 m2 e2 b3 m3 e3 X (by omega) (Fm.below hXb hB0 hx) hcx
    obtain ⟨y0,y1,y2,y3,y4,y5,y6,y7,y8⟩:=Nine.box hX1
    clear hv hstr hm hR
    go_enter Tryz.func65,Tryz.ntmps65
    go_upto_region 1 with fail
    rw [← HX.out]
    go_wp2_with fail
    refine KC.mono ?_
    rintro e w1 ⟨r1,s1,v1,r2,v2,r3,v3,rfl,hb1,hO1⟩
    have z1:=hb1.size
    clear y0 y1 y2 y3 y4 y5 y6 y7 y8
    have rr:=(hb1.block (w.heap.size+2) (by omega)).trans hX2
    obtain ⟨y0,y1,y2,y3,y4,y5,y6,y7,y8⟩:=Nine.box rr
    have yf:=row_free rr
    have HFIN:Hid (∀ W',W'=set9 w1 (w.heap.size+2) 0 (.int .i64 x.K) (.int .i64 x.N) (.string x.S) (.string x.Z) (.int .i64 x.T.K) (.int .i64 x.T.N) (.slice r1 s1 v1) (.slice r2 m2 v2) (.slice r3 m3 v3)→PutE w W' (.returned (.tuple #[.agg #[.int .i64 x.K,.int .i64 x.N,.string x.S,.string x.Z,.int .i64 x.T.K,.int .i64 x.T.N,.slice r1 s1 v1,.slice r2 m2 v2,.slice r3 m3 v3],.bool true])) (x,true)):=fun W' hW'=>by
      have hWb:Below w.heap.size w W':=by rw [hW'];exact set9_below (hXb.trans (hb1.mono (by omega))) (by omega)
      have hWs:W'.heap.size=w1.heap.size:=by rw [hW'];exact set9_size _ _ _ _ _ _ _ _ _ _ _ _
      have hWo:∀ g,g≠w.heap.size+2→W'.heap[g]?=w1.heap[g]?:=fun g hg=>by rw [hW'];exact set9_other g hg
      obtain ⟨bn,hfO,hnd,hrg⟩:=hO1
      refine ⟨D0+1,d0,r1,s1,v1,r2,m2,v2,r3,m3,v3,rfl,hWb,bn,FldO.keep (fun g hg=>hWo g (by have:=hrg g hg;omega)) hfO,hnd,fun g hg=>by have:=hrg g hg;omega⟩
    go_wp2_with fail
    (try simp only [Exit.inBlock,Exit.then]);refine bodyPost_ret (v:=.tuple #[.agg #[.int .i64 x.K,.int .i64 x.N,.string x.S,.string x.Z,.int .i64 x.T.K,.int .i64 x.T.N,.slice r1 s1 v1,.slice r2 m2 v2,.slice r3 m3 v3],.bool true]) (by simp [results,Tryz.results65,go_sem,y0,y1,y2,y3,y4,y5,y6,y7,y8]) rfl ?_
    exact HFIN.out _ rfl
  · have HE:Hid (usesP (bs s) (l+1) t=catU (partP (bs s) l t) t.A.length):=usesP_not hv
    rw [HE.out] at HNO ⊢
    have hcase:(¬ t.K=3)∨((t.K == 3)=true∧(t.S.toList == s.toList)=false):=by
      by_cases h3:t.K=3
      · exact Or.inr ⟨by simpa using h3,by rw [hstr];simp;exact fun h=>hv ⟨h3,h⟩⟩
      · exact Or.inl h3
    have KC:=lm_any D d L B t a1 l1 c1 a2 l2 c2 a3 l3 c3 X hBX (Fm.below hXb hB hf) hct
    clear hv hstr hm
    rcases hcase with h3 | ⟨h3,hq⟩
    all_goals
      go_enter Tryz.func65,Tryz.ntmps65
      go_upto_region 1 with fail
      rw [← HX.out]
      go_upto_region 3 with fail
      clear h3
      go_wp2_with fail
      refine KC.mono ?_
      rintro e w1 ⟨r1,s1,v1,r2,v2,r3,v3,rfl,hb1,hO1⟩
      have z1:=hb1.size
      obtain ⟨Y,hY⟩:∃ Y,Y=w1.alloc (.cells #[.int .i64 t.K,.int .i64 t.N,.string t.S,.string t.Z,.int .i64 t.T.K,.int .i64 t.T.N,.slice r1 s1 v1,.slice r2 l2 v2,.slice r3 l3 v3] 34):=⟨_,rfl⟩
      have hYb:Below w1.heap.size w1 Y:=by rw [hY];exact (Below.refl _ _).alloc (Nat.le_refl _) _
      have hYs:Y.heap.size=w1.heap.size+1:=by rw [hY];simp
      have hY0:Y.heap[w1.heap.size]?=some (.cells #[.int .i64 t.K,.int .i64 t.N,.string t.S,.string t.Z,.int .i64 t.T.K,.int .i64 t.T.N,.slice r1 s1 v1,.slice r2 l2 v2,.slice r3 l3 v3] 34 (0,0)):=by rw [hY];exact heap_new rfl
      have HY:Hid (Y=_):=hY
      have HQ:Hid (X.heap.size≤w1.heap.size):=z1
      have hS0:SpS X Y w1.heap.size X.heap.size (putI (bs s) l t x 0):=by
        obtain ⟨bn,hfO,hnd,hrg⟩:=hO1
        refine ⟨hb1.trans (hYb.mono z1),⟨_,hY0,by simp⟩,bn,D+1,d,⟨r1,s1,v1,r2,l2,v2,r3,l3,v3,Nine.box hY0,FldO.keep (fun k hk=>hYb.block k (hrg k hk).2) hfO⟩,hnd,fun hh=>by have:=(hrg _ hh).2;omega,fun g hg=>by have:=hrg g hg;omega⟩
      clear x0 x1 x2 x3 x4 x5 x6 x7 x8 hY0 hO1 hYb hY
      go_upto_region 4 with fail
      rw [← HY.out]
      go_wp2_with fail
      generalize w1.heap.size=q at *
      go_loopw [11] (fun y wr=>∃ i:Nat,y=.int .i64 i∧i≤l3∧Hid (putOk F (catU (partP (bs s) l t) i)=true)∧Hid (SpS X wr q X.heap.size (putI (bs s) l t x i))) (fun y _=>l3 - (intOf y).toNat)
      case atStart=>exact ⟨0,rfl,by omega,rfl,hS0⟩
      case round =>
        obtain ⟨i,rfl,hi,hok,hS⟩:=hrel
        have hbr:=hS.out.bel
        have hzr:=hbr.size
        have tt:=(hbr.block w.heap.size (by omega)).trans hX0
        obtain ⟨x0,x1,x2,x3,x4,x5,x6,x7,x8⟩:=Nine.box tt
        have hiT:i≤t.A.length:=by have:=HL.out;omega
        obtain ⟨hTl,hTg⟩:=putI_facts (bs s) l t x i hiT
        have hbw:Below w.heap.size w wr:=hXb.trans (hbr.mono (by omega))
        by_cases hlt:i < l3
        · have hlt':i < t.A.length:=by have:=HL.out;omega
          obtain ⟨g,og,rfl,_,hgB,q1,n1,k1,q2,n2,k2,q3,n3,k3,y9,hf1⟩:=hf.m.get i hlt'
          have KN:=l2Binds_any t a1 l1 c1 a2 l2 c2 (some ⟨g,og,none⟩) l3 c3 i (by have:=HL.out;omega) wr
          obtain ⟨N,hN⟩:∃ N,bindsW t.K (bs t.S) (bs t.Z) i=N:=⟨_,rfl⟩
          rw [hN] at KN
          have hNl:N.length≤2:=by rw [← hN];exact bindsW_len _ _ _ _
          have HN:Hid (bindsW t.K (bs t.S) (bs t.Z) i=N):=hN
          obtain ⟨nn,hnn⟩:∃ nn,N.length=nn:=⟨_,rfl⟩
          have HNN:Hid (N.length=nn):=hnn
          have hil:(i:Int) < (l3:Int):=by omega
          have HI1:Hid (i+1≤l3):=by show _≤_;omega
          clear hN
          go_wp2_with fail
          refine KN.mono ?_
          intro e w3 hlit
          obtain ⟨g3,rfl,hb3,ht3⟩:=toks_of_lit hlit (by omega)
          have hz3:=hb3.size
          have KH:=l2Has_any _ N s w3 ht3 (by omega)
          rw [hnn] at KH ht3 ⊢
          have y3:=(hb3.block w.heap.size (by omega)).trans tt
          have hb3X:Below X.heap.size X w3:=hbr.trans (hb3.mono hzr)
          have hb3w:Below w.heap.size w w3:=hbw.trans (hb3.mono hbw.size)
          clear hlit KN x0 x1 x2 x3 x4 x5 x6 x7 x8
          obtain ⟨x0,x1,x2,x3,x4,x5,x6,x7,x8⟩:=Nine.box y3
          obtain ⟨u0,u1,u2,u3,u4,u5,u6,u7,u8⟩:=y9.below hb3w (by omega)
          go_wp2_with fail
          refine KH.mono ?_
          rintro e w4 ⟨rfl,hw⟩
          subst hw
          by_cases hmem:bs s ∈ N
          · have HT:decide (bs s ∈ N)=true:=by simpa using hmem
            have hp0:partP (bs s) l t i=[]:=partP_in hlt' (by rw [HN.out];exact hmem)
            have HOK2:Hid (putOk F (catU (partP (bs s) l t) (i+1))=true):=by
              show putOk F (catU (partP (bs s) l t) i ++ partP (bs s) l t i)=true
              rw [hp0,List.append_nil]
              exact hok.out
            have HS2:Hid (SpS X w4 q X.heap.size (putI (bs s) l t x (i+1))):=by
              show SpS X w4 q X.heap.size (putI (bs s) l t x (i+1))
              rw [putI_same hp0]
              exact hS.out.below hb3
            rw [HT]
            clear hmem hp0
            go_wp2_with fail
            go_roundw
            case rel=>exact ⟨i+1,by go_num,HI1.out,HOK2,HS2⟩
            case measure=>have:=HI1.out;simp [intOf];omega
          · have HT:decide (bs s ∈ N)=false:=by simpa using hmem
            have HM:Hid (¬ bs s ∈ bindsW t.K (bs t.S) (bs t.Z) i):=by show ¬ _;rw [HN.out];exact hmem
            rw [HT]
            obtain ⟨mj,hmj,hmj2⟩:=(nodesM_get hHM.out).2 i hlt'
            have hf3:=Fm.below hb3w hB hf1
            have KU:=su_any l D (d - 1) L B t.A[i] q1 n1 k1 q2 n2 k2 q3 n3 k3 mj s w4 (by omega) hf3 hmj (by omega)
            obtain ⟨u,hu⟩:∃ u,usesN (bs s) l t.A[i]=u:=⟨_,rfl⟩
            have HU:Hid (usesN (bs s) l t.A[i]=u):=hu
            rw [hu] at KU
            clear hmem hu
            go_wp2_with fail
            refine KU.mono ?_
            rintro e w5 ⟨rfl,hb5⟩
            have hz5:=hb5.size
            have hb5X:Below X.heap.size X w5:=hb3X.trans (hb5.mono hb3X.size)
            have hb35:Below wr.heap.size wr w5:=hb3.trans (hb5.mono hz3)
            by_cases hu0:u=0
            · have hp0:partP (bs s) l t i=[]:=partP_zero hlt' (by rw [HU.out];exact hu0)
              have HOK2:Hid (putOk F (catU (partP (bs s) l t) (i+1))=true):=by
                show putOk F (catU (partP (bs s) l t) i ++ partP (bs s) l t i)=true
                rw [hp0,List.append_nil]
                exact hok.out
              have HS2:Hid (SpS X w5 q X.heap.size (putI (bs s) l t x (i+1))):=by
                show SpS X w5 q X.heap.size (putI (bs s) l t x (i+1))
                rw [putI_same hp0]
                exact hS.out.below hb35
              subst hu0
              clear hp0 u0 u1 u2 u3 u4 u5 u6 u7 u8
              go_wp2_with fail
              go_roundw
              case rel=>exact ⟨i+1,by go_num,HI1.out,HOK2,HS2⟩
              case measure=>have:=HI1.out;simp [intOf];omega
            · have hub:((u:Int) == 0)=false:=by rw [beq_eq_false_iff_ne];omega
              have hui:¬ (u:Int)=0:=by omega
              have hne:usesP (bs s) l t.A[i]≠[]:=fun e=>hu0 (by have:=usesP_len (bs s) l t.A[i];rw [e,HU.out] at this;exact this.symm)
              have HPP:Hid (partP (bs s) l t i=(usesP (bs s) l t.A[i]).map fun q=>(i :: q.1,N ++ q.2)):=by
                show partP (bs s) l t i=_
                rw [← HN.out]
                exact partP_out hlt' HM.out
              have HPK:Hid (putOk F (partP (bs s) l t i)=(freeAt F ([],N) && putOk F (usesP (bs s) l t.A[i]))):=by
                show _=_
                rw [HPP.out,putOk_part hne]
              have HBAD:Hid (putOk F (partP (bs s) l t i)=false→putOk F (catU (partP (bs s) l t) t.A.length)=false):=fun h=>putOk_cat hlt' h
              have ht5:=toks_bel ht3 hb5
              have hF5:=toks_bel hF (hb3w.trans (hb5.mono hb3w.size))
              have y5:=(hb5.block w.heap.size (by omega)).trans y3
              have hX15:=(hb5X.block (w.heap.size+1) (by omega)).trans hX1
              clear x0 x1 x2 x3 x4 x5 x6 x7 x8 u0 u1 u2 u3 u4 u5 u6 u7 u8 KU KH hne
              have h9u:=(y9.below hb3w (by omega)).below hb5 (by omega)
              go_wp2_with fail
              go_loopw [13] (fun y WI=>∃ k:Nat,y=.int .i64 k∧k≤nn∧WI=w5∧Hid (∀ j (hj:j < N.length),j < k→¬ N[j] ∈ F)) (fun y _=>nn - (intOf y).toNat)
              case atStart=>exact ⟨0,rfl,by omega,by first | rfl | trivial,fun _ _ h=>by omega⟩
              case round =>
                obtain ⟨k,rfl,hk,rfl,hnot⟩:=hrel
                by_cases hlt2:k < nn
                · have hkN:k < N.length:=by have:=HNN.out;omega
                  obtain ⟨g4,cap4,ev,_,_,hc4⟩:=toks_at ht5 k hkN
                  injection ev with ev1 evx evy
                  injection ev1 with ev1
                  injection ev1 with ev1 evz
                  subst ev1
                  clear evx evy
                  obtain ⟨z,hz⟩:∃ z:ByteArray,tk N[k]=.string z:=⟨_,rfl⟩
                  have hbz:bs z=N[k]:=by
                    have:(⟨N[k].toArray⟩:ByteArray)=z:=by simpa [tk] using hz
                    rw [← this];simp [bs]
                  rw [hz,Nat.zero_add] at hc4
                  have KF:=l2Has_any _ F z wr hF5 hFl
                  have hki:(k:Int) < (nn:Int):=by omega
                  have HK1:Hid (k+1≤nn):=by show _≤_;omega
                  clear hz
                  go_wp2_with fail
                  refine KF.mono ?_
                  rintro e w6 ⟨rfl,hw⟩
                  subst hw
                  by_cases hm2:bs z ∈ F
                  · have HT2:decide (bs z ∈ F)=true:=by simpa using hm2
                    have HNO2:Hid (putOk F (catU (partP (bs s) l t) t.A.length)=false):=HBAD.out (by rw [HPK.out,freeAt_no hkN (by rw [← hbz];exact hm2),Bool.false_and])
                    rw [HT2]
                    clear hm2
                    have rr:=(hb5X.block (w.heap.size+2) (by omega)).trans hX2
                    obtain ⟨y0,y1,y2,y3,y4,y5,y6,y7,y8⟩:=Nine.box rr
                    have yf:=row_free rr
                    go_wp2_with fail
                    (try simp only [Exit.inBlock,Exit.then]);refine bodyPost_ret (v:=.tuple #[.agg #[.int .i64 0,.int .i64 0,.string ⟨#[]⟩,.string ⟨#[]⟩,.int .i64 0,.int .i64 0,.slice none 0 0,.slice none 0 0,.slice none 0 0],.bool false]) (by simp [results,Tryz.results65,go_sem,y0,y1,y2,y3,y4,y5,y6,y7,y8]) rfl ?_
                    exact HNO.out w6 hb5X HNO2.out
                  · have HT2:decide (bs z ∈ F)=false:=by simpa using hm2
                    have HN2:Hid (∀ j (hj:j < N.length),j < k+1→¬ N[j] ∈ F):=fun j hj hjk=>by
                      by_cases e:j=k
                      · subst e;rw [← hbz];exact hm2
                      · exact hnot.out j hj (by omega)
                    rw [HT2]
                    clear hm2
                    go_wp2_with fail
                    go_roundw
                    case rel=>exact ⟨k+1,by go_num,HK1.out,by first | rfl | trivial,HN2⟩
                    case measure=>have:=HK1.out;simp [intOf];omega
                · have HFA:Hid (freeAt F ([],N)=true):=freeAt_yes fun j hj=>hnot.out j hj (by have:=HNN.out;omega)
                  obtain ⟨x0,x1,x2,x3,x4,x5,x6,x7,x8⟩:=Nine.box y5
                  obtain ⟨z0,z1',z2,z3,z4,z5,z6,z7,z8⟩:=Nine.box hX15
                  obtain ⟨u0,u1,u2,u3,u4,u5,u6,u7,u8⟩:=h9u
                  have hb5w:Below w.heap.size w wr:=hb3w.trans (hb5.mono hb3w.size)
                  have KI:=IH D (d - 1) L B D0 d0 L0 B0 base t.A[i] x q1 n1 k1 q2 n2 k2 q3 n3 k3 b1 m1 e1 b2 m2 e2 b3 m3 e3 mj s F fo fn fc wr.drew (show B≤wr.heap.size by omega) (show B0≤wr.heap.size by omega) (Fm.drew (Fm.below hb5w hB hf1)) (Fm.drew (Fm.below hb5w hB0 hx)) hmj (by omega) (by have:=cntMS_get t.A i hlt';have:=cntM_eq t;omega) hcx hF5 hFl
                  have hlw0:w.heap.size < wr.heap.size:=by have:=hb5X.size;omega
                  have hlw1:w.heap.size+1 < wr.heap.size:=by have:=hb5X.size;omega
                  have hlw2:g < wr.heap.size:=by omega
                  obtain ⟨WA,hWA⟩:∃ WA,WA=wr.alloc (.cells #[.int .i64 0,.int .i64 0,.string ⟨#[]⟩,.string ⟨#[]⟩,.int .i64 0,.int .i64 0,.slice none 0 0,.slice none 0 0,.slice none 0 0] 34):=⟨_,rfl⟩
                  have hWAb:Below wr.heap.size wr WA:=by rw [hWA];exact (Below.refl _ _).alloc (Nat.le_refl _) _
                  have hWAs:WA.heap.size=wr.heap.size+1:=by rw [hWA];simp
                  have hWA0:WA.heap[wr.heap.size]?=some (.cells #[.int .i64 0,.int .i64 0,.string ⟨#[]⟩,.string ⟨#[]⟩,.int .i64 0,.int .i64 0,.slice none 0 0,.slice none 0 0,.slice none 0 0] 34 (0,0)):=by rw [hWA];exact heap_new rfl
                  have hFA:Toks base WA (.slice fo fn fc) F:=toks_bel hF5 hWAb
                  have hbAw:Below w.heap.size w WA:=hb5w.trans (hWAb.mono hb5w.size)
                  have KI2:=IH D (d - 1) L B D0 d0 L0 B0 base t.A[i] x q1 n1 k1 q2 n2 k2 q3 n3 k3 b1 m1 e1 b2 m2 e2 b3 m3 e3 mj s F fo fn fc WA.drew (show B≤WA.heap.size by omega) (show B0≤WA.heap.size by omega) (Fm.drew (Fm.below hbAw hB hf1)) (Fm.drew (Fm.below hbAw hB0 hx)) hmj (by omega) (by have:=cntMS_get t.A i hlt';have:=cntM_eq t;omega) hcx hFA hFl
                  have HWA:Hid (WA=_):=hWA
                  clear hWA
                  obtain ⟨P,hP⟩:∃ P,(spR F x (usesP (bs s) l t.A[i]) t.A[i]).1=P:=⟨_,rfl⟩
                  obtain ⟨ok,hokP⟩:∃ ok,(spR F x (usesP (bs s) l t.A[i]) t.A[i]).2=ok:=⟨_,rfl⟩
                  rw [show spR F x (usesP (bs s) l t.A[i]) t.A[i]=(P,ok) from Prod.ext hP hokP] at KI KI2
                  have HP:Hid ((spR F x (usesP (bs s) l t.A[i]) t.A[i]).1=P∧(spR F x (usesP (bs s) l t.A[i]) t.A[i]).2=ok):=⟨hP,hokP⟩
                  clear hP hokP
                  go_upto_region 14 with fail
                  go_cut [14,15] from 29 to 84 (fun v b wx=>∃ (q6 D6 d6:Nat) (za:Option Addr) (la ca:Nat) (zb:Option Addr) (lb cb:Nat) (zc:Option Addr) (lc cc:Nat),v=.pointer (some ⟨q6,0,none⟩)∧b=.bool ok∧Below wr.heap.size wr wx∧wr.heap.size≤q6∧wx.heap[q6]?=some (.cells #[.int .i64 P.K,.int .i64 P.N,.string P.S,.string P.Z,.int .i64 P.T.K,.int .i64 P.T.N,.slice za la ca,.slice zb lb cb,.slice zc lc cc] 34 (0,0))∧FmO wr.heap.size wx.heap.size wx D6 d6 P za la zb lb zc lc)
                  case first =>
                    go_region_law (first
                      | (go_simp;go_at_call 65;(first | ((with_reducible refine Calls.mono KI ?_);rintro e w6 ⟨D6,d6,za,la,ca,zb,lb,cb,zc,lc,cc,rfl,hb6,hO6⟩;have hA6:True:=trivial) | (rw [← HWA.out];(with_reducible refine Calls.mono KI2 ?_);rintro e w6 ⟨D6,d6,za,la,ca,zb,lb,cb,zc,lc,cc,rfl,hb6,hO6⟩;have hB6:True:=trivial;obtain ⟨a60,a61,a62,a63,a64,a65,a66,a67,a68⟩:=Nine.box ((hb6.block wr.heap.size (by show wr.heap.size < WA.heap.size;omega)).trans hWA0);have a6f:=row_free ((hb6.block wr.heap.size (by show wr.heap.size < WA.heap.size;omega)).trans hWA0)))))
                    all_goals
                      go_wp2_with fail
                      go_meet
                      obtain ⟨bn,hfO,hnd,hrg⟩:=hO6
                      first
                        | (have hA7:=hA6;have hb56:Below wr.heap.size wr w6:=((Below.refl _ _).drew).trans hb6;have hz6:=hb56.size;refine ⟨w6.heap.size,D6,d6,za,la,ca,zb,lb,cb,zc,lc,cc,rfl,rfl,hb56.alloc hz6 _,hz6,heap_new rfl,bn,FldO.keep (fun g hg=>Below.heap_alloc _ _ _ (hrg g hg).2) hfO,hnd,fun g hg=>⟨(hrg g hg).1,?_⟩⟩;(have:=(hrg g hg).2;simp only [World.size_alloc];omega))
                        | (have hB7:=hB6;have hb56:Below wr.heap.size wr w6:=hWAb.trans ((((Below.refl _ _).drew).trans hb6).mono (by show wr.heap.size≤WA.heap.size;omega));have hz6:=hb56.size;have hr6:=(hb6.block wr.heap.size (by show wr.heap.size < WA.heap.size;omega)).trans hWA0;have hge:∀ g ∈ bn,wr.heap.size+1≤g:=(fun g hg=>by have h1:WA.heap.size≤g:=(hrg g hg).1;omega);refine ⟨wr.heap.size,D6,d6,za,la,ca,zb,lb,cb,zc,lc,cc,rfl,rfl,hb56.trans (nest9_belowS _ _ _ _ _ _ _ _ _ _ _),Nat.le_refl _,nest9_rowS hr6 _ _ _ _ _ _ _ _ _,bn,FldO.keep (fun g hg=>nest9_otherS _ _ _ _ _ _ _ _ _ _ _ g (by have:=hge g hg;omega)) hfO,hnd,fun g hg=>⟨by have:=hge g hg;omega,?_⟩⟩;(have:=(hrg g hg).2;have hzn:=(nest9_belowS w6 wr.heap.size (.int .i64 P.K) (.int .i64 P.N) (.string P.S) (.string P.Z) (.int .i64 P.T.K) (.int .i64 P.T.N) (.slice za la ca) (.slice zb lb cb) (.slice zc lc cc)).size;omega))
                  case rest =>
                    obtain ⟨q6,D6,d6,za,la,ca,zb,lb,cb,zc,lc,cc,rfl,rfl,hb5Z,hq6,hZ0,hOA⟩:=hcut
                    have hbZX:Below X.heap.size X wc:=hb5X.trans (hb5Z.mono hb5X.size)
                    clear x0 x1 x2 x3 x4 x5 x6 x7 x8 z0 z1' z2 z3 z4 z5 z6 z7 z8 u0 u1 u2 u3 u4 u5 u6 u7 u8 KI KI2
                    cases hpi:putOk F (usesP (bs s) l t.A[i]) with
                    | false =>
                      have HNO2:Hid (putOk F (catU (partP (bs s) l t) t.A.length)=false):=HBAD.out (by rw [HPK.out,hpi,Bool.and_false])
                      obtain rfl:ok=false:=by have:=HP.out.2;rw [spR_no hpi] at this;exact this.symm
                      clear hpi
                      have rr:=(hbZX.block (w.heap.size+2) (by omega)).trans hX2
                      obtain ⟨y0,y1,y2,y3,y4,y5,y6,y7,y8⟩:=Nine.box rr
                      have yf:=row_free rr
                      go_wp2_with fail
                      (try simp only [Exit.inBlock,Exit.then]);refine bodyPost_ret (v:=.tuple #[.agg #[.int .i64 0,.int .i64 0,.string ⟨#[]⟩,.string ⟨#[]⟩,.int .i64 0,.int .i64 0,.slice none 0 0,.slice none 0 0,.slice none 0 0],.bool false]) (by simp [results,Tryz.results65,go_sem,y0,y1,y2,y3,y4,y5,y6,y7,y8]) rfl ?_
                      exact HNO.out wc hbZX HNO2.out
                    | true =>
                      obtain rfl:ok=true:=by have:=HP.out.2;rw [spR_yes hpi] at this;exact this.symm
                      have hP2:putF t.A[i] (usesP (bs s) l t.A[i]) x=P:=by have:=HP.out.1;rw [spR_yes hpi] at this;exact this
                      have HOK3:Hid (putOk F (catU (partP (bs s) l t) (i+1))=true):=by
                        show putOk F (catU (partP (bs s) l t) i ++ partP (bs s) l t i)=true
                        rw [putOk_app,hok.out,HPK.out,HFA.out,hpi]
                        rfl
                      have HPI:Hid (putI (bs s) l t x (i+1)=setP (putI (bs s) l t x i) [i] P):=by
                        show _=_
                        rw [putI_put hlt' HM.out,hP2]
                      have hS5:=hS.out.below hb35
                      obtain ⟨gR,lR,cR,hc8,hlR,hgRl,hgRz,hgRq,⟨csR,hrR⟩,⟨yR,v6,v7,v8,h9R⟩,hput⟩:=sps_part hS5 (Nat.le_refl _) HQ.out (i:=i) (by omega)
                      have hlR3:lR=l3:=by have:=HL.out;omega
                      subst hlR3
                      have hql:q < wr.heap.size:=by obtain ⟨cs,hq1,_⟩:=hS5.row;exact (Array.getElem?_eq_some_iff.1 hq1).1
                      have hq8:=(bcell hb5Z hql 8).trans hc8
                      obtain ⟨g0,g1,g2,g3',g4',g5,g6,g7,g8⟩:=h9R.below hb5Z hgRl
                      have gf:=row_free ((hb5Z.block gR hgRl).trans hrR)
                      have hSN:Hid (SpS X (((((((((wc.setCell ⟨gR,i * 9,none⟩ (.int .i64 P.K)).setCell ⟨gR,i * 9+1,none⟩ (.int .i64 P.N)).setCell ⟨gR,i * 9+2,none⟩ (.string P.S)).setCell ⟨gR,i * 9+3,none⟩ (.string P.Z)).setCell ⟨gR,i * 9+4,none⟩ (.int .i64 P.T.K)).setCell ⟨gR,i * 9+5,none⟩ (.int .i64 P.T.N)).setCell ⟨gR,i * 9+6,none⟩ (.slice za la ca)).setCell ⟨gR,i * 9+7,none⟩ (.slice zb lb cb)).setCell ⟨gR,i * 9+8,none⟩ (.slice zc lc cc)) q X.heap.size (putI (bs s) l t x (i+1))):=by
                        show SpS X _ q X.heap.size (putI (bs s) l t x (i+1))
                        rw [HPI.out]
                        exact hput _ _ P D6 d6 wr.heap.size za la ca zb lb cb zc lc cc hb5Z (Nat.le_refl _) hOA (by rfl) (by omega)
                      have hbl:q6 < wc.heap.size:=(Array.getElem?_eq_some_iff.1 hZ0).1
                      clear hOA hput hpi hP2 hS5 hlR
                      obtain ⟨e0,e1',e2',e3',e4,e5,e6,e7,e8⟩:=Nine.box hZ0
                      go_wp2_with fail
                      go_roundw
                      case rel=>first | exact ⟨i+1,by go_num,HI1.out,HOK3,hSN⟩ | ((repeat apply Exists.intro);exact ⟨⟨i+1,by go_num,HI1.out,HOK3,hSN⟩,rfl⟩)
                      case measure=>have:=HI1.out;simp [intOf];omega
        · have hil:i=t.A.length:=by have:=HL.out;omega
          have hokA:putOk F (catU (partP (bs s) l t) t.A.length)=true:=by rw [← hil];exact hok.out
          have hR:spR F x (catU (partP (bs s) l t) t.A.length) t=(putI (bs s) l t x i,true):=by rw [spR_yes hokA,hil];rfl
          obtain ⟨T,hT⟩:∃ T,putI (bs s) l t x i=T:=⟨_,rfl⟩
          rw [hT] at hS hR
          have HR:Hid (spR F x (catU (partP (bs s) l t) t.A.length) t=(T,true)):=hR
          obtain ⟨bsT,D7,d7,⟨za,la,ca,zb,lb,cb,zc,lc,cc,h9T,hfT⟩,hnd,hnb,hin⟩:=hS.out.tree
          have rr:=(hbr.block (w.heap.size+2) (by omega)).trans hX2
          obtain ⟨y0,y1,y2,y3,y4,y5,y6,y7,y8⟩:=Nine.box rr
          have yf:=row_free rr
          obtain ⟨t0,t1,t2,t3,t4,t5,t6,t7,t8⟩:=h9T
          have HFIN:Hid (∀ W',W'=set9 wr (w.heap.size+2) 0 (.int .i64 T.K) (.int .i64 T.N) (.string T.S) (.string T.Z) (.int .i64 T.T.K) (.int .i64 T.T.N) (.slice za la ca) (.slice zb lb cb) (.slice zc lc cc)→PutE w W' (.returned (.tuple #[.agg #[.int .i64 T.K,.int .i64 T.N,.string T.S,.string T.Z,.int .i64 T.T.K,.int .i64 T.T.N,.slice za la ca,.slice zb lb cb,.slice zc lc cc],.bool true])) (T,true)):=fun W' hW'=>by
            have hWb:Below w.heap.size w W':=by rw [hW'];exact set9_below hbw (by omega)
            have hWs:W'.heap.size=wr.heap.size:=by rw [hW'];exact set9_size _ _ _ _ _ _ _ _ _ _ _ _
            have hWo:∀ g,g≠w.heap.size+2→W'.heap[g]?=wr.heap[g]?:=fun g hg=>by rw [hW'];exact set9_other g hg
            exact ⟨D7,d7,za,la,ca,zb,lb,cb,zc,lc,cc,rfl,hWb,bsT,FldO.keep (fun g hg=>hWo g (by have:=hin g hg;omega)) hfT,hnd,fun g hg=>by have:=hin g hg;omega⟩
          clear hil hokA hR hT hfT hin hnd hnb
          go_wp2_with fail
          (try simp only [Exit.inBlock,Exit.then]);refine bodyPost_ret (v:=.tuple #[.agg #[.int .i64 T.K,.int .i64 T.N,.string T.S,.string T.Z,.int .i64 T.T.K,.int .i64 T.T.N,.slice za la ca,.slice zb lb cb,.slice zc lc cc],.bool true]) (by simp [results,Tryz.results65,go_sem,y0,y1,y2,y3,y4,y5,y6,y7,y8]) rfl ?_
          rw [HR.out]
          exact HFIN.out _ rfl
theorem sput_any:∀ l,SaidSput l:=by
  intro l
  induction l with
  | zero =>
    intro D d L B D0 d0 L0 B0 base t x a1 l1 c1 a2 l2 c2 a3 l3 c3 b1 m1 e1 b2 m2 e2 b3 m3 e3 m s F fo fn fc w _ _ _ _ hm
    simp [nodesM] at hm
  | succ l ih=>exact sput_step l ih
end Go.Proofs.YtcepgedbmffkdaaGreat
