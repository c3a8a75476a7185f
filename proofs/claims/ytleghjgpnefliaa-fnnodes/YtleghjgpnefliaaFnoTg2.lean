/-
  What the model's 'l3Poly' comes to at a right node: some truth.
-/
import Derived.Test.YtleghjgpnefliaaFnoZ34
import Derived.Deep.RegionHeld3
namespace Go.Proofs.Ytleghjgpnefliaa
open Go.RowKit
set_option linter.unusedVariables false
set_option linter.unusedSimpArgs false
set_option maxRecDepth 100000 in
set_option maxHeartbeats 8000000 in
theorem l3Poly_any (D d L B:Nat) (t:Tm) (a1:Option Addr) (l1 c1:Nat) (a2:Option Addr) (l2 c2:Nat) (a3:Option Addr) (l3 c3:Nat) (vs:Int) (w:World) (hB:B≤w.heap.size) (hf:Fm L B w D d t a1 l1 a2 l2 a3 l3) (hn:Qaz t=true) :
 Calls Try.prog 78 #[.agg #[.int .i64 t.K,.int .i64 t.N,.string t.S,.string t.Z,.int .i64 t.T.K,.int .i64 t.T.N,.slice a1 l1 c1,.slice a2 l2 c2,.slice a3 l3 c3],.int .i64 vs] w fun e w'=>(∃ b:Bool,e=.returned (.bool b))∧Below w.heap.size w w':=by
 have hT:Qdh t.K t.T t.Ts=true:=by unfold Qaz at hn;simp only [Bool.and_eq_true] at hn;exact hn.2
 have HTs:Hid (∀ u∈t.Ts,∃ m,Qai 6 u=some m):=fun u hu=>by
  unfold Qdh at hT
  simp only [Bool.and_eq_true,List.all_eq_true] at hT
  exact Qcx (hT.2 u hu)
 have HL2:Hid (l2=t.Ts.length):=hf.t2.len.1
 have hl2:=hf.t2.len.2
 have HL3:Hid (l3=t.A.length):=hf.m.len.1
 have hl3:=hf.m.len.2
 have hA6:t.K=6->l3=2:=fun e=>by
  unfold Qaz at hn
  simp only [Bool.and_eq_true,decide_eq_true_eq] at hn
  have h:=hn.1.1.1.2
  rw [e] at h
  have h2:shP 6=2:=by decide
  rw [h2] at h
  have:=HL3.out
  omega
 have HA6:Hid (t.K=6->l3=2):=hA6
 obtain⟨X,hX⟩:∃ X,X=w.alloc (.cells #[.int .i64 t.K,.int .i64 t.N,.string t.S,.string t.Z,.int .i64 t.T.K,.int .i64 t.T.N,.slice a1 l1 c1,.slice a2 l2 c2,.slice a3 l3 c3] 29):=⟨_,rfl⟩
 have hXs:X.heap.size=w.heap.size+1:=by rw [hX];simp
 have hXb:Below w.heap.size w X:=by rw [hX];exact (Below.refl _ _).alloc (Nat.le_refl _) _
 have hX0:X.heap[w.heap.size]?=some (.cells #[.int .i64 t.K,.int .i64 t.N,.string t.S,.string t.Z,.int .i64 t.T.K,.int .i64 t.T.N,.slice a1 l1 c1,.slice a2 l2 c2,.slice a3 l3 c3] 29 (0,0)):=by rw [hX];exact Qac rfl
 obtain⟨x0,x1,x2,x3,x4,x5,x6,x7,x8⟩:=Nine.box hX0
 have HX:Hid (X=_):=hX
 clear hX hA6 hn
 obtain⟨b6,h6⟩:∃ b,(t.K==6)=b:=⟨_,rfl⟩
 obtain⟨b7,h7⟩:∃ b,(t.K==7)=b:=⟨_,rfl⟩
 obtain⟨bN,hN⟩:∃ b,decide (0<t.N)=b:=⟨_,rfl⟩
 obtain⟨bv,hv⟩:∃ b,decide (0<vs)=b:=⟨_,rfl⟩
 have HB:Hid (∀ W:World,Below X.heap.size X W->W.cell? ⟨w.heap.size,1,none⟩=some (.int .i64 t.N)∧W.cell? ⟨w.heap.size,4,none⟩=some (.int .i64 t.T.K)∧W.cell? ⟨w.heap.size,5,none⟩=some (.int .i64 t.T.N)∧W.cell? ⟨w.heap.size,6,none⟩=some (.slice a1 l1 c1)):=fun W hb=>let r:=(hb.block w.heap.size (by omega)).trans hX0;⟨Qaa r 1,Qaa r 4,Qaa r 5,Qaa r 6⟩
 have bb0:Below X.heap.size X X.drew:=(Below.refl _ _).drew
 cases b6 with
 | true =>
   have hK6:t.K=6:=by simpa using h6
   have h7':(t.K==7)=false:=by rw [hK6];rfl
   have HL32:Hid (l3=2):=HA6.out hK6
   have hl30:0<l3:=by have:=HL32.out;omega
   clear h7 hK6
   cases bN with
   | false =>
     cases bv
     all_goals
      go_enter Try.func78,Try.ntmps78
      go_wp2_with fail
      rw [← HX.out]
      refine (lv_own D L B t.K t.T t.Ts hT a1 l1 c1 X (by omega) (Fm.keep (fun k _ hk=>(hXb.block k (by omega))) (Nat.le_refl _) (Nat.le_refl _) hf).t1).mono ?_
      rintro e w2 ⟨rfl,hb2⟩
      have hz2:=hb2.size
      have r2:=(hb2.block w.heap.size (by omega)).trans hX0
      have hb2w:Below w.heap.size w w2:=hXb.trans (hb2.mono (by omega))
      obtain⟨y0,y1,y2,y3,y4,y5,y6,y7,y8⟩:=Nine.box r2
      obtain⟨V,hV⟩:∃ V:Int,V=(varsT t.T:Int):=⟨_,rfl⟩
      rw [← hV]
      clear hV
      clear x0 x1 x2 x3 x4 x5 x6 x7 x8
      by_cases hgt:vs<V
      · go_wp2_with fail
        go_ret
        exact⟨⟨_,rfl⟩,hb2w⟩
      · go_wp2_with fail
        go_loopw [6] (fun i wr=>∃ j:Nat,j≤l2∧i=.int .i64 j∧Below w2.heap.size w2 wr) (fun i _=>l2 - (intOf i).toNat)
        case atStart=>exact⟨0,by omega,rfl,Below.refl _ _⟩
        case round =>
         obtain⟨j,hj,rfl,hbr⟩:=hrel
         have hzr:=hbr.size
         have rr:=(hbr.block w.heap.size (by omega)).trans r2
         obtain⟨x0,x1,x2,x3,x4,x5,x6,x7,x8⟩:=Nine.box rr
         have hbrw:Below w.heap.size w wr:=hb2w.trans (hbr.mono (by omega))
         by_cases hlt:j<l2
         · have hlt':j<t.Ts.length:=by have:=HL2.out;omega
           obtain⟨b,o,rfl,_,hbB,b1,m1,d1,e0,e1,e2,hs1⟩:=hf.t2.get j hlt'
           have f0:=(Qag hbrw (by omega) _).trans e0
           have f1:=(Qag hbrw (by omega) _).trans e1
           have f2:=(Qag hbrw (by omega) _).trans e2
           obtain⟨mj,hmj⟩:=HTs.out t.Ts[j] (List.getElem_mem _)
           have K:=lv_any 6 (D - 1) L B t.Ts[j].K t.Ts[j].N b1 m1 d1 t.Ts[j].A mj wr (by omega) (hs1.keep (fun k _ hk=>hbrw.block k (by omega)) (Nat.le_refl _) (Nat.le_refl _)) (by rw [Qap];exact hmj)
           obtain⟨U,hU⟩:∃ U:Int,U=(Qce 6 ⟨t.Ts[j].K,t.Ts[j].N,t.Ts[j].A⟩:Int):=⟨_,rfl⟩
           rw [← hU] at K
           clear hU e0 e1 e2
           go_wp2_with fail
           refine K.mono ?_
           rintro e w4 ⟨rfl,hb4⟩
           clear K
           by_cases hg2:vs<U
           · go_wp2_with fail
             go_ret
             exact⟨⟨_,rfl⟩,hbrw.trans (hb4.mono (by omega))⟩
           · go_wp2_with fail
             go_roundw
             case rel=>exact⟨j+1,by omega,by go_num,hbr.trans (hb4.mono (by omega))⟩
             case measure=>simp [intOf];omega
         · go_wp2_with fail
           go_ret
           exact⟨⟨_,rfl⟩,hbrw⟩
   | true =>
     cases bv with
     | true =>
       go_enter Try.func78,Try.ntmps78
       go_wp2_with fail
       rw [← HX.out]
       go_ret
       exact⟨⟨_,rfl⟩,hXb⟩
     | false =>
       have hA0:0<t.A.length:=by have:=HL3.out;omega
       obtain⟨b,o,rfl,_,hbB,b1,m1,d1,b2,m2,d2,b3,m3,d3,h9,hfA⟩:=hf.m.get 0 hA0
       obtain⟨e0,e1,e2,e3,e4,e5,e6,e7,e8⟩:=h9
       simp only [Nat.zero_mul,Nat.add_zero] at e0 e1 e2 e3 e4 e5 e6 e7 e8
       have hbw:b<w.heap.size:=by omega
       have K:=sIsValue_any D (d - 1) L B (t.A[0]'hA0) b1 m1 d1 b2 m2 d2 b3 m3 d3 X (by omega) (Fm.keep (fun k _ hk=>hXb.block k (by omega)) (Nat.le_refl _) (Nat.le_refl _) hfA)
       obtain⟨iv,hiv⟩:∃ iv,iv=isVal (t.A[0]'hA0).K:=⟨_,rfl⟩
       rw [← hiv] at K
       clear hiv
       go_enter Try.func78,Try.ntmps78
       go_wp2_with fail
       rw [← HX.out]
       refine K.mono ?_
       rintro e w1 ⟨rfl,hb1⟩
       clear K
       have hz1:=hb1.size
       have r1:=(hb1.block w.heap.size (by omega)).trans hX0
       have hb1w:Below w.heap.size w w1:=hXb.trans (hb1.mono (by omega))
       clear x0 x1 x2 x3 x4 x5 x6 x7 x8 e0 e1 e2 e3 e4 e5 e6 e7 e8
       obtain⟨x0,x1,x2,x3,x4,x5,x6,x7,x8⟩:=Nine.box r1
       cases iv with
       | false =>
         go_wp2_with fail
         go_ret
         exact⟨⟨_,rfl⟩,hb1w⟩
       | true =>
         go_wp2_with fail
         refine (lv_own D L B t.K t.T t.Ts hT a1 l1 c1 w1 (by omega) (Fm.keep (fun k _ hk=>(hb1w.block k (by omega))) (Nat.le_refl _) (Nat.le_refl _) hf).t1).mono ?_
         rintro e w2 ⟨rfl,hb2⟩
         have hz2:=hb2.size
         have r2:=(hb2.block w.heap.size (by omega)).trans r1
         have hb2w:Below w.heap.size w w2:=hb1w.trans (hb2.mono (by omega))
         obtain⟨y0,y1,y2,y3,y4,y5,y6,y7,y8⟩:=Nine.box r2
         obtain⟨V,hV⟩:∃ V:Int,V=(varsT t.T:Int):=⟨_,rfl⟩
         rw [← hV]
         clear hV
         clear x0 x1 x2 x3 x4 x5 x6 x7 x8
         by_cases hgt:vs<V
         · go_wp2_with fail
           go_ret
           exact⟨⟨_,rfl⟩,hb2w⟩
         · go_wp2_with fail
           go_loopw [6] (fun i wr=>∃ j:Nat,j≤l2∧i=.int .i64 j∧Below w2.heap.size w2 wr) (fun i _=>l2 - (intOf i).toNat)
           case atStart=>exact⟨0,by omega,rfl,Below.refl _ _⟩
           case round =>
            obtain⟨j,hj,rfl,hbr⟩:=hrel
            have hzr:=hbr.size
            have rr:=(hbr.block w.heap.size (by omega)).trans r2
            obtain⟨x0,x1,x2,x3,x4,x5,x6,x7,x8⟩:=Nine.box rr
            have hbrw:Below w.heap.size w wr:=hb2w.trans (hbr.mono (by omega))
            by_cases hlt:j<l2
            · have hlt':j<t.Ts.length:=by have:=HL2.out;omega
              obtain⟨b,o,rfl,_,hbB,b1,m1,d1,e0,e1,e2,hs1⟩:=hf.t2.get j hlt'
              have f0:=(Qag hbrw (by omega) _).trans e0
              have f1:=(Qag hbrw (by omega) _).trans e1
              have f2:=(Qag hbrw (by omega) _).trans e2
              obtain⟨mj,hmj⟩:=HTs.out t.Ts[j] (List.getElem_mem _)
              have K:=lv_any 6 (D - 1) L B t.Ts[j].K t.Ts[j].N b1 m1 d1 t.Ts[j].A mj wr (by omega) (hs1.keep (fun k _ hk=>hbrw.block k (by omega)) (Nat.le_refl _) (Nat.le_refl _)) (by rw [Qap];exact hmj)
              obtain⟨U,hU⟩:∃ U:Int,U=(Qce 6 ⟨t.Ts[j].K,t.Ts[j].N,t.Ts[j].A⟩:Int):=⟨_,rfl⟩
              rw [← hU] at K
              clear hU e0 e1 e2
              go_wp2_with fail
              refine K.mono ?_
              rintro e w4 ⟨rfl,hb4⟩
              clear K
              by_cases hg2:vs<U
              · go_wp2_with fail
                go_ret
                exact⟨⟨_,rfl⟩,hbrw.trans (hb4.mono (by omega))⟩
              · go_wp2_with fail
                go_roundw
                case rel=>exact⟨j+1,by omega,by go_num,hbr.trans (hb4.mono (by omega))⟩
                case measure=>simp [intOf];omega
            · go_wp2_with fail
              go_ret
              exact⟨⟨_,rfl⟩,hbrw⟩
 | false =>
   cases b7 with
   | false =>
     cases bN <;> cases bv
     all_goals
      go_enter Try.func78,Try.ntmps78
      go_wp2_with fail
      rw [← HX.out]
      refine (lv_own D L B t.K t.T t.Ts hT a1 l1 c1 X (by omega) (Fm.keep (fun k _ hk=>(hXb.block k (by omega))) (Nat.le_refl _) (Nat.le_refl _) hf).t1).mono ?_
      rintro e w2 ⟨rfl,hb2⟩
      have hz2:=hb2.size
      have r2:=(hb2.block w.heap.size (by omega)).trans hX0
      have hb2w:Below w.heap.size w w2:=hXb.trans (hb2.mono (by omega))
      obtain⟨y0,y1,y2,y3,y4,y5,y6,y7,y8⟩:=Nine.box r2
      obtain⟨V,hV⟩:∃ V:Int,V=(varsT t.T:Int):=⟨_,rfl⟩
      rw [← hV]
      clear hV
      clear x0 x1 x2 x3 x4 x5 x6 x7 x8
      by_cases hgt:vs<V
      · go_wp2_with fail
        go_ret
        exact⟨⟨_,rfl⟩,hb2w⟩
      · go_wp2_with fail
        go_loopw [6] (fun i wr=>∃ j:Nat,j≤l2∧i=.int .i64 j∧Below w2.heap.size w2 wr) (fun i _=>l2 - (intOf i).toNat)
        case atStart=>exact⟨0,by omega,rfl,Below.refl _ _⟩
        case round =>
         obtain⟨j,hj,rfl,hbr⟩:=hrel
         have hzr:=hbr.size
         have rr:=(hbr.block w.heap.size (by omega)).trans r2
         obtain⟨x0,x1,x2,x3,x4,x5,x6,x7,x8⟩:=Nine.box rr
         have hbrw:Below w.heap.size w wr:=hb2w.trans (hbr.mono (by omega))
         by_cases hlt:j<l2
         · have hlt':j<t.Ts.length:=by have:=HL2.out;omega
           obtain⟨b,o,rfl,_,hbB,b1,m1,d1,e0,e1,e2,hs1⟩:=hf.t2.get j hlt'
           have f0:=(Qag hbrw (by omega) _).trans e0
           have f1:=(Qag hbrw (by omega) _).trans e1
           have f2:=(Qag hbrw (by omega) _).trans e2
           obtain⟨mj,hmj⟩:=HTs.out t.Ts[j] (List.getElem_mem _)
           have K:=lv_any 6 (D - 1) L B t.Ts[j].K t.Ts[j].N b1 m1 d1 t.Ts[j].A mj wr (by omega) (hs1.keep (fun k _ hk=>hbrw.block k (by omega)) (Nat.le_refl _) (Nat.le_refl _)) (by rw [Qap];exact hmj)
           obtain⟨U,hU⟩:∃ U:Int,U=(Qce 6 ⟨t.Ts[j].K,t.Ts[j].N,t.Ts[j].A⟩:Int):=⟨_,rfl⟩
           rw [← hU] at K
           clear hU e0 e1 e2
           go_wp2_with fail
           refine K.mono ?_
           rintro e w4 ⟨rfl,hb4⟩
           clear K
           by_cases hg2:vs<U
           · go_wp2_with fail
             go_ret
             exact⟨⟨_,rfl⟩,hbrw.trans (hb4.mono (by omega))⟩
           · go_wp2_with fail
             go_roundw
             case rel=>exact⟨j+1,by omega,by go_num,hbr.trans (hb4.mono (by omega))⟩
             case measure=>simp [intOf];omega
         · go_wp2_with fail
           go_ret
           exact⟨⟨_,rfl⟩,hbrw⟩
   | true =>
     cases bN with
     | false =>
       cases bv
       all_goals
        go_enter Try.func78,Try.ntmps78
        go_wp2_with fail
        rw [← HX.out]
        refine (lv_own D L B t.K t.T t.Ts hT a1 l1 c1 X (by omega) (Fm.keep (fun k _ hk=>(hXb.block k (by omega))) (Nat.le_refl _) (Nat.le_refl _) hf).t1).mono ?_
        rintro e w2 ⟨rfl,hb2⟩
        have hz2:=hb2.size
        have r2:=(hb2.block w.heap.size (by omega)).trans hX0
        have hb2w:Below w.heap.size w w2:=hXb.trans (hb2.mono (by omega))
        obtain⟨y0,y1,y2,y3,y4,y5,y6,y7,y8⟩:=Nine.box r2
        obtain⟨V,hV⟩:∃ V:Int,V=(varsT t.T:Int):=⟨_,rfl⟩
        rw [← hV]
        clear hV
        clear x0 x1 x2 x3 x4 x5 x6 x7 x8
        by_cases hgt:vs<V
        · go_wp2_with fail
          go_ret
          exact⟨⟨_,rfl⟩,hb2w⟩
        · go_wp2_with fail
          go_loopw [6] (fun i wr=>∃ j:Nat,j≤l2∧i=.int .i64 j∧Below w2.heap.size w2 wr) (fun i _=>l2 - (intOf i).toNat)
          case atStart=>exact⟨0,by omega,rfl,Below.refl _ _⟩
          case round =>
           obtain⟨j,hj,rfl,hbr⟩:=hrel
           have hzr:=hbr.size
           have rr:=(hbr.block w.heap.size (by omega)).trans r2
           obtain⟨x0,x1,x2,x3,x4,x5,x6,x7,x8⟩:=Nine.box rr
           have hbrw:Below w.heap.size w wr:=hb2w.trans (hbr.mono (by omega))
           by_cases hlt:j<l2
           · have hlt':j<t.Ts.length:=by have:=HL2.out;omega
             obtain⟨b,o,rfl,_,hbB,b1,m1,d1,e0,e1,e2,hs1⟩:=hf.t2.get j hlt'
             have f0:=(Qag hbrw (by omega) _).trans e0
             have f1:=(Qag hbrw (by omega) _).trans e1
             have f2:=(Qag hbrw (by omega) _).trans e2
             obtain⟨mj,hmj⟩:=HTs.out t.Ts[j] (List.getElem_mem _)
             have K:=lv_any 6 (D - 1) L B t.Ts[j].K t.Ts[j].N b1 m1 d1 t.Ts[j].A mj wr (by omega) (hs1.keep (fun k _ hk=>hbrw.block k (by omega)) (Nat.le_refl _) (Nat.le_refl _)) (by rw [Qap];exact hmj)
             obtain⟨U,hU⟩:∃ U:Int,U=(Qce 6 ⟨t.Ts[j].K,t.Ts[j].N,t.Ts[j].A⟩:Int):=⟨_,rfl⟩
             rw [← hU] at K
             clear hU e0 e1 e2
             go_wp2_with fail
             refine K.mono ?_
             rintro e w4 ⟨rfl,hb4⟩
             clear K
             by_cases hg2:vs<U
             · go_wp2_with fail
               go_ret
               exact⟨⟨_,rfl⟩,hbrw.trans (hb4.mono (by omega))⟩
             · go_wp2_with fail
               go_roundw
               case rel=>exact⟨j+1,by omega,by go_num,hbr.trans (hb4.mono (by omega))⟩
               case measure=>simp [intOf];omega
           · go_wp2_with fail
             go_ret
             exact⟨⟨_,rfl⟩,hbrw⟩
     | true =>
       cases bv with
       | true =>
         go_enter Try.func78,Try.ntmps78
         go_wp2_with fail
         rw [← HX.out]
         go_ret
         exact⟨⟨_,rfl⟩,hXb⟩
       | false =>
         go_enter Try.func78,Try.ntmps78
         go_wp2_with fail
         rw [← HX.out]
         have HV:Hid (∀ W:World,Below X.heap.size X W->Calls Try.prog 89 #[.agg #[.int .i64 t.T.K,.int .i64 t.T.N,.slice a1 l1 c1]] W fun e w'=>∃ V:Int,e=.returned (.int .i64 V)∧Below W.heap.size W w'):=fun W hb=>(lv_own D L B t.K t.T t.Ts hT a1 l1 c1 W (by have:=hb.size;omega) (Fm.keep (fun k _ hk=>(hb.block k (by omega)).trans (hXb.block k (by omega))) (Nat.le_refl _) (Nat.le_refl _) hf).t1).mono fun e w' h=>⟨_,h.1,h.2⟩
         go_region_held3 (fun W=>W.cell? ⟨w.heap.size,1,none⟩=some (.int .i64 t.N)∧W.cell? ⟨w.heap.size,4,none⟩=some (.int .i64 t.T.K)∧W.cell? ⟨w.heap.size,5,none⟩=some (.int .i64 t.T.N)∧W.cell? ⟨w.heap.size,6,none⟩=some (.slice a1 l1 c1))
          (first|with_reducible exact HB.out _ bb1|with_reducible exact HB.out _ bb0)
          (first
            | (go_at_call 89;refine (HV.out _ bb0).mono ?_;rintro e x1 ⟨V,rfl,hx1⟩;have bb1:Below X.heap.size X x1:=bb0.trans hx1))
         all_goals
          go_wp2_with fail
          go_ret
          exact⟨⟨_,rfl⟩,hXb.trans (bb1.mono (by omega))⟩
end Go.Proofs.Ytleghjgpnefliaa
