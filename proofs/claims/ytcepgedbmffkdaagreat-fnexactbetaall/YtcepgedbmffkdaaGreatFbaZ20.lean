/-
  The model's 'l2CopyTys', 'l2Copy': the same in memory of its own.
-/
import Derived.Test.YtcepgedbmffkdaaGreatFbaZ19
import Derived.Test.YtcepgedbmffkdaaGreatFbaZ15
import Derived.Test.YtcepgedbmffkdaaGreatFbaZ7
import Derived.Test.YtcepgedbmffkdaaGreatFbaZ16
import Derived.Deep.CutBlock
import Derived.Test.YtcepgedbmffkdaaGreatFbaZ4
import Derived.Test.YtcepgedbmffkdaaGreatFbaZ3
namespace Go.Proofs.YtcepgedbmffkdaaGreat
open Go.RowKit
set_option linter.unusedVariables false
set_option linter.unusedSimpArgs false
def SaidLm (D d:Nat):Prop:=∀ (L B:Nat) (t:Tm) (a1:Option Addr) (l1 c1:Nat) (a2:Option Addr) (l2 c2:Nat) (a3:Option Addr) (l3 c3:Nat) (w:World),B≤w.heap.size→Fm L B w D d t a1 l1 a2 l2 a3 l3→cntM t≤1048576 →
    Calls Tryz.prog 20 #[.agg #[.int .i64 t.K,.int .i64 t.N,.string t.S,.string t.Z,.int .i64 t.T.K,.int .i64 t.T.N,.slice a1 l1 c1,.slice a2 l2 c2,.slice a3 l3 c3]] w fun e w'=>∃ b1 m1 e1 b2 e2 b3 e3,e=.returned (.agg #[.int .i64 t.K,.int .i64 t.N,.string t.S,.string t.Z,.int .i64 t.T.K,.int .i64 t.T.N,.slice b1 m1 e1,.slice b2 l2 e2,.slice b3 l3 e3])∧Below w.heap.size w w'∧FmO w.heap.size w'.heap.size w' (D+1) d t b1 m1 b2 l2 b3 l3
set_option maxRecDepth 100000 in
set_option maxHeartbeats 4000000 in
theorem lm_step (D d:Nat) (IH:∀ e,e < d→SaidLm D e):SaidLm D d:=by
  intro L B t a1 l1 c1 a2 l2 c2 a3 l3 c3 w hB hf hc
  obtain ⟨hl3,hl3m⟩:=hf.m.len
  have HL:Hid (l3=t.A.length):=hl3
  have hce:=cntM_eq t
  unfold ownM at hce
  have hcT:cntS t.T.A≤1048576:=by omega
  have hcS:cntS t.Ts≤1048576:=by omega
  have hc3:l3≤1048576:=by have:=cntMS_eq t.A;omega
  have HCA:Hid (cntMS t.A≤1048576):=by show _≤_;omega
  obtain ⟨X,hX⟩:∃ X,X=(((w.alloc (.cells #[.int .i64 t.K,.int .i64 t.N,.string t.S,.string t.Z,.int .i64 t.T.K,.int .i64 t.T.N,.slice a1 l1 c1,.slice a2 l2 c2,.slice a3 l3 c3] 34)).alloc (.cells #[.int .i64 0,.int .i64 0,.string ⟨#[]⟩,.string ⟨#[]⟩,.int .i64 0,.int .i64 0,.slice none 0 0,.slice none 0 0,.slice none 0 0] 34)).alloc (.cells #[.int .i64 t.K,.int .i64 t.N,.string t.S,.string t.Z,.int .i64 t.T.K,.int .i64 t.T.N,.slice a1 l1 c1,.slice a2 l2 c2,.slice a3 l3 c3] 34)):=⟨_,rfl⟩
  have hXs:X.heap.size=w.heap.size+3:=by rw [hX];simp
  have hXb:Below w.heap.size w X:=by rw [hX];exact (((Below.refl _ _).alloc (Nat.le_refl _) _).alloc (by simp) _).alloc (by simp;omega) _
  have hX0:X.heap[w.heap.size]?=some (.cells #[.int .i64 t.K,.int .i64 t.N,.string t.S,.string t.Z,.int .i64 t.T.K,.int .i64 t.T.N,.slice a1 l1 c1,.slice a2 l2 c2,.slice a3 l3 c3] 34 (0,0)):=by
    rw [hX,Below.heap_alloc _ _ _ (by simp;omega),Below.heap_alloc _ _ _ (by simp)];exact heap_new rfl
  have hX1:X.heap[w.heap.size+1]?=some (.cells #[.int .i64 0,.int .i64 0,.string ⟨#[]⟩,.string ⟨#[]⟩,.int .i64 0,.int .i64 0,.slice none 0 0,.slice none 0 0,.slice none 0 0] 34 (0,0)):=by
    rw [hX,Below.heap_alloc _ _ _ (by simp)];exact heap_new (by simp)
  have hX2:X.heap[w.heap.size+1+1]?=some (.cells #[.int .i64 t.K,.int .i64 t.N,.string t.S,.string t.Z,.int .i64 t.T.K,.int .i64 t.T.N,.slice a1 l1 c1,.slice a2 l2 c2,.slice a3 l3 c3] 34 (0,0)):=by rw [hX];exact heap_new (by simp)
  have hfX:=Fm.below hXb hB hf
  have HX:Hid (X=_):=hX
  clear hX hce hl3
  go_enter Tryz.func20,Tryz.ntmps20
  go_wp2_with fail
  rw [← HX.out]
  refine (lc_any D L B _ _ _ _ _ t.T.A X (by omega) hfX.t1 hcT).mono ?_
  rintro e w1 ⟨b1,m1,e1,rfl,hb1,ho1⟩
  have hz1:=hb1.size
  have hbw1:Below w.heap.size w w1:=hXb.trans (hb1.mono (by omega))
  have y0:=(hb1.block w.heap.size (by omega)).trans hX0
  have y1:=(hb1.block (w.heap.size+1) (by omega)).trans hX1
  have y2:=(hb1.block (w.heap.size+1+1) (by omega)).trans hX2
  obtain ⟨f0,f1,f2,f3,f4,f5,f6,f7,f8⟩:=Nine.box y0
  obtain ⟨_,_,_,_,q4,q5,q6,q7,q8⟩:=Nine.box y2
  have r2:=row_free y2
  go_wp2_with fail
  have hXc:Below w.heap.size w (set3 w1 (w.heap.size+1+1) 4 (.int .i64 t.T.K) (.int .i64 t.T.N) (.slice b1 m1 e1)):=set3_below hbw1 (by omega)
  have hf2:=Fm.below hXc hB hf
  have hzc:(set3 w1 (w.heap.size+1+1) 4 (.int .i64 t.T.K) (.int .i64 t.T.N) (.slice b1 m1 e1)).heap.size=w1.heap.size:=set3_size _ _ _ _ _ _
  refine (l2CopyTys_any D L B _ _ _ t.Ts (set3 w1 (w.heap.size+1+1) 4 (.int .i64 t.T.K) (.int .i64 t.T.N) (.slice b1 m1 e1)) (by omega) hf2.t2 hcS).mono ?_
  rintro e w2 ⟨b2,e2,rfl,hb2,ho2⟩
  have hz2:=hb2.size
  have hbw2:Below w.heap.size w w2:=hXc.trans (hb2.mono (by omega))
  have z0:=(hb2.block w.heap.size (by omega)).trans ((set3_other _ (by omega)).trans y0)
  have z1:=(hb2.block (w.heap.size+1) (by omega)).trans ((set3_other _ (by omega)).trans y1)
  have z2:w2.heap[w.heap.size+1+1]?=some (.cells #[.int .i64 t.K,.int .i64 t.N,.string t.S,.string t.Z,.int .i64 t.T.K,.int .i64 t.T.N,.slice b1 m1 e1,.slice a2 l2 c2,.slice a3 l3 c3] 34 (0,0)):=(hb2.block (w.heap.size+1+1) (by omega)).trans (set3_row y2)
  have o1:OwR (w.heap.size+3) w1.heap.size w2 (D+1) b1 m1 t.T.A:=ho1.one (by omega) (fun j hj1 hj2=>(hb2.block j (by omega)).trans (set3_other j (by omega))) (by omega) (Nat.le_refl _)
  have o2:OwR w1.heap.size w2.heap.size w2 (D+1) b2 l2 t.Ts:=ho2.keep (fun j hj1 hj2=>rfl) (by omega) (by omega)
  clear f0 f1 f2 f3 f4 f5 f6 f7 f8 q4 q5 q6 q7 q8 r2 y0 y1 y2 ho1 ho2 hX0 hX1 hX2 hfX hf2
  obtain ⟨f0,f1,f2,f3,f4,f5,f6,f7,f8⟩:=Nine.box z0
  obtain ⟨_,_,_,_,q4,q5,q6,q7,q8⟩:=Nine.box z2
  have r2:=row_free z2
  obtain ⟨h,hh⟩:∃ h,h=w.heap.size+1+1:=⟨_,rfl⟩
  have hz3:h+1≤w2.heap.size:=by omega
  have hlt2:h < w2.heap.size:=by omega
  obtain ⟨W,hW⟩:∃ W,W=((w2.setCell ⟨h,7,none⟩ (.slice b2 l2 e2)).setCell ⟨h,8,none⟩ (.slice (some ⟨w2.heap.size,0,none⟩) 0 0)).alloc (.cells #[] 34):=⟨_,rfl⟩
  rw [← hh] at z2 q4 q5 q6 q7 q8 r2
  have hWs:W.heap.size=w2.heap.size+1:=by rw [hW];simp
  have hWo:∀ k,k < w2.heap.size→k≠h→W.heap[k]?=w2.heap[k]?:=fun k hk hkh=>by
    rw [hW,Below.heap_alloc _ _ _ (by simpa using hk),row_other _ _ _ hkh,row_other _ _ _ hkh]
  have hWh:W.heap[h]?=some (.cells #[.int .i64 t.K,.int .i64 t.N,.string t.S,.string t.Z,.int .i64 t.T.K,.int .i64 t.T.N,.slice b1 m1 e1,.slice b2 l2 e2,.slice (some ⟨w2.heap.size,0,none⟩) 0 0] 34 (0,0)):=by
    rw [hW]
    rw [Below.heap_alloc _ _ _ (by simp;omega),row_set (row_set z2 7 _)]
    rfl
  have hWn:W.heap[w2.heap.size]?=some (.cells #[] 34 (0,0)):=by
    rw [hW];exact heap_new (by simp)
  have hWB:Below h w2 W:=by
    rw [hW]
    exact (((Below.refl _ _).setCell (p:=⟨h,7,none⟩) (Nat.le_refl _) _).setCell (p:=⟨h,8,none⟩) (Nat.le_refl _) _).alloc (by simp;omega) _
  have HW:Hid (W=_):=hW
  have HH:Hid (h=w.heap.size+1+1):=hh
  have hwh:w.heap.size+2≤h:=by omega
  have hwh2:w.heap.size < h:=by omega
  have HO:Hid (OwR (w.heap.size+3) w1.heap.size w2 (D+1) b1 m1 t.T.A∧OwR w1.heap.size w2.heap.size w2 (D+1) b2 l2 t.Ts∧w.heap.size+3≤w1.heap.size∧w1.heap.size≤w2.heap.size):=⟨o1,o2,by omega,by omega⟩
  have HWO:Hid (∀ k,k < w2.heap.size→k≠h→W.heap[k]?=w2.heap[k]?):=hWo
  have hxw0:W.heap[w.heap.size]?=_:=(hWo w.heap.size (by omega) (by omega)).trans z0
  have hxw1:W.heap[w.heap.size+1]?=_:=(hWo (w.heap.size+1) (by omega) (by omega)).trans z1
  have hbwW:Below w.heap.size w W:=hbw2.trans (hWB.mono (by omega))
  have hAp:ApRelM w2.heap.size W (D+1) (d - 1) (.slice (some ⟨w2.heap.size,0,none⟩) 0 0) 0 t.A:=apm_emp t.A hWn (Nat.le_refl _)
  have HZ:Hid (W.heap.size=w2.heap.size+1):=hWs
  rw [← hh]
  clear hW hh z0 z1 z2 o1 o2 hWo hXc hzc hWs
  go_wp2_with fail
  rw [← HW.out]
  clear f0 f1 f2 f3 f4 f5 f6 f7 f8 q4 q5 q6 q7 q8 r2
  go_loopw [4] (fun i wr=>∃ (j:Nat) (aj:Option Addr) (cj:Nat),j≤l3∧i=.int .i64 j∧wr.heap[h]?=some (.cells #[.int .i64 t.K,.int .i64 t.N,.string t.S,.string t.Z,.int .i64 t.T.K,.int .i64 t.T.N,.slice b1 m1 e1,.slice b2 l2 e2,.slice aj j cj] 34 (0,0))∧ApRelM w2.heap.size wr (D+1) (d - 1) (.slice aj j cj) j t.A∧W.heap.size≤wr.heap.size∧(∀ k,k < w2.heap.size→k≠h→wr.heap[k]?=W.heap[k]?)∧Below w.heap.size w wr) (fun i _=>l3 - (intOf i).toNat)
  case atStart=>exact ⟨0,_,_,by omega,rfl,hWh,hAp,Nat.le_refl _,fun _ _ _=>rfl,hbwW⟩
  case round =>
    obtain ⟨j,aj,cj,hj,rfl,hrow,hap,hzr,hold,hbw⟩:=hrel
    have hhr:=(Array.getElem?_eq_some_iff.1 hrow).1
    have hzW:=HZ.out
    have hb0:=(hold w.heap.size (by omega) (by omega)).trans hxw0
    obtain ⟨f0,f1,f2,f3,f4,f5,f6,f7,f8⟩:=Nine.box hb0
    by_cases hlt:j < l3
    · have hlt':j < t.A.length:=by have:=HL.out;omega
      obtain ⟨b,o,rfl,_,hbB,q1,n1,k1,q2,n2,k2,q3,n3,k3,h9,hf1⟩:=hf.m.get j hlt'
      obtain ⟨e0,e1',e2',e3,e4,e5,e6,e7,e8⟩:=h9.below hbw (by omega)
      have hfP:Fm L B wr.drew D (d - 1) t.A[j] q1 n1 q2 n2 q3 n3:=Fm.drew (Fm.below hbw hB hf1)
      have hcj:cntM t.A[j]≤1048576:=by have:=cntMS_get t.A j hlt';have:=HCA.out;omega
      have hapP:ApRelM w2.heap.size wr.drew (D+1) (d - 1) (.slice aj j cj) j t.A:=apm_below hap (Below.refl _ _).drew
      have APR:Hid (∀ (w3:World) (r1:Option Addr) (s1 u1:Nat) (r2:Option Addr) (s2 u2:Nat) (r3:Option Addr) (s3 u3:Nat),Below wr.drew.heap.size wr.drew w3→FmO wr.drew.heap.size w3.heap.size w3 (D+1) (d - 1) t.A[j] r1 s1 r2 s2 r3 s3 →
          ∃ g cp w4,(Builtin.append_ #[32,32] 32 #[.slice aj j cj,.slice (some ⟨w3.heap.size,0,none⟩) 1 1]).run Tryz.prog (w3.alloc (.cells #[.int .i64 t.A[j].K,.int .i64 t.A[j].N,.string t.A[j].S,.string t.A[j].Z,.int .i64 t.A[j].T.K,.int .i64 t.A[j].T.N,.slice r1 s1 u1,.slice r2 s2 u2,.slice r3 s3 u3] 34))=.ok (.slice (some ⟨g,0,none⟩) (j+1) cp) w4 ∧
            w4.cell? ⟨h,8,none⟩=some (.slice aj j cj)∧w4.frozen? ⟨h,8,none⟩=false ∧
            (w4.setCell ⟨h,8,none⟩ (.slice (some ⟨g,0,none⟩) (j+1) cp)).heap[h]?=some (.cells #[.int .i64 t.K,.int .i64 t.N,.string t.S,.string t.Z,.int .i64 t.T.K,.int .i64 t.T.N,.slice b1 m1 e1,.slice b2 l2 e2,.slice (some ⟨g,0,none⟩) (j+1) cp] 34 (0,0)) ∧
            ApRelM w2.heap.size (w4.setCell ⟨h,8,none⟩ (.slice (some ⟨g,0,none⟩) (j+1) cp)) (D+1) (d - 1) (.slice (some ⟨g,0,none⟩) (j+1) cp) (j+1) t.A∧W.heap.size≤(w4.setCell ⟨h,8,none⟩ (.slice (some ⟨g,0,none⟩) (j+1) cp)).heap.size ∧
            (∀ k,k < w2.heap.size→k≠h→(w4.setCell ⟨h,8,none⟩ (.slice (some ⟨g,0,none⟩) (j+1) cp)).heap[k]?=W.heap[k]?)∧Below w.heap.size w (w4.setCell ⟨h,8,none⟩ (.slice (some ⟨g,0,none⟩) (j+1) cp))):=by
        intro w3 r1 s1 u1 r2 s2 u2 r3 s3 u3 hb3 ho3
        obtain ⟨g,cp,w4,hrun,hap4,hbe4⟩:=apm_run (c1:=u1) (c2:=u2) (c3:=u3) hapP hlt' (by omega) hb3 (show w2.heap.size≤wr.heap.size by omega) ho3
        have hq:w4.heap[h]?=_:=(hbe4.block h (by omega)).trans hrow
        have hz4:wr.heap.size≤w4.heap.size:=hbe4.size
        refine ⟨g,cp,w4,hrun,row_cell hq 8,row_free hq 8,?_,apm_set hap4 (by omega) _,by rw [World.size_setCell];omega,fun k hk hkh=>?_,(hbw.drew.trans (hbe4.mono (by omega))).setCell (p:=⟨h,8,none⟩) (show w.heap.size≤h by omega) _⟩
        · rw [row_set hq]
          rfl
        · rw [row_other _ _ _ hkh]
          exact (hbe4.block k hk).trans (hold k hk hkh)
      have y8:wr.cell? ⟨h,8,none⟩=some (.slice aj j cj):=row_cell hrow 8
      have hBP:B≤wr.heap.size:=by omega
      have IHj:=IH (d - 1) (pos_d hf.m hlt') L B t.A[j]
      clear h9 hf1 hapP hap hrow IH hold hb0
      go_wp2_with fail
      go_region_law (first | (refine step_run hrun (by rfl) _ _ (by rfl) (by rfl) (by rfl) (by rfl) ?_) | (go_simp;go_at_call 20;refine (IHj _ _ _ _ _ _ _ _ _ wr.drew hBP hfP hcj).mono ?_;rintro e w3 ⟨r1,s1,u1,r2,u2,r3,u3,rfl,hb3,ho3⟩;have hz3':h < w3.heap.size:=Nat.lt_of_lt_of_le hhr hb3.size;have v8:=(bcell hb3 hhr 8).trans y8;have v9:(w3.alloc (.cells #[.int .i64 t.A[j].K,.int .i64 t.A[j].N,.string t.A[j].S,.string t.A[j].Z,.int .i64 t.A[j].T.K,.int .i64 t.A[j].T.N,.slice r1 s1 u1,.slice r2 n2 u2,.slice r3 n3 u3] 34)).cell? ⟨h,8,none⟩=some (.slice aj j cj):=(World.cell?_of_block (Below.heap_alloc _ _ _ hz3')).trans v8;obtain ⟨g,cp,w4,hrun,hc8,hf8,hrow4,hap4,hzW4,hold4,hbw4⟩:=APR.out w3 r1 s1 u1 r2 n2 u2 r3 n3 u3 hb3 ho3))
      all_goals
        clear f0 f1 f2 f3 f4 f5 f6 f7 f8 e0 e1' e2' e3 e4 e5 e6 e7 e8 y8 v8 v9 hrun hc8 hf8 hzW
        go_wp2_with fail
        go_roundw
        case rel=>exact ⟨j+1,_,_,by omega,by go_num,hrow4,hap4,hzW4,hold4,hbw4⟩
        case measure=>simp [intOf];omega
    · have HJ:Hid (j=l3):=by show _=_;omega
      have xr:=(hold (w.heap.size+1) (by omega) (by omega)).trans hxw1
      obtain ⟨p0,p1,p2,p3,p4,p5,p6,p7,p8⟩:=Nine.box xr
      have pf:=row_free xr
      obtain ⟨q0,q1,q2,q3,q4,q5,q6,q7,q8⟩:=Nine.box hrow
      clear hzW
      go_wp2_with fail
      obtain ⟨Y,hYe⟩:∃ Y,Y=set9 wr (w.heap.size+1) 0 (.int .i64 t.K) (.int .i64 t.N) (.string t.S) (.string t.Z) (.int .i64 t.T.K) (.int .i64 t.T.N) (.slice b1 m1 e1) (.slice b2 l2 e2) (.slice aj j cj):=⟨_,rfl⟩
      have hYb:Below w.heap.size w Y:=by rw [hYe];exact set9_below hbw (by omega)
      have hYs:Y.heap.size=wr.heap.size:=by rw [hYe];exact set9_size _ _ _ _ _ _ _ _ _ _ _ _
      have hYo:∀ k,k≠w.heap.size+1→Y.heap[k]?=wr.heap[k]?:=fun k hk=>by rw [hYe];exact set9_other k hk
      refine bodyPost_ret (v:=.agg #[.int .i64 t.K,.int .i64 t.N,.string t.S,.string t.Z,.int .i64 t.T.K,.int .i64 t.T.N,.slice b1 m1 e1,.slice b2 l2 e2,.slice aj j cj]) (by simp [results,Tryz.results20,go_sem,p0,p1,p2,p3,p4,p5,p6,p7,p8]) rfl ?_
      have hfin:∃ b1' m1' e1' b2' e2' b3' e3',Ending.returned (.agg #[.int .i64 t.K,.int .i64 t.N,.string t.S,.string t.Z,.int .i64 t.T.K,.int .i64 t.T.N,.slice b1 m1 e1,.slice b2 l2 e2,.slice aj j cj])=.returned (.agg #[.int .i64 t.K,.int .i64 t.N,.string t.S,.string t.Z,.int .i64 t.T.K,.int .i64 t.T.N,.slice b1' m1' e1',.slice b2' l2 e2',.slice b3' l3 e3'])∧Below w.heap.size w Y∧FmO w.heap.size Y.heap.size Y (D+1) d t b1' m1' b2' l2 b3' l3:=by
        have hjl:=HJ.out
        subst hjl
        obtain ⟨o1,o2,oM1,oM2⟩:=HO.out
        have hh:=HH.out
        have hzW:=HZ.out
        obtain ⟨a',c',ev,hoA⟩:=apm_whole hap hf.m
        injection ev with ev1 _ ev3
        subst ev1
        subst ev3
        have hchain:∀ k,k < w2.heap.size→w.heap.size+3≤k→Y.heap[k]?=w2.heap[k]?:=fun k hk1 hk2=>(hYo k (by omega)).trans ((hold k hk1 (by omega)).trans (HWO.out k hk1 (by omega)))
        refine ⟨b1,m1,e1,b2,e2,aj,cj,rfl,hYb,FmO.mk (L:=w.heap.size) (M1:=w1.heap.size) (M2:=w2.heap.size) hf.s hf.z ?_ ?_ ?_ (by omega) (by omega) (by omega)⟩
        · exact o1.keep (fun k hk1 hk2=>hchain k (by omega) hk1) (by omega) (Nat.le_refl _)
        · exact o2.keep (fun k hk1 hk2=>hchain k hk2 (by omega)) (Nat.le_refl _) (Nat.le_refl _)
        · exact hoA.keep (fun k hk1 hk2=>hYo k (by omega)) (Nat.le_refl _) (by omega)
      rw [hYe] at hfin
      exact hfin
theorem lm_any (D:Nat):∀ d,SaidLm D d:=by
  intro d
  induction d using Nat.strongRecOn with
  | ind d ih=>exact lm_step D d ih
end Go.Proofs.YtcepgedbmffkdaaGreat

/-
  What the model's 'l18Put' comes to, in plain words.
-/
namespace Go.Proofs.YtcepgedbmffkdaaGreat
open Go.RowKit
set_option linter.unusedVariables false
set_option linter.unusedSimpArgs false
def spR (F:List (List UInt8)) (x:Tm) (qs:List Way9) (t:Tm):Tm × Bool:=if putOk F qs=true then (putF t qs x,true) else (zTm,false)
theorem spR_yes {F:List (List UInt8)} {x:Tm} {qs:List Way9} {t:Tm} (h:putOk F qs=true):spR F x qs t=(putF t qs x,true):=by unfold spR;rw [if_pos h]
theorem spR_no {F:List (List UInt8)} {x:Tm} {qs:List Way9} {t:Tm} (h:putOk F qs=false):spR F x qs t=(zTm,false):=by unfold spR;rw [if_neg (by rw [h];simp)]
theorem putOk_cat {F:List (List UInt8)} {f:Nat→List Way9}:∀ {n i:Nat},i < n→putOk F (f i)=false→putOk F (catU f n)=false:=by
  intro n
  induction n with
  | zero=>intro i h;omega
  | succ n ih =>
    intro i hi h
    show putOk F (catU f n ++ f n)=false
    rw [putOk_app]
    by_cases e:i=n
    · subst e;rw [h,Bool.and_false]
    · rw [ih (show i < n by omega) h,Bool.false_and]
theorem freeAt_no {F:List (List UInt8)} {N:List (List UInt8)} {k:Nat} (hk:k < N.length) (h:N[k] ∈ F):freeAt F ([],N)=false:=by
  rw [Bool.eq_false_iff]
  intro h1
  unfold freeAt at h1
  have:=List.all_eq_true.1 h1 _ h
  simp at this
theorem freeAt_yes {F:List (List UInt8)} {N:List (List UInt8)} (h:∀ k (hk:k < N.length),¬ N[k] ∈ F):freeAt F ([],N)=true:=by
  unfold freeAt
  rw [List.all_eq_true]
  intro n hn
  simp only [Bool.not_eq_true',decide_eq_false_iff_not]
  intro h1
  obtain ⟨k,hk,rfl⟩:=List.getElem_of_mem h1
  exact h k hk hn
theorem nest9_otherS (W:World) (r:Nat) (a0 a1 a2 a3 a4 a5 a6 a7 a8:Value) (k:Nat) (hk:k≠r):(((((((((W.setCell ⟨r,0,none⟩ a0).setCell ⟨r,1,none⟩ a1).setCell ⟨r,2,none⟩ a2).setCell ⟨r,3,none⟩ a3).setCell ⟨r,4,none⟩ a4).setCell ⟨r,5,none⟩ a5).setCell ⟨r,6,none⟩ a6).setCell ⟨r,7,none⟩ a7).setCell ⟨r,8,none⟩ a8).heap[k]?=W.heap[k]?:=by (repeat rw [row_other _ _ _ hk])
theorem nest9_belowS (W:World) (r:Nat) (a0 a1 a2 a3 a4 a5 a6 a7 a8:Value):Below r W (((((((((W.setCell ⟨r,0,none⟩ a0).setCell ⟨r,1,none⟩ a1).setCell ⟨r,2,none⟩ a2).setCell ⟨r,3,none⟩ a3).setCell ⟨r,4,none⟩ a4).setCell ⟨r,5,none⟩ a5).setCell ⟨r,6,none⟩ a6).setCell ⟨r,7,none⟩ a7).setCell ⟨r,8,none⟩ a8):=set9_below (o:=0) (Below.refl _ _) (Nat.le_refl _)
theorem nest9_rowS {W:World} {r:Nat} {v0 v1 v2 v3 v4 v5 v6 v7 v8:Value} {ty:TypeId} {fr:Nat × Nat} (h:W.heap[r]?=some (.cells #[v0,v1,v2,v3,v4,v5,v6,v7,v8] ty fr)) (a0 a1 a2 a3 a4 a5 a6 a7 a8:Value):(((((((((W.setCell ⟨r,0,none⟩ a0).setCell ⟨r,1,none⟩ a1).setCell ⟨r,2,none⟩ a2).setCell ⟨r,3,none⟩ a3).setCell ⟨r,4,none⟩ a4).setCell ⟨r,5,none⟩ a5).setCell ⟨r,6,none⟩ a6).setCell ⟨r,7,none⟩ a7).setCell ⟨r,8,none⟩ a8).heap[r]?=some (.cells #[a0,a1,a2,a3,a4,a5,a6,a7,a8] ty fr):=by
  have e0:(W.setCell ⟨r,0,none⟩ a0).heap[r]?=some (.cells #[a0,v1,v2,v3,v4,v5,v6,v7,v8] ty fr):=by rw [row_set h];rfl
  have e1:((W.setCell ⟨r,0,none⟩ a0).setCell ⟨r,1,none⟩ a1).heap[r]?=some (.cells #[a0,a1,v2,v3,v4,v5,v6,v7,v8] ty fr):=by rw [row_set e0];rfl
  have e2:(((W.setCell ⟨r,0,none⟩ a0).setCell ⟨r,1,none⟩ a1).setCell ⟨r,2,none⟩ a2).heap[r]?=some (.cells #[a0,a1,a2,v3,v4,v5,v6,v7,v8] ty fr):=by rw [row_set e1];rfl
  have e3:((((W.setCell ⟨r,0,none⟩ a0).setCell ⟨r,1,none⟩ a1).setCell ⟨r,2,none⟩ a2).setCell ⟨r,3,none⟩ a3).heap[r]?=some (.cells #[a0,a1,a2,a3,v4,v5,v6,v7,v8] ty fr):=by rw [row_set e2];rfl
  have e4:(((((W.setCell ⟨r,0,none⟩ a0).setCell ⟨r,1,none⟩ a1).setCell ⟨r,2,none⟩ a2).setCell ⟨r,3,none⟩ a3).setCell ⟨r,4,none⟩ a4).heap[r]?=some (.cells #[a0,a1,a2,a3,a4,v5,v6,v7,v8] ty fr):=by rw [row_set e3];rfl
  have e5:((((((W.setCell ⟨r,0,none⟩ a0).setCell ⟨r,1,none⟩ a1).setCell ⟨r,2,none⟩ a2).setCell ⟨r,3,none⟩ a3).setCell ⟨r,4,none⟩ a4).setCell ⟨r,5,none⟩ a5).heap[r]?=some (.cells #[a0,a1,a2,a3,a4,a5,v6,v7,v8] ty fr):=by rw [row_set e4];rfl
  have e6:(((((((W.setCell ⟨r,0,none⟩ a0).setCell ⟨r,1,none⟩ a1).setCell ⟨r,2,none⟩ a2).setCell ⟨r,3,none⟩ a3).setCell ⟨r,4,none⟩ a4).setCell ⟨r,5,none⟩ a5).setCell ⟨r,6,none⟩ a6).heap[r]?=some (.cells #[a0,a1,a2,a3,a4,a5,a6,v7,v8] ty fr):=by rw [row_set e5];rfl
  have e7:((((((((W.setCell ⟨r,0,none⟩ a0).setCell ⟨r,1,none⟩ a1).setCell ⟨r,2,none⟩ a2).setCell ⟨r,3,none⟩ a3).setCell ⟨r,4,none⟩ a4).setCell ⟨r,5,none⟩ a5).setCell ⟨r,6,none⟩ a6).setCell ⟨r,7,none⟩ a7).heap[r]?=some (.cells #[a0,a1,a2,a3,a4,a5,a6,a7,v8] ty fr):=by rw [row_set e6];rfl
  have e8:(((((((((W.setCell ⟨r,0,none⟩ a0).setCell ⟨r,1,none⟩ a1).setCell ⟨r,2,none⟩ a2).setCell ⟨r,3,none⟩ a3).setCell ⟨r,4,none⟩ a4).setCell ⟨r,5,none⟩ a5).setCell ⟨r,6,none⟩ a6).setCell ⟨r,7,none⟩ a7).setCell ⟨r,8,none⟩ a8).heap[r]?=some (.cells #[a0,a1,a2,a3,a4,a5,a6,a7,a8] ty fr):=by rw [row_set e7];rfl
  exact e8
def SaidSput (l:Nat):Prop:=∀ (D d L B D0 d0 L0 B0 base:Nat) (t x:Tm) (a1:Option Addr) (l1 c1:Nat) (a2:Option Addr) (l2 c2:Nat) (a3:Option Addr) (l3 c3:Nat) (b1:Option Addr) (m1 e1:Nat) (b2:Option Addr) (m2 e2:Nat) (b3:Option Addr) (m3 e3:Nat) (m:Nat) (s:ByteArray) (F:List (List UInt8)) (fo:Option Addr) (fn fc:Nat) (w:World),B≤w.heap.size→B0≤w.heap.size →
    Fm L B w D d t a1 l1 a2 l2 a3 l3→Fm L0 B0 w D0 d0 x b1 m1 b2 m2 b3 m3→nodesM l t=some m→m≤1000→cntM t≤1048576→cntM x≤1048576→Toks base w (.slice fo fn fc) F→F.length≤100000 →
    Calls Tryz.prog 65 #[.agg #[.int .i64 t.K,.int .i64 t.N,.string t.S,.string t.Z,.int .i64 t.T.K,.int .i64 t.T.N,.slice a1 l1 c1,.slice a2 l2 c2,.slice a3 l3 c3],.string s,.agg #[.int .i64 x.K,.int .i64 x.N,.string x.S,.string x.Z,.int .i64 x.T.K,.int .i64 x.T.N,.slice b1 m1 e1,.slice b2 m2 e2,.slice b3 m3 e3],.slice fo fn fc] w fun e w'=>PutE w w' e (spR F x (usesP (bs s) l t) t)
end Go.Proofs.YtcepgedbmffkdaaGreat

/-
  Terms that are left to be compared, as a list, and the types that are; what lies in memory of them: no walk.
-/
namespace Go.Proofs.YtcepgedbmffkdaaGreat
open Go.RowKit
set_option linter.unusedVariables false
set_option linter.unusedSimpArgs false
theorem own_keep {wr w1:World} {ty:TypeId} {k:Nat} {v:Value} {n:Nat} {xs:List Value} (h:wr.ownsRow 0 ty k v n xs) (hb:∀ g,v.ownBlock=some g→w1.heap[g]?=wr.heap[g]?):w1.ownsRow 0 ty k v n xs:=by
  refine ⟨h.1,?_⟩
  rcases h.2 with hn | ⟨g,cap,cur,rfl,hg,hh,r⟩
  · exact Or.inl hn
  · exact Or.inr ⟨g,cap,cur,rfl,hg,(hb g rfl).trans hh,r⟩
theorem own_cells {wr:World} {ty:TypeId} {k:Nat} {v:Value} {n:Nat} {xs:List Value} (h:wr.ownsRow 0 ty k v n xs) {g:Nat} (hg:v.ownBlock=some g):g < wr.heap.size∧∃ cur fr,wr.heap[g]?=some (.cells cur ty fr):=by
  rcases h.2 with ⟨rfl,_⟩ | ⟨g',cap,cur,rfl,_,hh,_⟩
  · cases hg
  · have e:g'=g:=by simpa [Value.ownBlock] using hg
    subst e
    exact ⟨(Array.getElem?_eq_some_iff.1 hh).1,cur,_,hh⟩
theorem OwM.deeper {w:World} {D:Nat}:∀ {d d':Nat} {ao:Option Addr} {len:Nat} {ts:List Tm} {bs:List Nat},d≤d'→OwM w D d ao len ts bs→OwM w D d' ao len ts bs:=by
  intro d
  induction d with
  | zero =>
    intro d' ao len ts bs _ h
    cases d' with
    | zero=>exact h
    | succ d'=>exact Or.inl h
  | succ d ih =>
    intro d' ao len ts bs hd h
    cases d' with
    | zero=>omega
    | succ d' =>
      rcases h with h | ⟨g,cs,bss,e,hl,hm,hg,hc,hbl,hbs,hE⟩
      · exact Or.inl h
      · refine Or.inr ⟨g,cs,bss,e,hl,hm,hg,hc,hbl,hbs,fun i hi hi'=>?_⟩
        obtain ⟨a1,l1,c1,a2,l2,c2,a3,l3,c3,h9,hf⟩:=hE i hi hi'
        exact ⟨a1,l1,c1,a2,l2,c2,a3,l3,c3,h9,hf.map (fun _ _ _ _ _ hr=>hr) (fun _ _ _ _ _ hr=>ih (by omega) hr)⟩
theorem OwM.len {w:World} {D d:Nat} {ao:Option Addr} {len:Nat} {ts:List Tm} {bs:List Nat} (h:OwM w D d ao len ts bs):len=ts.length∧len≤9223372036854775807:=by
  cases d with
  | zero=>obtain ⟨rfl,rfl,_⟩:=h;exact ⟨rfl,by omega⟩
  | succ d =>
    rcases h with ⟨rfl,rfl,_⟩ | ⟨g,cs,bss,e,hl,hm,_⟩
    · exact ⟨rfl,by omega⟩
    · exact ⟨hl,hm⟩
end Go.Proofs.YtcepgedbmffkdaaGreat

/-
  What 'IsValue' comes to, the model's and the program's.
-/
namespace Go.Proofs.YtcepgedbmffkdaaGreat
open Go.RowKit
set_option linter.unusedVariables false
set_option linter.unusedSimpArgs false
def isVal (k:Int):Bool:=k == 1 || k == 2 || k == 3 || k == 4 || k == 12
set_option maxHeartbeats 1000000 in
theorem sIsValue_any (D d L B:Nat) (t:Tm) (a1:Option Addr) (l1 c1:Nat) (a2:Option Addr) (l2 c2:Nat) (a3:Option Addr) (l3 c3:Nat) (w:World) (hB:B≤w.heap.size) (hf:Fm L B w D d t a1 l1 a2 l2 a3 l3) :
    Calls Tryz.prog 84 #[.agg #[.int .i64 t.K,.int .i64 t.N,.string t.S,.string t.Z,.int .i64 t.T.K,.int .i64 t.T.N,.slice a1 l1 c1,.slice a2 l2 c2,.slice a3 l3 c3]] w fun e w'=>e=.returned (.bool (isVal t.K))∧Below w.heap.size w w':=by
  have hbel:Below w.heap.size w (w.alloc (.cells #[.int .i64 t.K,.int .i64 t.N,.string t.S,.string t.Z,.int .i64 t.T.K,.int .i64 t.T.N,.slice a1 l1 c1,.slice a2 l2 c2,.slice a3 l3 c3] 34)):=(Below.refl _ _).alloc (Nat.le_refl _) _
  unfold isVal
  cases h1:(t.K == 1)
  all_goals cases h2:(t.K == 2)
  all_goals cases h3:(t.K == 3)
  all_goals cases h4:(t.K == 4)
  all_goals cases h5:(t.K == 12)
  all_goals
    go_enter Tryz.func84,Tryz.ntmps84
    go_wp2_with fail
    go_ret
    exact ⟨rfl,hbel⟩
end Go.Proofs.YtcepgedbmffkdaaGreat

/-
  What 'IsValue' comes to, the model's and the program's.
-/
namespace Go.Proofs.YtcepgedbmffkdaaGreat
open Go.RowKit
set_option linter.unusedVariables false
set_option linter.unusedSimpArgs false
set_option maxHeartbeats 1000000 in
theorem isValue_any (D d L B:Nat) (t:Tm) (a1:Option Addr) (l1 c1:Nat) (a2:Option Addr) (l2 c2:Nat) (a3:Option Addr) (l3 c3:Nat) (w:World) (hB:B≤w.heap.size) (hf:Fm L B w D d t a1 l1 a2 l2 a3 l3) :
    Calls Tryz.prog 121 #[.agg #[.int .i64 t.K,.int .i64 t.N,.string t.S,.string t.Z,.int .i64 t.T.K,.int .i64 t.T.N,.slice a1 l1 c1,.slice a2 l2 c2,.slice a3 l3 c3]] w fun e w'=>e=.returned (.bool (isVal t.K))∧Below w.heap.size w w':=by
  have hbel:Below w.heap.size w (w.alloc (.cells #[.int .i64 t.K,.int .i64 t.N,.string t.S,.string t.Z,.int .i64 t.T.K,.int .i64 t.T.N,.slice a1 l1 c1,.slice a2 l2 c2,.slice a3 l3 c3] 34)):=(Below.refl _ _).alloc (Nat.le_refl _) _
  unfold isVal
  cases h1:(t.K == 1)
  all_goals cases h2:(t.K == 2)
  all_goals cases h3:(t.K == 3)
  all_goals cases h4:(t.K == 4)
  all_goals cases h5:(t.K == 12)
  all_goals
    go_enter Tryz.func121,Tryz.ntmps121
    go_wp2_with fail
    go_ret
    exact ⟨rfl,hbel⟩
end Go.Proofs.YtcepgedbmffkdaaGreat
