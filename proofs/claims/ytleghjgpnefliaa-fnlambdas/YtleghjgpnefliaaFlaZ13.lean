/-
  What the model's 'l2Copy' comes to, once more: its three parts lie one behind the other, and its rows can be appended to. (Written by mklm3.py.)
-/
import Derived.Test.YtleghjgpnefliaaFlaZ12
import Derived.Test.YtleghjgpnefliaaFlaZ8
import Derived.Test.YtleghjgpnefliaaFlaZ1
import Derived.Deep.QuietTactic
import Derived.BigQuiet
import Derived.Deep.RegionWith
namespace Go.Proofs.Ytleghjgpnefliaa
open Go.RowKit
set_option linter.unusedVariables false
set_option linter.unusedSimpArgs false
set_option maxRecDepth 100000 in
set_option maxHeartbeats 2000000 in
theorem l2CopyTys_ap (D L B:Nat) (ao:Option Addr) (len cap:Nat) (ts:List Tr) (w:World) (hB:B≤w.heap.size) (hs0:Hs L B w D ao len ts) (hcnt:cntS ts≤1048576) :
    Calls Try.prog 64 #[.slice ao len cap] w fun e w'=>∃ ao2 cap2,e=.returned (.slice ao2 len cap2)∧Below w.heap.size w w'∧OwR w.heap.size w'.heap.size w' (D+1) ao2 len ts∧ApRel w.heap.size w' D (.slice ao2 len cap2) len ts:=by
  have hs:Hs L B w (D+1) ao len ts:=hs0.deeper (by omega)
  have hl:len≤1048576:=by have:=hs.1;have:=cntS_eq ts;omega
  have HL:Hid (len=ts.length):=hs.1
  obtain ⟨W,hW⟩:∃ W,W=w.alloc (.cells #[] 26):=⟨_,rfl⟩
  have hWb:Below w.heap.size w W:=by rw [hW];exact (Below.refl _ _).alloc (Nat.le_refl _) _
  have hW0:W.heap[w.heap.size]?=some (.cells #[] 26 (0,0)):=by rw [hW];exact heap_new rfl
  have HW:Hid (W=_):=hW
  clear hW hs0
  go_enter Try.func64,Try.ntmps64
  go_wp2_with fail
  rw [← HW.out]
  go_loopw [3,4] (fun v i wr=>∃ (j:Nat) (aj:Option Addr) (cj:Nat),j≤len∧i=.int .i64 j∧v=.slice aj j cj∧ApRel w.heap.size wr D (.slice aj j cj) j ts∧Below w.heap.size w wr) (fun _ i _=>len - (intOf i).toNat)
  case atStart=>exact ⟨0,_,_,by omega,rfl,rfl,ap_emp ts hW0 (Nat.le_refl _),hWb⟩
  case round =>
    obtain ⟨j,aj,cj,hj,rfl,rfl,hap,hbr⟩:=hrel
    have hszr:=hbr.size
    by_cases hlt:j < len
    · have hlt':j < ts.length:=by have:=HL.out;omega
      obtain ⟨b,o,rfl,_,hbB,ao1,len1,cap1,c0,c1,c2,hs1⟩:=hs.2.2 j hlt'
      have e0:=(bcell hbr (by omega) _).trans c0
      have e1:=(bcell hbr (by omega) _).trans c1
      have e2:=(bcell hbr (by omega) _).trans c2
      have hs2:=hs1.below hbr hB
      have hc1:=cntS_get ts j hlt'
      have APR:Hid (∀ (w1:World) (ao3:Option Addr) (len3 cap3:Nat),Below wr.heap.size wr w1→OwR wr.heap.size w1.heap.size w1 D ao3 len3 ts[j].A→∃ g cap w2,(Builtin.append_ #[24,24] 24 #[.slice aj j cj,.slice (some ⟨w1.heap.size,0,none⟩) 1 1]).run Try.prog (w1.alloc (.cells #[.int .i64 ts[j].K,.int .i64 ts[j].N,.slice ao3 len3 cap3] 26))=.ok (.slice (some ⟨g,0,none⟩) (j+1) cap) w2∧ApRel w.heap.size w2 D (.slice (some ⟨g,0,none⟩) (j+1) cap) (j+1) ts∧Below w.heap.size w w2):=by
        intro w1 ao3 len3 cap3 hb1 ho1
        obtain ⟨g,cp,w2,hrun,hap2,hbe2⟩:=ap_run hap hlt' (by have:=HL.out;omega) hb1 (by omega) ho1
        exact ⟨g,cp,w2,hrun,hap2,hbr.trans hbe2⟩
      clear c0 c1 c2 hs1
      go_wp2_with fail
      refine (lc_any D L B _ _ _ _ _ ts[j].A wr (by omega) hs2 (by omega)).mono ?_
      rintro e w1 ⟨ao3,len3,cap3,rfl,hb1,ho1⟩
      obtain ⟨g,cp,w2,hrun,hap2,hbr2⟩:=APR.out w1 ao3 len3 cap3 hb1 ho1
      clear e0 e1 e2
      go_wp2_with (at_builtin;refine list_run hrun (by rfl) _ _ (by rfl) (by rfl) (by rfl) (by rfl) ?_)
      clear hrun
      go_roundw
      case rel=>exact ⟨j+1,_,_,by omega,by go_num,rfl,hap2,hbr2⟩
      case measure=>simp [intOf];omega
    · have hjl:j=len:=by omega
      have HJ:Hid (j=len):=hjl
      clear hjl
      go_wp2_with fail
      go_ret
      have hjl:=HJ.out
      subst hjl
      have hapP:=hap
      obtain ⟨a',c',ev,ho⟩:=ap_done hap HL.out (by omega)
      injection ev with ev1 _ ev3
      subst ev1
      subst ev3
      exact ⟨_,_,rfl,hbr,ho,hapP⟩
def SaidLm3 (D d:Nat):Prop:=∀ (L B:Nat) (t:Tm) (a1:Option Addr) (l1 c1:Nat) (a2:Option Addr) (l2 c2:Nat) (a3:Option Addr) (l3 c3:Nat) (w:World),B≤w.heap.size→Fm L B w D d t a1 l1 a2 l2 a3 l3→cntM t≤1048576 →
    Calls Try.prog 40 #[.agg #[.int .i64 t.K,.int .i64 t.N,.string t.S,.string t.Z,.int .i64 t.T.K,.int .i64 t.T.N,.slice a1 l1 c1,.slice a2 l2 c2,.slice a3 l3 c3]] w fun e w'=>∃ b1 m1 e1 b2 e2 b3 e3,e=.returned (.agg #[.int .i64 t.K,.int .i64 t.N,.string t.S,.string t.Z,.int .i64 t.T.K,.int .i64 t.T.N,.slice b1 m1 e1,.slice b2 l2 e2,.slice b3 l3 e3])∧Below w.heap.size w w'∧FmO w.heap.size w'.heap.size w' (D+1) d t b1 m1 b2 l2 b3 l3∧∃ (W2:World) (M1:Nat),w.heap.size≤M1∧M1≤W2.heap.size∧W2.heap.size≤w'.heap.size∧OwR w.heap.size M1 w' (D+1) b1 m1 t.T.A∧ApRel M1 W2 D (.slice b2 l2 e2) l2 t.Ts∧(∀ k,M1≤k→k < W2.heap.size→w'.heap[k]?=W2.heap[k]?)∧ApRelM W2.heap.size w' (D+1) (d - 1) (.slice b3 l3 e3) l3 t.A
set_option maxRecDepth 100000 in
set_option maxHeartbeats 4000000 in
theorem lm3_any (D d:Nat):SaidLm3 D d:=by
  have IH:∀ e,e < d→SaidLm D e:=fun e _=>lm_any D e
  intro L B t a1 l1 c1 a2 l2 c2 a3 l3 c3 w hB hf hc
  obtain ⟨hl3,hl3m⟩:=hf.m.len
  have HL:Hid (l3=t.A.length):=hl3
  have hce:=cntM_eq t
  unfold ownM at hce
  have hcT:cntS t.T.A≤1048576:=by omega
  have hcS:cntS t.Ts≤1048576:=by omega
  have hc3:l3≤1048576:=by have:=cntMS_eq t.A;omega
  have HCA:Hid (cntMS t.A≤1048576):=by show _≤_;omega
  obtain ⟨X,hX⟩:∃ X,X=(((w.alloc (.cells #[.int .i64 t.K,.int .i64 t.N,.string t.S,.string t.Z,.int .i64 t.T.K,.int .i64 t.T.N,.slice a1 l1 c1,.slice a2 l2 c2,.slice a3 l3 c3] 29)).alloc (.cells #[.int .i64 0,.int .i64 0,.string ⟨#[]⟩,.string ⟨#[]⟩,.int .i64 0,.int .i64 0,.slice none 0 0,.slice none 0 0,.slice none 0 0] 29)).alloc (.cells #[.int .i64 t.K,.int .i64 t.N,.string t.S,.string t.Z,.int .i64 t.T.K,.int .i64 t.T.N,.slice a1 l1 c1,.slice a2 l2 c2,.slice a3 l3 c3] 29)):=⟨_,rfl⟩
  have hXs:X.heap.size=w.heap.size+3:=by rw [hX];simp
  have hXb:Below w.heap.size w X:=by rw [hX];exact (((Below.refl _ _).alloc (Nat.le_refl _) _).alloc (by simp) _).alloc (by simp;omega) _
  have hX0:X.heap[w.heap.size]?=some (.cells #[.int .i64 t.K,.int .i64 t.N,.string t.S,.string t.Z,.int .i64 t.T.K,.int .i64 t.T.N,.slice a1 l1 c1,.slice a2 l2 c2,.slice a3 l3 c3] 29 (0,0)):=by
    rw [hX,Below.heap_alloc _ _ _ (by simp;omega),Below.heap_alloc _ _ _ (by simp)];exact heap_new rfl
  have hX1:X.heap[w.heap.size+1]?=some (.cells #[.int .i64 0,.int .i64 0,.string ⟨#[]⟩,.string ⟨#[]⟩,.int .i64 0,.int .i64 0,.slice none 0 0,.slice none 0 0,.slice none 0 0] 29 (0,0)):=by
    rw [hX,Below.heap_alloc _ _ _ (by simp)];exact heap_new (by simp)
  have hX2:X.heap[w.heap.size+1+1]?=some (.cells #[.int .i64 t.K,.int .i64 t.N,.string t.S,.string t.Z,.int .i64 t.T.K,.int .i64 t.T.N,.slice a1 l1 c1,.slice a2 l2 c2,.slice a3 l3 c3] 29 (0,0)):=by rw [hX];exact heap_new (by simp)
  have hfX:=Fm.below hXb hB hf
  have HX:Hid (X=_):=hX
  clear hX hce hl3
  go_enter Try.func40,Try.ntmps40
  go_wp2_with fail
  rw [← HX.out]
  refine (lc_any D L B _ _ _ _ _ t.T.A X (by omega) hfX.t1 hcT).mono ?_
  rintro e w1 ⟨b1,m1,e1,rfl,hb1,ho1⟩
  have hz1:=hb1.size
  have hbw1:Below w.heap.size w w1:=hXb.trans (hb1.mono (by omega))
  have y0:=(hb1.block w.heap.size (by omega)).trans hX0
  have y1:=(hb1.block (w.heap.size+1) (by omega)).trans hX1
  have y2:=(hb1.block (w.heap.size+1+1) (by omega)).trans hX2
  obtain ⟨f0,f1,f2,f3,f4,f5,f6,f7,f8⟩:=Nine.box y0
  obtain ⟨_,_,_,_,q4,q5,q6,q7,q8⟩:=Nine.box y2
  have r2:=row_free y2
  go_wp2_with fail
  have hXc:Below w.heap.size w (set3 w1 (w.heap.size+1+1) 4 (.int .i64 t.T.K) (.int .i64 t.T.N) (.slice b1 m1 e1)):=set3_below hbw1 (by omega)
  have hf2:=Fm.below hXc hB hf
  have hzc:(set3 w1 (w.heap.size+1+1) 4 (.int .i64 t.T.K) (.int .i64 t.T.N) (.slice b1 m1 e1)).heap.size=w1.heap.size:=set3_size _ _ _ _ _ _
  refine (l2CopyTys_ap D L B _ _ _ t.Ts (set3 w1 (w.heap.size+1+1) 4 (.int .i64 t.T.K) (.int .i64 t.T.N) (.slice b1 m1 e1)) (by omega) hf2.t2 hcS).mono ?_
  rintro e w2 ⟨b2,e2,rfl,hb2,ho2,hox2⟩
  have HOX:Hid (ApRel w1.heap.size w2 D (.slice b2 l2 e2) l2 t.Ts):=by
    rw [hzc] at hox2
    exact hox2
  clear hox2
  have hz2:=hb2.size
  have hbw2:Below w.heap.size w w2:=hXc.trans (hb2.mono (by omega))
  have z0:=(hb2.block w.heap.size (by omega)).trans ((set3_other _ (by omega)).trans y0)
  have z1:=(hb2.block (w.heap.size+1) (by omega)).trans ((set3_other _ (by omega)).trans y1)
  have z2:w2.heap[w.heap.size+1+1]?=some (.cells #[.int .i64 t.K,.int .i64 t.N,.string t.S,.string t.Z,.int .i64 t.T.K,.int .i64 t.T.N,.slice b1 m1 e1,.slice a2 l2 c2,.slice a3 l3 c3] 29 (0,0)):=(hb2.block (w.heap.size+1+1) (by omega)).trans (set3_row y2)
  have o1:OwR (w.heap.size+3) w1.heap.size w2 (D+1) b1 m1 t.T.A:=ho1.one (by omega) (fun j hj1 hj2=>(hb2.block j (by omega)).trans (set3_other j (by omega))) (by omega) (Nat.le_refl _)
  have o2:OwR w1.heap.size w2.heap.size w2 (D+1) b2 l2 t.Ts:=ho2.keep (fun j hj1 hj2=>rfl) (by omega) (by omega)
  clear f0 f1 f2 f3 f4 f5 f6 f7 f8 q4 q5 q6 q7 q8 r2 y0 y1 y2 ho1 ho2 hX0 hX1 hX2 hfX hf2
  obtain ⟨f0,f1,f2,f3,f4,f5,f6,f7,f8⟩:=Nine.box z0
  obtain ⟨_,_,_,_,q4,q5,q6,q7,q8⟩:=Nine.box z2
  have r2:=row_free z2
  obtain ⟨h,hh⟩:∃ h,h=w.heap.size+1+1:=⟨_,rfl⟩
  have hz3:h+1≤w2.heap.size:=by omega
  have hlt2:h < w2.heap.size:=by omega
  obtain ⟨W,hW⟩:∃ W,W=((w2.setCell ⟨h,7,none⟩ (.slice b2 l2 e2)).setCell ⟨h,8,none⟩ (.slice (some ⟨w2.heap.size,0,none⟩) 0 0)).alloc (.cells #[] 29):=⟨_,rfl⟩
  rw [← hh] at z2 q4 q5 q6 q7 q8 r2
  have hWs:W.heap.size=w2.heap.size+1:=by rw [hW];simp
  have hWo:∀ k,k < w2.heap.size→k≠h→W.heap[k]?=w2.heap[k]?:=fun k hk hkh=>by
    rw [hW,Below.heap_alloc _ _ _ (by simpa using hk),row_other _ _ _ hkh,row_other _ _ _ hkh]
  have hWh:W.heap[h]?=some (.cells #[.int .i64 t.K,.int .i64 t.N,.string t.S,.string t.Z,.int .i64 t.T.K,.int .i64 t.T.N,.slice b1 m1 e1,.slice b2 l2 e2,.slice (some ⟨w2.heap.size,0,none⟩) 0 0] 29 (0,0)):=by
    rw [hW]
    rw [Below.heap_alloc _ _ _ (by simp;omega),row_set (row_set z2 7 _)]
    rfl
  have hWn:W.heap[w2.heap.size]?=some (.cells #[] 29 (0,0)):=by
    rw [hW];exact heap_new (by simp)
  have hWB:Below h w2 W:=by
    rw [hW]
    exact (((Below.refl _ _).setCell (p:=⟨h,7,none⟩) (Nat.le_refl _) _).setCell (p:=⟨h,8,none⟩) (Nat.le_refl _) _).alloc (by simp;omega) _
  have HW:Hid (W=_):=hW
  have HH:Hid (h=w.heap.size+1+1):=hh
  have hwh:w.heap.size+2≤h:=by omega
  have hwh2:w.heap.size < h:=by omega
  have HO:Hid (OwR (w.heap.size+3) w1.heap.size w2 (D+1) b1 m1 t.T.A∧OwR w1.heap.size w2.heap.size w2 (D+1) b2 l2 t.Ts∧w.heap.size+3≤w1.heap.size∧w1.heap.size≤w2.heap.size):=⟨o1,o2,by omega,by omega⟩
  have HWO:Hid (∀ k,k < w2.heap.size→k≠h→W.heap[k]?=w2.heap[k]?):=hWo
  have hxw0:W.heap[w.heap.size]?=_:=(hWo w.heap.size (by omega) (by omega)).trans z0
  have hxw1:W.heap[w.heap.size+1]?=_:=(hWo (w.heap.size+1) (by omega) (by omega)).trans z1
  have hbwW:Below w.heap.size w W:=hbw2.trans (hWB.mono (by omega))
  have hAp:ApRelM w2.heap.size W (D+1) (d - 1) (.slice (some ⟨w2.heap.size,0,none⟩) 0 0) 0 t.A:=apm_emp t.A hWn (Nat.le_refl _)
  have HZ:Hid (W.heap.size=w2.heap.size+1):=hWs
  rw [← hh]
  clear hW hh z0 z1 z2 o1 o2 hWo hXc hzc hWs
  go_wp2_with fail
  rw [← HW.out]
  clear f0 f1 f2 f3 f4 f5 f6 f7 f8 q4 q5 q6 q7 q8 r2
  go_loopw [4] (fun i wr=>∃ (j:Nat) (aj:Option Addr) (cj:Nat),j≤l3∧i=.int .i64 j∧wr.heap[h]?=some (.cells #[.int .i64 t.K,.int .i64 t.N,.string t.S,.string t.Z,.int .i64 t.T.K,.int .i64 t.T.N,.slice b1 m1 e1,.slice b2 l2 e2,.slice aj j cj] 29 (0,0))∧ApRelM w2.heap.size wr (D+1) (d - 1) (.slice aj j cj) j t.A∧W.heap.size≤wr.heap.size∧(∀ k,k < w2.heap.size→k≠h→wr.heap[k]?=W.heap[k]?)∧Below w.heap.size w wr) (fun i _=>l3 - (intOf i).toNat)
  case atStart=>exact ⟨0,_,_,by omega,rfl,hWh,hAp,Nat.le_refl _,fun _ _ _=>rfl,hbwW⟩
  case round =>
    obtain ⟨j,aj,cj,hj,rfl,hrow,hap,hzr,hold,hbw⟩:=hrel
    have hhr:=(Array.getElem?_eq_some_iff.1 hrow).1
    have hzW:=HZ.out
    have hb0:=(hold w.heap.size (by omega) (by omega)).trans hxw0
    obtain ⟨f0,f1,f2,f3,f4,f5,f6,f7,f8⟩:=Nine.box hb0
    by_cases hlt:j < l3
    · have hlt':j < t.A.length:=by have:=HL.out;omega
      obtain ⟨b,o,rfl,_,hbB,q1,n1,k1,q2,n2,k2,q3,n3,k3,h9,hf1⟩:=hf.m.get j hlt'
      obtain ⟨e0,e1',e2',e3,e4,e5,e6,e7,e8⟩:=h9.below hbw (by omega)
      have hfP:Fm L B wr.drew D (d - 1) t.A[j] q1 n1 q2 n2 q3 n3:=Fm.drew (Fm.below hbw hB hf1)
      have hcj:cntM t.A[j]≤1048576:=by have:=cntMS_get t.A j hlt';have:=HCA.out;omega
      have hapP:ApRelM w2.heap.size wr.drew (D+1) (d - 1) (.slice aj j cj) j t.A:=apm_below hap (Below.refl _ _).drew
      have APR:Hid (∀ (w3:World) (r1:Option Addr) (s1 u1:Nat) (r2:Option Addr) (s2 u2:Nat) (r3:Option Addr) (s3 u3:Nat),Below wr.drew.heap.size wr.drew w3→FmO wr.drew.heap.size w3.heap.size w3 (D+1) (d - 1) t.A[j] r1 s1 r2 s2 r3 s3 →
          ∃ g cp w4,(Builtin.append_ #[27,27] 27 #[.slice aj j cj,.slice (some ⟨w3.heap.size,0,none⟩) 1 1]).run Try.prog (w3.alloc (.cells #[.int .i64 t.A[j].K,.int .i64 t.A[j].N,.string t.A[j].S,.string t.A[j].Z,.int .i64 t.A[j].T.K,.int .i64 t.A[j].T.N,.slice r1 s1 u1,.slice r2 s2 u2,.slice r3 s3 u3] 29))=.ok (.slice (some ⟨g,0,none⟩) (j+1) cp) w4 ∧
            w4.cell? ⟨h,8,none⟩=some (.slice aj j cj)∧w4.frozen? ⟨h,8,none⟩=false ∧
            (w4.setCell ⟨h,8,none⟩ (.slice (some ⟨g,0,none⟩) (j+1) cp)).heap[h]?=some (.cells #[.int .i64 t.K,.int .i64 t.N,.string t.S,.string t.Z,.int .i64 t.T.K,.int .i64 t.T.N,.slice b1 m1 e1,.slice b2 l2 e2,.slice (some ⟨g,0,none⟩) (j+1) cp] 29 (0,0)) ∧
            ApRelM w2.heap.size (w4.setCell ⟨h,8,none⟩ (.slice (some ⟨g,0,none⟩) (j+1) cp)) (D+1) (d - 1) (.slice (some ⟨g,0,none⟩) (j+1) cp) (j+1) t.A∧W.heap.size≤(w4.setCell ⟨h,8,none⟩ (.slice (some ⟨g,0,none⟩) (j+1) cp)).heap.size ∧
            (∀ k,k < w2.heap.size→k≠h→(w4.setCell ⟨h,8,none⟩ (.slice (some ⟨g,0,none⟩) (j+1) cp)).heap[k]?=W.heap[k]?)∧Below w.heap.size w (w4.setCell ⟨h,8,none⟩ (.slice (some ⟨g,0,none⟩) (j+1) cp))):=by
        intro w3 r1 s1 u1 r2 s2 u2 r3 s3 u3 hb3 ho3
        obtain ⟨g,cp,w4,hrun,hap4,hbe4⟩:=apm_run (c1:=u1) (c2:=u2) (c3:=u3) hapP hlt' (by omega) hb3 (show w2.heap.size≤wr.heap.size by omega) ho3
        have hq:w4.heap[h]?=_:=(hbe4.block h (by omega)).trans hrow
        have hz4:wr.heap.size≤w4.heap.size:=hbe4.size
        refine ⟨g,cp,w4,hrun,row_cell hq 8,row_free hq 8,?_,apm_set hap4 (by omega) _,by rw [World.size_setCell];omega,fun k hk hkh=>?_,(hbw.drew.trans (hbe4.mono (by omega))).setCell (p:=⟨h,8,none⟩) (show w.heap.size≤h by omega) _⟩
        · rw [row_set hq]
          rfl
        · rw [row_other _ _ _ hkh]
          exact (hbe4.block k hk).trans (hold k hk hkh)
      have y8:wr.cell? ⟨h,8,none⟩=some (.slice aj j cj):=row_cell hrow 8
      have hBP:B≤wr.heap.size:=by omega
      have IHj:=IH (d - 1) (pos_d hf.m hlt') L B t.A[j]
      clear h9 hf1 hapP hap hrow IH hold hb0
      go_wp2_with fail
      go_region_law (first | (refine step_run hrun (by rfl) _ _ (by rfl) (by rfl) (by rfl) (by rfl) ?_) | (go_simp;go_at_call 40;refine (IHj _ _ _ _ _ _ _ _ _ wr.drew hBP hfP hcj).mono ?_;rintro e w3 ⟨r1,s1,u1,r2,u2,r3,u3,rfl,hb3,ho3⟩;have hz3':h < w3.heap.size:=Nat.lt_of_lt_of_le hhr hb3.size;have v8:=(bcell hb3 hhr 8).trans y8;have v9:(w3.alloc (.cells #[.int .i64 t.A[j].K,.int .i64 t.A[j].N,.string t.A[j].S,.string t.A[j].Z,.int .i64 t.A[j].T.K,.int .i64 t.A[j].T.N,.slice r1 s1 u1,.slice r2 n2 u2,.slice r3 n3 u3] 29)).cell? ⟨h,8,none⟩=some (.slice aj j cj):=(World.cell?_of_block (Below.heap_alloc _ _ _ hz3')).trans v8;obtain ⟨g,cp,w4,hrun,hc8,hf8,hrow4,hap4,hzW4,hold4,hbw4⟩:=APR.out w3 r1 s1 u1 r2 n2 u2 r3 n3 u3 hb3 ho3))
      all_goals
        clear f0 f1 f2 f3 f4 f5 f6 f7 f8 e0 e1' e2' e3 e4 e5 e6 e7 e8 y8 v8 v9 hrun hc8 hf8 hzW
        go_wp2_with fail
        go_roundw
        case rel=>exact ⟨j+1,_,_,by omega,by go_num,hrow4,hap4,hzW4,hold4,hbw4⟩
        case measure=>simp [intOf];omega
    · have HJ:Hid (j=l3):=by show _=_;omega
      have xr:=(hold (w.heap.size+1) (by omega) (by omega)).trans hxw1
      obtain ⟨p0,p1,p2,p3,p4,p5,p6,p7,p8⟩:=Nine.box xr
      have pf:=row_free xr
      obtain ⟨q0,q1,q2,q3,q4,q5,q6,q7,q8⟩:=Nine.box hrow
      clear hzW
      go_wp2_with fail
      obtain ⟨Y,hYe⟩:∃ Y,Y=set9 wr (w.heap.size+1) 0 (.int .i64 t.K) (.int .i64 t.N) (.string t.S) (.string t.Z) (.int .i64 t.T.K) (.int .i64 t.T.N) (.slice b1 m1 e1) (.slice b2 l2 e2) (.slice aj j cj):=⟨_,rfl⟩
      have hYb:Below w.heap.size w Y:=by rw [hYe];exact set9_below hbw (by omega)
      have hYs:Y.heap.size=wr.heap.size:=by rw [hYe];exact set9_size _ _ _ _ _ _ _ _ _ _ _ _
      have hYo:∀ k,k≠w.heap.size+1→Y.heap[k]?=wr.heap[k]?:=fun k hk=>by rw [hYe];exact set9_other k hk
      refine bodyPost_ret (v:=.agg #[.int .i64 t.K,.int .i64 t.N,.string t.S,.string t.Z,.int .i64 t.T.K,.int .i64 t.T.N,.slice b1 m1 e1,.slice b2 l2 e2,.slice aj j cj]) (by simp [results,Try.results40,go_sem,p0,p1,p2,p3,p4,p5,p6,p7,p8]) rfl ?_
      have hfin:∃ b1' m1' e1' b2' e2' b3' e3',Ending.returned (.agg #[.int .i64 t.K,.int .i64 t.N,.string t.S,.string t.Z,.int .i64 t.T.K,.int .i64 t.T.N,.slice b1 m1 e1,.slice b2 l2 e2,.slice aj j cj])=.returned (.agg #[.int .i64 t.K,.int .i64 t.N,.string t.S,.string t.Z,.int .i64 t.T.K,.int .i64 t.T.N,.slice b1' m1' e1',.slice b2' l2 e2',.slice b3' l3 e3'])∧Below w.heap.size w Y∧FmO w.heap.size Y.heap.size Y (D+1) d t b1' m1' b2' l2 b3' l3∧∃ (W2:World) (M1:Nat),w.heap.size≤M1∧M1≤W2.heap.size∧W2.heap.size≤Y.heap.size∧OwR w.heap.size M1 Y (D+1) b1' m1' t.T.A∧ApRel M1 W2 D (.slice b2' l2 e2') l2 t.Ts∧(∀ k,M1≤k→k < W2.heap.size→Y.heap[k]?=W2.heap[k]?)∧ApRelM W2.heap.size Y (D+1) (d - 1) (.slice b3' l3 e3') l3 t.A:=by
        have hjl:=HJ.out
        subst hjl
        obtain ⟨o1,o2,oM1,oM2⟩:=HO.out
        have hh:=HH.out
        have hzW:=HZ.out
        have hapM:=hap
        obtain ⟨a',c',ev,hoA⟩:=apm_whole hap hf.m
        injection ev with ev1 _ ev3
        subst ev1
        subst ev3
        have hchain:∀ k,k < w2.heap.size→w.heap.size+3≤k→Y.heap[k]?=w2.heap[k]?:=fun k hk1 hk2=>(hYo k (by omega)).trans ((hold k hk1 (by omega)).trans (HWO.out k hk1 (by omega)))
        refine ⟨b1,m1,e1,b2,e2,aj,cj,rfl,hYb,FmO.mk (L:=w.heap.size) (M1:=w1.heap.size) (M2:=w2.heap.size) hf.s hf.z ?_ ?_ ?_ (by omega) (by omega) (by omega),w2,w1.heap.size,by omega,by omega,by omega,o1.keep (fun k hk1 hk2=>hchain k (by omega) hk1) (by omega) (Nat.le_refl _),HOX.out,fun k hk1 hk2=>hchain k hk2 (by omega),apm_keep hapM (fun b hb _=>hYo b (by omega)) (by omega)⟩
        · exact o1.keep (fun k hk1 hk2=>hchain k (by omega) hk1) (by omega) (Nat.le_refl _)
        · exact o2.keep (fun k hk1 hk2=>hchain k hk2 (by omega)) (Nat.le_refl _) (Nat.le_refl _)
        · exact hoA.keep (fun k hk1 hk2=>hYo k (by omega)) (Nat.le_refl _) (by omega)
      rw [hYe] at hfin
      exact hfin
end Go.Proofs.Ytleghjgpnefliaa

/-
  A region that draws its order, walked in one way where its calls make new memory alone.
-/
namespace Go.Proofs.Ytleghjgpnefliaa
open Go.RowKit
set_option linter.unusedVariables false
set_option linter.unusedSimpArgs false
theorem wp_region_below {P:Program} {id:Nat} {Q:Exit→Act→World→Prop} {a:Act} {X:World} {l:List Oper} (hm:P.follows .mixedOrders=true) (hB:Region.lexB .any l.toArray=true)
    (h:wpQuiet P l.toArray (fun w'=>Below X.heap.size X w') (fun a'=>∀ w',Below X.heap.size X w'→Q .normal a' w') l a):(Code.region id l.toArray true).wp P Q a X :=
  wp_region_quiet (C:=fun w'=>Below X.heap.size X w') hm hB ((Below.refl _ _).drew) (by simpa using h)
end Go.Proofs.Ytleghjgpnefliaa

/-
  What 'sameTyNode' comes to, and the two plain ways to hold one type against another: the model's 'SameTy' and the program's 'sameRightTy'.
-/
namespace Go.Proofs.Ytleghjgpnefliaa
open Go.RowKit
set_option linter.unusedVariables false
set_option linter.unusedSimpArgs false
def likeB (l l':List Tr) (j:Nat):Prop:=l.take j=l'.take j
theorem like_all {l l':List Tr} {j:Nat} (h:likeB l l' j) (h1:l.length≤j) (h2:l'.length≤j):l=l':=by
  unfold likeB at h;rwa [List.take_of_length_le h1,List.take_of_length_le h2] at h
theorem like_next {l l':List Tr} {j:Nat} (h:likeB l l' j) (h1:j < l.length) (h2:j < l'.length) (he:l[j]=l'[j]):likeB l l' (j+1):=by
  unfold likeB at *
  rw [List.take_succ_eq_append_getElem h1,List.take_succ_eq_append_getElem h2,h,he]
theorem unlike_at {l l':List Tr} {j:Nat} (h1:j < l.length) (h2:j < l'.length) (he:¬ l[j]=l'[j]):¬ l=l':=by
  intro h;subst h;exact he rfl
end Go.Proofs.Ytleghjgpnefliaa

/-
  What 'sameTyNode' comes to, and the two plain ways to hold one type against another: the model's 'SameTy' and the program's 'sameRightTy'.
-/
namespace Go.Proofs.Ytleghjgpnefliaa
open Go.RowKit
set_option linter.unusedVariables false
set_option linter.unusedSimpArgs false
def SaidSs (d:Nat):Prop:=∀ (L B L' B':Nat) (k n:Int) (ao:Option Addr) (len cap:Nat) (ts:List Tr) (k' n':Int) (ao':Option Addr) (len' cap':Nat) (ts':List Tr) (b:Bool) (w:World),B≤w.heap.size→B'≤w.heap.size→Hs L B w d ao len ts→Hs L' B' w d ao' len' ts' →
    (b=true ↔ (⟨k,n,ts⟩:Tr)=⟨k',n',ts'⟩) →
    Calls Try.prog 62 #[.agg #[.int .i64 k,.int .i64 n,.slice ao len cap],.agg #[.int .i64 k',.int .i64 n',.slice ao' len' cap']] w fun e w'=>e=.returned (.bool b)∧Below w.heap.size w w'
set_option maxRecDepth 100000 in
set_option maxHeartbeats 4000000 in
theorem ss_step (d:Nat) (IH:0 < d→SaidSs (d - 1)):SaidSs d:=by
  intro L B L' B' k n ao len cap ts k' n' ao' len' cap' ts' b w hB hB' hs hs' hb
  have hl:=hs.len.2
  have hl':=hs'.len.2
  have HL:Hid (len=ts.length):=hs.len.1
  have HL':Hid (len'=ts'.length):=hs'.len.1
  have HB:Hid (b=true ↔ (⟨k,n,ts⟩:Tr)=⟨k',n',ts'⟩):=hb
  clear hb
  obtain ⟨X,hX⟩:∃ X,X=((w.alloc (.cells #[.int .i64 k,.int .i64 n,.slice ao len cap] 26)).alloc (.cells #[.int .i64 k',.int .i64 n',.slice ao' len' cap'] 26)):=⟨_,rfl⟩
  have hbel:Below w.heap.size w X:=by rw [hX];exact ((Below.refl _ _).alloc (Nat.le_refl _) _).alloc (by simp) _
  have hXs:X.heap.size=w.heap.size+2:=by rw [hX];simp
  have hX0:X.heap[w.heap.size]?=some (.cells #[.int .i64 k,.int .i64 n,.slice ao len cap] 26 (0,0)):=by rw [hX,Below.heap_alloc _ _ _ (by simp)];exact heap_new rfl
  have hX1:X.heap[w.heap.size+1]?=some (.cells #[.int .i64 k',.int .i64 n',.slice ao' len' cap'] 26 (0,0)):=by rw [hX];exact heap_new (by simp)
  have HX:Hid (X=_):=hX
  clear hX
  by_cases h1:k=k'
  case' neg =>
    have h1b:(k != k')=true:=by simp [h1]
    have HF:Hid (b=false):=by show _=_;rw [Bool.eq_false_iff];intro h;exact h1 (congrArg Tr.K (HB.out.1 h))
    clear h1
    go_enter Try.func62,Try.ntmps62
    go_wp2_with fail
    go_ret
    rw [← HX.out]
    exact ⟨ret_bool HF.out.symm,hbel⟩
  have h1b:(k != k')=false:=by simp [h1]
  by_cases h2:n=n'
  case' neg =>
    have h2b:(n != n')=true:=by simp [h2]
    have HF:Hid (b=false):=by show _=_;rw [Bool.eq_false_iff];intro h;exact h2 (congrArg Tr.N (HB.out.1 h))
    clear h1 h2
    go_enter Try.func62,Try.ntmps62
    go_wp2_with fail
    go_ret
    rw [← HX.out]
    exact ⟨ret_bool HF.out.symm,hbel⟩
  have h2b:(n != n')=false:=by simp [h2]
  by_cases h3:len=len'
  case' neg =>
    have h3b:((len:Int) != (len':Int))=true:=by rw [bne_iff_ne];omega
    have HF:Hid (b=false):=by show _=_;rw [Bool.eq_false_iff];intro h;exact h3 (by rw [HL.out,HL'.out];exact congrArg (fun t=>t.A.length) (HB.out.1 h))
    clear h1 h2 h3
    go_enter Try.func62,Try.ntmps62
    go_wp2_with fail
    go_ret
    rw [← HX.out]
    exact ⟨ret_bool HF.out.symm,hbel⟩
  have h3b:((len:Int) != (len':Int))=false:=by simp [h3]
  have HY:Hid (ts=ts'→b=true):=fun h=>HB.out.2 (by rw [h1,h2,h])
  have HNo:Hid (¬ ts=ts'→b=false):=fun h=>by rw [Bool.eq_false_iff];intro hb;exact h (congrArg Tr.A (HB.out.1 hb))
  have H3:Hid (len=len'):=h3
  have f2:=row_cell hX0 2
  have g2:=row_cell hX1 2
  simp only [List.getElem?_toArray,List.getElem?_cons_zero,List.getElem?_cons_succ] at f2 g2
  have htl:w.heap.size < X.heap.size:=by omega
  have htl':w.heap.size+1 < X.heap.size:=by omega
  clear h1 h2 h3
  go_enter Try.func62,Try.ntmps62
  go_wp2_with fail
  rw [← HX.out]
  have HXs:Hid (_=_):=hXs
  clear hXs hX0 hX1
  go_loopw [5] (fun i wr=>∃ j:Nat,j≤len∧i=.int .i64 j∧Hid (likeB ts ts' j)∧Below X.heap.size X wr) (fun i _=>len - (intOf i).toNat)
  case atStart=>exact ⟨0,by omega,rfl,rfl,Below.refl _ _⟩
  case round =>
    obtain ⟨j,hj,rfl,HA,hbr⟩:=hrel
    have hszr:=hbr.size
    have p2:=(bcell hbr htl 2).trans f2
    have q2:=(bcell hbr htl' 2).trans g2
    have hbw:Below w.heap.size w wr:=hbel.trans (hbr.mono (by omega))
    have htr:w.heap.size < wr.heap.size:=by omega
    have htr':w.heap.size+1 < wr.heap.size:=by omega
    by_cases hlt:j < len
    · have hlt1:j < ts.length:=by have:=HL.out;omega
      have hlt2:j < ts'.length:=by have:=HL'.out;have:=H3.out;omega
      have hlt':j < len':=by have:=H3.out;omega
      obtain ⟨x,o,rfl,_,hxB,ao1,len1,cap1,c0,c1,c2,hs1⟩:=hs.get j hlt1
      obtain ⟨x',o',rfl,_,hxB',ao2,len2,cap2,c0',c1',c2',hs2⟩:=hs'.get j hlt2
      have e0:=(bcell hbw (by omega) _).trans c0
      have e1:=(bcell hbw (by omega) _).trans c1
      have e2:=(bcell hbw (by omega) _).trans c2
      have e0':=(bcell hbw (by omega) _).trans c0'
      have e1':=(bcell hbw (by omega) _).trans c1'
      have e2':=(bcell hbw (by omega) _).trans c2'
      have hxr:x < wr.heap.size:=by omega
      have hxr':x' < wr.heap.size:=by omega
      have hd:0 < d:=by
        cases d with
        | zero=>obtain ⟨_,rfl⟩:=hs;simp at hlt1
        | succ d=>omega
      have hr1:=hs1.below hbw hB
      have hr2:=hs2.below hbw hB'
      have hBr:B≤wr.heap.size:=by omega
      have hBr':B'≤wr.heap.size:=by omega
      have hj0:(0:Int)≤(j:Int):=by omega
      have hjl:(j:Int) < (len:Int):=by omega
      have hjl':(j:Int) < (len':Int):=by omega
      clear c0 c1 c2 c0' c1' c2'
      by_cases heq:ts[j]=ts'[j]
      · have HE:Hid (ts[j]=ts'[j]):=heq
        have HN:Hid (likeB ts ts' (j+1)):=like_next HA.out hlt1 hlt2 heq
        clear heq
        go_wp2_with fail
        refine wp_region_below (by kernel_rfl) (by kernel_rfl) ?_
        repeat (first
          | go_big_quiet_skip
          | (go_big_quiet_want;unfold Oper.quiet;apply Exists.intro;refine ⟨fun w' hC=>?_,?_⟩;(have y0:=(bcell hC htr 2).trans p2;have y1:=(bcell hC htr' 2).trans q2;have z0:=(bcell hC hxr _).trans e0;have z1:=(bcell hC hxr _).trans e1;have z2:=(bcell hC hxr _).trans e2;have z0':=(bcell hC hxr' _).trans e0';have z1':=(bcell hC hxr' _).trans e1';have z2':=(bcell hC hxr' _).trans e2';unfold Oper.quietAt;go_simp;first | exact rfl | exact ⟨rfl,rfl⟩ | (go_at_call 62;refine (IH hd L B L' B' _ _ _ _ _ ts[j].A _ _ _ _ _ ts'[j].A true _ (Nat.le_trans hBr hC.size) (Nat.le_trans hBr' hC.size) (hr1.below hC hBr) (hr2.below hC hBr') (Iff.intro (fun _=>by rw [tr_eta,tr_eta];exact HE.out) (fun _=>rfl))).mono ?_;rintro e w'' ⟨rfl,hw⟩;exact ⟨rfl,hC.trans (hw.mono hC.size)⟩));go_big_quiet_on;simp only [Act.put,List.setIfInBounds_toArray,List.set_cons_zero,List.set_cons_succ]))
        refine wpQuiet_nil ?_
        intro w2 hb2
        have hbr2:Below X.heap.size X w2:=hbr.trans (hb2.mono hszr)
        go_wp2_with fail
        go_roundw
        case rel=>exact ⟨j+1,by omega,by go_num,HN,hbr2⟩
        case measure=>simp [intOf];omega
      · have HE:Hid (¬ ts[j]=ts'[j]):=heq
        have HN:Hid (b=false):=HNo.out (unlike_at hlt1 hlt2 heq)
        clear heq
        go_wp2_with fail
        refine wp_region_below (by kernel_rfl) (by kernel_rfl) ?_
        repeat (first
          | go_big_quiet_skip
          | (go_big_quiet_want;unfold Oper.quiet;apply Exists.intro;refine ⟨fun w' hC=>?_,?_⟩;(have y0:=(bcell hC htr 2).trans p2;have y1:=(bcell hC htr' 2).trans q2;have z0:=(bcell hC hxr _).trans e0;have z1:=(bcell hC hxr _).trans e1;have z2:=(bcell hC hxr _).trans e2;have z0':=(bcell hC hxr' _).trans e0';have z1':=(bcell hC hxr' _).trans e1';have z2':=(bcell hC hxr' _).trans e2';unfold Oper.quietAt;go_simp;first | exact rfl | exact ⟨rfl,rfl⟩ | (go_at_call 62;refine (IH hd L B L' B' _ _ _ _ _ ts[j].A _ _ _ _ _ ts'[j].A false _ (Nat.le_trans hBr hC.size) (Nat.le_trans hBr' hC.size) (hr1.below hC hBr) (hr2.below hC hBr') (Iff.intro (fun h=>nomatch h) (fun h=>(HE.out (by rw [tr_eta,tr_eta] at h;exact h)).elim))).mono ?_;rintro e w'' ⟨rfl,hw⟩;exact ⟨rfl,hC.trans (hw.mono hC.size)⟩));go_big_quiet_on;simp only [Act.put,List.setIfInBounds_toArray,List.set_cons_zero,List.set_cons_succ]))
        refine wpQuiet_nil ?_
        intro w2 hb2
        go_wp2_with fail
        go_ret
        exact ⟨ret_bool HN.out.symm,hbw.trans (hb2.mono (by omega))⟩
    · have HT:Hid (b=true):=HY.out (like_all HA.out (by have:=HL.out;omega) (by have:=HL'.out;have:=H3.out;omega))
      go_wp2_with fail
      go_ret
      exact ⟨ret_bool HT.out.symm,hbw⟩
theorem ss_any (d:Nat):SaidSs d:=by
  induction d with
  | zero=>exact ss_step 0 (fun h=>by omega)
  | succ d ih=>exact ss_step (d+1) (fun _=>by simpa using ih)
end Go.Proofs.Ytleghjgpnefliaa
