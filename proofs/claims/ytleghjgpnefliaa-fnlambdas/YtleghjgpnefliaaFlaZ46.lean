/-
  'copyHead', 'copyTerm' of the program: the same term in memory of its own.
-/
import Derived.Test.YtleghjgpnefliaaFlaZ12
import Derived.Test.YtleghjgpnefliaaFlaZ45
import Derived.Test.YtleghjgpnefliaaFlaZ8
import Derived.Test.YtleghjgpnefliaaFlaZ3
import Derived.Deep.RegionHeld3
import Derived.Deep.RegionLaw
import Derived.Sort.AtCall
import Derived.LoopN
import Derived.Test.YtleghjgpnefliaaFlaZ44
namespace Go.Proofs.Ytleghjgpnefliaa
open Go.RowKit
set_option linter.unusedVariables false
set_option linter.unusedSimpArgs false
set_option maxRecDepth 100000 in
set_option maxHeartbeats 2000000 in
theorem copyHead_any (D d L B:Nat) (t:Tm) (a1:Option Addr) (l1 c1:Nat) (a2:Option Addr) (l2 c2:Nat) (a3:Option Addr) (l3 c3:Nat) (w:World) (hB:B≤w.heap.size) (hf:Fm L B w D d t a1 l1 a2 l2 a3 l3) (hc:cntM t≤1048576) :
    Calls Try.prog 52 #[.agg #[.int .i64 t.K,.int .i64 t.N,.string t.S,.string t.Z,.int .i64 t.T.K,.int .i64 t.T.N,.slice a1 l1 c1,.slice a2 l2 c2,.slice a3 l3 c3]] w fun e w'=>∃ b1 m1 e1 b2 e2 M,e=.returned (.agg #[.int .i64 t.K,.int .i64 t.N,.string t.S,.string t.Z,.int .i64 t.T.K,.int .i64 t.T.N,.slice b1 m1 e1,.slice b2 l2 e2,.slice none 0 0])∧Below w.heap.size w w'∧w.heap.size≤M∧M≤w'.heap.size∧OwR w.heap.size M w' (D+1) b1 m1 t.T.A∧OwR M w'.heap.size w' (D+1) b2 l2 t.Ts:=by
  have hce:=cntM_eq t
  unfold ownM at hce
  have hcT:cntS t.T.A≤1048576:=by omega
  have hcS:cntS t.Ts≤1048576:=by omega
  have hl2:l2≤1048576:=by have:=hf.t2.len.1;have:=cntS_eq t.Ts;omega
  obtain ⟨X,hX⟩:∃ X,X=((w.alloc (.cells #[.int .i64 t.K,.int .i64 t.N,.string t.S,.string t.Z,.int .i64 t.T.K,.int .i64 t.T.N,.slice a1 l1 c1,.slice a2 l2 c2,.slice a3 l3 c3] 29)).alloc (.cells #[.int .i64 0,.int .i64 0,.string ⟨#[]⟩,.string ⟨#[]⟩,.int .i64 0,.int .i64 0,.slice none 0 0,.slice none 0 0,.slice none 0 0] 29)):=⟨_,rfl⟩
  have hXs:X.heap.size=w.heap.size+2:=by rw [hX];simp
  have hXb:Below w.heap.size w X:=by rw [hX];exact ((Below.refl _ _).alloc (Nat.le_refl _) _).alloc (by simp) _
  have hX0:X.heap[w.heap.size]?=some (.cells #[.int .i64 t.K,.int .i64 t.N,.string t.S,.string t.Z,.int .i64 t.T.K,.int .i64 t.T.N,.slice a1 l1 c1,.slice a2 l2 c2,.slice a3 l3 c3] 29 (0,0)):=by rw [hX,Below.heap_alloc _ _ _ (by simp)];exact heap_new rfl
  have hX1:X.heap[w.heap.size+1]?=some (.cells #[.int .i64 0,.int .i64 0,.string ⟨#[]⟩,.string ⟨#[]⟩,.int .i64 0,.int .i64 0,.slice none 0 0,.slice none 0 0,.slice none 0 0] 29 (0,0)):=by rw [hX];exact heap_new (by simp)
  have hfX:Fm L B X.drew D d t a1 l1 a2 l2 a3 l3:=Fm.drew (Fm.below hXb hB hf)
  have hs1:Hs L B X.drew D a1 l1 t.T.A:=hfX.t1
  have HX:Hid (X=_):=hX
  have H2:Hid (∀ w1,Below X.drew.heap.size X.drew w1→B≤w1.heap.size∧Hs L B w1 (D+1) a2 l2 t.Ts∧MapCall0 w1 L B D D t.Ts t.Ts):=fun w1 hb1=>by
    have hz:X.heap.size≤w1.heap.size:=hb1.size
    refine ⟨by omega,(hfX.t2.below hb1 (show B≤X.heap.size by omega)).deeper (by omega),fun i hi hr ao1 len1 cap1 w' hb' hs'=>?_⟩
    have hq:=cntS_get t.Ts i hi
    exact copyP_any D L B _ _ _ _ _ _ _ (by have:=hb'.size;omega) hs' (by omega)
  have hlt0:w.heap.size < X.heap.size:=by omega
  have hlt1:w.heap.size+1 < X.heap.size:=by omega
  have HXS:Hid (X.heap.size=w.heap.size+2):=hXs
  have HXB:Hid (Below w.heap.size w X):=hXb
  have hBX:B≤X.heap.size:=by omega
  obtain ⟨p0,p1,p2,p3,p4,p5,p6,p7,p8⟩:=Nine.box (w:=X.drew) hX0
  clear hX hce hXs hfX hf hXb
  go_enter Try.func52,Try.ntmps52
  go_wp2_with fail
  rw [← HX.out]
  go_region_held3 (fun w'=>w'.cell? ⟨w.heap.size,0,none⟩=some (.int .i64 t.K)∧w'.cell? ⟨w.heap.size,1,none⟩=some (.int .i64 t.N)∧w'.cell? ⟨w.heap.size,2,none⟩=some (.string t.S)∧w'.cell? ⟨w.heap.size,3,none⟩=some (.string t.Z)∧w'.cell? ⟨w.heap.size,4,none⟩=some (.int .i64 t.T.K)∧w'.cell? ⟨w.heap.size,5,none⟩=some (.int .i64 t.T.N)∧w'.cell? ⟨w.heap.size,6,none⟩=some (.slice a1 l1 c1)∧w'.cell? ⟨w.heap.size,7,none⟩=some (.slice a2 l2 c2))
    (first | (refine ⟨?_,?_,?_,?_,?_,?_,?_,?_⟩;with_reducible exact u0;with_reducible exact u1;with_reducible exact u2;with_reducible exact u3;with_reducible exact u4;with_reducible exact u5;with_reducible exact u6;with_reducible exact u7) | (refine ⟨?_,?_,?_,?_,?_,?_,?_,?_⟩;with_reducible exact z0;with_reducible exact z1;with_reducible exact z2;with_reducible exact z3;with_reducible exact z4;with_reducible exact z5;with_reducible exact z6;with_reducible exact z7) | (refine ⟨?_,?_,?_,?_,?_,?_,?_,?_⟩;with_reducible exact p0;with_reducible exact p1;with_reducible exact p2;with_reducible exact p3;with_reducible exact p4;with_reducible exact p5;with_reducible exact p6;with_reducible exact p7) | (refine ⟨?_,?_,?_,?_,?_,?_,?_,?_⟩ <;> simp [World.cell?_setCell_other,u0,u1,u2,u3,u4,u5,u6,u7]))
    (first
      | (go_at_call 74;refine (mapTys0_any L B D D _ _ _ t.Ts t.Ts w1 hBw hs2 hl2 rfl hmc).mono ?_;rintro e w2 ⟨b2,e2,rfl,hb2,ho2⟩;have hlu:w.heap.size < w1.heap.size:=Nat.lt_of_lt_of_le hlt0 hb1.size;have hlv:w.heap.size+1 < w1.heap.size:=Nat.lt_of_lt_of_le hlt1 hb1.size;have u0:=(bcell hb2 hlu 0).trans z0;have u1:=(bcell hb2 hlu 1).trans z1;have u2:=(bcell hb2 hlu 2).trans z2;have u3:=(bcell hb2 hlu 3).trans z3;have u4:=(bcell hb2 hlu 4).trans z4;have u5:=(bcell hb2 hlu 5).trans z5;have u6:=(bcell hb2 hlu 6).trans z6;have u7:=(bcell hb2 hlu 7).trans z7;have hY:=(hb2.block (w.heap.size+1) hlv).trans hY1;obtain ⟨y0,y1,y2,y3,y4,y5,y6,y7,y8⟩:=Nine.box hY;have yf:=row_free hY)
      | (go_at_call 73;refine (copyP_any D L B _ _ _ _ _ t.T.A X.drew hBX hs1 hcT).mono ?_;rintro e w1 ⟨b1,m1,e1,rfl,hb1,ho1⟩;have z0:=(bcell hb1 hlt0 0).trans p0;have z1:=(bcell hb1 hlt0 1).trans p1;have z2:=(bcell hb1 hlt0 2).trans p2;have z3:=(bcell hb1 hlt0 3).trans p3;have z4:=(bcell hb1 hlt0 4).trans p4;have z5:=(bcell hb1 hlt0 5).trans p5;have z6:=(bcell hb1 hlt0 6).trans p6;have z7:=(bcell hb1 hlt0 7).trans p7;have hY1:=(hb1.block (w.heap.size+1) hlt1).trans hX1;obtain ⟨hBw,hs2,hmc⟩:=H2.out w1 hb1))
  all_goals
    have hXs:=HXS.out
    have hz1:X.heap.size≤w1.heap.size:=hb1.size
    have hz2:=hb2.size
    have hbw:Below w.heap.size w w2:=(HXB.out.drew.trans (hb1.mono (show w.heap.size≤X.heap.size by omega))).trans (hb2.mono (by omega))
    go_wp2_with fail
    obtain ⟨Y,hYe⟩:∃ Y,Y=set9 w2 (w.heap.size+1) 0 (.int .i64 t.K) (.int .i64 t.N) (.string t.S) (.string t.Z) (.int .i64 t.T.K) (.int .i64 t.T.N) (.slice b1 m1 e1) (.slice b2 l2 e2) (.slice none 0 0):=⟨_,rfl⟩
    have hYb:Below w.heap.size w Y:=by rw [hYe];exact set9_below hbw (by omega)
    have hYs:Y.heap.size=w2.heap.size:=by rw [hYe];exact set9_size _ _ _ _ _ _ _ _ _ _ _ _
    have hYo:∀ j,j≠w.heap.size+1→Y.heap[j]?=w2.heap[j]?:=fun j hj=>by rw [hYe];exact set9_other j hj
    refine bodyPost_ret (v:=.agg #[.int .i64 t.K,.int .i64 t.N,.string t.S,.string t.Z,.int .i64 t.T.K,.int .i64 t.T.N,.slice b1 m1 e1,.slice b2 l2 e2,.slice none 0 0]) (by simp [results,Try.results52,go_sem,y0,y1,y2,y3,y4,y5,y6,y7,y8]) rfl ?_
    have hfin:∃ b1' m1' e1' b2' e2' M,Ending.returned (.agg #[.int .i64 t.K,.int .i64 t.N,.string t.S,.string t.Z,.int .i64 t.T.K,.int .i64 t.T.N,.slice b1 m1 e1,.slice b2 l2 e2,.slice none 0 0])=.returned (.agg #[.int .i64 t.K,.int .i64 t.N,.string t.S,.string t.Z,.int .i64 t.T.K,.int .i64 t.T.N,.slice b1' m1' e1',.slice b2' l2 e2',.slice none 0 0])∧Below w.heap.size w Y∧w.heap.size≤M∧M≤Y.heap.size∧OwR w.heap.size M Y (D+1) b1' m1' t.T.A∧OwR M Y.heap.size Y (D+1) b2' l2 t.Ts:=by
      refine ⟨b1,m1,e1,b2,e2,w1.heap.size,rfl,hYb,by omega,by omega,?_,?_⟩
      · exact ho1.one (by omega) (fun k hk1 hk2=>by have hk3:X.heap.size≤k:=hk1;exact (hYo k (by omega)).trans (hb2.block k hk2)) (show w.heap.size≤X.heap.size by omega) (Nat.le_refl _)
      · exact ho2.one (Nat.le_refl _) (fun k hk1 hk2=>hYo k (by omega)) (Nat.le_refl _) (by omega)
    rw [hYe] at hfin
    exact hfin
end Go.Proofs.Ytleghjgpnefliaa

/-
  'copyTerm' of the program: the same term in memory of its own.
-/
namespace Go.Proofs.Ytleghjgpnefliaa
open Go.RowKit
set_option linter.unusedVariables false
set_option linter.unusedSimpArgs false
def SaidCt (D d:Nat):Prop:=∀ (L B:Nat) (t:Tm) (a1:Option Addr) (l1 c1:Nat) (a2:Option Addr) (l2 c2:Nat) (a3:Option Addr) (l3 c3:Nat) (w:World),B≤w.heap.size→Fm L B w D d t a1 l1 a2 l2 a3 l3→cntM t≤1048576 →
    Calls Try.prog 32 #[.agg #[.int .i64 t.K,.int .i64 t.N,.string t.S,.string t.Z,.int .i64 t.T.K,.int .i64 t.T.N,.slice a1 l1 c1,.slice a2 l2 c2,.slice a3 l3 c3]] w fun e w'=>∃ b1 m1 e1 b2 e2 b3 e3,e=.returned (.agg #[.int .i64 t.K,.int .i64 t.N,.string t.S,.string t.Z,.int .i64 t.T.K,.int .i64 t.T.N,.slice b1 m1 e1,.slice b2 l2 e2,.slice b3 l3 e3])∧Below w.heap.size w w'∧FmO w.heap.size w'.heap.size w' (D+1) d t b1 m1 b2 l2 b3 l3
set_option maxRecDepth 100000 in
set_option maxHeartbeats 4000000 in
theorem ct_step (D d:Nat) (IH:∀ e,e < d→SaidCt D e):SaidCt D d:=by
  intro L B t a1 l1 c1 a2 l2 c2 a3 l3 c3 w hB hf hc
  obtain ⟨hl3,hl3m⟩:=hf.m.len
  have HL:Hid (l3=t.A.length):=hl3
  have hce:=cntM_eq t
  have hc3:l3≤1048576:=by have:=cntMS_eq t.A;omega
  have HCA:Hid (cntMS t.A≤1048576):=by show _≤_;omega
  obtain ⟨X,hX⟩:∃ X,X=((w.alloc (.cells #[.int .i64 t.K,.int .i64 t.N,.string t.S,.string t.Z,.int .i64 t.T.K,.int .i64 t.T.N,.slice a1 l1 c1,.slice a2 l2 c2,.slice a3 l3 c3] 29)).alloc (.cells #[.int .i64 0,.int .i64 0,.string ⟨#[]⟩,.string ⟨#[]⟩,.int .i64 0,.int .i64 0,.slice none 0 0,.slice none 0 0,.slice none 0 0] 29)):=⟨_,rfl⟩
  have hXs:X.heap.size=w.heap.size+2:=by rw [hX];simp
  have hXb:Below w.heap.size w X:=by rw [hX];exact ((Below.refl _ _).alloc (Nat.le_refl _) _).alloc (by simp) _
  have hX0:X.heap[w.heap.size]?=some (.cells #[.int .i64 t.K,.int .i64 t.N,.string t.S,.string t.Z,.int .i64 t.T.K,.int .i64 t.T.N,.slice a1 l1 c1,.slice a2 l2 c2,.slice a3 l3 c3] 29 (0,0)):=by rw [hX,Below.heap_alloc _ _ _ (by simp)];exact heap_new rfl
  have hX1:X.heap[w.heap.size+1]?=some (.cells #[.int .i64 0,.int .i64 0,.string ⟨#[]⟩,.string ⟨#[]⟩,.int .i64 0,.int .i64 0,.slice none 0 0,.slice none 0 0,.slice none 0 0] 29 (0,0)):=by rw [hX];exact heap_new (by simp)
  have hfX:=Fm.below hXb hB hf
  have HX:Hid (X=_):=hX
  have HXS:Hid (X.heap.size=w.heap.size+2):=hXs
  clear hX hce hl3
  go_enter Try.func32,Try.ntmps32
  go_wp2_with fail
  rw [← HX.out]
  refine (copyHead_any D d L B t _ _ _ _ _ _ _ _ _ X (by omega) hfX hc).mono ?_
  rintro e w1 ⟨b1,m1,e1,b2,e2,M,rfl,hb1,hM1,hM2,ho1,ho2⟩
  have hz1:=hb1.size
  have hbw1:Below w.heap.size w w1:=hXb.trans (hb1.mono (by omega))
  have x0:=(hb1.block w.heap.size (by omega)).trans hX0
  have x1:=(hb1.block (w.heap.size+1) (by omega)).trans hX1
  obtain ⟨h,hh⟩:∃ h,h=w1.heap.size:=⟨_,rfl⟩
  have hhz:w.heap.size+2≤h:=by omega
  obtain ⟨W,hW⟩:∃ W,W=w1.alloc (.cells #[.int .i64 t.K,.int .i64 t.N,.string t.S,.string t.Z,.int .i64 t.T.K,.int .i64 t.T.N,.slice b1 m1 e1,.slice b2 l2 e2,.slice none 0 0] 29):=⟨_,rfl⟩
  have hWb:Below w1.heap.size w1 W:=by rw [hW];exact (Below.refl _ _).alloc (Nat.le_refl _) _
  have hW0:W.heap[h]?=some (.cells #[.int .i64 t.K,.int .i64 t.N,.string t.S,.string t.Z,.int .i64 t.T.K,.int .i64 t.T.N,.slice b1 m1 e1,.slice b2 l2 e2,.slice none 0 0] 29 (0,0)):=by rw [hW];exact heap_new hh
  have hWs:W.heap.size=h+1:=by rw [hW,hh];simp
  have HW:Hid (W=_):=hW
  have HH:Hid (h=w1.heap.size):=hh
  have xw0:=(hWb.block w.heap.size (by omega)).trans x0
  have hWh:Below h w1 W:=by rw [hh];exact hWb
  have HO:Hid (OwR X.heap.size M w1 (D+1) b1 m1 t.T.A∧OwR M w1.heap.size w1 (D+1) b2 l2 t.Ts∧X.heap.size≤M∧M≤w1.heap.size):=⟨ho1,ho2,hM1,hM2⟩
  have HX01:Hid (w1.heap[w.heap.size]?=some (.cells #[.int .i64 t.K,.int .i64 t.N,.string t.S,.string t.Z,.int .i64 t.T.K,.int .i64 t.T.N,.slice a1 l1 c1,.slice a2 l2 c2,.slice a3 l3 c3] 29 (0,0))∧w1.heap[w.heap.size+1]?=some (.cells #[.int .i64 0,.int .i64 0,.string ⟨#[]⟩,.string ⟨#[]⟩,.int .i64 0,.int .i64 0,.slice none 0 0,.slice none 0 0,.slice none 0 0] 29 (0,0))):=⟨x0,x1⟩
  obtain ⟨f0,f1,f2,f3,f4,f5,f6,f7,f8⟩:=Nine.box x0
  have hltx:w.heap.size < w1.heap.size:=by omega
  clear hW hh ho1 ho2 hX0 hX1 x1 hfX
  go_wp2_with fail
  rw [← HW.out,← HH.out]
  clear f0 f1 f2 f3 f4 f5 f6 f7 f8
  have hAp:ApRelM (h+1) W (D+1) (d - 1) (.slice none 0 0) 0 t.A:=apm_nil _ _ _ _ _
  go_loopw [11] (fun i wr=>∃ (j:Nat) (aj:Option Addr) (cj:Nat),j≤l3∧i=.int .i64 j∧wr.heap[h]?=some (.cells #[.int .i64 t.K,.int .i64 t.N,.string t.S,.string t.Z,.int .i64 t.T.K,.int .i64 t.T.N,.slice b1 m1 e1,.slice b2 l2 e2,.slice aj j cj] 29 (0,0))∧ApRelM (h+1) wr (D+1) (d - 1) (.slice aj j cj) j t.A∧Below h w1 wr) (fun i _=>l3 - (intOf i).toNat)
  case atStart =>
    exact ⟨0,none,0,by omega,by first | rfl | simp [HH.out],hW0,hAp,hWh⟩
  case round =>
    obtain ⟨j,aj,cj,hj,rfl,hrow,hap,hbr⟩:=hrel
    have hhr:=(Array.getElem?_eq_some_iff.1 hrow).1
    by_cases hlt:j < l3
    · have hlt':j < t.A.length:=by have:=HL.out;omega
      have hbw:Below w.heap.size w wr:=hbw1.trans (hbr.mono (by omega))
      obtain ⟨b,o,rfl,_,hbB,q1,n1,k1,q2,n2,k2,q3,n3,k3,h9,hf1⟩:=hf.m.get j hlt'
      obtain ⟨e0,e1',e2',e3,e4,e5,e6,e7,e8⟩:=h9.below hbw (by omega)
      obtain ⟨P,hP⟩:∃ P,P=wr.alloc (.cells #[.int .i64 t.A[j].K,.int .i64 t.A[j].N,.string t.A[j].S,.string t.A[j].Z,.int .i64 t.A[j].T.K,.int .i64 t.A[j].T.N,.slice q1 n1 k1,.slice q2 n2 k2,.slice q3 n3 k3] 29):=⟨_,rfl⟩
      have hPb:Below wr.heap.size wr P:=by rw [hP];exact (Below.refl _ _).alloc (Nat.le_refl _) _
      have hPs:P.heap.size=wr.heap.size+1:=by rw [hP];simp
      have hP0:P.heap[wr.heap.size]?=some (.cells #[.int .i64 t.A[j].K,.int .i64 t.A[j].N,.string t.A[j].S,.string t.A[j].Z,.int .i64 t.A[j].T.K,.int .i64 t.A[j].T.N,.slice q1 n1 k1,.slice q2 n2 k2,.slice q3 n3 k3] 29 (0,0)):=by rw [hP];exact heap_new rfl
      have hPh:=(hPb.block h hhr).trans hrow
      have hfP:Fm L B P.drew D (d - 1) t.A[j] q1 n1 q2 n2 q3 n3:=Fm.drew (Fm.below hPb (by omega) (Fm.below hbw hB hf1))
      have hcj:cntM t.A[j]≤1048576:=by have:=cntMS_get t.A j hlt';have:=HCA.out;omega
      have hapP:ApRelM (h+1) P.drew (D+1) (d - 1) (.slice aj j cj) j t.A:=apm_below hap (hPb.drew)
      have hPw1:Below h w1 P.drew:=(hbr.trans (hPb.mono (by omega))).drew
      have APR:Hid (∀ (w2:World) (r1:Option Addr) (s1 u1:Nat) (r2:Option Addr) (s2 u2:Nat) (r3:Option Addr) (s3 u3:Nat),Below P.drew.heap.size P.drew w2→FmO P.drew.heap.size w2.heap.size w2 (D+1) (d - 1) t.A[j] r1 s1 r2 s2 r3 s3 →
          ∃ g cp w3,(Builtin.append_ #[27,27] 27 #[.slice aj j cj,.slice (some ⟨w2.heap.size,0,none⟩) 1 1]).run Try.prog (w2.alloc (.cells #[.int .i64 t.A[j].K,.int .i64 t.A[j].N,.string t.A[j].S,.string t.A[j].Z,.int .i64 t.A[j].T.K,.int .i64 t.A[j].T.N,.slice r1 s1 u1,.slice r2 s2 u2,.slice r3 s3 u3] 29))=.ok (.slice (some ⟨g,0,none⟩) (j+1) cp) w3 ∧
            w3.cell? ⟨h,8,none⟩=some (.slice aj j cj)∧w3.frozen? ⟨h,8,none⟩=false ∧
            (w3.setCell ⟨h,8,none⟩ (.slice (some ⟨g,0,none⟩) (j+1) cp)).heap[h]?=some (.cells #[.int .i64 t.K,.int .i64 t.N,.string t.S,.string t.Z,.int .i64 t.T.K,.int .i64 t.T.N,.slice b1 m1 e1,.slice b2 l2 e2,.slice (some ⟨g,0,none⟩) (j+1) cp] 29 (0,0)) ∧
            ApRelM (h+1) (w3.setCell ⟨h,8,none⟩ (.slice (some ⟨g,0,none⟩) (j+1) cp)) (D+1) (d - 1) (.slice (some ⟨g,0,none⟩) (j+1) cp) (j+1) t.A∧Below h w1 (w3.setCell ⟨h,8,none⟩ (.slice (some ⟨g,0,none⟩) (j+1) cp))):=by
        intro w2 r1 s1 u1 r2 s2 u2 r3 s3 u3 hb2 ho2
        obtain ⟨g,cp,w3,hrun,hap3,hbe3⟩:=apm_run (c1:=u1) (c2:=u2) (c3:=u3) hapP hlt' (by omega) hb2 (show h+1≤P.heap.size by omega) ho2
        have hq:w3.heap[h]?=_:=(hbe3.block h (by omega)).trans hPh
        refine ⟨g,cp,w3,hrun,row_cell hq 8,row_free hq 8,?_,apm_set hap3 (by omega) _,(hPw1.trans (hbe3.mono (by omega))).setCell (p:=⟨h,8,none⟩) (Nat.le_refl _) _⟩
        rw [row_set hq]
        rfl
      have y8:P.cell? ⟨h,8,none⟩=some (.slice aj j cj):=row_cell hPh 8
      obtain ⟨g0,g1,g2,g3,g4,g5,g6,g7,g8⟩:=Nine.box hP0
      have HP:Hid (P=_):=hP
      have hBP:B≤P.heap.size:=by omega
      have hhP:h < P.heap.size:=by omega
      have hrP:wr.heap.size < P.heap.size:=by omega
      have IHj:=IH (d - 1) (pos_d hf.m hlt') L B t.A[j]
      clear hP h9 hf1 hapP hPw1 hap hrow hPh hP0 hPs IH
      go_wp2_with fail
      rw [← HP.out]
      clear e0 e1' e2' e3 e4 e5 e6 e7 e8
      go_region_law (first | (refine step_run hrun (by rfl) _ _ (by rfl) (by rfl) (by rfl) (by rfl) ?_) | (go_simp;go_at_call 32;refine (IHj _ _ _ _ _ _ _ _ _ P.drew hBP hfP hcj).mono ?_;rintro e w2 ⟨r1,s1,u1,r2,u2,r3,u3,rfl,hb2,ho2⟩;have hz2:h < w2.heap.size:=Nat.lt_of_lt_of_le hhP hb2.size;have v8:=(bcell hb2 hhP 8).trans y8;have v9:(w2.alloc (.cells #[.int .i64 t.A[j].K,.int .i64 t.A[j].N,.string t.A[j].S,.string t.A[j].Z,.int .i64 t.A[j].T.K,.int .i64 t.A[j].T.N,.slice r1 s1 u1,.slice r2 n2 u2,.slice r3 n3 u3] 29)).cell? ⟨h,8,none⟩=some (.slice aj j cj):=(World.cell?_of_block (Below.heap_alloc _ _ _ hz2)).trans v8;obtain ⟨g,cp,w3,hrun,hc8,hf8,hrow3,hap3,hbr3⟩:=APR.out w2 r1 s1 u1 r2 n2 u2 r3 n3 u3 hb2 ho2))
      all_goals
        clear g0 g1 g2 g3 g4 g5 g6 g7 g8 y8 v8 v9 hrun hc8 hf8
        go_wp2_with fail
        go_roundw
        case rel=>exact ⟨j+1,_,_,by omega,by go_num,hrow3,hap3,hbr3⟩
        case measure=>simp [intOf];omega
    · have hjl:j=l3:=by omega
      have HJ:Hid (j=l3):=hjl
      have hbw:Below w.heap.size w wr:=hbw1.trans (hbr.mono (by omega))
      have xr:=(hbr.block (w.heap.size+1) (by omega)).trans HX01.out.2
      obtain ⟨p0,p1,p2,p3,p4,p5,p6,p7,p8⟩:=Nine.box xr
      have pf:=row_free xr
      obtain ⟨q0,q1,q2,q3,q4,q5,q6,q7,q8⟩:=Nine.box hrow
      clear hjl
      go_wp2_with fail
      obtain ⟨Y,hYe⟩:∃ Y,Y=set9 wr (w.heap.size+1) 0 (.int .i64 t.K) (.int .i64 t.N) (.string t.S) (.string t.Z) (.int .i64 t.T.K) (.int .i64 t.T.N) (.slice b1 m1 e1) (.slice b2 l2 e2) (.slice aj j cj):=⟨_,rfl⟩
      have hYb:Below w.heap.size w Y:=by rw [hYe];exact set9_below hbw (by omega)
      have hYs:Y.heap.size=wr.heap.size:=by rw [hYe];exact set9_size _ _ _ _ _ _ _ _ _ _ _ _
      have hYo:∀ k,k≠w.heap.size+1→Y.heap[k]?=wr.heap[k]?:=fun k hk=>by rw [hYe];exact set9_other k hk
      refine bodyPost_ret (v:=.agg #[.int .i64 t.K,.int .i64 t.N,.string t.S,.string t.Z,.int .i64 t.T.K,.int .i64 t.T.N,.slice b1 m1 e1,.slice b2 l2 e2,.slice aj j cj]) (by simp [results,Try.results32,go_sem,p0,p1,p2,p3,p4,p5,p6,p7,p8]) rfl ?_
      have hfin:∃ b1' m1' e1' b2' e2' b3' e3',Ending.returned (.agg #[.int .i64 t.K,.int .i64 t.N,.string t.S,.string t.Z,.int .i64 t.T.K,.int .i64 t.T.N,.slice b1 m1 e1,.slice b2 l2 e2,.slice aj j cj])=.returned (.agg #[.int .i64 t.K,.int .i64 t.N,.string t.S,.string t.Z,.int .i64 t.T.K,.int .i64 t.T.N,.slice b1' m1' e1',.slice b2' l2 e2',.slice b3' l3 e3'])∧Below w.heap.size w Y∧FmO w.heap.size Y.heap.size Y (D+1) d t b1' m1' b2' l2 b3' l3:=by
        have hjl:=HJ.out
        subst hjl
        obtain ⟨o1,o2,oM1,oM2⟩:=HO.out
        have hh:=HH.out
        obtain ⟨a',c',ev,hoA⟩:=apm_whole hap hf.m
        injection ev with ev1 _ ev3
        subst ev1
        subst ev3
        have hXs:=HXS.out
        refine ⟨b1,m1,e1,b2,e2,aj,cj,rfl,hYb,FmO.mk (L:=w.heap.size) (M1:=M) (M2:=w1.heap.size) hf.s hf.z ?_ ?_ ?_ (by omega) (by omega) (by omega)⟩
        · exact o1.keep (fun k hk1 hk2=>(hYo k (by omega)).trans (hbr.block k (by omega))) (by omega) (Nat.le_refl _)
        · exact o2.keep (fun k hk1 hk2=>(hYo k (by omega)).trans (hbr.block k (by omega))) (Nat.le_refl _) (Nat.le_refl _)
        · exact hoA.keep (fun k hk1 hk2=>hYo k (by omega)) (by omega) (by omega)
      rw [hYe] at hfin
      exact hfin
theorem ct_any (D:Nat):∀ d,SaidCt D d:=by
  intro d
  induction d using Nat.strongRecOn with
  | ind d ih=>exact ct_step D d ih
end Go.Proofs.Ytleghjgpnefliaa

/-
  The program's 'termAt', 'LambdaAt'.
-/
namespace Go.Proofs.Ytleghjgpnefliaa
open Go.RowKit
set_option linter.unusedVariables false
set_option linter.unusedSimpArgs false
set_option maxRecDepth 100000 in
set_option maxHeartbeats 2000000 in
theorem termAt_any (D d L B base:Nat) (v:Value) (A:List Tm) (n:Int) (w:World) (hB:B≤w.heap.size) (hT:TRow L B base w D d v A) (hl:A.length≤1000) (hc:∀ r ∈ A,cntM r≤1048576) :
    Calls Try.prog 19 #[v,.int .i64 n] w fun e w'=>TellM w w' (D+1) d e (nthM A n).1 (nthM A n).2:=by
  obtain ⟨X,hX⟩:∃ X,X=(w.alloc (.cells #[.int .i64 0,.int .i64 0,.string ⟨#[]⟩,.string ⟨#[]⟩,.int .i64 0,.int .i64 0,.slice none 0 0,.slice none 0 0,.slice none 0 0] 29)):=⟨_,rfl⟩
  have hXs:X.heap.size=w.heap.size+1:=by rw [hX];simp
  have hXb:Below w.heap.size w X:=by rw [hX];exact (Below.refl _ _).alloc (Nat.le_refl _) _
  have x1:X.heap[w.heap.size]?=some (.cells #[.int .i64 0,.int .i64 0,.string ⟨#[]⟩,.string ⟨#[]⟩,.int .i64 0,.int .i64 0,.slice none 0 0,.slice none 0 0,.slice none 0 0] 29 (0,0)):=by rw [hX];exact heap_new rfl
  have HX:Hid (X=_):=hX
  clear hX
  have hTX:=trow_bel hT hXb hB
  obtain ⟨p0,p1,p2,p3,p4,p5,p6,p7,p8⟩:=Nine.box x1
  have pf:=row_free x1
  have HCN:Hid (∀ r ∈ A,cntM r≤1048576):=hc
  obtain ⟨ao,cp,rfl⟩:=trow_form hT
  obtain ⟨nA,hnA⟩:∃ x,A.length=x:=⟨_,rfl⟩
  have HNA:Hid (A.length=nA):=hnA
  rw [hnA] at hT hl ⊢
  clear hnA hTX hc
  by_cases hn0:n < 0
  · have HV:Hid (nthM A n=(zTm,false)):=by show _=_;rw [nthM_no (by omega)]
    go_enter Try.func19,Try.ntmps19
    go_wp2_with fail
    rw [← HX.out]
    obtain ⟨Y,hYe⟩:∃ Y,Y=X:=⟨_,rfl⟩
    have hYb:Below w.heap.size w Y:=by rw [hYe];exact hXb
    refine bodyPost_ret (v:=.tuple #[.agg #[.int .i64 0,.int .i64 0,.string ⟨#[]⟩,.string ⟨#[]⟩,.int .i64 0,.int .i64 0,.slice none 0 0,.slice none 0 0,.slice none 0 0],.bool false]) (by simp [results,Try.results19,go_sem,p0,p1,p2,p3,p4,p5,p6,p7,p8]) rfl ?_
    have hfin:TellM w Y (D+1) d (.returned (.tuple #[.agg #[.int .i64 0,.int .i64 0,.string ⟨#[]⟩,.string ⟨#[]⟩,.int .i64 0,.int .i64 0,.slice none 0 0,.slice none 0 0,.slice none 0 0],.bool false])) zTm false:=⟨none,0,0,none,0,0,none,0,0,rfl,hYb,zTm_fmO _ _ _ _ _ hYb.size⟩
    rw [hYe] at hfin
    rw [HV.out]
    exact hfin
  · by_cases hn1:n < nA
    · obtain ⟨i,rfl⟩:∃ i:Nat,n=i:=⟨n.toNat,by omega⟩
      have hi:i < A.length:=by have:=HNA.out;omega
      have HV:Hid (nthM A i=(A[i],true)):=by show _=_;rw [nthM_at hi]
      have HNA2:=HNA.out
      obtain ⟨g,cap',e,hgb,hgw,q1,n1,k1,q2,n2,k2,q3,n3,k3,h9,hfi⟩:=trow_at hT i hi
      injection e with e1 e2 e3
      subst e1
      subst e3
      have hci:=HCN.out A[i] (List.getElem_mem hi)
      obtain ⟨R,hR⟩:∃ R,A[i]=R:=⟨_,rfl⟩
      rw [hR] at h9 hfi hci HV
      have hix:(i:Int) < (nA:Int):=hn1
      have hge:¬ (nA:Int)≤(i:Int):=by omega
      obtain ⟨e0,e1,e2',e3,e4,e5,e6,e7,e8⟩:=h9
      have K:=ct_any D d L B R q1 n1 k1 q2 n2 k2 q3 n3 k3 X (by omega) (Fm.below hXb hB hfi) hci
      have hXz:w.heap.size+1≤X.heap.size:=by omega
      clear HNA2 e2 hR hT hXs
      go_enter Try.func19,Try.ntmps19
      go_wp2_with fail
      rw [← HX.out]
      refine K.mono ?_
      rintro e w2 ⟨b1,m1,s1,b2,s2,b3,s3,rfl,hb2,ho2⟩
      have hz2:=hb2.size
      have hbw2:Below w.heap.size w w2:=hXb.trans (hb2.mono (by omega))
      have x2:=(hb2.block (w.heap.size) (by omega)).trans x1
      clear p0 p1 p2 p3 p4 p5 p6 p7 p8 pf e0 e1 e2' e3 e4 e5 e6 e7 e8
      obtain ⟨p0,p1,p2,p3,p4,p5,p6,p7,p8⟩:=Nine.box x2
      have pf:=row_free x2
      go_wp2_with fail
      obtain ⟨Y,hYe⟩:∃ Y,Y=set9 w2 w.heap.size 0 (.int .i64 R.K) (.int .i64 R.N) (.string R.S) (.string R.Z) (.int .i64 R.T.K) (.int .i64 R.T.N) (.slice b1 m1 s1) (.slice b2 n2 s2) (.slice b3 n3 s3):=⟨_,rfl⟩
      have hYb:Below w.heap.size w Y:=by rw [hYe];exact set9_below hbw2 (by omega)
      have hYs:Y.heap.size=w2.heap.size:=by rw [hYe];exact set9_size _ _ _ _ _ _ _ _ _ _ _ _
      have hYo:∀ k,k≠w.heap.size→Y.heap[k]?=w2.heap[k]?:=fun k hk=>by rw [hYe];exact set9_other k hk
      refine bodyPost_ret (v:=.tuple #[.agg #[.int .i64 R.K,.int .i64 R.N,.string R.S,.string R.Z,.int .i64 R.T.K,.int .i64 R.T.N,.slice b1 m1 s1,.slice b2 n2 s2,.slice b3 n3 s3],.bool true]) (by simp [results,Try.results19,go_sem,p0,p1,p2,p3,p4,p5,p6,p7,p8]) rfl ?_
      have hfin:TellM w Y (D+1) d (.returned (.tuple #[.agg #[.int .i64 R.K,.int .i64 R.N,.string R.S,.string R.Z,.int .i64 R.T.K,.int .i64 R.T.N,.slice b1 m1 s1,.slice b2 n2 s2,.slice b3 n3 s3],.bool true])) R true:=⟨_,_,_,_,_,_,_,_,_,rfl,hYb,ho2.keep (fun k hk1 hk2=>hYo k (by omega)) (by omega) (by omega)⟩
      rw [hYe] at hfin
      rw [HV.out]
      exact hfin
    · have HV:Hid (nthM A n=(zTm,false)):=by show _=_;rw [nthM_no (by have:=HNA.out;omega)]
      have hge:(nA:Int)≤n:=by omega
      go_enter Try.func19,Try.ntmps19
      go_wp2_with fail
      rw [← HX.out]
      obtain ⟨Y,hYe⟩:∃ Y,Y=X:=⟨_,rfl⟩
      have hYb:Below w.heap.size w Y:=by rw [hYe];exact hXb
      refine bodyPost_ret (v:=.tuple #[.agg #[.int .i64 0,.int .i64 0,.string ⟨#[]⟩,.string ⟨#[]⟩,.int .i64 0,.int .i64 0,.slice none 0 0,.slice none 0 0,.slice none 0 0],.bool false]) (by simp [results,Try.results19,go_sem,p0,p1,p2,p3,p4,p5,p6,p7,p8]) rfl ?_
      have hfin:TellM w Y (D+1) d (.returned (.tuple #[.agg #[.int .i64 0,.int .i64 0,.string ⟨#[]⟩,.string ⟨#[]⟩,.int .i64 0,.int .i64 0,.slice none 0 0,.slice none 0 0,.slice none 0 0],.bool false])) zTm false:=⟨none,0,0,none,0,0,none,0,0,rfl,hYb,zTm_fmO _ _ _ _ _ hYb.size⟩
      rw [hYe] at hfin
      rw [HV.out]
      exact hfin
end Go.Proofs.Ytleghjgpnefliaa

/-
  'eachTerm' with a closure: whatever the closure keeps up at each term, all terms within are seen, from the front. (Written by mkeach.py.)
-/
namespace Go.Proofs.Ytleghjgpnefliaa
open Go.RowKit
set_option linter.unusedVariables false
set_option linter.unusedSimpArgs false
theorem Fm.deeperL {L B:Nat} {w:World} {D d d':Nat} {t:Tm} {a1 a2 a3:Option Addr} {l1 l2 l3:Nat} (hd:d≤d') (h:Fm L B w D d t a1 l1 a2 l2 a3 l3):Fm L B w D d' t a1 l1 a2 l2 a3 l3 :=
  h.wider (fun _ _ _ hr=>hr) (fun _ _ _ hr=>hr.deeper hd (Nat.le_refl _))
structure SeeL (L B base p D d:Nat) (I:List Tm→(Nat→Prop)→World→Prop):Prop where
  below:∀ X F w w',I X F w→Below w.heap.size w w'→I X F w'
  has:∀ X F w k,I X F w→F k→base≤k∧k < w.heap.size
  see:∀ (d':Nat) (t:Tm) (a1:Option Addr) (l1 c1:Nat) (a2:Option Addr) (l2 c2:Nat) (a3:Option Addr) (l3 c3:Nat) (X:List Tm) (F:Nat→Prop) (w:World),d'≤d→base≤w.heap.size→I X F w→Fm L B w D d' t a1 l1 a2 l2 a3 l3→nodeM t=true→X.length≤1000 →
    Calls Try.prog 31 #[.agg #[.int .i64 t.K,.int .i64 t.N,.string t.S,.string t.Z,.int .i64 t.T.K,.int .i64 t.T.N,.slice a1 l1 c1,.slice a2 l2 c2,.slice a3 l3 c3],.pointer (some ⟨p,0,none⟩)] w fun e w'=>e=.returned (.tuple #[])∧∃ F',I (X ++ [t]) F' w'∧Kf F w F' w'
def SaidEachL (l:Nat):Prop:=∀ (L B base p D d:Nat) (I:List Tm→(Nat→Prop)→World→Prop),SeeL L B base p D d I→B≤base→∀ (d':Nat) (t:Tm) (a1:Option Addr) (l1 c1:Nat) (a2:Option Addr) (l2 c2:Nat) (a3:Option Addr) (l3 c3:Nat) (X:List Tm) (F:Nat→Prop) (m:Nat) (w:World),d'≤d→base≤w.heap.size→I X F w→Fm L B w D d' t a1 l1 a2 l2 a3 l3→nodesM l t=some m→X.length+m≤1000 →
    Calls Try.prog 23 #[.agg #[.int .i64 t.K,.int .i64 t.N,.string t.S,.string t.Z,.int .i64 t.T.K,.int .i64 t.T.N,.slice a1 l1 c1,.slice a2 l2 c2,.slice a3 l3 c3],.func (Fn.func 31) #[] #[.pointer (some ⟨p,0,none⟩)]] w fun e w'=>e=.returned (.tuple #[])∧∃ F',I (X ++ allW t) F' w'∧Kf F w F' w'
set_option maxRecDepth 100000 in
set_option maxHeartbeats 1000000 in
theorem eachL_succ (l:Nat) (IH:SaidEachL l):SaidEachL (l+1):=by
  intro L B base p D d I hS hB d' t a1 l1 c1 a2 l2 c2 a3 l3 c3 X F m w hd hb hI hf hm hX
  obtain ⟨hn,hparts⟩:=nodesM_inv hm
  obtain ⟨hl3,hl3m⟩:=hf.m.len
  have HL:Hid (l3=t.A.length):=hl3
  have HN:Hid (∀ j (hj:j < t.A.length),∃ a,nodesM l t.A[j]=some a∧(preW t j).length+1+a≤m):=fun j hj=>by
    obtain ⟨a,ha⟩:=hparts j hj
    exact ⟨a,ha,preW_len hm j hj ha⟩
  have hm0:0 < m:=by have:=allW_len _ t m hm;rw [allW_eq,List.length_cons] at this;omega
  obtain ⟨W,hW⟩:∃ W,W=w.alloc (.cells #[.int .i64 t.K,.int .i64 t.N,.string t.S,.string t.Z,.int .i64 t.T.K,.int .i64 t.T.N,.slice a1 l1 c1,.slice a2 l2 c2,.slice a3 l3 c3] 29):=⟨_,rfl⟩
  have hWs:W.heap.size=w.heap.size+1:=by rw [hW];simp
  have hWb:Below w.heap.size w W:=by rw [hW];exact (Below.refl _ _).alloc (Nat.le_refl _) _
  have hW0:W.heap[w.heap.size]?=some (.cells #[.int .i64 t.K,.int .i64 t.N,.string t.S,.string t.Z,.int .i64 t.T.K,.int .i64 t.T.N,.slice a1 l1 c1,.slice a2 l2 c2,.slice a3 l3 c3] 29 (0,0)):=by rw [hW];exact heap_new rfl
  have HW:Hid (W=_):=hW
  have hnF:¬ F w.heap.size:=fun e=>by have:=(hS.has _ _ _ _ hI e).2;omega
  have hIW:=hS.below _ _ _ _ hI hWb
  have hfW:Fm L B W D d' t a1 l1 a2 l2 a3 l3:=Fm.below hWb (by omega) hf
  have HSZ:Hid (W.heap.size=w.heap.size+1):=hWs
  have hltW:w.heap.size < W.heap.size:=by omega
  clear hW hparts hl3 hm hWs
  go_enter Try.func23,Try.ntmps23
  go_wp2_with fail
  rw [← HW.out]
  refine (hS.see d' t _ _ _ _ _ _ _ _ _ X F W hd (by omega) hIW hfW hn (by omega)).mono ?_
  rintro e w1 ⟨rfl,F1,hI1,hk1⟩
  have hz1:=hk1.size
  have x1:=(hk1.block w.heap.size hltW hnF).trans hW0
  have hnF1:¬ F1 w.heap.size:=fun e=>by
    rcases hk1.own _ e with e | e
    · exact hnF e
    · omega
  obtain ⟨f0,f1,f2,f3,f4,f5,f6,f7,f8⟩:=Nine.box x1
  go_wp2_with fail
  go_loopw [12] (fun i wr=>∃ (j:Nat) (F2:Nat→Prop),j≤l3∧i=.int .i64 j∧I (X ++ t :: preW t j) F2 wr∧Kf F W F2 wr) (fun i _=>l3 - (intOf i).toNat)
  case atStart=>exact ⟨0,F1,by omega,rfl,by rw [preW_zero];exact hI1,hk1⟩
  case round =>
    obtain ⟨j,F2,hj,rfl,hI2,hk2⟩:=hrel
    have hz2:=hk2.size
    by_cases hlt:j < l3
    · have hlt':j < t.A.length:=by have:=HL.out;omega
      obtain ⟨a,ha,hal⟩:=HN.out j hlt'
      have hFb:∀ k,F k→base≤k:=fun k hk=>(hS.has _ _ _ _ hI hk).1
      have hbw:Below base w wr:=(hWb.mono hb).trans (hk2.below hFb (by omega))
      obtain ⟨b,o,rfl,_,hbB,b1,m1,d1,b2,m2,d2,b3,m3,d3,h9,hf1⟩:=hf.m.get j hlt'
      have h9r:=h9.world (hbw.block b (by omega))
      obtain ⟨e0,e1,e2,e3,e4,e5,e6,e7,e8⟩:=h9r
      have hba:Below wr.heap.size wr (wr.alloc (.cells #[.int .i64 t.A[j].K,.int .i64 t.A[j].N,.string t.A[j].S,.string t.A[j].Z,.int .i64 t.A[j].T.K,.int .i64 t.A[j].T.N,.slice b1 m1 d1,.slice b2 m2 d2,.slice b3 m3 d3] 29)):=(Below.refl _ _).alloc (Nat.le_refl _) _
      have hf2:Fm L B (wr.alloc (.cells #[.int .i64 t.A[j].K,.int .i64 t.A[j].N,.string t.A[j].S,.string t.A[j].Z,.int .i64 t.A[j].T.K,.int .i64 t.A[j].T.N,.slice b1 m1 d1,.slice b2 m2 d2,.slice b3 m3 d3] 29)) D (d' - 1) t.A[j] b1 m1 b2 m2 b3 m3:=Fm.keep (fun k _ hk=>(hba.block k (by omega)).trans (hbw.block k (by omega))) (Nat.le_refl _) (Nat.le_refl _) hf1
      have hIa:=hS.below _ _ _ _ hI2 hba
      have HNX:Hid (X ++ t :: preW t (j+1)=(X ++ t :: preW t j) ++ allW t.A[j]):=by show _=_;rw [preW_succ t j hlt'];simp
      have hlen:(X ++ t :: preW t j).length+a≤1000:=by rw [List.length_append,List.length_cons];omega
      have HK2:Hid (Kf F W F2 wr):=hk2
      have HBA:Hid (Below _ _ _):=hba
      clear h9 hk2 hba hI2 HN hal
      go_wp2_with fail
      refine (IH L B base p D d I hS hB (d' - 1) t.A[j] _ _ _ _ _ _ _ _ _ _ F2 a _ (by omega) (by simp;omega) hIa hf2 ha hlen).mono ?_
      rintro e w3 ⟨rfl,F3,hI3,hk3⟩
      rw [← HNX.out] at hI3
      have hkn:Kf F W F3 w3:=(HK2.out.trans (Kf.of_below HBA.out)).trans hk3
      clear hk3
      go_wp2_with fail
      go_roundw
      case rel=>exact ⟨j+1,F3,by omega,by go_num,hI3,hkn⟩
      case measure=>simp [intOf];omega
    · have HK:Hid (X ++ allW t=X ++ t :: preW t j):=by show _=_;rw [preW_all t j (by have:=HL.out;omega)]
      go_wp2_with fail
      refine bodyPost_end (v:=.tuple #[]) (by simp [results,Try.results23,go_sem]) rfl ?_
      exact ⟨rfl,F2,by rw [HK.out];exact hI2,(Kf.of_below hWb).trans hk2⟩
theorem eachL_any (l:Nat):SaidEachL l:=by
  induction l with
  | zero=>intro L B base p D d I hS hB d' t a1 l1 c1 a2 l2 c2 a3 l3 c3 X F m w hd hb hI hf hm;simp [nodesM] at hm
  | succ l ih=>exact eachL_succ l ih
end Go.Proofs.Ytleghjgpnefliaa
