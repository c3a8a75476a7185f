/-
  'copyTerm' of the program: the same term in memory of its own.
-/
import Derived.Test.YtcepgedbmffkdaaGreatFbaZ15
import Derived.Test.YtcepgedbmffkdaaGreatFbaZ7
import Derived.Deep.RegionLaw
import Derived.Deep.Cut
import Derived.Deep.CutRange
import Derived.Test.YtcepgedbmffkdaaGreatFbaZ3
import Derived.Test.YtcepgedbmffkdaaGreatFbaZ4
import Derived.Test.YtcepgedbmffkdaaGreatFbaZ14
import Derived.Test.YtcepgedbmffkdaaGreatFbaZ2
namespace Go.Proofs.YtcepgedbmffkdaaGreat
open Go.RowKit
set_option linter.unusedVariables false
set_option linter.unusedSimpArgs false
def SaidCt (D d:Nat):Prop:=∀ (L B:Nat) (t:Tm) (a1:Option Addr) (l1 c1:Nat) (a2:Option Addr) (l2 c2:Nat) (a3:Option Addr) (l3 c3:Nat) (w:World),B≤w.heap.size→Fm L B w D d t a1 l1 a2 l2 a3 l3→cntM t≤1048576 →
    Calls Tryz.prog 25 #[.agg #[.int .i64 t.K,.int .i64 t.N,.string t.S,.string t.Z,.int .i64 t.T.K,.int .i64 t.T.N,.slice a1 l1 c1,.slice a2 l2 c2,.slice a3 l3 c3]] w fun e w'=>∃ b1 m1 e1 b2 e2 b3 e3,e=.returned (.agg #[.int .i64 t.K,.int .i64 t.N,.string t.S,.string t.Z,.int .i64 t.T.K,.int .i64 t.T.N,.slice b1 m1 e1,.slice b2 l2 e2,.slice b3 l3 e3])∧Below w.heap.size w w'∧FmO w.heap.size w'.heap.size w' (D+1) d t b1 m1 b2 l2 b3 l3
set_option maxRecDepth 100000 in
set_option maxHeartbeats 4000000 in
theorem ct_step (D d:Nat) (IH:∀ e,e < d→SaidCt D e):SaidCt D d:=by
  intro L B t a1 l1 c1 a2 l2 c2 a3 l3 c3 w hB hf hc
  obtain ⟨hl3,hl3m⟩:=hf.m.len
  have HL:Hid (l3=t.A.length):=hl3
  have hce:=cntM_eq t
  have hc3:l3≤1048576:=by have:=cntMS_eq t.A;omega
  have HCA:Hid (cntMS t.A≤1048576):=by show _≤_;omega
  obtain ⟨X,hX⟩:∃ X,X=((w.alloc (.cells #[.int .i64 t.K,.int .i64 t.N,.string t.S,.string t.Z,.int .i64 t.T.K,.int .i64 t.T.N,.slice a1 l1 c1,.slice a2 l2 c2,.slice a3 l3 c3] 34)).alloc (.cells #[.int .i64 0,.int .i64 0,.string ⟨#[]⟩,.string ⟨#[]⟩,.int .i64 0,.int .i64 0,.slice none 0 0,.slice none 0 0,.slice none 0 0] 34)):=⟨_,rfl⟩
  have hXs:X.heap.size=w.heap.size+2:=by rw [hX];simp
  have hXb:Below w.heap.size w X:=by rw [hX];exact ((Below.refl _ _).alloc (Nat.le_refl _) _).alloc (by simp) _
  have hX0:X.heap[w.heap.size]?=some (.cells #[.int .i64 t.K,.int .i64 t.N,.string t.S,.string t.Z,.int .i64 t.T.K,.int .i64 t.T.N,.slice a1 l1 c1,.slice a2 l2 c2,.slice a3 l3 c3] 34 (0,0)):=by rw [hX,Below.heap_alloc _ _ _ (by simp)];exact heap_new rfl
  have hX1:X.heap[w.heap.size+1]?=some (.cells #[.int .i64 0,.int .i64 0,.string ⟨#[]⟩,.string ⟨#[]⟩,.int .i64 0,.int .i64 0,.slice none 0 0,.slice none 0 0,.slice none 0 0] 34 (0,0)):=by rw [hX];exact heap_new (by simp)
  have hfX:=Fm.below hXb hB hf
  have HX:Hid (X=_):=hX
  have HXS:Hid (X.heap.size=w.heap.size+2):=hXs
  clear hX hce hl3
  go_enter Tryz.func25,Tryz.ntmps25
  go_wp2_with fail
  rw [← HX.out]
  refine (copyHead_any D d L B t _ _ _ _ _ _ _ _ _ X (by omega) hfX hc).mono ?_
  rintro e w1 ⟨b1,m1,e1,b2,e2,M,rfl,hb1,hM1,hM2,ho1,ho2⟩
  have hz1:=hb1.size
  have hbw1:Below w.heap.size w w1:=hXb.trans (hb1.mono (by omega))
  have x0:=(hb1.block w.heap.size (by omega)).trans hX0
  have x1:=(hb1.block (w.heap.size+1) (by omega)).trans hX1
  obtain ⟨h,hh⟩:∃ h,h=w1.heap.size:=⟨_,rfl⟩
  have hhz:w.heap.size+2≤h:=by omega
  obtain ⟨W,hW⟩:∃ W,W=w1.alloc (.cells #[.int .i64 t.K,.int .i64 t.N,.string t.S,.string t.Z,.int .i64 t.T.K,.int .i64 t.T.N,.slice b1 m1 e1,.slice b2 l2 e2,.slice none 0 0] 34):=⟨_,rfl⟩
  have hWb:Below w1.heap.size w1 W:=by rw [hW];exact (Below.refl _ _).alloc (Nat.le_refl _) _
  have hW0:W.heap[h]?=some (.cells #[.int .i64 t.K,.int .i64 t.N,.string t.S,.string t.Z,.int .i64 t.T.K,.int .i64 t.T.N,.slice b1 m1 e1,.slice b2 l2 e2,.slice none 0 0] 34 (0,0)):=by rw [hW];exact heap_new hh
  have hWs:W.heap.size=h+1:=by rw [hW,hh];simp
  have HW:Hid (W=_):=hW
  have HH:Hid (h=w1.heap.size):=hh
  have xw0:=(hWb.block w.heap.size (by omega)).trans x0
  have hWh:Below h w1 W:=by rw [hh];exact hWb
  have HO:Hid (OwR X.heap.size M w1 (D+1) b1 m1 t.T.A∧OwR M w1.heap.size w1 (D+1) b2 l2 t.Ts∧X.heap.size≤M∧M≤w1.heap.size):=⟨ho1,ho2,hM1,hM2⟩
  have HX01:Hid (w1.heap[w.heap.size]?=some (.cells #[.int .i64 t.K,.int .i64 t.N,.string t.S,.string t.Z,.int .i64 t.T.K,.int .i64 t.T.N,.slice a1 l1 c1,.slice a2 l2 c2,.slice a3 l3 c3] 34 (0,0))∧w1.heap[w.heap.size+1]?=some (.cells #[.int .i64 0,.int .i64 0,.string ⟨#[]⟩,.string ⟨#[]⟩,.int .i64 0,.int .i64 0,.slice none 0 0,.slice none 0 0,.slice none 0 0] 34 (0,0))):=⟨x0,x1⟩
  obtain ⟨f0,f1,f2,f3,f4,f5,f6,f7,f8⟩:=Nine.box x0
  have hltx:w.heap.size < w1.heap.size:=by omega
  clear hW hh ho1 ho2 hX0 hX1 x1 hfX
  go_wp2_with fail
  rw [← HW.out,← HH.out]
  clear f0 f1 f2 f3 f4 f5 f6 f7 f8
  have hAp:ApRelM (h+1) W (D+1) (d - 1) (.slice none 0 0) 0 t.A:=apm_nil _ _ _ _ _
  go_loopw [11] (fun i wr=>∃ (j:Nat) (aj:Option Addr) (cj:Nat),j≤l3∧i=.int .i64 j∧wr.heap[h]?=some (.cells #[.int .i64 t.K,.int .i64 t.N,.string t.S,.string t.Z,.int .i64 t.T.K,.int .i64 t.T.N,.slice b1 m1 e1,.slice b2 l2 e2,.slice aj j cj] 34 (0,0))∧ApRelM (h+1) wr (D+1) (d - 1) (.slice aj j cj) j t.A∧Below h w1 wr) (fun i _=>l3 - (intOf i).toNat)
  case atStart =>
    exact ⟨0,none,0,by omega,by first | rfl | simp [HH.out],hW0,hAp,hWh⟩
  case round =>
    obtain ⟨j,aj,cj,hj,rfl,hrow,hap,hbr⟩:=hrel
    have hhr:=(Array.getElem?_eq_some_iff.1 hrow).1
    by_cases hlt:j < l3
    · have hlt':j < t.A.length:=by have:=HL.out;omega
      have hbw:Below w.heap.size w wr:=hbw1.trans (hbr.mono (by omega))
      obtain ⟨b,o,rfl,_,hbB,q1,n1,k1,q2,n2,k2,q3,n3,k3,h9,hf1⟩:=hf.m.get j hlt'
      obtain ⟨e0,e1',e2',e3,e4,e5,e6,e7,e8⟩:=h9.below hbw (by omega)
      obtain ⟨P,hP⟩:∃ P,P=wr.alloc (.cells #[.int .i64 t.A[j].K,.int .i64 t.A[j].N,.string t.A[j].S,.string t.A[j].Z,.int .i64 t.A[j].T.K,.int .i64 t.A[j].T.N,.slice q1 n1 k1,.slice q2 n2 k2,.slice q3 n3 k3] 34):=⟨_,rfl⟩
      have hPb:Below wr.heap.size wr P:=by rw [hP];exact (Below.refl _ _).alloc (Nat.le_refl _) _
      have hPs:P.heap.size=wr.heap.size+1:=by rw [hP];simp
      have hP0:P.heap[wr.heap.size]?=some (.cells #[.int .i64 t.A[j].K,.int .i64 t.A[j].N,.string t.A[j].S,.string t.A[j].Z,.int .i64 t.A[j].T.K,.int .i64 t.A[j].T.N,.slice q1 n1 k1,.slice q2 n2 k2,.slice q3 n3 k3] 34 (0,0)):=by rw [hP];exact heap_new rfl
      have hPh:=(hPb.block h hhr).trans hrow
      have hfP:Fm L B P.drew D (d - 1) t.A[j] q1 n1 q2 n2 q3 n3:=Fm.drew (Fm.below hPb (by omega) (Fm.below hbw hB hf1))
      have hcj:cntM t.A[j]≤1048576:=by have:=cntMS_get t.A j hlt';have:=HCA.out;omega
      have hapP:ApRelM (h+1) P.drew (D+1) (d - 1) (.slice aj j cj) j t.A:=apm_below hap (hPb.drew)
      have hPw1:Below h w1 P.drew:=(hbr.trans (hPb.mono (by omega))).drew
      have APR:Hid (∀ (w2:World) (r1:Option Addr) (s1 u1:Nat) (r2:Option Addr) (s2 u2:Nat) (r3:Option Addr) (s3 u3:Nat),Below P.drew.heap.size P.drew w2→FmO P.drew.heap.size w2.heap.size w2 (D+1) (d - 1) t.A[j] r1 s1 r2 s2 r3 s3 →
          ∃ g cp w3,(Builtin.append_ #[32,32] 32 #[.slice aj j cj,.slice (some ⟨w2.heap.size,0,none⟩) 1 1]).run Tryz.prog (w2.alloc (.cells #[.int .i64 t.A[j].K,.int .i64 t.A[j].N,.string t.A[j].S,.string t.A[j].Z,.int .i64 t.A[j].T.K,.int .i64 t.A[j].T.N,.slice r1 s1 u1,.slice r2 s2 u2,.slice r3 s3 u3] 34))=.ok (.slice (some ⟨g,0,none⟩) (j+1) cp) w3 ∧
            w3.cell? ⟨h,8,none⟩=some (.slice aj j cj)∧w3.frozen? ⟨h,8,none⟩=false ∧
            (w3.setCell ⟨h,8,none⟩ (.slice (some ⟨g,0,none⟩) (j+1) cp)).heap[h]?=some (.cells #[.int .i64 t.K,.int .i64 t.N,.string t.S,.string t.Z,.int .i64 t.T.K,.int .i64 t.T.N,.slice b1 m1 e1,.slice b2 l2 e2,.slice (some ⟨g,0,none⟩) (j+1) cp] 34 (0,0)) ∧
            ApRelM (h+1) (w3.setCell ⟨h,8,none⟩ (.slice (some ⟨g,0,none⟩) (j+1) cp)) (D+1) (d - 1) (.slice (some ⟨g,0,none⟩) (j+1) cp) (j+1) t.A∧Below h w1 (w3.setCell ⟨h,8,none⟩ (.slice (some ⟨g,0,none⟩) (j+1) cp))):=by
        intro w2 r1 s1 u1 r2 s2 u2 r3 s3 u3 hb2 ho2
        obtain ⟨g,cp,w3,hrun,hap3,hbe3⟩:=apm_run (c1:=u1) (c2:=u2) (c3:=u3) hapP hlt' (by omega) hb2 (show h+1≤P.heap.size by omega) ho2
        have hq:w3.heap[h]?=_:=(hbe3.block h (by omega)).trans hPh
        refine ⟨g,cp,w3,hrun,row_cell hq 8,row_free hq 8,?_,apm_set hap3 (by omega) _,(hPw1.trans (hbe3.mono (by omega))).setCell (p:=⟨h,8,none⟩) (Nat.le_refl _) _⟩
        rw [row_set hq]
        rfl
      have y8:P.cell? ⟨h,8,none⟩=some (.slice aj j cj):=row_cell hPh 8
      obtain ⟨g0,g1,g2,g3,g4,g5,g6,g7,g8⟩:=Nine.box hP0
      have HP:Hid (P=_):=hP
      have hBP:B≤P.heap.size:=by omega
      have hhP:h < P.heap.size:=by omega
      have hrP:wr.heap.size < P.heap.size:=by omega
      have IHj:=IH (d - 1) (pos_d hf.m hlt') L B t.A[j]
      clear hP h9 hf1 hapP hPw1 hap hrow hPh hP0 hPs IH
      go_wp2_with fail
      rw [← HP.out]
      clear e0 e1' e2' e3 e4 e5 e6 e7 e8
      go_region_law (first | (refine step_run hrun (by rfl) _ _ (by rfl) (by rfl) (by rfl) (by rfl) ?_) | (go_simp;go_at_call 25;refine (IHj _ _ _ _ _ _ _ _ _ P.drew hBP hfP hcj).mono ?_;rintro e w2 ⟨r1,s1,u1,r2,u2,r3,u3,rfl,hb2,ho2⟩;have hz2:h < w2.heap.size:=Nat.lt_of_lt_of_le hhP hb2.size;have v8:=(bcell hb2 hhP 8).trans y8;have v9:(w2.alloc (.cells #[.int .i64 t.A[j].K,.int .i64 t.A[j].N,.string t.A[j].S,.string t.A[j].Z,.int .i64 t.A[j].T.K,.int .i64 t.A[j].T.N,.slice r1 s1 u1,.slice r2 n2 u2,.slice r3 n3 u3] 34)).cell? ⟨h,8,none⟩=some (.slice aj j cj):=(World.cell?_of_block (Below.heap_alloc _ _ _ hz2)).trans v8;obtain ⟨g,cp,w3,hrun,hc8,hf8,hrow3,hap3,hbr3⟩:=APR.out w2 r1 s1 u1 r2 n2 u2 r3 n3 u3 hb2 ho2))
      all_goals
        clear g0 g1 g2 g3 g4 g5 g6 g7 g8 y8 v8 v9 hrun hc8 hf8
        go_wp2_with fail
        go_roundw
        case rel=>exact ⟨j+1,_,_,by omega,by go_num,hrow3,hap3,hbr3⟩
        case measure=>simp [intOf];omega
    · have hjl:j=l3:=by omega
      have HJ:Hid (j=l3):=hjl
      have hbw:Below w.heap.size w wr:=hbw1.trans (hbr.mono (by omega))
      have xr:=(hbr.block (w.heap.size+1) (by omega)).trans HX01.out.2
      obtain ⟨p0,p1,p2,p3,p4,p5,p6,p7,p8⟩:=Nine.box xr
      have pf:=row_free xr
      obtain ⟨q0,q1,q2,q3,q4,q5,q6,q7,q8⟩:=Nine.box hrow
      clear hjl
      go_wp2_with fail
      obtain ⟨Y,hYe⟩:∃ Y,Y=set9 wr (w.heap.size+1) 0 (.int .i64 t.K) (.int .i64 t.N) (.string t.S) (.string t.Z) (.int .i64 t.T.K) (.int .i64 t.T.N) (.slice b1 m1 e1) (.slice b2 l2 e2) (.slice aj j cj):=⟨_,rfl⟩
      have hYb:Below w.heap.size w Y:=by rw [hYe];exact set9_below hbw (by omega)
      have hYs:Y.heap.size=wr.heap.size:=by rw [hYe];exact set9_size _ _ _ _ _ _ _ _ _ _ _ _
      have hYo:∀ k,k≠w.heap.size+1→Y.heap[k]?=wr.heap[k]?:=fun k hk=>by rw [hYe];exact set9_other k hk
      refine bodyPost_ret (v:=.agg #[.int .i64 t.K,.int .i64 t.N,.string t.S,.string t.Z,.int .i64 t.T.K,.int .i64 t.T.N,.slice b1 m1 e1,.slice b2 l2 e2,.slice aj j cj]) (by simp [results,Tryz.results25,go_sem,p0,p1,p2,p3,p4,p5,p6,p7,p8]) rfl ?_
      have hfin:∃ b1' m1' e1' b2' e2' b3' e3',Ending.returned (.agg #[.int .i64 t.K,.int .i64 t.N,.string t.S,.string t.Z,.int .i64 t.T.K,.int .i64 t.T.N,.slice b1 m1 e1,.slice b2 l2 e2,.slice aj j cj])=.returned (.agg #[.int .i64 t.K,.int .i64 t.N,.string t.S,.string t.Z,.int .i64 t.T.K,.int .i64 t.T.N,.slice b1' m1' e1',.slice b2' l2 e2',.slice b3' l3 e3'])∧Below w.heap.size w Y∧FmO w.heap.size Y.heap.size Y (D+1) d t b1' m1' b2' l2 b3' l3:=by
        have hjl:=HJ.out
        subst hjl
        obtain ⟨o1,o2,oM1,oM2⟩:=HO.out
        have hh:=HH.out
        obtain ⟨a',c',ev,hoA⟩:=apm_whole hap hf.m
        injection ev with ev1 _ ev3
        subst ev1
        subst ev3
        have hXs:=HXS.out
        refine ⟨b1,m1,e1,b2,e2,aj,cj,rfl,hYb,FmO.mk (L:=w.heap.size) (M1:=M) (M2:=w1.heap.size) hf.s hf.z ?_ ?_ ?_ (by omega) (by omega) (by omega)⟩
        · exact o1.keep (fun k hk1 hk2=>(hYo k (by omega)).trans (hbr.block k (by omega))) (by omega) (Nat.le_refl _)
        · exact o2.keep (fun k hk1 hk2=>(hYo k (by omega)).trans (hbr.block k (by omega))) (Nat.le_refl _) (Nat.le_refl _)
        · exact hoA.keep (fun k hk1 hk2=>hYo k (by omega)) (by omega) (by omega)
      rw [hYe] at hfin
      exact hfin
theorem ct_any (D:Nat):∀ d,SaidCt D d:=by
  intro d
  induction d using Nat.strongRecOn with
  | ind d ih=>exact ct_step D d ih
end Go.Proofs.YtcepgedbmffkdaaGreat

/-
  What the program's 'putForAll' comes to: where no name is caught, the term with the other one at each use.
-/
namespace Go.Proofs.YtcepgedbmffkdaaGreat
open Go.RowKit
set_option linter.unusedVariables false
set_option linter.unusedSimpArgs false
theorem not_ok {F:List (List UInt8)} {qs:List Way9} {k:Nat} (hk:k < qs.length) {n:List UInt8} (hn:n ∈ F) (hm:n ∈ qs[k].2):putOk F qs=false:=by
  rw [Bool.eq_false_iff]
  intro h
  unfold putOk at h
  have h1:=List.all_eq_true.1 h qs[k] (List.getElem_mem hk)
  have h2:=List.all_eq_true.1 h1 n hn
  simp [hm] at h2
theorem free_all {F:List (List UInt8)} {q:Way9} (h:∀ i (hi:i < F.length),¬ F[i] ∈ q.2):freeAt F q=true:=by
  unfold freeAt
  rw [List.all_eq_true]
  intro n hn
  obtain ⟨i,hi,rfl⟩:=List.getElem_of_mem hn
  simp [h i hi]
end Go.Proofs.YtcepgedbmffkdaaGreat

/-
  The n-th of a row of terms, in plain words.
-/
namespace Go.Proofs.YtcepgedbmffkdaaGreat
open Go.RowKit
set_option linter.unusedVariables false
set_option linter.unusedSimpArgs false
def zTm:Tm:=⟨0,0,⟨#[]⟩,⟨#[]⟩,⟨0,0,[]⟩,[],[]⟩
theorem zTm_fmO (L B:Nat) (w:World) (D d:Nat) (hLB:L≤B):FmO L B w D d zTm none 0 none 0 none 0 :=
  FmO.mk (M1:=L) (M2:=L) (by show (0:Nat)≤9223372036854775807;omega) (by show (0:Nat)≤9223372036854775807;omega) (OwR.nil _ _ _ _ _) (OwR.nil _ _ _ _ _) (OwMR.nil _ _ _ _ _ _) (Nat.le_refl _) (Nat.le_refl _) hLB
def TellM (w w':World) (D d:Nat) (e:Ending) (R:Tm) (b:Bool):Prop :=
  ∃ b1 m1 e1 b2 m2 e2 b3 m3 e3,e=.returned (.tuple #[.agg #[.int .i64 R.K,.int .i64 R.N,.string R.S,.string R.Z,.int .i64 R.T.K,.int .i64 R.T.N,.slice b1 m1 e1,.slice b2 m2 e2,.slice b3 m3 e3],.bool b])∧Below w.heap.size w w'∧FmO w.heap.size w'.heap.size w' D d R b1 m1 b2 m2 b3 m3
end Go.Proofs.YtcepgedbmffkdaaGreat

/-
  What the program's 'PutFor' comes to.
-/
namespace Go.Proofs.YtcepgedbmffkdaaGreat
open Go.RowKit
set_option linter.unusedVariables false
set_option linter.unusedSimpArgs false
theorem usesP_names (s:List UInt8):∀ (l:Nat) (t:Tm) (q:Way9),q ∈ usesP s l t→q.2.length≤2 * l:=by
  intro l
  induction l with
  | zero=>intro t q h;simp [usesP] at h
  | succ l ih =>
    intro t q h
    by_cases hv:t.K=3∧bs t.S=s
    · rw [usesP_var hv] at h
      simp only [List.mem_cons,List.not_mem_nil,or_false] at h
      subst h
      simp
    · rw [usesP_not hv] at h
      obtain ⟨i,hi,h1⟩:=catU_mem h
      obtain ⟨hi',q',h2,rfl⟩:=partP_mem h1
      have h3:=ih _ _ h2
      have h4:=bindsW_len t.K (bs t.S) (bs t.Z) i
      simp only [List.length_append]
      omega
def PutE (w w':World) (e:Ending) (r:Tm × Bool):Prop:=∃ D d,TellM w w' D d e r.1 r.2
theorem put_none {w w':World} {r:Nat} (hb:Below w.heap.size w w') (hr:w.heap.size≤r) (hrow:w'.heap[r]?=some (.cells #[.int .i64 0,.int .i64 0,.string ⟨#[]⟩,.string ⟨#[]⟩,.int .i64 0,.int .i64 0,.slice none 0 0,.slice none 0 0,.slice none 0 0] 34 (0,0))) :
    PutE w (((((((((w'.setCell ⟨r,0,none⟩ (.int .i64 0)).setCell ⟨r,1,none⟩ (.int .i64 0)).setCell ⟨r,2,none⟩ (.string ⟨#[]⟩)).setCell ⟨r,3,none⟩ (.string ⟨#[]⟩)).setCell ⟨r,4,none⟩ (.int .i64 0)).setCell ⟨r,5,none⟩ (.int .i64 0)).setCell ⟨r,6,none⟩ (.slice none 0 0)).setCell ⟨r,7,none⟩ (.slice none 0 0)).setCell ⟨r,8,none⟩ (.slice none 0 0)) (.returned (.tuple #[.agg #[.int .i64 0,.int .i64 0,.string ⟨#[]⟩,.string ⟨#[]⟩,.int .i64 0,.int .i64 0,.slice none 0 0,.slice none 0 0,.slice none 0 0],.bool false])) (zTm,false):=by
  have hz:=hb.size
  have hb2:Below w.heap.size w (set9 w' r 0 (.int .i64 0) (.int .i64 0) (.string ⟨#[]⟩) (.string ⟨#[]⟩) (.int .i64 0) (.int .i64 0) (.slice none 0 0) (.slice none 0 0) (.slice none 0 0)):=set9_below hb hr
  refine ⟨0,0,none,0,0,none,0,0,none,0,0,rfl,hb2,zTm_fmO _ _ _ _ _ hb2.size⟩
end Go.Proofs.YtcepgedbmffkdaaGreat

/-
  Free names in the model: 'l2Binds'.
-/
namespace Go.Proofs.YtcepgedbmffkdaaGreat
open Go.RowKit
set_option linter.unusedVariables false
set_option linter.unusedSimpArgs false
set_option maxRecDepth 100000 in
set_option maxHeartbeats 1000000 in
theorem l2Binds_any (t:Tm) (a1:Option Addr) (l1 c1:Nat) (a2:Option Addr) (l2 c2:Nat) (a3:Option Addr) (l3 c3:Nat) (i:Nat) (hi:i≤1000) (w:World) :
    Calls Tryz.prog 62 #[.agg #[.int .i64 t.K,.int .i64 t.N,.string t.S,.string t.Z,.int .i64 t.T.K,.int .i64 t.T.N,.slice a1 l1 c1,.slice a2 l2 c2,.slice a3 l3 c3],.int .i64 i] w fun e w'=>LitE w w' e (bindsW t.K (bs t.S) (bs t.Z) i):=by
  by_cases h4:t.K=4
  · have HN:Hid (bindsW t.K (bs t.S) (bs t.Z) i=[bs t.S]):=by show _=_;simp [bindsW,h4]
    rw [HN.out]
    go_enter Tryz.func62,Tryz.ntmps62
    go_wp2_with fail
    go_ret
    exact lit_1 _ _ _
  by_cases h7:t.K=7
  · have HN:Hid (bindsW t.K (bs t.S) (bs t.Z) i=[bs t.S]):=by show _=_;simp [bindsW,h7]
    rw [HN.out]
    go_enter Tryz.func62,Tryz.ntmps62
    go_wp2_with fail
    go_ret
    exact lit_1 _ _ _
  by_cases h6:t.K=6
  · by_cases hi1:i=1
    · have HN:Hid (bindsW t.K (bs t.S) (bs t.Z) i=[bs t.S]):=by show _=_;simp [bindsW,h6,hi1]
      have bi:((i:Int) == 1)=true:=by simp [hi1]
      rw [HN.out]
      clear hi1
      go_enter Tryz.func62,Tryz.ntmps62
      go_wp2_with fail
      go_ret
      exact lit_1 _ _ _
    · have HN:Hid (bindsW t.K (bs t.S) (bs t.Z) i=[]):=by show _=_;simp [bindsW,h6,hi1]
      have bi:((i:Int) == 1)=false:=by rw [beq_eq_false_iff_ne];omega
      rw [HN.out]
      clear hi1
      go_enter Tryz.func62,Tryz.ntmps62
      go_wp2_with fail
      go_ret
      exact lit_0 _ _
  by_cases h17:t.K=17
  · by_cases hi1:i=1
    · have HN:Hid (bindsW t.K (bs t.S) (bs t.Z) i=[bs t.S]):=by show _=_;simp [bindsW,h17,hi1]
      have bi:((i:Int) == 1)=true:=by simp [hi1]
      rw [HN.out]
      clear hi1
      go_enter Tryz.func62,Tryz.ntmps62
      go_wp2_with fail
      go_ret
      exact lit_1 _ _ _
    · have HN:Hid (bindsW t.K (bs t.S) (bs t.Z) i=[]):=by show _=_;simp [bindsW,h17,hi1]
      have bi:((i:Int) == 1)=false:=by rw [beq_eq_false_iff_ne];omega
      rw [HN.out]
      clear hi1
      go_enter Tryz.func62,Tryz.ntmps62
      go_wp2_with fail
      go_ret
      exact lit_0 _ _
  by_cases h14:t.K=14
  · by_cases hi2:i=2
    · have HN:Hid (bindsW t.K (bs t.S) (bs t.Z) i=[bs t.S,bs t.Z]):=by show _=_;simp [bindsW,h14,hi2]
      have bi:((i:Int) == 2)=true:=by simp [hi2]
      rw [HN.out]
      clear hi2
      go_enter Tryz.func62,Tryz.ntmps62
      go_wp2_with fail
      go_ret
      exact lit_2 _ _ _ _
    · have HN:Hid (bindsW t.K (bs t.S) (bs t.Z) i=[]):=by show _=_;simp [bindsW,h14,hi2]
      have bi:((i:Int) == 2)=false:=by rw [beq_eq_false_iff_ne];omega
      rw [HN.out]
      clear hi2
      go_enter Tryz.func62,Tryz.ntmps62
      go_wp2_with fail
      go_ret
      exact lit_0 _ _
  have HN:Hid (bindsW t.K (bs t.S) (bs t.Z) i=[]):=by show _=_;simp [bindsW,h4,h7,h6,h17,h14]
  have b4:(t.K == 4)=false:=by simp [h4]
  have b7:(t.K == 7)=false:=by simp [h7]
  have b6:(t.K == 6)=false:=by simp [h6]
  have b17:(t.K == 17)=false:=by simp [h17]
  have b14:(t.K == 14)=false:=by simp [h14]
  clear h4 h7 h6 h17 h14
  rw [HN.out]
  go_enter Tryz.func62,Tryz.ntmps62
  go_wp2_with fail
  go_ret
  exact lit_0 _ _
end Go.Proofs.YtcepgedbmffkdaaGreat

/-
  Free names in the model: 'l2Has', 'l2Binds'.
-/
namespace Go.Proofs.YtcepgedbmffkdaaGreat
open Go.RowKit
set_option linter.unusedVariables false
set_option linter.unusedSimpArgs false
set_option maxRecDepth 100000 in
set_option maxHeartbeats 1000000 in
theorem l2Has_any {base:Nat} (v:Value) (P:List (List UInt8)) (s:ByteArray) (w:World) (h:Toks base w v P) (hl:P.length≤100000) :
    Calls Tryz.prog 61 #[v,.string s] w fun e w'=>e=.returned (.bool (decide (bs s ∈ P)))∧w'=w:=by
  obtain ⟨ao,cap,rfl⟩:=toks_form h
  go_enter Tryz.func61,Tryz.ntmps61
  go_wp2_with fail
  go_loopw [5] (fun i wr=>∃ j:Nat,j≤P.length∧i=.int .i64 j∧wr=w∧Hid (∀ q (hq:q < P.length),q < j→P[q]≠bs s)) (fun i _=>P.length - (intOf i).toNat)
  case atStart=>exact ⟨0,by omega,rfl,rfl,fun q hq hj=>by omega⟩
  case round =>
    obtain ⟨j,hj,rfl,rfl,HN⟩:=hrel
    by_cases hlt:j < P.length
    · obtain ⟨g,cap',e,hg,hgw,hc⟩:=toks_at h j hlt
      injection e with e1 e2 e3
      subst e1
      subst e3
      rw [Nat.zero_add] at hc
      by_cases he:P[j]=bs s
      · have HE:Hid (decide (bs s ∈ P)=true):=by show _=_;simp;rw [← he];exact List.getElem_mem hlt
        rw [he,tk_bs] at hc
        clear he
        go_wp2_with fail
        go_ret
        exact ⟨ret_bool HE.out.symm,rfl⟩
      · have HN2:Hid (∀ q (hq:q < P.length),q < j+1→P[q]≠bs s):=fun q hq hj2=>by
          by_cases e:q=j
          · subst e;exact he
          · exact HN.out q hq (by omega)
        obtain ⟨z,hz⟩:∃ z:ByteArray,tk P[j]=.string z:=⟨_,rfl⟩
        have hzs:¬ z=s:=fun e=>he (by
          have:(⟨P[j].toArray⟩:ByteArray)=z:=by simpa [tk] using hz
          rw [e] at this
          rw [← this];simp [bs])
        have hzl:¬ z.toList=s.toList:=fun e=>hzs (ByteArray.ext (by rw [ByteArray.toList_eq,ByteArray.toList_eq] at e;exact Array.toList_inj.1 e))
        have hzb:(z.toList == s.toList)=false:=by rw [beq_eq_false_iff_ne];exact hzl
        rw [hz] at hc
        clear he hz hzl hzs
        go_wp2_with fail
        go_roundw
        case rel=>exact ⟨j+1,by omega,by go_num,by first | rfl | trivial,HN2⟩
        case measure=>simp [intOf];omega
    · have HE:Hid (decide (bs s ∈ P)=false):=by
        show _=_
        rw [decide_eq_false_iff_not]
        intro hm
        obtain ⟨q,hq,e⟩:=List.getElem_of_mem hm
        exact HN.out q hq (by omega) e
      go_wp2_with fail
      go_ret
      exact ⟨ret_bool HE.out.symm,rfl⟩
end Go.Proofs.YtcepgedbmffkdaaGreat
