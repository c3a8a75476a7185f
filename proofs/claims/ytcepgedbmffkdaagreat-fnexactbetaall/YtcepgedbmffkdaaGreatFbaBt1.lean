/-
  What comes in a term's place, of the model: 'l18Here'.
-/
import Derived.Test.YtcepgedbmffkdaaGreatFbaZ21
import Derived.Test.YtcepgedbmffkdaaGreatFbaZ34
import Derived.Test.YtcepgedbmffkdaaGreatFbaZ19
import Derived.Test.YtcepgedbmffkdaaGreatFbaZ26
import Derived.Deep.CutBlock
import Derived.Deep.RegionHeld3
import Derived.Test.YtcepgedbmffkdaaGreatFbaZ17
import Derived.Deep.QuietTactic
import Derived.BigQuiet
namespace Go.Proofs.YtcepgedbmffkdaaGreat
open Go.RowKit
set_option linter.unusedVariables false
set_option linter.unusedSimpArgs false
theorem drewB_heap (W:World):W.drew.heap=W.heap:=rfl
theorem toks_litB {base:Nat} {w:World} {g:Nat} (hg:w.heap[g]?=some (.cells #[] 9 (0,0))) (hb:base≤g):Toks base w (.slice (some ⟨g,0,none⟩) 0 0) [] :=
  ⟨rfl,Or.inr ⟨g,0,#[],rfl,hb,hg,by simp,by unfold maxLen;simp,by simp,by simp⟩⟩
def HereE (w w':World) (e:Ending) (r:Tm × Bool):Prop:=∃ (P:Tm) (za:Option Addr) (la ca:Nat) (zb:Option Addr) (lb cb:Nat) (zc:Option Addr) (lc cc:Nat),e=.returned (.tuple #[.agg #[.int .i64 P.K,.int .i64 P.N,.string P.S,.string P.Z,.int .i64 P.T.K,.int .i64 P.T.N,.slice za la ca,.slice zb lb cb,.slice zc lc cc],.bool r.2])∧Below w.heap.size w w'∧(r.2=true→P=r.1∧∃ D6 d6,FmO w.heap.size w'.heap.size w' D6 d6 P za la zb lb zc lc)
theorem hereM_A {t:Tm} (h:hereA t=true):hereM t=spR (freeW 24 (pa t 1) [] []) (pa t 1) (usesP (bs (pa t 0).S) 24 (pa (pa t 0) 0)) (pa (pa t 0) 0):=by unfold hereM;rw [if_pos h]
theorem hereM_L {t:Tm} (h:hereA t=false) (h2:hereL t=true):hereM t=spR (freeW 24 (pa t 0) [] []) (pa t 0) (usesP (bs t.S) 24 (pa t 1)) (pa t 1):=by unfold hereM;rw [if_neg (by rw [h];simp),if_pos h2]
theorem hereM_no {t:Tm} (h:hereA t=false) (h2:hereL t=false):hereM t=(t,false):=by unfold hereM;rw [if_neg (by rw [h];simp),if_neg (by rw [h2];simp)]
theorem paGet {t:Tm} {i:Nat} (hi:i < t.A.length):pa t i=t.A[i]:=by unfold pa;rw [List.getElem?_eq_getElem hi];rfl
theorem nodes24 {t:Tm} {m:Nat} (hm:nodesM 24 t=some m) {i:Nat} (hi:i < t.A.length):∃ a,nodesM 24 (pa t i)=some a∧a+1≤m:=by
  obtain ⟨a,ha,h2⟩:=(nodesM_get hm).2 i hi
  exact ⟨a,by rw [paGet hi];exact nodesM_more 23 _ _ ha,h2⟩
theorem cnt_pa {t:Tm} {i:Nat} (hi:i < t.A.length):cntM (pa t i)≤cntM t:=by
  rw [paGet hi]
  have:=cntMS_get t.A i hi
  have:=cntM_eq t
  omega
set_option maxRecDepth 100000 in
set_option maxHeartbeats 16000000 in
theorem sHere_any (SP:∀ l,SaidSput l) (D d L B:Nat) (t:Tm) (a1:Option Addr) (l1 c1:Nat) (a2:Option Addr) (l2 c2:Nat) (a3:Option Addr) (l3 c3:Nat) (m:Nat) (w:World) (hB:B≤w.heap.size) (hf:Fm L B w D d t a1 l1 a2 l2 a3 l3) (hm:nodesM 24 t=some m) (hm1:m≤1000) (hc:cntM t≤1048576) :
    Calls Tryz.prog 42 #[.agg #[.int .i64 t.K,.int .i64 t.N,.string t.S,.string t.Z,.int .i64 t.T.K,.int .i64 t.T.N,.slice a1 l1 c1,.slice a2 l2 c2,.slice a3 l3 c3]] w fun e w'=>HereE w w' e (hereM t):=by
  obtain ⟨X,hX⟩:∃ X,X=(w.alloc (.cells #[.int .i64 t.K,.int .i64 t.N,.string t.S,.string t.Z,.int .i64 t.T.K,.int .i64 t.T.N,.slice a1 l1 c1,.slice a2 l2 c2,.slice a3 l3 c3] 34)).alloc (.cells #[.int .i64 0,.int .i64 0,.string ⟨#[]⟩,.string ⟨#[]⟩,.int .i64 0,.int .i64 0,.slice none 0 0,.slice none 0 0,.slice none 0 0] 34):=⟨_,rfl⟩
  have hXs:X.heap.size=w.heap.size+2:=by rw [hX];simp
  have hXb:Below w.heap.size w X:=by rw [hX];exact ((Below.refl _ _).alloc (Nat.le_refl _) _).alloc (by simp) _
  have hX0:X.heap[w.heap.size]?=some (.cells #[.int .i64 t.K,.int .i64 t.N,.string t.S,.string t.Z,.int .i64 t.T.K,.int .i64 t.T.N,.slice a1 l1 c1,.slice a2 l2 c2,.slice a3 l3 c3] 34 (0,0)):=by rw [hX,Below.heap_alloc _ _ _ (by simp)];exact heap_new rfl
  have hX1:X.heap[w.heap.size+1]?=some (.cells #[.int .i64 0,.int .i64 0,.string ⟨#[]⟩,.string ⟨#[]⟩,.int .i64 0,.int .i64 0,.slice none 0 0,.slice none 0 0,.slice none 0 0] 34 (0,0)):=by rw [hX];exact heap_new (by simp)
  have HX:Hid (X=_):=hX
  clear hX
  have hBX:B≤X.heap.size:=by omega
  obtain ⟨hk1,hk2,hsh⟩:=nodeM_kinds (nodesM_get hm).1
  have HL:Hid (l3=t.A.length):=hf.m.len.1
  have HNO:Hid (∀ W W',Below X.heap.size X W→hereM t=(t,false)→W'=set9 W (w.heap.size+1) 0 (.int .i64 t.K) (.int .i64 t.N) (.string t.S) (.string t.Z) (.int .i64 t.T.K) (.int .i64 t.T.N) (.slice a1 l1 c1) (.slice a2 l2 c2) (.slice a3 l3 c3)→HereE w W' (.returned (.tuple #[.agg #[.int .i64 t.K,.int .i64 t.N,.string t.S,.string t.Z,.int .i64 t.T.K,.int .i64 t.T.N,.slice a1 l1 c1,.slice a2 l2 c2,.slice a3 l3 c3],.bool false])) (hereM t)):=fun W W' hW hno hW'=>by
    rw [hno]
    exact ⟨t,a1,l1,c1,a2,l2,c2,a3,l3,c3,rfl,by rw [hW'];exact set9_below (hXb.trans (hW.mono (by omega))) (by omega),fun h=>by cases h⟩
  by_cases h56:t.K≠5∧t.K≠6
  · have hA:hereA t=false:=by unfold hereA;simp [h56.1]
    have hLf:hereL t=false:=by unfold hereL;simp [h56.2]
    have h5:(t.K == 5)=false:=by simpa using h56.1
    have h6:(t.K == 6)=false:=by simpa using h56.2
    have HE:Hid (hereM t=(t,false)):=hereM_no hA hLf
    obtain ⟨x0,x1,x2,x3,x4,x5,x6,x7,x8⟩:=Nine.box hX0
    have HBX:Hid (∀ W,Below X.heap.size X W→W.cell? ⟨w.heap.size,0,none⟩=some (.int .i64 t.K)):=fun W hW=>(Nine.box ((hW.block _ (by omega)).trans hX0)).1
    clear hA hLf h56
    go_enter Tryz.func42,Tryz.ntmps42
    go_upto_region 1 with fail
    rw [← HX.out]
    have hlt0:w.heap.size < X.heap.size:=by omega
    refine wp_region_below (by kernel_rfl) (by kernel_rfl) ?_
    repeat (first | go_big_quiet_skip | (go_big_quiet_want;unfold Oper.quiet;apply Exists.intro;refine ⟨fun w' hC=>?_,?_⟩;(have cx0:=(bcell hC hlt0 0).trans x0;unfold Oper.quietAt;go_simp;first | exact rfl | exact ⟨rfl,rfl⟩);go_big_quiet_on;simp only [Act.put,List.setIfInBounds_toArray,List.set_cons_zero,List.set_cons_succ]))
    refine wpQuiet_nil ?_
    intro w3 hb1
    have hz1:=hb1.size
    clear x0 x1 x2 x3 x4 x5 x6 x7 x8
    obtain ⟨x0,x1,x2,x3,x4,x5,x6,x7,x8⟩:=Nine.box ((hb1.block _ (by omega)).trans hX0)
    have hlt1:w.heap.size < w3.heap.size:=by omega
    go_upto_region 3 with fail
    refine wp_region_below (by kernel_rfl) (by kernel_rfl) ?_
    repeat (first | go_big_quiet_skip | (go_big_quiet_want;unfold Oper.quiet;apply Exists.intro;refine ⟨fun w' hC=>?_,?_⟩;(have cx0:=(bcell hC hlt1 0).trans x0;unfold Oper.quietAt;go_simp;first | exact rfl | exact ⟨rfl,rfl⟩);go_big_quiet_on;simp only [Act.put,List.setIfInBounds_toArray,List.set_cons_zero,List.set_cons_succ]))
    refine wpQuiet_nil ?_
    intro w4 hb2
    have hbW:=hb1.trans (hb2.mono (by omega))
    clear x0 x1 x2 x3 x4 x5 x6 x7 x8
    obtain ⟨x0,x1,x2,x3,x4,x5,x6,x7,x8⟩:=Nine.box ((hbW.block w.heap.size (by omega)).trans hX0)
    have rr:=(hbW.block (w.heap.size+1) (by omega)).trans hX1
    obtain ⟨y0,y1,y2,y3,y4,y5,y6,y7,y8⟩:=Nine.box rr
    have yf:=row_free rr
    go_wp2_with fail
    (try simp only [Exit.inBlock,Exit.then]);refine bodyPost_ret (v:=.tuple #[.agg #[.int .i64 t.K,.int .i64 t.N,.string t.S,.string t.Z,.int .i64 t.T.K,.int .i64 t.T.N,.slice a1 l1 c1,.slice a2 l2 c2,.slice a3 l3 c3],.bool false]) (by simp [results,Tryz.results42,go_sem,y0,y1,y2,y3,y4,y5,y6,y7,y8]) rfl ?_
    exact HNO.out w4 _ hbW HE.out rfl
  by_cases h6:t.K=6
  · skip
    have hl:t.A.length=2:=by have h:=hsh;rw [h6] at h;have h2:shP 6=2:=rfl;omega
    obtain rfl:l3=2:=by have:=HL.out;omega
    obtain ⟨g,og,rfl,hgL,hgB,b1,m1,e1,b2,m2,e2,b3,m3,e3,y9,hf0⟩:=hf.m.get 0 (by omega)
    obtain ⟨g',og',heq,_,_,d1,n1,f1,d2,n2,f2,d3,n3,f3,z9,hf1⟩:=hf.m.get 1 (by omega)
    cases heq
    obtain ⟨q0,hq0,hq0m⟩:=nodes24 hm (i:=0) (by omega)
    obtain ⟨q1,hq1,hq1m⟩:=nodes24 hm (i:=1) (by omega)
    have hcp0:=cnt_pa (t:=t) (i:=0) (by omega)
    have hcp1:=cnt_pa (t:=t) (i:=1) (by omega)
    have hpa0:pa t 0=t.A[0]:=paGet (by omega)
    have hpa1:pa t 1=t.A[1]:=paGet (by omega)
    obtain ⟨p0,hp0⟩:∃ p0,t.A[0]=p0:=⟨_,rfl⟩
    obtain ⟨p1,hp1⟩:∃ p1,t.A[1]=p1:=⟨_,rfl⟩
    rw [hp0] at hpa0 hf0
    rw [hp1] at hpa1 hf1
    rw [hp0,Nat.zero_mul,Nat.add_zero] at y9
    rw [hp1,Nat.one_mul] at z9
    rw [hpa0] at hq0 hcp0
    rw [hpa1] at hq1 hcp1
    have hcp0':cntM p0≤1048576:=by omega
    have hcp1':cntM p1≤1048576:=by omega
    have hA:hereA t=false:=by unfold hereA;simp [h6]
    obtain ⟨pv,hpv⟩:∃ pv,pureM p0=pv:=⟨_,rfl⟩
    obtain ⟨u,hu⟩:∃ u,usesN (bs t.S) 24 p1=u:=⟨_,rfl⟩
    have hLv:hereL t=(pv && decide (u < 2)):=by unfold hereL;rw [hpa0,hpa1,hpv,hu];simp [h6]
    have h5b:(t.K == 5)=false:=by rw [h6];rfl
    have h6b:(t.K == 6)=true:=by rw [h6];rfl
    have hgw:g < w.heap.size:=by omega
    have HBX0:Hid (∀ W,Below X.heap.size X W→W.cell? ⟨w.heap.size,0,none⟩=some (.int .i64 t.K)):=fun W hW=>(Nine.box ((hW.block _ (by omega)).trans hX0)).1
    have HBX:Hid (∀ W:World,(∀ k,k < X.heap.size→k≠w.heap.size+1→W.heap[k]?=X.heap[k]?)→W.cell? ⟨w.heap.size,0,none⟩=some (.int .i64 t.K)∧W.cell? ⟨w.heap.size,2,none⟩=some (.string t.S)∧W.cell? ⟨w.heap.size,8,none⟩=some (.slice (some ⟨g,og,none⟩) 2 c3)∧W.cell? ⟨g,og,none⟩=some (.int .i64 p0.K)∧W.cell? ⟨g,og+1,none⟩=some (.int .i64 p0.N)∧W.cell? ⟨g,og+2,none⟩=some (.string p0.S)∧W.cell? ⟨g,og+3,none⟩=some (.string p0.Z)∧W.cell? ⟨g,og+4,none⟩=some (.int .i64 p0.T.K)∧W.cell? ⟨g,og+5,none⟩=some (.int .i64 p0.T.N)∧W.cell? ⟨g,og+6,none⟩=some (.slice b1 m1 e1)∧W.cell? ⟨g,og+7,none⟩=some (.slice b2 m2 e2)∧W.cell? ⟨g,og+8,none⟩=some (.slice b3 m3 e3)∧W.cell? ⟨g,og+9,none⟩=some (.int .i64 p1.K)∧W.cell? ⟨g,og+9+1,none⟩=some (.int .i64 p1.N)∧W.cell? ⟨g,og+9+2,none⟩=some (.string p1.S)∧W.cell? ⟨g,og+9+3,none⟩=some (.string p1.Z)∧W.cell? ⟨g,og+9+4,none⟩=some (.int .i64 p1.T.K)∧W.cell? ⟨g,og+9+5,none⟩=some (.int .i64 p1.T.N)∧W.cell? ⟨g,og+9+6,none⟩=some (.slice d1 n1 f1)∧W.cell? ⟨g,og+9+7,none⟩=some (.slice d2 n2 f2)∧W.cell? ⟨g,og+9+8,none⟩=some (.slice d3 n3 f3)):=fun W hW=>by
      obtain ⟨i0,i1,i2,i3,i4,i5,i6,i7,i8⟩:=Nine.box ((hW w.heap.size (by omega) (by omega)).trans hX0)
      have hg:W.heap[g]?=w.heap[g]?:=(hW g (by omega) (by omega)).trans (hXb.block g hgw)
      obtain ⟨j0,j1,j2,j3,j4,j5,j6,j7,j8⟩:=y9.world hg
      obtain ⟨k0,k1,k2,k3,k4,k5,k6,k7,k8⟩:=z9.world hg
      exact ⟨i0,i2,i8,j0,j1,j2,j3,j4,j5,j6,j7,j8,k0,k1,k2,k3,k4,k5,k6,k7,k8⟩
    have HPU:Hid (∀ W,Below X.heap.size X W→Calls Tryz.prog 63 #[.agg #[.int .i64 p0.K,.int .i64 p0.N,.string p0.S,.string p0.Z,.int .i64 p0.T.K,.int .i64 p0.T.N,.slice b1 m1 e1,.slice b2 m2 e2,.slice b3 m3 e3]] W fun e w'=>e=.returned (.bool pv)∧Below W.heap.size W w'∧Below X.heap.size X w'):=fun W hW=>by
      have hz:=hW.size
      refine (sPure_any D (d - 1) L B p0 b1 m1 e1 b2 m2 e2 b3 m3 e3 W (by omega) (Fm.below (hXb.trans (hW.mono (by omega))) hB hf0)).mono ?_
      rintro e w' ⟨rfl,hb⟩
      exact ⟨by rw [hpv],hb,hW.trans (hb.mono hz)⟩
    have HUS:Hid (∀ W,Below X.heap.size X W→Calls Tryz.prog 64 #[.agg #[.int .i64 p1.K,.int .i64 p1.N,.string p1.S,.string p1.Z,.int .i64 p1.T.K,.int .i64 p1.T.N,.slice d1 n1 f1,.slice d2 n2 f2,.slice d3 n3 f3],.string t.S] W fun e w'=>e=.returned (.int .i64 (u:Int))∧Below W.heap.size W w'∧Below X.heap.size X w'):=fun W hW=>by
      have hz:=hW.size
      refine (su_any 24 D (d - 1) L B p1 d1 n1 f1 d2 n2 f2 d3 n3 f3 q1 t.S W (by omega) (Fm.below (hXb.trans (hW.mono (by omega))) hB hf1) hq1 (by omega)).mono ?_
      rintro e w' ⟨rfl,hb⟩
      exact ⟨by rw [hu],hb,hW.trans (hb.mono hz)⟩
    obtain ⟨F,hF⟩:∃ F,freeW 24 p0 [] []=F:=⟨_,rfl⟩
    have hFl:F.length≤100000:=by
      have h1:=freeW_len 24 p0 q0 [] [] hq0
      rw [hF] at h1
      simp only [List.length_nil] at h1
      omega
    have HFREE:Hid (∀ (W:World) (va vb:Value),Below X.heap.size X W→Toks X.heap.size W va []→Toks X.heap.size W vb []→(∀ g,va.ownBlock=some g→vb.ownBlock≠some g)→Calls Tryz.prog 41 #[.agg #[.int .i64 p0.K,.int .i64 p0.N,.string p0.S,.string p0.Z,.int .i64 p0.T.K,.int .i64 p0.T.N,.slice b1 m1 e1,.slice b2 m2 e2,.slice b3 m3 e3],va,vb] W fun e w'=>∃ fo fc,e=.returned (.slice fo F.length fc)∧Below X.heap.size X w'∧Toks X.heap.size w' (.slice fo F.length fc) F):=fun W va vb hW hTa hTb hap=>by
      have hz:=hW.size
      refine (lf_any 24 D (d - 1) L B X.heap.size p0 b1 m1 e1 b2 m2 e2 b3 m3 e3 va vb [] [] q0 W (by omega) hz (Fm.below (hXb.trans (hW.mono (by omega))) hB hf0) hq0 hTa hTb hap (by simp) (by simp;omega)).mono ?_
      rintro e w' ⟨v',rfl,hk,hT⟩
      rw [hF] at hT
      obtain ⟨fo,fc,rfl⟩:=toks_form hT
      exact ⟨fo,fc,rfl,hW.trans (hk.below hTb hz),hT⟩
    obtain ⟨P,hP⟩:∃ P,(spR F p0 (usesP (bs t.S) 24 p1) p1).1=P:=⟨_,rfl⟩
    obtain ⟨ok,hokP⟩:∃ ok,(spR F p0 (usesP (bs t.S) 24 p1) p1).2=ok:=⟨_,rfl⟩
    have HSPR:Hid (spR F p0 (usesP (bs t.S) 24 p1) p1=(P,ok)):=Prod.ext hP hokP
    have HFV:Hid (freeW 24 p0 [] []=F):=hF
    have HPUT:Hid (∀ (W:World) (fo:Option Addr) (fc:Nat),Below X.heap.size X W→Toks X.heap.size W (.slice fo F.length fc) F→Calls Tryz.prog 65 #[.agg #[.int .i64 p1.K,.int .i64 p1.N,.string p1.S,.string p1.Z,.int .i64 p1.T.K,.int .i64 p1.T.N,.slice d1 n1 f1,.slice d2 n2 f2,.slice d3 n3 f3],.string t.S,.agg #[.int .i64 p0.K,.int .i64 p0.N,.string p0.S,.string p0.Z,.int .i64 p0.T.K,.int .i64 p0.T.N,.slice b1 m1 e1,.slice b2 m2 e2,.slice b3 m3 e3],.slice fo F.length fc] W fun e w'=>∃ (D6 d6:Nat) (za:Option Addr) (la ca:Nat) (zb:Option Addr) (lb cb:Nat) (zc:Option Addr) (lc cc:Nat),e=.returned (.tuple #[.agg #[.int .i64 P.K,.int .i64 P.N,.string P.S,.string P.Z,.int .i64 P.T.K,.int .i64 P.T.N,.slice za la ca,.slice zb lb cb,.slice zc lc cc],.bool ok])∧Below W.heap.size W w'∧FmO W.heap.size w'.heap.size w' D6 d6 P za la zb lb zc lc):=fun W fo fc hW hT=>by
      have hz:=hW.size
      have hbW:Below w.heap.size w W:=hXb.trans (hW.mono (by omega))
      have K:=SP 24 D (d - 1) L B D (d - 1) L B X.heap.size p1 p0 d1 n1 f1 d2 n2 f2 d3 n3 f3 b1 m1 e1 b2 m2 e2 b3 m3 e3 q1 t.S F fo F.length fc W (by omega) (by omega) (Fm.below hbW hB hf1) (Fm.below hbW hB hf0) hq1 (by omega) hcp1' hcp0' hT hFl
      rw [HSPR.out] at K
      exact K
    obtain ⟨nF,hnF⟩:∃ nF,F.length=nF:=⟨_,rfl⟩
    rw [hnF] at HFREE HPUT
    clear hF hP hokP hnF
    have HPA:Hid (pa t 0=p0∧pa t 1=p1):=⟨hpa0,hpa1⟩
    have HB0:Below X.heap.size X X:=Below.refl _ _
    clear y9 z9 hp0 hp1 hpa0 hpa1 hpv hu hf0 hf1 h6 hl hsh hk1 hk2 h56 hcp0 hcp1 hq0m hq1m hf hm hq0 hq1
    obtain ⟨x0,x1,x2,x3,x4,x5,x6,x7,x8⟩:=Nine.box hX0
    go_enter Tryz.func42,Tryz.ntmps42
    go_upto_region 1 with fail
    rw [← HX.out]
    have hlt0:w.heap.size < X.heap.size:=by omega
    refine wp_region_below (by kernel_rfl) (by kernel_rfl) ?_
    repeat (first | go_big_quiet_skip | (go_big_quiet_want;unfold Oper.quiet;apply Exists.intro;refine ⟨fun w' hC=>?_,?_⟩;(have cx0:=(bcell hC hlt0 0).trans x0;unfold Oper.quietAt;go_simp;first | exact rfl | exact ⟨rfl,rfl⟩);go_big_quiet_on;simp only [Act.put,List.setIfInBounds_toArray,List.set_cons_zero,List.set_cons_succ]))
    refine wpQuiet_nil ?_
    intro Y hb1
    have HB0:Below X.heap.size X Y:=hb1
    have hz1:=hb1.size
    clear x0 x1 x2 x3 x4 x5 x6 x7 x8
    obtain ⟨x0,x1,x2,x3,x4,x5,x6,x7,x8⟩:=Nine.box ((HB0.block w.heap.size (by omega)).trans hX0)
    have hltY:w.heap.size < Y.heap.size:=by omega
    have hltG:g < Y.heap.size:=by omega
    obtain ⟨i0,i2,i8,j0,j1,j2,j3,j4,j5,j6,j7,j8,k0,k1,k2,k3,k4,k5,k6,k7,k8⟩:=HBX.out Y (fun k h1 _=>HB0.block k h1)
    have HPY:Hid (∀ W,Below Y.heap.size Y W→Calls Tryz.prog 63 #[.agg #[.int .i64 p0.K,.int .i64 p0.N,.string p0.S,.string p0.Z,.int .i64 p0.T.K,.int .i64 p0.T.N,.slice b1 m1 e1,.slice b2 m2 e2,.slice b3 m3 e3]] W fun e w'=>e=.returned (.bool pv)∧Below Y.heap.size Y w'):=fun W hW=>(HPU.out W (HB0.trans (hW.mono hz1))).mono fun e w' ⟨h1,h2,_⟩=>⟨h1,hW.trans (h2.mono hW.size)⟩
    have HUY:Hid (∀ W,Below Y.heap.size Y W→Calls Tryz.prog 64 #[.agg #[.int .i64 p1.K,.int .i64 p1.N,.string p1.S,.string p1.Z,.int .i64 p1.T.K,.int .i64 p1.T.N,.slice d1 n1 f1,.slice d2 n2 f2,.slice d3 n3 f3],.string t.S] W fun e w'=>e=.returned (.int .i64 (u:Int))∧Below Y.heap.size Y w'):=fun W hW=>(HUS.out W (HB0.trans (hW.mono hz1))).mono fun e w' ⟨h1,h2,_⟩=>⟨h1,hW.trans (h2.mono hW.size)⟩
    go_upto_region 3 with fail
    go_cut [65] from 66 (fun c wy=>c=.bool (pv && decide (u < 2))∧Below Y.heap.size Y wy)
    case first =>
      cases pv with
      | false =>
        refine wp_region_below (by kernel_rfl) (by kernel_rfl) ?_
        repeat (first | go_big_quiet_skip | (go_big_quiet_want;unfold Oper.quiet;apply Exists.intro;refine ⟨fun w' hC=>?_,?_⟩;(have ci0:=(bcell hC hltY 0).trans i0;have ci2:=(bcell hC hltY 2).trans i2;have ci8:=(bcell hC hltY 8).trans i8;have cj0:=(bcell hC hltG (og)).trans j0;have cj1:=(bcell hC hltG (og+1)).trans j1;have cj2:=(bcell hC hltG (og+2)).trans j2;have cj3:=(bcell hC hltG (og+3)).trans j3;have cj4:=(bcell hC hltG (og+4)).trans j4;have cj5:=(bcell hC hltG (og+5)).trans j5;have cj6:=(bcell hC hltG (og+6)).trans j6;have cj7:=(bcell hC hltG (og+7)).trans j7;have cj8:=(bcell hC hltG (og+8)).trans j8;have ck0:=(bcell hC hltG (og+9)).trans k0;have ck1:=(bcell hC hltG (og+9+1)).trans k1;have ck2:=(bcell hC hltG (og+9+2)).trans k2;have ck3:=(bcell hC hltG (og+9+3)).trans k3;have ck4:=(bcell hC hltG (og+9+4)).trans k4;have ck5:=(bcell hC hltG (og+9+5)).trans k5;have ck6:=(bcell hC hltG (og+9+6)).trans k6;have ck7:=(bcell hC hltG (og+9+7)).trans k7;have ck8:=(bcell hC hltG (og+9+8)).trans k8;unfold Oper.quietAt;go_simp;first | exact rfl | exact ⟨rfl,rfl⟩ | (go_at_call 63;exact HPY.out _ hC));go_big_quiet_on;simp only [Act.put,List.setIfInBounds_toArray,List.set_cons_zero,List.set_cons_succ]))
        refine wpQuiet_nil ?_
        intro w7 hb7
        go_wp2_with fail
        go_meet
        exact ⟨rfl,hb7⟩
      | true =>
        by_cases hu2:u < 2
        · have hui:(u:Int) < 2:=by omega
          refine wp_region_below (by kernel_rfl) (by kernel_rfl) ?_
          repeat (first | go_big_quiet_skip | (go_big_quiet_want;unfold Oper.quiet;apply Exists.intro;refine ⟨fun w' hC=>?_,?_⟩;(have ci0:=(bcell hC hltY 0).trans i0;have ci2:=(bcell hC hltY 2).trans i2;have ci8:=(bcell hC hltY 8).trans i8;have cj0:=(bcell hC hltG (og)).trans j0;have cj1:=(bcell hC hltG (og+1)).trans j1;have cj2:=(bcell hC hltG (og+2)).trans j2;have cj3:=(bcell hC hltG (og+3)).trans j3;have cj4:=(bcell hC hltG (og+4)).trans j4;have cj5:=(bcell hC hltG (og+5)).trans j5;have cj6:=(bcell hC hltG (og+6)).trans j6;have cj7:=(bcell hC hltG (og+7)).trans j7;have cj8:=(bcell hC hltG (og+8)).trans j8;have ck0:=(bcell hC hltG (og+9)).trans k0;have ck1:=(bcell hC hltG (og+9+1)).trans k1;have ck2:=(bcell hC hltG (og+9+2)).trans k2;have ck3:=(bcell hC hltG (og+9+3)).trans k3;have ck4:=(bcell hC hltG (og+9+4)).trans k4;have ck5:=(bcell hC hltG (og+9+5)).trans k5;have ck6:=(bcell hC hltG (og+9+6)).trans k6;have ck7:=(bcell hC hltG (og+9+7)).trans k7;have ck8:=(bcell hC hltG (og+9+8)).trans k8;unfold Oper.quietAt;go_simp;first | exact rfl | exact ⟨rfl,rfl⟩ | (go_at_call 63;exact HPY.out _ hC) | (go_at_call 64;exact HUY.out _ hC));go_big_quiet_on;simp only [Act.put,List.setIfInBounds_toArray,List.set_cons_zero,List.set_cons_succ]))
          refine wpQuiet_nil ?_
          intro w7 hb7
          go_wp2_with fail
          go_meet
          exact ⟨by simp [hu2],hb7⟩
        · have hui:¬ (u:Int) < 2:=by omega
          refine wp_region_below (by kernel_rfl) (by kernel_rfl) ?_
          repeat (first | go_big_quiet_skip | (go_big_quiet_want;unfold Oper.quiet;apply Exists.intro;refine ⟨fun w' hC=>?_,?_⟩;(have ci0:=(bcell hC hltY 0).trans i0;have ci2:=(bcell hC hltY 2).trans i2;have ci8:=(bcell hC hltY 8).trans i8;have cj0:=(bcell hC hltG (og)).trans j0;have cj1:=(bcell hC hltG (og+1)).trans j1;have cj2:=(bcell hC hltG (og+2)).trans j2;have cj3:=(bcell hC hltG (og+3)).trans j3;have cj4:=(bcell hC hltG (og+4)).trans j4;have cj5:=(bcell hC hltG (og+5)).trans j5;have cj6:=(bcell hC hltG (og+6)).trans j6;have cj7:=(bcell hC hltG (og+7)).trans j7;have cj8:=(bcell hC hltG (og+8)).trans j8;have ck0:=(bcell hC hltG (og+9)).trans k0;have ck1:=(bcell hC hltG (og+9+1)).trans k1;have ck2:=(bcell hC hltG (og+9+2)).trans k2;have ck3:=(bcell hC hltG (og+9+3)).trans k3;have ck4:=(bcell hC hltG (og+9+4)).trans k4;have ck5:=(bcell hC hltG (og+9+5)).trans k5;have ck6:=(bcell hC hltG (og+9+6)).trans k6;have ck7:=(bcell hC hltG (og+9+7)).trans k7;have ck8:=(bcell hC hltG (og+9+8)).trans k8;unfold Oper.quietAt;go_simp;first | exact rfl | exact ⟨rfl,rfl⟩ | (go_at_call 63;exact HPY.out _ hC) | (go_at_call 64;exact HUY.out _ hC));go_big_quiet_on;simp only [Act.put,List.setIfInBounds_toArray,List.set_cons_zero,List.set_cons_succ]))
          refine wpQuiet_nil ?_
          intro w7 hb7
          go_wp2_with fail
          go_meet
          exact ⟨by simp [hu2],hb7⟩
    case rest =>
      obtain ⟨rfl,hb2⟩:=hcut
      obtain ⟨Z,hY⟩:∃ Y,Y=wc:=⟨_,rfl⟩
      rw [← hY] at hb2 ⊢
      clear hY
      have HB0:Below X.heap.size X Z:=hb1.trans (hb2.mono hz1)
      have hzz:=HB0.size
      clear x0 x1 x2 x3 x4 x5 x6 x7 x8
      obtain ⟨x0,x1,x2,x3,x4,x5,x6,x7,x8⟩:=Nine.box ((HB0.block w.heap.size (by omega)).trans hX0)
      cases hval:(pv && decide (u < 2)) with
      | false =>
        have HE:Hid (hereM t=(t,false)):=hereM_no hA (hLv.trans hval)
        have hbW:=HB0
        clear x0 x1 x2 x3 x4 x5 x6 x7 x8
        obtain ⟨x0,x1,x2,x3,x4,x5,x6,x7,x8⟩:=Nine.box ((hbW.block w.heap.size (by omega)).trans hX0)
        have rr:=(hbW.block (w.heap.size+1) (by omega)).trans hX1
        obtain ⟨y0,y1,y2,y3,y4,y5,y6,y7,y8⟩:=Nine.box rr
        have yf:=row_free rr
        go_wp2_with fail
        (try simp only [Exit.inBlock,Exit.then]);refine bodyPost_ret (v:=.tuple #[.agg #[.int .i64 t.K,.int .i64 t.N,.string t.S,.string t.Z,.int .i64 t.T.K,.int .i64 t.T.N,.slice a1 l1 c1,.slice a2 l2 c2,.slice (some ⟨g,og,none⟩) 2 c3],.bool false]) (by simp [results,Tryz.results42,go_sem,y0,y1,y2,y3,y4,y5,y6,y7,y8]) rfl ?_
        exact HNO.out Z _ hbW HE.out rfl
      | true =>
        have hLt:=hLv.trans hval
        clear hval
        go_upto_region 4 with fail
        go_region_held3 (fun W=>W.cell? ⟨w.heap.size,0,none⟩=some (.int .i64 t.K)∧W.cell? ⟨w.heap.size,2,none⟩=some (.string t.S)∧W.cell? ⟨w.heap.size,8,none⟩=some (.slice (some ⟨g,og,none⟩) 2 c3)∧W.cell? ⟨g,og,none⟩=some (.int .i64 p0.K)∧W.cell? ⟨g,og+1,none⟩=some (.int .i64 p0.N)∧W.cell? ⟨g,og+2,none⟩=some (.string p0.S)∧W.cell? ⟨g,og+3,none⟩=some (.string p0.Z)∧W.cell? ⟨g,og+4,none⟩=some (.int .i64 p0.T.K)∧W.cell? ⟨g,og+5,none⟩=some (.int .i64 p0.T.N)∧W.cell? ⟨g,og+6,none⟩=some (.slice b1 m1 e1)∧W.cell? ⟨g,og+7,none⟩=some (.slice b2 m2 e2)∧W.cell? ⟨g,og+8,none⟩=some (.slice b3 m3 e3)∧W.cell? ⟨g,og+9,none⟩=some (.int .i64 p1.K)∧W.cell? ⟨g,og+9+1,none⟩=some (.int .i64 p1.N)∧W.cell? ⟨g,og+9+2,none⟩=some (.string p1.S)∧W.cell? ⟨g,og+9+3,none⟩=some (.string p1.Z)∧W.cell? ⟨g,og+9+4,none⟩=some (.int .i64 p1.T.K)∧W.cell? ⟨g,og+9+5,none⟩=some (.int .i64 p1.T.N)∧W.cell? ⟨g,og+9+6,none⟩=some (.slice d1 n1 f1)∧W.cell? ⟨g,og+9+7,none⟩=some (.slice d2 n2 f2)∧W.cell? ⟨g,og+9+8,none⟩=some (.slice d3 n3 f3))
          (first | with_reducible exact HBX.out _ (fun k h1 _=>hb27.block k h1) | with_reducible exact HBX.out _ (fun k h1 _=>hb26.block k h1) | with_reducible exact HBX.out _ (fun k h1 _=>HB0.block k h1) | with_reducible exact HBX.out _ (fun k h1 _=>HB0.drew.block k h1) | (with_reducible refine HBX.out _ (fun k h1 h2=>?_);(first | (with_reducible refine (nest9_otherS _ _ _ _ _ _ _ _ _ _ _ k h2).trans ?_;with_reducible exact hb27.block k h1) | with_reducible exact Below.block (B:=X.heap.size) (by (repeat (first | with_reducible exact Below.refl _ _ | with_reducible exact hb27  | with_reducible exact hb26  | with_reducible exact HB0 | with_reducible refine Below.drew ?_ | (with_reducible refine Below.alloc ?_ (by first | (simp only [World.size_alloc,World.size_drew,drewB_heap];omega) | omega | (simp;done) | (simp;omega)) _)))) k h1)))
          (first
            | (go_at_call 65;(with_reducible refine Calls.mono (HPUT.out _ _ _ ?_ ?_) ?_);(repeat (first | with_reducible exact Below.refl _ _ | with_reducible exact hb26 | with_reducible refine Below.drew ?_ | (with_reducible refine Below.alloc ?_ (by first | (simp only [World.size_alloc,World.size_drew,drewB_heap];omega) | omega | (simp;done) | (simp;omega)) _)));with_reducible exact hT6;rintro e w7 ⟨D6,d6,za,la,ca,zb,lb,cb,zc,lc,cc,rfl,hb7,hO7⟩;have hz7:=hb7.size;have hb27:Below X.heap.size X w7:=hb26.trans (hb7.mono hz6);have rr:=(hb27.block (w.heap.size+1) (by omega)).trans hX1;have hnn:=Nine.box rr;have yf:=row_free rr;obtain ⟨y0,y1,y2,y3,y4,y5,y6,y7,y8⟩:=hnn)
            | (go_at_call 41;(with_reducible refine Calls.mono (HFREE.out _ _ _ ?_ ?_ ?_ ?_) ?_);(repeat (first | with_reducible exact Below.refl _ _ | with_reducible exact HB0 | with_reducible refine Below.drew ?_ | (with_reducible refine Below.alloc ?_ (by first | (simp only [World.size_alloc,World.size_drew,drewB_heap];omega) | omega | (simp;done) | (simp;omega)) _)));exact toks_litB (by ((try rw [drewB_heap]);(first | exact heap_new (by first | (simp only [World.size_alloc,World.size_drew,drewB_heap];omega) | omega | (simp;done) | (simp;omega)) | (rw [Below.heap_alloc _ _ _ (by first | (simp only [World.size_alloc,World.size_drew,drewB_heap];omega) | omega | (simp;done) | (simp;omega))];exact heap_new (by first | (simp only [World.size_alloc,World.size_drew,drewB_heap];omega) | omega | (simp;done) | (simp;omega)))))) (by first | (simp only [World.size_alloc,World.size_drew,drewB_heap];omega) | omega | (simp;done) | (simp;omega));exact toks_litB (by ((try rw [drewB_heap]);(first | exact heap_new (by first | (simp only [World.size_alloc,World.size_drew,drewB_heap];omega) | omega | (simp;done) | (simp;omega)) | (rw [Below.heap_alloc _ _ _ (by first | (simp only [World.size_alloc,World.size_drew,drewB_heap];omega) | omega | (simp;done) | (simp;omega))];exact heap_new (by first | (simp only [World.size_alloc,World.size_drew,drewB_heap];omega) | omega | (simp;done) | (simp;omega)))))) (by first | (simp only [World.size_alloc,World.size_drew,drewB_heap];omega) | omega | (simp;done) | (simp;omega));(intro g hg e;(first | (simp [Value.ownBlock] at hg e;done) | (simp [Value.ownBlock] at hg e;omega)));rintro e w6 ⟨fo,fc,rfl,hb26,hT6⟩;have hz6:=hb26.size))
        all_goals
          have HFIN:Hid (∀ W',W'=set9 w7 (w.heap.size+1) 0 (.int .i64 P.K) (.int .i64 P.N) (.string P.S) (.string P.Z) (.int .i64 P.T.K) (.int .i64 P.T.N) (.slice za la ca) (.slice zb lb cb) (.slice zc lc cc)→HereE w W' (.returned (.tuple #[.agg #[.int .i64 P.K,.int .i64 P.N,.string P.S,.string P.Z,.int .i64 P.T.K,.int .i64 P.T.N,.slice za la ca,.slice zb lb cb,.slice zc lc cc],.bool ok])) (hereM t)):=fun W' hW'=>by
            rw [hereM_L hA hLt,HPA.out.1,HPA.out.2,HFV.out,HSPR.out]
            have hWo:∀ g,g≠w.heap.size+1→W'.heap[g]?=w7.heap[g]?:=fun g hg=>by rw [hW'];exact set9_other g hg
            have hWs:W'.heap.size=w7.heap.size:=by rw [hW'];exact set9_size _ _ _ _ _ _ _ _ _ _ _ _
            have hWb:Below w.heap.size w W':=by rw [hW'];exact set9_below (hXb.trans (hb27.mono (by omega))) (by omega)
            obtain ⟨bn,hfO,hnd,hrg⟩:=hO7
            exact ⟨P,za,la,ca,zb,lb,cb,zc,lc,cc,rfl,hWb,fun _=>⟨rfl,D6,d6,bn,FldO.keep (fun g hg=>hWo g (by have:=(hrg g hg).1;omega)) hfO,hnd,fun g hg=>⟨by have:=(hrg g hg).1;omega,by have:=(hrg g hg).2;omega⟩⟩⟩
          go_wp2_with fail
          (try simp only [Exit.inBlock,Exit.then]);refine bodyPost_ret (v:=.tuple #[.agg #[.int .i64 P.K,.int .i64 P.N,.string P.S,.string P.Z,.int .i64 P.T.K,.int .i64 P.T.N,.slice za la ca,.slice zb lb cb,.slice zc lc cc],.bool ok]) (by simp [results,Tryz.results42,go_sem,y0,y1,y2,y3,y4,y5,y6,y7,y8]) rfl ?_
          exact HFIN.out _ rfl
  · skip
    have h5:t.K=5:=by omega
    have hl:t.A.length=2:=by have h:=hsh;rw [h5] at h;have h2:shP 5=2:=rfl;omega
    obtain rfl:l3=2:=by have:=HL.out;omega
    obtain ⟨g,og,rfl,hgL,hgB,b1,m1,e1,b2,m2,e2,b3,m3,e3,y9,hf0⟩:=hf.m.get 0 (by omega)
    obtain ⟨g',og',heq,_,_,d1,n1,f1,d2,n2,f2,d3,n3,f3,z9,hf1⟩:=hf.m.get 1 (by omega)
    cases heq
    obtain ⟨q0,hq0,hq0m⟩:=nodes24 hm (i:=0) (by omega)
    obtain ⟨q1,hq1,hq1m⟩:=nodes24 hm (i:=1) (by omega)
    have hcp0:=cnt_pa (t:=t) (i:=0) (by omega)
    have hcp1:=cnt_pa (t:=t) (i:=1) (by omega)
    have hpa0:pa t 0=t.A[0]:=paGet (by omega)
    have hpa1:pa t 1=t.A[1]:=paGet (by omega)
    obtain ⟨p0,hp0⟩:∃ p0,t.A[0]=p0:=⟨_,rfl⟩
    obtain ⟨p1,hp1⟩:∃ p1,t.A[1]=p1:=⟨_,rfl⟩
    rw [hp0] at hpa0 hf0
    rw [hp1] at hpa1 hf1
    rw [hp0,Nat.zero_mul,Nat.add_zero] at y9
    rw [hp1,Nat.one_mul] at z9
    rw [hpa0] at hq0 hcp0
    rw [hpa1] at hq1 hcp1
    have hLf:hereL t=false:=by unfold hereL;simp [h5]
    have h5b:(t.K == 5)=true:=by rw [h5];rfl
    have h6b:(t.K == 6)=false:=by rw [h5];rfl
    have hgw:g < w.heap.size:=by omega
    have HBX0:Hid (∀ W,Below X.heap.size X W→W.cell? ⟨w.heap.size,0,none⟩=some (.int .i64 t.K)):=fun W hW=>(Nine.box ((hW.block _ (by omega)).trans hX0)).1
    by_cases h4:p0.K=4
    · have hl0:p0.A.length=1:=by have h:=(nodeM_kinds (nodesM_get hq0).1).2.2;rw [h4] at h;have h2:shP 4=1:=rfl;omega
      obtain rfl:m3=1:=by have:=hf0.m.len.1;omega
      obtain ⟨g2,og2,rfl,hg2L,hg2B,h1,o1,i1,h2,o2,i2,h3,o3,i3,v9,hfb⟩:=hf0.m.get 0 (by omega)
      obtain ⟨qb,hqb,hqbm⟩:=nodes24 hq0 (i:=0) (by omega)
      have hcpb:=cnt_pa (t:=p0) (i:=0) (by omega)
      have hpab:pa p0 0=p0.A[0]:=paGet (by omega)
      obtain ⟨pb,hpb⟩:∃ pb,p0.A[0]=pb:=⟨_,rfl⟩
      rw [hpb] at hpab hfb
      rw [hpb,Nat.zero_mul,Nat.add_zero] at v9
      rw [hpab] at hqb hcpb
      have hcpb':cntM pb≤1048576:=by omega
      have hcp1':cntM p1≤1048576:=by omega
      obtain ⟨pv,hpv⟩:∃ pv,pureM p1=pv:=⟨_,rfl⟩
      obtain ⟨u,hu⟩:∃ u,usesN (bs p0.S) 24 pb=u:=⟨_,rfl⟩
      have hAv:hereA t=(pv && decide (u < 2)):=by unfold hereA;rw [hpa0,hpa1,hpab,hpv,hu];simp [h5,h4]
      have h4b:(p0.K == 4)=true:=by rw [h4];rfl
      have hg2w:g2 < w.heap.size:=by omega
      have HBX:Hid (∀ W:World,(∀ k,k < X.heap.size→k≠w.heap.size+1→W.heap[k]?=X.heap[k]?)→W.cell? ⟨w.heap.size,0,none⟩=some (.int .i64 t.K)∧W.cell? ⟨w.heap.size,8,none⟩=some (.slice (some ⟨g,og,none⟩) 2 c3)∧W.cell? ⟨g,og,none⟩=some (.int .i64 p0.K)∧W.cell? ⟨g,og+2,none⟩=some (.string p0.S)∧W.cell? ⟨g,og+8,none⟩=some (.slice (some ⟨g2,og2,none⟩) 1 e3)∧W.cell? ⟨g,og+9,none⟩=some (.int .i64 p1.K)∧W.cell? ⟨g,og+9+1,none⟩=some (.int .i64 p1.N)∧W.cell? ⟨g,og+9+2,none⟩=some (.string p1.S)∧W.cell? ⟨g,og+9+3,none⟩=some (.string p1.Z)∧W.cell? ⟨g,og+9+4,none⟩=some (.int .i64 p1.T.K)∧W.cell? ⟨g,og+9+5,none⟩=some (.int .i64 p1.T.N)∧W.cell? ⟨g,og+9+6,none⟩=some (.slice d1 n1 f1)∧W.cell? ⟨g,og+9+7,none⟩=some (.slice d2 n2 f2)∧W.cell? ⟨g,og+9+8,none⟩=some (.slice d3 n3 f3)∧W.cell? ⟨g2,og2,none⟩=some (.int .i64 pb.K)∧W.cell? ⟨g2,og2+1,none⟩=some (.int .i64 pb.N)∧W.cell? ⟨g2,og2+2,none⟩=some (.string pb.S)∧W.cell? ⟨g2,og2+3,none⟩=some (.string pb.Z)∧W.cell? ⟨g2,og2+4,none⟩=some (.int .i64 pb.T.K)∧W.cell? ⟨g2,og2+5,none⟩=some (.int .i64 pb.T.N)∧W.cell? ⟨g2,og2+6,none⟩=some (.slice h1 o1 i1)∧W.cell? ⟨g2,og2+7,none⟩=some (.slice h2 o2 i2)∧W.cell? ⟨g2,og2+8,none⟩=some (.slice h3 o3 i3)):=fun W hW=>by
        obtain ⟨i0,i1,i2,i3,i4,i5,i6,i7,i8⟩:=Nine.box ((hW w.heap.size (by omega) (by omega)).trans hX0)
        have hg:W.heap[g]?=w.heap[g]?:=(hW g (by omega) (by omega)).trans (hXb.block g hgw)
        have hg2:W.heap[g2]?=w.heap[g2]?:=(hW g2 (by omega) (by omega)).trans (hXb.block g2 hg2w)
        obtain ⟨j0,j1,j2,j3,j4,j5,j6,j7,j8⟩:=y9.world hg
        obtain ⟨k0,k1,k2,k3,k4,k5,k6,k7,k8⟩:=z9.world hg
        obtain ⟨v0,v1,v2,v3,v4,v5,v6,v7,v8⟩:=v9.world hg2
        exact ⟨i0,i8,j0,j2,j8,k0,k1,k2,k3,k4,k5,k6,k7,k8,v0,v1,v2,v3,v4,v5,v6,v7,v8⟩
      have HPU:Hid (∀ W,Below X.heap.size X W→Calls Tryz.prog 63 #[.agg #[.int .i64 p1.K,.int .i64 p1.N,.string p1.S,.string p1.Z,.int .i64 p1.T.K,.int .i64 p1.T.N,.slice d1 n1 f1,.slice d2 n2 f2,.slice d3 n3 f3]] W fun e w'=>e=.returned (.bool pv)∧Below W.heap.size W w'∧Below X.heap.size X w'):=fun W hW=>by
        have hz:=hW.size
        refine (sPure_any D (d - 1) L B p1 d1 n1 f1 d2 n2 f2 d3 n3 f3 W (by omega) (Fm.below (hXb.trans (hW.mono (by omega))) hB hf1)).mono ?_
        rintro e w' ⟨rfl,hb⟩
        exact ⟨by rw [hpv],hb,hW.trans (hb.mono hz)⟩
      have HUS:Hid (∀ W,Below X.heap.size X W→Calls Tryz.prog 64 #[.agg #[.int .i64 pb.K,.int .i64 pb.N,.string pb.S,.string pb.Z,.int .i64 pb.T.K,.int .i64 pb.T.N,.slice h1 o1 i1,.slice h2 o2 i2,.slice h3 o3 i3],.string p0.S] W fun e w'=>e=.returned (.int .i64 (u:Int))∧Below W.heap.size W w'∧Below X.heap.size X w'):=fun W hW=>by
        have hz:=hW.size
        refine (su_any 24 D (d - 1 - 1) L B pb h1 o1 i1 h2 o2 i2 h3 o3 i3 qb p0.S W (by omega) (Fm.below (hXb.trans (hW.mono (by omega))) hB hfb) hqb (by omega)).mono ?_
        rintro e w' ⟨rfl,hb⟩
        exact ⟨by rw [hu],hb,hW.trans (hb.mono hz)⟩
      obtain ⟨F,hF⟩:∃ F,freeW 24 p1 [] []=F:=⟨_,rfl⟩
      have hFl:F.length≤100000:=by
        have h1:=freeW_len 24 p1 q1 [] [] hq1
        rw [hF] at h1
        simp only [List.length_nil] at h1
        omega
      have HFREE:Hid (∀ (W:World) (va vb:Value),Below X.heap.size X W→Toks X.heap.size W va []→Toks X.heap.size W vb []→(∀ g,va.ownBlock=some g→vb.ownBlock≠some g)→Calls Tryz.prog 41 #[.agg #[.int .i64 p1.K,.int .i64 p1.N,.string p1.S,.string p1.Z,.int .i64 p1.T.K,.int .i64 p1.T.N,.slice d1 n1 f1,.slice d2 n2 f2,.slice d3 n3 f3],va,vb] W fun e w'=>∃ fo fc,e=.returned (.slice fo F.length fc)∧Below X.heap.size X w'∧Toks X.heap.size w' (.slice fo F.length fc) F):=fun W va vb hW hTa hTb hap=>by
        have hz:=hW.size
        refine (lf_any 24 D (d - 1) L B X.heap.size p1 d1 n1 f1 d2 n2 f2 d3 n3 f3 va vb [] [] q1 W (by omega) hz (Fm.below (hXb.trans (hW.mono (by omega))) hB hf1) hq1 hTa hTb hap (by simp) (by simp;omega)).mono ?_
        rintro e w' ⟨v',rfl,hk,hT⟩
        rw [hF] at hT
        obtain ⟨fo,fc,rfl⟩:=toks_form hT
        exact ⟨fo,fc,rfl,hW.trans (hk.below hTb hz),hT⟩
      obtain ⟨P,hP⟩:∃ P,(spR F p1 (usesP (bs p0.S) 24 pb) pb).1=P:=⟨_,rfl⟩
      obtain ⟨ok,hokP⟩:∃ ok,(spR F p1 (usesP (bs p0.S) 24 pb) pb).2=ok:=⟨_,rfl⟩
      have HSPR:Hid (spR F p1 (usesP (bs p0.S) 24 pb) pb=(P,ok)):=Prod.ext hP hokP
      have HFV:Hid (freeW 24 p1 [] []=F):=hF
      have HPUT:Hid (∀ (W:World) (fo:Option Addr) (fc:Nat),Below X.heap.size X W→Toks X.heap.size W (.slice fo F.length fc) F→Calls Tryz.prog 65 #[.agg #[.int .i64 pb.K,.int .i64 pb.N,.string pb.S,.string pb.Z,.int .i64 pb.T.K,.int .i64 pb.T.N,.slice h1 o1 i1,.slice h2 o2 i2,.slice h3 o3 i3],.string p0.S,.agg #[.int .i64 p1.K,.int .i64 p1.N,.string p1.S,.string p1.Z,.int .i64 p1.T.K,.int .i64 p1.T.N,.slice d1 n1 f1,.slice d2 n2 f2,.slice d3 n3 f3],.slice fo F.length fc] W fun e w'=>∃ (D6 d6:Nat) (za:Option Addr) (la ca:Nat) (zb:Option Addr) (lb cb:Nat) (zc:Option Addr) (lc cc:Nat),e=.returned (.tuple #[.agg #[.int .i64 P.K,.int .i64 P.N,.string P.S,.string P.Z,.int .i64 P.T.K,.int .i64 P.T.N,.slice za la ca,.slice zb lb cb,.slice zc lc cc],.bool ok])∧Below W.heap.size W w'∧FmO W.heap.size w'.heap.size w' D6 d6 P za la zb lb zc lc):=fun W fo fc hW hT=>by
        have hz:=hW.size
        have hbW:Below w.heap.size w W:=hXb.trans (hW.mono (by omega))
        have K:=SP 24 D (d - 1 - 1) L B D (d - 1) L B X.heap.size pb p1 h1 o1 i1 h2 o2 i2 h3 o3 i3 d1 n1 f1 d2 n2 f2 d3 n3 f3 qb p0.S F fo F.length fc W (by omega) (by omega) (Fm.below hbW hB hfb) (Fm.below hbW hB hf1) hqb (by omega) hcpb' hcp1' hT hFl
        rw [HSPR.out] at K
        exact K
      obtain ⟨nF,hnF⟩:∃ nF,F.length=nF:=⟨_,rfl⟩
      rw [hnF] at HFREE HPUT
      clear hF hP hokP hnF
      have hXge:w.heap.size+2≤X.heap.size:=by omega
      clear hXs
      have HPA:Hid (pa t 0=p0∧pa t 1=p1∧pa p0 0=pb):=⟨hpa0,hpa1,hpab⟩
      have HB0:Below X.heap.size X X:=Below.refl _ _
      clear y9 z9 v9 hp0 hp1 hpb hpa0 hpa1 hpab hpv hu hf0 hf1 hfb h5 h4 h6 hl hl0 hsh hk1 hk2 h56 hcp0 hcp1 hcpb hq0m hq1m hqbm hf hm hq0 hq1 hqb
      have hltY:w.heap.size < X.heap.size:=by omega
      have hltG:g < X.heap.size:=by omega
      have hltH:g2 < X.heap.size:=by omega
      have HPY:Hid (∀ W,Below X.heap.size X W→Calls Tryz.prog 63 #[.agg #[.int .i64 p1.K,.int .i64 p1.N,.string p1.S,.string p1.Z,.int .i64 p1.T.K,.int .i64 p1.T.N,.slice d1 n1 f1,.slice d2 n2 f2,.slice d3 n3 f3]] W fun e w'=>e=.returned (.bool pv)∧Below X.heap.size X w'):=fun W hW=>(HPU.out W hW).mono fun e w' ⟨h1,_,h3⟩=>⟨h1,h3⟩
      have HUY:Hid (∀ W,Below X.heap.size X W→Calls Tryz.prog 64 #[.agg #[.int .i64 pb.K,.int .i64 pb.N,.string pb.S,.string pb.Z,.int .i64 pb.T.K,.int .i64 pb.T.N,.slice h1 o1 i1,.slice h2 o2 i2,.slice h3 o3 i3],.string p0.S] W fun e w'=>e=.returned (.int .i64 (u:Int))∧Below X.heap.size X w'):=fun W hW=>(HUS.out W hW).mono fun e w' ⟨h1,_,h3⟩=>⟨h1,h3⟩
      obtain ⟨x0,x1,x2,x3,x4,x5,x6,x7,x8⟩:=Nine.box hX0
      obtain ⟨i0,i8,j0,j2,j8,k0,k1,k2,k3,k4,k5,k6,k7,k8,v0,v1,v2,v3,v4,v5,v6,v7,v8⟩:=HBX.out X (fun _ _ _=>rfl)
      go_enter Tryz.func42,Tryz.ntmps42
      go_upto_region 1 with fail
      rw [← HX.out]
      go_cut [4] from 5 (fun c wy=>c=.bool (pv && decide (u < 2))∧Below X.heap.size X wy)
      case first =>
        cases pv with
        | false =>
          refine wp_region_below (by kernel_rfl) (by kernel_rfl) ?_
          repeat (first | go_big_quiet_skip | (go_big_quiet_want;unfold Oper.quiet;apply Exists.intro;refine ⟨fun w' hC=>?_,?_⟩;(have ci0:=(bcell hC hltY 0).trans i0;have ci8:=(bcell hC hltY 8).trans i8;have cj0:=(bcell hC hltG (og)).trans j0;have cj2:=(bcell hC hltG (og+2)).trans j2;have cj8:=(bcell hC hltG (og+8)).trans j8;have ck0:=(bcell hC hltG (og+9)).trans k0;have ck1:=(bcell hC hltG (og+9+1)).trans k1;have ck2:=(bcell hC hltG (og+9+2)).trans k2;have ck3:=(bcell hC hltG (og+9+3)).trans k3;have ck4:=(bcell hC hltG (og+9+4)).trans k4;have ck5:=(bcell hC hltG (og+9+5)).trans k5;have ck6:=(bcell hC hltG (og+9+6)).trans k6;have ck7:=(bcell hC hltG (og+9+7)).trans k7;have ck8:=(bcell hC hltG (og+9+8)).trans k8;have cv0:=(bcell hC hltH (og2)).trans v0;have cv1:=(bcell hC hltH (og2+1)).trans v1;have cv2:=(bcell hC hltH (og2+2)).trans v2;have cv3:=(bcell hC hltH (og2+3)).trans v3;have cv4:=(bcell hC hltH (og2+4)).trans v4;have cv5:=(bcell hC hltH (og2+5)).trans v5;have cv6:=(bcell hC hltH (og2+6)).trans v6;have cv7:=(bcell hC hltH (og2+7)).trans v7;have cv8:=(bcell hC hltH (og2+8)).trans v8;unfold Oper.quietAt;go_simp;first | exact rfl | exact ⟨rfl,rfl⟩ | (go_at_call 63;exact HPY.out _ hC));go_big_quiet_on;simp only [Act.put,List.setIfInBounds_toArray,List.set_cons_zero,List.set_cons_succ]))
          refine wpQuiet_nil ?_
          intro w7 hb7
          go_wp2_with fail
          go_meet
          exact ⟨rfl,hb7⟩
        | true =>
          by_cases hu2:u < 2
          · have hui:(u:Int) < 2:=by omega
            refine wp_region_below (by kernel_rfl) (by kernel_rfl) ?_
            repeat (first | go_big_quiet_skip | (go_big_quiet_want;unfold Oper.quiet;apply Exists.intro;refine ⟨fun w' hC=>?_,?_⟩;(have ci0:=(bcell hC hltY 0).trans i0;have ci8:=(bcell hC hltY 8).trans i8;have cj0:=(bcell hC hltG (og)).trans j0;have cj2:=(bcell hC hltG (og+2)).trans j2;have cj8:=(bcell hC hltG (og+8)).trans j8;have ck0:=(bcell hC hltG (og+9)).trans k0;have ck1:=(bcell hC hltG (og+9+1)).trans k1;have ck2:=(bcell hC hltG (og+9+2)).trans k2;have ck3:=(bcell hC hltG (og+9+3)).trans k3;have ck4:=(bcell hC hltG (og+9+4)).trans k4;have ck5:=(bcell hC hltG (og+9+5)).trans k5;have ck6:=(bcell hC hltG (og+9+6)).trans k6;have ck7:=(bcell hC hltG (og+9+7)).trans k7;have ck8:=(bcell hC hltG (og+9+8)).trans k8;have cv0:=(bcell hC hltH (og2)).trans v0;have cv1:=(bcell hC hltH (og2+1)).trans v1;have cv2:=(bcell hC hltH (og2+2)).trans v2;have cv3:=(bcell hC hltH (og2+3)).trans v3;have cv4:=(bcell hC hltH (og2+4)).trans v4;have cv5:=(bcell hC hltH (og2+5)).trans v5;have cv6:=(bcell hC hltH (og2+6)).trans v6;have cv7:=(bcell hC hltH (og2+7)).trans v7;have cv8:=(bcell hC hltH (og2+8)).trans v8;unfold Oper.quietAt;go_simp;first | exact rfl | exact ⟨rfl,rfl⟩ | (go_at_call 63;exact HPY.out _ hC) | (go_at_call 64;exact HUY.out _ hC));go_big_quiet_on;simp only [Act.put,List.setIfInBounds_toArray,List.set_cons_zero,List.set_cons_succ]))
            refine wpQuiet_nil ?_
            intro w7 hb7
            go_wp2_with fail
            go_meet
            exact ⟨by simp [hu2],hb7⟩
          · have hui:¬ (u:Int) < 2:=by omega
            refine wp_region_below (by kernel_rfl) (by kernel_rfl) ?_
            repeat (first | go_big_quiet_skip | (go_big_quiet_want;unfold Oper.quiet;apply Exists.intro;refine ⟨fun w' hC=>?_,?_⟩;(have ci0:=(bcell hC hltY 0).trans i0;have ci8:=(bcell hC hltY 8).trans i8;have cj0:=(bcell hC hltG (og)).trans j0;have cj2:=(bcell hC hltG (og+2)).trans j2;have cj8:=(bcell hC hltG (og+8)).trans j8;have ck0:=(bcell hC hltG (og+9)).trans k0;have ck1:=(bcell hC hltG (og+9+1)).trans k1;have ck2:=(bcell hC hltG (og+9+2)).trans k2;have ck3:=(bcell hC hltG (og+9+3)).trans k3;have ck4:=(bcell hC hltG (og+9+4)).trans k4;have ck5:=(bcell hC hltG (og+9+5)).trans k5;have ck6:=(bcell hC hltG (og+9+6)).trans k6;have ck7:=(bcell hC hltG (og+9+7)).trans k7;have ck8:=(bcell hC hltG (og+9+8)).trans k8;have cv0:=(bcell hC hltH (og2)).trans v0;have cv1:=(bcell hC hltH (og2+1)).trans v1;have cv2:=(bcell hC hltH (og2+2)).trans v2;have cv3:=(bcell hC hltH (og2+3)).trans v3;have cv4:=(bcell hC hltH (og2+4)).trans v4;have cv5:=(bcell hC hltH (og2+5)).trans v5;have cv6:=(bcell hC hltH (og2+6)).trans v6;have cv7:=(bcell hC hltH (og2+7)).trans v7;have cv8:=(bcell hC hltH (og2+8)).trans v8;unfold Oper.quietAt;go_simp;first | exact rfl | exact ⟨rfl,rfl⟩ | (go_at_call 63;exact HPY.out _ hC) | (go_at_call 64;exact HUY.out _ hC));go_big_quiet_on;simp only [Act.put,List.setIfInBounds_toArray,List.set_cons_zero,List.set_cons_succ]))
            refine wpQuiet_nil ?_
            intro w7 hb7
            go_wp2_with fail
            go_meet
            exact ⟨by simp [hu2],hb7⟩
      case rest =>
        obtain ⟨rfl,hb1⟩:=hcut
        obtain ⟨Y,hY⟩:∃ Y,Y=wc:=⟨_,rfl⟩
        rw [← hY] at hb1 ⊢
        clear hY
        have HB0:Below X.heap.size X Y:=hb1
        have hzz:=HB0.size
        clear i0 i8 j0 j2 j8 k0 k1 k2 k3 k4 k5 k6 k7 k8 v0 v1 v2 v3 v4 v5 v6 v7 v8
        cases hval:(pv && decide (u < 2)) with
        | false =>
          have HE:Hid (hereM t=(t,false)):=hereM_no (hAv.trans hval) hLf
          have hz1:=hb1.size
          clear hval
          clear x0 x1 x2 x3 x4 x5 x6 x7 x8
          obtain ⟨x0,x1,x2,x3,x4,x5,x6,x7,x8⟩:=Nine.box ((HB0.block w.heap.size (by omega)).trans hX0)
          have hlt1:w.heap.size < Y.heap.size:=by omega
          go_upto_region 3 with fail
          refine wp_region_below (by kernel_rfl) (by kernel_rfl) ?_
          repeat (first | go_big_quiet_skip | (go_big_quiet_want;unfold Oper.quiet;apply Exists.intro;refine ⟨fun w' hC=>?_,?_⟩;(have cx0:=(bcell hC hlt1 0).trans x0;unfold Oper.quietAt;go_simp;first | exact rfl | exact ⟨rfl,rfl⟩);go_big_quiet_on;simp only [Act.put,List.setIfInBounds_toArray,List.set_cons_zero,List.set_cons_succ]))
          refine wpQuiet_nil ?_
          intro w4 hb2
          have hbW:=hb1.trans (hb2.mono (by omega))
          clear x0 x1 x2 x3 x4 x5 x6 x7 x8
          obtain ⟨x0,x1,x2,x3,x4,x5,x6,x7,x8⟩:=Nine.box ((hbW.block w.heap.size (by omega)).trans hX0)
          have rr:=(hbW.block (w.heap.size+1) (by omega)).trans hX1
          obtain ⟨y0,y1,y2,y3,y4,y5,y6,y7,y8⟩:=Nine.box rr
          have yf:=row_free rr
          go_wp2_with fail
          (try simp only [Exit.inBlock,Exit.then]);refine bodyPost_ret (v:=.tuple #[.agg #[.int .i64 t.K,.int .i64 t.N,.string t.S,.string t.Z,.int .i64 t.T.K,.int .i64 t.T.N,.slice a1 l1 c1,.slice a2 l2 c2,.slice (some ⟨g,og,none⟩) 2 c3],.bool false]) (by simp [results,Tryz.results42,go_sem,y0,y1,y2,y3,y4,y5,y6,y7,y8]) rfl ?_
          exact HNO.out w4 _ hbW HE.out rfl
        | true =>
          have hAt:=hAv.trans hval
          clear hval
          clear x0 x1 x2 x3 x4 x5 x6 x7 x8
          obtain ⟨x0,x1,x2,x3,x4,x5,x6,x7,x8⟩:=Nine.box ((HB0.block w.heap.size (by omega)).trans hX0)
          go_upto_region 2 with fail
          go_region_held3 (fun W=>W.cell? ⟨w.heap.size,0,none⟩=some (.int .i64 t.K)∧W.cell? ⟨w.heap.size,8,none⟩=some (.slice (some ⟨g,og,none⟩) 2 c3)∧W.cell? ⟨g,og,none⟩=some (.int .i64 p0.K)∧W.cell? ⟨g,og+2,none⟩=some (.string p0.S)∧W.cell? ⟨g,og+8,none⟩=some (.slice (some ⟨g2,og2,none⟩) 1 e3)∧W.cell? ⟨g,og+9,none⟩=some (.int .i64 p1.K)∧W.cell? ⟨g,og+9+1,none⟩=some (.int .i64 p1.N)∧W.cell? ⟨g,og+9+2,none⟩=some (.string p1.S)∧W.cell? ⟨g,og+9+3,none⟩=some (.string p1.Z)∧W.cell? ⟨g,og+9+4,none⟩=some (.int .i64 p1.T.K)∧W.cell? ⟨g,og+9+5,none⟩=some (.int .i64 p1.T.N)∧W.cell? ⟨g,og+9+6,none⟩=some (.slice d1 n1 f1)∧W.cell? ⟨g,og+9+7,none⟩=some (.slice d2 n2 f2)∧W.cell? ⟨g,og+9+8,none⟩=some (.slice d3 n3 f3)∧W.cell? ⟨g2,og2,none⟩=some (.int .i64 pb.K)∧W.cell? ⟨g2,og2+1,none⟩=some (.int .i64 pb.N)∧W.cell? ⟨g2,og2+2,none⟩=some (.string pb.S)∧W.cell? ⟨g2,og2+3,none⟩=some (.string pb.Z)∧W.cell? ⟨g2,og2+4,none⟩=some (.int .i64 pb.T.K)∧W.cell? ⟨g2,og2+5,none⟩=some (.int .i64 pb.T.N)∧W.cell? ⟨g2,og2+6,none⟩=some (.slice h1 o1 i1)∧W.cell? ⟨g2,og2+7,none⟩=some (.slice h2 o2 i2)∧W.cell? ⟨g2,og2+8,none⟩=some (.slice h3 o3 i3))
            (first | with_reducible exact HBX.out _ (fun k h1 _=>hb27.block k h1) | with_reducible exact HBX.out _ (fun k h1 _=>hb26.block k h1) | with_reducible exact HBX.out _ (fun k h1 _=>HB0.block k h1) | with_reducible exact HBX.out _ (fun k h1 _=>HB0.drew.block k h1) | (with_reducible refine HBX.out _ (fun k h1 h2=>?_);(first | (with_reducible refine (nest9_otherS _ _ _ _ _ _ _ _ _ _ _ k h2).trans ?_;with_reducible exact hb27.block k h1) | with_reducible exact Below.block (B:=X.heap.size) (by (repeat (first | with_reducible exact Below.refl _ _ | with_reducible exact hb27  | with_reducible exact hb26  | with_reducible exact HB0 | with_reducible refine Below.drew ?_ | (with_reducible refine Below.alloc ?_ (by first | (simp only [World.size_alloc,World.size_drew,drewB_heap];omega) | omega | (simp;done) | (simp;omega)) _)))) k h1)))
            (first
              | (go_at_call 65;(with_reducible refine Calls.mono (HPUT.out _ _ _ ?_ ?_) ?_);(repeat (first | with_reducible exact Below.refl _ _ | with_reducible exact hb26 | with_reducible refine Below.drew ?_ | (with_reducible refine Below.alloc ?_ (by first | (simp only [World.size_alloc,World.size_drew,drewB_heap];omega) | omega | (simp;done) | (simp;omega)) _)));with_reducible exact hT6;rintro e w7 ⟨D6,d6,za,la,ca,zb,lb,cb,zc,lc,cc,rfl,hb7,hO7⟩;have hz7:=hb7.size;have hb27:Below X.heap.size X w7:=hb26.trans (hb7.mono hz6);have rr:=(hb27.block (w.heap.size+1) (by omega)).trans hX1;have hnn:=Nine.box rr;have yf:=row_free rr;obtain ⟨y0,y1,y2,y3,y4,y5,y6,y7,y8⟩:=hnn)
              | (go_at_call 41;(with_reducible refine Calls.mono (HFREE.out _ _ _ ?_ ?_ ?_ ?_) ?_);(repeat (first | with_reducible exact Below.refl _ _ | with_reducible exact HB0 | with_reducible refine Below.drew ?_ | (with_reducible refine Below.alloc ?_ (by first | (simp only [World.size_alloc,World.size_drew,drewB_heap];omega) | omega | (simp;done) | (simp;omega)) _)));exact toks_litB (by ((try rw [drewB_heap]);(first | exact heap_new (by first | (simp only [World.size_alloc,World.size_drew,drewB_heap];omega) | omega | (simp;done) | (simp;omega)) | (rw [Below.heap_alloc _ _ _ (by first | (simp only [World.size_alloc,World.size_drew,drewB_heap];omega) | omega | (simp;done) | (simp;omega))];exact heap_new (by first | (simp only [World.size_alloc,World.size_drew,drewB_heap];omega) | omega | (simp;done) | (simp;omega)))))) (by first | (simp only [World.size_alloc,World.size_drew,drewB_heap];omega) | omega | (simp;done) | (simp;omega));exact toks_litB (by ((try rw [drewB_heap]);(first | exact heap_new (by first | (simp only [World.size_alloc,World.size_drew,drewB_heap];omega) | omega | (simp;done) | (simp;omega)) | (rw [Below.heap_alloc _ _ _ (by first | (simp only [World.size_alloc,World.size_drew,drewB_heap];omega) | omega | (simp;done) | (simp;omega))];exact heap_new (by first | (simp only [World.size_alloc,World.size_drew,drewB_heap];omega) | omega | (simp;done) | (simp;omega)))))) (by first | (simp only [World.size_alloc,World.size_drew,drewB_heap];omega) | omega | (simp;done) | (simp;omega));(intro g hg e;(first | (simp [Value.ownBlock] at hg e;done) | (simp [Value.ownBlock] at hg e;omega)));rintro e w6 ⟨fo,fc,rfl,hb26,hT6⟩;have hz6:=hb26.size))
          all_goals
            have HFIN:Hid (∀ W',W'=set9 w7 (w.heap.size+1) 0 (.int .i64 P.K) (.int .i64 P.N) (.string P.S) (.string P.Z) (.int .i64 P.T.K) (.int .i64 P.T.N) (.slice za la ca) (.slice zb lb cb) (.slice zc lc cc)→HereE w W' (.returned (.tuple #[.agg #[.int .i64 P.K,.int .i64 P.N,.string P.S,.string P.Z,.int .i64 P.T.K,.int .i64 P.T.N,.slice za la ca,.slice zb lb cb,.slice zc lc cc],.bool ok])) (hereM t)):=fun W' hW'=>by
              rw [hereM_A hAt,HPA.out.1,HPA.out.2.1,HPA.out.2.2,HFV.out,HSPR.out]
              have hWo:∀ g,g≠w.heap.size+1→W'.heap[g]?=w7.heap[g]?:=fun g hg=>by rw [hW'];exact set9_other g hg
              have hWs:W'.heap.size=w7.heap.size:=by rw [hW'];exact set9_size _ _ _ _ _ _ _ _ _ _ _ _
              have hWb:Below w.heap.size w W':=by rw [hW'];exact set9_below (hXb.trans (hb27.mono (by omega))) (by omega)
              obtain ⟨bn,hfO,hnd,hrg⟩:=hO7
              exact ⟨P,za,la,ca,zb,lb,cb,zc,lc,cc,rfl,hWb,fun _=>⟨rfl,D6,d6,bn,FldO.keep (fun g hg=>hWo g (by have:=(hrg g hg).1;omega)) hfO,hnd,fun g hg=>⟨by have:=(hrg g hg).1;omega,by have:=(hrg g hg).2;omega⟩⟩⟩
            go_wp2_with fail
            (try simp only [Exit.inBlock,Exit.then]);refine bodyPost_ret (v:=.tuple #[.agg #[.int .i64 P.K,.int .i64 P.N,.string P.S,.string P.Z,.int .i64 P.T.K,.int .i64 P.T.N,.slice za la ca,.slice zb lb cb,.slice zc lc cc],.bool ok]) (by simp [results,Tryz.results42,go_sem,y0,y1,y2,y3,y4,y5,y6,y7,y8]) rfl ?_
            exact HFIN.out _ rfl
    · have hAf:hereA t=false:=by unfold hereA;rw [hpa0];simp [h4]
      have h4b:(p0.K == 4)=false:=by simpa using h4
      have hXge:w.heap.size+2≤X.heap.size:=by omega
      clear hXs
      have HE:Hid (hereM t=(t,false)):=hereM_no hAf hLf
      have HB0:Below X.heap.size X X:=Below.refl _ _
      obtain ⟨x0,x1,x2,x3,x4,x5,x6,x7,x8⟩:=Nine.box hX0
      obtain ⟨j0,j1,j2,j3,j4,j5,j6,j7,j8⟩:=y9.world (hXb.block g hgw)
      clear y9 z9 hp0 hp1 hpa0 hpa1 hf0 hf1 h5 h4 h6 hl hsh hk1 hk2 h56 hcp0 hcp1 hq0m hq1m hf hm hq0 hq1 hAf hLf
      have hltY:w.heap.size < X.heap.size:=by omega
      have hltG:g < X.heap.size:=by omega
      go_enter Tryz.func42,Tryz.ntmps42
      go_upto_region 1 with fail
      rw [← HX.out]
      refine wp_region_below (by kernel_rfl) (by kernel_rfl) ?_
      repeat (first | go_big_quiet_skip | (go_big_quiet_want;unfold Oper.quiet;apply Exists.intro;refine ⟨fun w' hC=>?_,?_⟩;(have cx0:=(bcell hC hltY 0).trans x0;have cx8:=(bcell hC hltY 8).trans x8;have cj0:=(bcell hC hltG og).trans j0;unfold Oper.quietAt;go_simp;first | exact rfl | exact ⟨rfl,rfl⟩);go_big_quiet_on;simp only [Act.put,List.setIfInBounds_toArray,List.set_cons_zero,List.set_cons_succ]))
      refine wpQuiet_nil ?_
      intro Y hb1
      have hz1:=hb1.size
      have HB0:Below X.heap.size X Y:=hb1
      clear j0 j1 j2 j3 j4 j5 j6 j7 j8
      clear x0 x1 x2 x3 x4 x5 x6 x7 x8
      obtain ⟨x0,x1,x2,x3,x4,x5,x6,x7,x8⟩:=Nine.box ((HB0.block w.heap.size (by omega)).trans hX0)
      have hlt1:w.heap.size < Y.heap.size:=by omega
      go_upto_region 3 with fail
      refine wp_region_below (by kernel_rfl) (by kernel_rfl) ?_
      repeat (first | go_big_quiet_skip | (go_big_quiet_want;unfold Oper.quiet;apply Exists.intro;refine ⟨fun w' hC=>?_,?_⟩;(have cx0:=(bcell hC hlt1 0).trans x0;unfold Oper.quietAt;go_simp;first | exact rfl | exact ⟨rfl,rfl⟩);go_big_quiet_on;simp only [Act.put,List.setIfInBounds_toArray,List.set_cons_zero,List.set_cons_succ]))
      refine wpQuiet_nil ?_
      intro w4 hb2
      have hbW:=hb1.trans (hb2.mono (by omega))
      clear x0 x1 x2 x3 x4 x5 x6 x7 x8
      obtain ⟨x0,x1,x2,x3,x4,x5,x6,x7,x8⟩:=Nine.box ((hbW.block w.heap.size (by omega)).trans hX0)
      have rr:=(hbW.block (w.heap.size+1) (by omega)).trans hX1
      obtain ⟨y0,y1,y2,y3,y4,y5,y6,y7,y8⟩:=Nine.box rr
      have yf:=row_free rr
      go_wp2_with fail
      (try simp only [Exit.inBlock,Exit.then]);refine bodyPost_ret (v:=.tuple #[.agg #[.int .i64 t.K,.int .i64 t.N,.string t.S,.string t.Z,.int .i64 t.T.K,.int .i64 t.T.N,.slice a1 l1 c1,.slice a2 l2 c2,.slice (some ⟨g,og,none⟩) 2 c3],.bool false]) (by simp [results,Tryz.results42,go_sem,y0,y1,y2,y3,y4,y5,y6,y7,y8]) rfl ?_
      exact HNO.out w4 _ hbW HE.out rfl
end Go.Proofs.YtcepgedbmffkdaaGreat
