/-
  Putting in the first that may be, of a term that is ready, in plain words. No walk.
-/
import Derived.Test.YtcepgedbmffkdaaGreatFbaZ21
import Derived.Test.YtcepgedbmffkdaaGreatFbaZ26
import Derived.Test.YtcepgedbmffkdaaGreatFbaZ16
import Derived.Lib.Join
import Derived.Test.YtcepgedbmffkdaaGreatFbaZ1
import Derived.Test.YtcepgedbmffkdaaGreatFbaZ3
import Derived.Test.YtcepgedbmffkdaaGreatFbaZ14
import Derived.Lib.ItoaLen
import Derived.Test.YtcepgedbmffkdaaGreatFbaZ4
import Derived.Test.YtcepgedbmffkdaaGreatFbaZ7
import Derived.Test.YtcepgedbmffkdaaGreatFbaZ8
namespace Go.Proofs.YtcepgedbmffkdaaGreat
open Go.RowKit
set_option linter.unusedVariables false
set_option linter.unusedSimpArgs false
def betaT (t:Tm):Tm × Bool:=if rdyM t=true then (if (betaM 24 t).2=true∧okM (betaM 24 t).1=true then ((betaM 24 t).1,true) else (t,false)) else (zTm,false)
theorem betaT_not {t:Tm} (h:rdyM t=false):betaT t=(zTm,false):=by unfold betaT;rw [if_neg (by rw [h];simp)]
theorem betaT_no {t:Tm} (h:rdyM t=true) (h2:(betaM 24 t).2=false):betaT t=(t,false):=by unfold betaT;rw [if_pos h,if_neg (fun h3=>by rw [h2] at h3;exact absurd h3.1 (by simp))]
theorem betaT_big {t:Tm} (h:rdyM t=true) (h2:okM (betaM 24 t).1=false):betaT t=(t,false):=by unfold betaT;rw [if_pos h,if_neg (fun h3=>by rw [h2] at h3;exact absurd h3.2 (by simp))]
theorem betaT_yes {t:Tm} (h:rdyM t=true) (h2:(betaM 24 t).2=true) (h3:okM (betaM 24 t).1=true):betaT t=((betaM 24 t).1,true):=by unfold betaT;rw [if_pos h,if_pos ⟨h2,h3⟩]
theorem put_finP {w W:World} {D d r:Nat} {P:Tm} {ok:Bool} {R:Tm × Bool} {bn:List Nat} {za zb zc:Option Addr} {la ca lb cb lc cc:Nat} (hb:Below w.heap.size w W) (hr:w.heap.size≤r) (hf:FldO W D (OwM W D d) P za la zb lb zc lc bn) (hnd:bn.Nodup) (hin:∀ g ∈ bn,r+1≤g∧g < W.heap.size) (hR:R=(P,ok)) :
    ∀ W',W'=set9 W r 0 (.int .i64 P.K) (.int .i64 P.N) (.string P.S) (.string P.Z) (.int .i64 P.T.K) (.int .i64 P.T.N) (.slice za la ca) (.slice zb lb cb) (.slice zc lc cc)→PutE w W' (.returned (.tuple #[.agg #[.int .i64 P.K,.int .i64 P.N,.string P.S,.string P.Z,.int .i64 P.T.K,.int .i64 P.T.N,.slice za la ca,.slice zb lb cb,.slice zc lc cc],.bool ok])) R:=fun W' hW'=>by
  have hWb:Below w.heap.size w W':=by rw [hW'];exact set9_below hb hr
  have hWs:W'.heap.size=W.heap.size:=by rw [hW'];exact set9_size _ _ _ _ _ _ _ _ _ _ _ _
  have hWo:∀ g,g≠r→W'.heap[g]?=W.heap[g]?:=fun g hg=>by rw [hW'];exact set9_other g hg
  rw [hR]
  exact ⟨D,d,za,la,ca,zb,lb,cb,zc,lc,cc,rfl,hWb,bn,FldO.keep (fun g hg=>hWo g (by have:=hin g hg;omega)) hf,hnd,fun g hg=>by have:=hin g hg;omega⟩
end Go.Proofs.YtcepgedbmffkdaaGreat

/-
  The tokens and the text of a type, in plain words: no walk, no statement.
-/
namespace Go.Proofs.YtcepgedbmffkdaaGreat
open Go.RowKit
set_option linter.unusedVariables false
set_option linter.unusedSimpArgs false
theorem okT_le {t:Tr} (h:okT t=true):∃ m,nodesW 6 t=some m∧m≤60:=by
  cases hm:nodesW 6 t with
  | none=>simp [okT,nodesT,hm] at h
  | some m =>
    refine ⟨m,rfl,?_⟩
    by_cases h6:m≤60
    · exact h6
    · simp [okT,nodesT,hm,h6] at h
end Go.Proofs.YtcepgedbmffkdaaGreat

/-
  The tokens and the text of a term, in plain words: no walk, no statement.
-/
namespace Go.Proofs.YtcepgedbmffkdaaGreat
open Go.RowKit
set_option linter.unusedVariables false
set_option linter.unusedSimpArgs false
def sb (s:ByteArray):List UInt8:=s.data.toList
structure NodeIs (t:Tm):Prop where
  k1:1≤t.K
  k17:t.K≤17
  n1:shL t.K≤t.N
  n2:t.N≤shM t.K
  a:(t.A.length:Int)=shP t.K
  nm:namesB (shN t.K) t.S t.Z=true
  ty:shT t.K=true→okT t.T=true
  zt:shT t.K=false→t.T.K=0
  ts:(t.Ts.length:Int)≤shS t.K
  each:∀ x ∈ t.Ts,okT x=true
theorem NodeIs.of {t:Tm} (h:nodeM t=true):NodeIs t:=by
  simp only [nodeM,Bool.and_eq_true,decide_eq_true_eq,kOk,typesB] at h
  obtain ⟨⟨⟨⟨⟨hk,hn⟩,ha⟩,_⟩,hnm⟩,⟨hty,hts⟩,heach⟩:=h
  refine ⟨hk.1,hk.2,hn.1,hn.2,ha,hnm,fun hs=>?_,fun hs=>?_,hts,fun x hx=>List.all_eq_true.1 heach x hx⟩
  · rw [if_pos hs] at hty;exact hty
  · rw [if_neg (by simp [hs])] at hty
    simp only [zeroT,Bool.and_eq_true,beq_iff_eq] at hty
    exact hty.1.1
theorem nameW_sz {s:ByteArray} (h:nameW s=true):1≤s.size∧s.size≤8:=by
  simp only [nameW,Bool.and_eq_true,decide_eq_true_eq] at h
  exact ⟨h.1.1.1,h.1.1.2⟩
theorem NodeIs.names {t:Tm} (h:NodeIs t):t.S.size≤8∧t.Z.size≤8:=by
  have h1:=h.nm
  have hz:∀ s:ByteArray,isNil s=true→s.size≤8:=fun s hs=>by
    rw [isNil_size] at hs
    have:=of_decide_eq_true hs
    omega
  unfold namesB at h1
  split at h1
  · simp only [Bool.and_eq_true] at h1;exact ⟨hz _ h1.1,hz _ h1.2⟩
  · split at h1
    · simp only [Bool.and_eq_true] at h1;exact ⟨(nameW_sz h1.1).2,hz _ h1.2⟩
    · simp only [Bool.and_eq_true] at h1;exact ⟨(nameW_sz h1.1.1).2,(nameW_sz h1.1.2).2⟩
theorem all_nil {n:Nat}:∀ x ∈ ([]:List (List UInt8)),x.length≤n:=fun x hx=>by cases hx
theorem all_cons {y:List UInt8} {a:List (List UInt8)} {n:Nat} (hy:y.length≤n) (ha:∀ x ∈ a,x.length≤n):∀ x ∈ y :: a,x.length≤n:=fun x hx=>by
  rcases List.mem_cons.1 hx with rfl | hx
  · exact hy
  · exact ha x hx
theorem nodesM_inv2 {l:Nat} {t:Tm} {m:Nat} (h:nodesM (l+1) t=some m):NodeIs t∧(∃ b,nodesG (nodesM l) t.A=some b∧m=1+b):=by
  simp only [nodesM] at h
  cases hn:nodeM t with
  | false=>simp [hn] at h
  | true =>
    refine ⟨NodeIs.of hn,?_⟩
    simp only [hn,if_true] at h
    cases hz:nodesG (nodesM l) t.A with
    | none=>simp [hz] at h
    | some b=>simp [hz] at h;exact ⟨b,rfl,h.symm⟩
end Go.Proofs.YtcepgedbmffkdaaGreat

/-
  How much a right term is of: no walk.
-/
namespace Go.Proofs.YtcepgedbmffkdaaGreat
open Go.RowKit Go.PlainAid
set_option linter.unusedVariables false
set_option linter.unusedSimpArgs false
theorem nodes_cntW:∀ (l:Nat) (t:Tr) (m:Nat),nodesW l t=some m→cnt t=m:=by
  intro l
  induction l with
  | zero=>intro t m h;simp [nodesW] at h
  | succ l ih =>
    intro t m h
    simp only [nodesW] at h
    split at h
    · cases h1:nodesL (nodesW l) t.A with
      | none=>simp [h1] at h
      | some s =>
        simp [h1] at h
        have key:∀ (ts:List Tr) (s:Nat),nodesL (nodesW l) ts=some s→cntS ts=s:=by
          intro ts
          induction ts with
          | nil=>intro s hs;simp [nodesL] at hs;simp [cntS];omega
          | cons x ts ihl =>
            intro s hs
            simp only [nodesL] at hs
            cases hx:nodesW l x with
            | none=>simp [hx] at hs
            | some a =>
              cases hy:nodesL (nodesW l) ts with
              | none=>simp [hx,hy] at hs
              | some b =>
                simp [hx,hy] at hs
                have h2:=ihl b hy
                have h3:=ih x a hx
                simp only [cntS,List.map_cons,List.sum_cons] at *
                omega
        rw [cnt_eq,key _ _ h1]
        omega
    · simp at h
theorem okT_cnt {t:Tr} (h:okT t=true):cnt t≤60:=by
  obtain ⟨m,hm,h6⟩:=okT_le h
  rw [nodes_cntW _ _ _ hm]
  exact h6
theorem tys_cnt:∀ (ts:List Tr),(∀ x ∈ ts,okT x=true)→cntS ts≤60 * ts.length
  | [],_=>by simp [cntS]
  | x :: ts,h=>by
    have h1:=okT_cnt (h x (by simp))
    have h2:=tys_cnt ts fun y hy=>h y (by simp [hy])
    simp only [cntS,List.map_cons,List.sum_cons,List.length_cons] at *
    omega
theorem nodesM_cnt:∀ (l:Nat) (t:Tm) (m:Nat),nodesM l t=some m→cntM t≤200 * m:=by
  intro l
  induction l with
  | zero=>intro t m h;simp [nodesM] at h
  | succ l ih =>
    intro t m h
    have hnd:=(nodesM_inv h).1
    obtain ⟨hn,b,hb,rfl⟩:=nodesM_inv2 h
    have hnm:=hn.names
    have hT:cntS t.T.A≤60:=by
      by_cases hs:shT t.K=true
      · have h1:=okT_cnt (hn.ty hs)
        rw [cnt_eq] at h1
        omega
      · have hz:=hnd
        unfold nodeM at hz
        simp only [Bool.and_eq_true] at hz
        have hz1:=hz.2
        unfold typesB at hz1
        simp only [Bool.and_eq_true] at hz1
        have hz2:=hz1.1.1
        rw [if_neg hs] at hz2
        unfold zeroT at hz2
        simp only [Bool.and_eq_true,beq_iff_eq] at hz2
        have:t.T.A=[]:=List.length_eq_zero_iff.1 (by have:=hz2.2;omega)
        rw [this];simp [cntS]
    have hTs:=tys_cnt t.Ts hn.each
    have h2:t.Ts.length≤2:=by have:=hn.ts;have:=(shS_bd t.K).2;omega
    have hA:=nodeM_len hnd
    have hsub:∀ (ys:List Tm) (s:Nat),nodesG (nodesM l) ys=some s→subMS ys≤200 * s:=by
      intro ys
      induction ys with
      | nil=>intro s hs;simp [subMS]
      | cons y ys ihy =>
        intro s hs
        simp only [nodesG] at hs
        cases hy:nodesM l y with
        | none=>simp [hy] at hs
        | some a =>
          cases hz:nodesG (nodesM l) ys with
          | none=>simp [hy,hz] at hs
          | some c =>
            simp [hy,hz] at hs
            have e1:=ih y a hy
            have e2:=ihy c hz
            simp only [subMS,List.map_cons,List.sum_cons] at *
            omega
    have h3:=hsub _ _ hb
    have h4:=cntM_eq t
    have h5:=cntMS_eq t.A
    have h6:ownM t=t.S.size+t.Z.size+cntS t.T.A+cntS t.Ts:=rfl
    omega
end Go.Proofs.YtcepgedbmffkdaaGreat

/-
  A call that tells a term in lists of its own. No walk.
-/
namespace Go.Proofs.YtcepgedbmffkdaaGreat
open Go.RowKit
set_option linter.unusedVariables false
set_option linter.unusedSimpArgs false
theorem bN_alloc {X W:World} {o:Obj} (h:Below X.heap.size X W):Below X.heap.size X (W.alloc o):=h.alloc h.size _
def NewM (w:World) (D d:Nat) (u:Tm) (e:Ending) (w':World):Prop :=
  ∃ b1 m1 e1 b2 m2 e2 b3 m3 e3,e=.returned (.agg #[.int .i64 u.K,.int .i64 u.N,.string u.S,.string u.Z,.int .i64 u.T.K,.int .i64 u.T.N,.slice b1 m1 e1,.slice b2 m2 e2,.slice b3 m3 e3])∧Below w.heap.size w w'∧FmO w.heap.size w'.heap.size w' D d u b1 m1 b2 m2 b3 m3
end Go.Proofs.YtcepgedbmffkdaaGreat

/-
  Putting in as long as anything may be, in plain words; what lies in memory meanwhile. No walk.
-/
namespace Go.Proofs.YtcepgedbmffkdaaGreat
open Go.RowKit
set_option linter.unusedVariables false
set_option linter.unusedSimpArgs false
def allM:Nat→Tm→Tm
  | 0,t=>t
  | n+1,t=>if (betaT t).2=true then allM n (betaT t).1 else t
def betaAllT (t:Tm):Tm:=if rdyM t=true then allM 150 t else t
theorem allM_no {n:Nat} {t:Tm} (h:(betaT t).2=false):allM n t=t:=by
  cases n with
  | zero=>rfl
  | succ n=>unfold allM;rw [if_neg (by rw [h];simp)]
theorem allM_yes {n:Nat} {t:Tm} (h:(betaT t).2=true):allM (n+1) t=allM n (betaT t).1:=by
  conv=>lhs;unfold allM
  rw [if_pos h]
theorem beta_cntB (t:Tm) (hc:cntM t≤1048576):cntM (betaT t).1≤1048576:=by
  cases hr:rdyM t with
  | false =>
    rw [betaT_not hr]
    show cntM zTm≤1048576
    rw [cntM_eq]
    simp [zTm,ownM,cntS,cntMS,subMS]
    decide
  | true =>
    by_cases h:(betaM 24 t).2=true∧okM (betaM 24 t).1=true
    · rw [betaT_yes hr h.1 h.2]
      obtain ⟨m,hm,hm6⟩:=okM_some h.2
      have:=nodesM_cnt _ _ _ hm
      show cntM (betaM 24 t).1≤1048576
      omega
    · have:betaT t=(t,false):=by unfold betaT;rw [if_pos hr,if_neg h]
      rw [this]
      exact hc
theorem allM_cnt:∀ (n:Nat) (t:Tm),cntM t≤1048576→cntM (allM n t)≤1048576
  | 0,_,h=>h
  | n+1,t,h=>by
    unfold allM
    split
    · exact allM_cnt n _ (beta_cntB t h)
    · exact h
theorem betaAll_cnt (t:Tm) (h:cntM t≤1048576):cntM (betaAllT t)≤1048576:=by
  unfold betaAllT
  split
  · exact allM_cnt _ _ h
  · exact h
theorem sps_next {X wr W6:World} {q z D6 d6:Nat} {u P:Tm} {za zb zc:Option Addr} {la lb lc ca cb cc:Nat} (h:SpS X wr q z u) (hb:Below wr.heap.size wr W6) (hO:FmO wr.heap.size W6.heap.size W6 D6 d6 P za la zb lb zc lc) (hq:X.heap.size≤q) (hz:z≤wr.heap.size) :
    ∀ W',W'=set9 W6 q 0 (.int .i64 P.K) (.int .i64 P.N) (.string P.S) (.string P.Z) (.int .i64 P.T.K) (.int .i64 P.T.N) (.slice za la ca) (.slice zb lb cb) (.slice zc lc cc)→SpS X W' q z P:=fun W' hW'=>by
  obtain ⟨cs,hr,hs⟩:=h.row
  have hqw:=(Array.getElem?_eq_some_iff.1 hr).1
  have hr6:=(hb.block q hqw).trans hr
  obtain ⟨bn,hf,hnd,hin⟩:=hO
  have hWs:W'.heap.size=W6.heap.size:=by rw [hW'];exact set9_size _ _ _ _ _ _ _ _ _ _ _ _
  have hWb:Below X.heap.size X W':=by rw [hW'];exact set9_below (h.bel.trans (hb.mono h.bel.size)) hq
  obtain ⟨cs',hr',hs'⟩:∃ cs',W'.heap[q]?=some (.cells cs' 34 (0,0))∧cs'.size=cs.size:=by rw [hW'];exact set9_row hr6
  refine ⟨hWb,⟨cs',hr',by omega⟩,bn,D6,d6,⟨za,la,ca,zb,lb,cb,zc,lc,cc,by rw [hW'];exact set9_cells hr6 (by omega),FldO.keep (fun k hk=>by rw [hW'];exact set9_other k (by have:=hin k hk;omega)) hf⟩,hnd,fun hh=>by have:=hin q hh;omega,fun g hg=>by have:=hin g hg;omega⟩
theorem new_finB {w W:World} {D d r:Nat} {P R:Tm} {bn:List Nat} {za zb zc:Option Addr} {la ca lb cb lc cc:Nat} (hb:Below w.heap.size w W) (hr:w.heap.size≤r) (hf:FldO W D (OwM W D d) P za la zb lb zc lc bn) (hnd:bn.Nodup) (hin:∀ g ∈ bn,r+1≤g∧g < W.heap.size) (hR:R=P) :
    ∀ W',W'=set9 W r 0 (.int .i64 P.K) (.int .i64 P.N) (.string P.S) (.string P.Z) (.int .i64 P.T.K) (.int .i64 P.T.N) (.slice za la ca) (.slice zb lb cb) (.slice zc lc cc)→∃ D' d',NewM w D' d' R (.returned (.agg #[.int .i64 P.K,.int .i64 P.N,.string P.S,.string P.Z,.int .i64 P.T.K,.int .i64 P.T.N,.slice za la ca,.slice zb lb cb,.slice zc lc cc])) W':=fun W' hW'=>by
  have hWb:Below w.heap.size w W':=by rw [hW'];exact set9_below hb hr
  have hWs:W'.heap.size=W.heap.size:=by rw [hW'];exact set9_size _ _ _ _ _ _ _ _ _ _ _ _
  have hWo:∀ g,g≠r→W'.heap[g]?=W.heap[g]?:=fun g hg=>by rw [hW'];exact set9_other g hg
  rw [hR]
  exact ⟨D,d,za,la,ca,zb,lb,cb,zc,lc,cc,rfl,hWb,bn,FldO.keep (fun g hg=>hWo g (by have:=hin g hg;omega)) hf,hnd,fun g hg=>by have:=hin g hg;omega⟩
end Go.Proofs.YtcepgedbmffkdaaGreat

/-
  A part of a term of one's own is written anew, whatever it was and whatever it has become: what the whole is then. No walk.
-/
namespace Go.Proofs.YtcepgedbmffkdaaGreat
open Go.RowKit
set_option linter.unusedVariables false
set_option linter.unusedSimpArgs false
theorem Own9.partD {w:World} {D d b o:Nat} {t:Tm} {bs:List Nat} (h:Own9 w D d b o t bs) (hA:0 < t.A.length) :
    ∃ (g l c:Nat) (cs:Array Value) (p12:List Nat) (bss:List (List Nat)) (d1:Nat),l=t.A.length∧w.cell? ⟨b,o+8,none⟩=some (.slice (some ⟨g,0,none⟩) l c)∧w.heap[g]?=some (.cells cs 34 (0,0))∧t.A.length * 9≤cs.size∧bss.length=t.A.length∧bs=p12 ++ g :: bss.flatten ∧
      (∀ i (_:i < t.A.length) (_:i < bss.length),Own9 w D d1 g (i * 9) t.A[i] bss[i]) ∧
      ∀ (w':World) (D' d2:Nat) (A':List Tm) (bss':List (List Nat)) (cs':Array Value),D≤D'→A'.length=t.A.length→bss'.length=bss.length→(∀ k ∈ p12,w'.heap[k]?=w.heap[k]?)→(∀ i,i < 9→w'.cell? ⟨b,o+i,none⟩=w.cell? ⟨b,o+i,none⟩)→w'.heap[g]?=some (.cells cs' 34 (0,0))→cs'.size=cs.size →
        (∀ i (_:i < A'.length) (_:i < bss'.length),Own9 w' D' d2 g (i * 9) A'[i] bss'[i])→Own9 w' D' (d2+1) b o { t with A:=A' } (p12 ++ g :: bss'.flatten):=by
  obtain ⟨a1,l1,c1,a2,l2,c2,a3,l3,c3,h9,p1,p2,p3,rfl,h1,h2,h3,h4,h5⟩:=h
  cases d with
  | zero=>obtain ⟨_,h6,_⟩:=h5;rw [h6] at hA;simp at hA
  | succ d1 =>
    rcases h5 with ⟨_,h6,_⟩ | ⟨g,cs,bss,rfl,hl,hm,hg,hc,hbl,rfl,hE⟩
    · rw [h6] at hA;simp at hA
    · refine ⟨g,l3,c3,cs,p1 ++ p2,bss,d1,hl,h9.c8,hg,by omega,hbl,rfl,fun i hi hi'=>?_,?_⟩
      · obtain ⟨y1,k1,j1,y2,k2,j2,y3,k3,j3,y9,yf⟩:=hE i hi hi'
        exact ⟨y1,k1,j1,y2,k2,j2,y3,k3,j3,y9,yf⟩
      · intro w' D' d2 A' bss' cs' hD e1 e2 hk hcell hg' hcs hE'
        refine ⟨a1,l1,c1,a2,l2,c2,_,l3,c3,h9.of_cells hcell,p1,p2,g :: bss'.flatten,rfl,h1,h2,(h3.keep fun k hk'=>hk k (by simp [hk'])).deeper hD,(h4.keep fun k hk'=>hk k (by simp [hk'])).deeper hD,?_⟩
        exact Or.inr ⟨g,cs',bss',rfl,by simp only [];omega,hm,hg',by omega,by simp only [];omega,rfl,fun i hi hi'=>hE' i hi hi'⟩
theorem Own9.redo {w:World} {D d b o:Nat} {t:Tm} {bs:List Nat} (h:Own9 w D d b o t bs) (hnd:bs.Nodup) (hb:b ∉ bs) (hin:∀ k ∈ bs,k < w.heap.size) (hbw:b < w.heap.size) {i:Nat} (hi:i < t.A.length) :
    ∃ (g l c:Nat) (cs:Array Value) (bi:List Nat) (di:Nat),w.cell? ⟨b,o+8,none⟩=some (.slice (some ⟨g,0,none⟩) l c)∧l=t.A.length∧w.heap[g]?=some (.cells cs 34 (0,0))∧t.A.length * 9≤cs.size∧g ∈ bs∧g ∉ bi∧bi.Nodup∧(∀ k ∈ bi,k ∈ bs)∧Own9 w D di g (i * 9) t.A[i] bi ∧
      ∀ (w':World) (x:Tm) (D' d':Nat) (bi':List Nat) (cs':Array Value),D≤D'→Own9 w' D' d' g (i * 9) x bi'→bi'.Nodup→(∀ k ∈ bi',k ∈ bi∨w.heap.size≤k)→(∀ k,k < w.heap.size→k≠g→k ∉ bi→w'.heap[k]?=w.heap[k]?)→w'.heap[g]?=some (.cells cs' 34 (0,0))→cs'.size=cs.size→(∀ q,q < i * 9∨i * 9+8 < q→w'.cell? ⟨g,q,none⟩=w.cell? ⟨g,q,none⟩) →
        ∃ bs' d'',Own9 w' D' d'' b o { t with A:=t.A.set i x } bs'∧bs'.Nodup∧(∀ k ∈ bs',k ∈ bs∨k ∈ bi'):=by
  obtain ⟨g,l,c,cs,p12,bss,d1,hl,hc8,hg,hcs,hbl,rfl,hE,hmk⟩:=h.partD (by omega)
  have hib:i < bss.length:=by omega
  obtain ⟨hn12,hng,hdis⟩:=List.nodup_append.1 hnd
  obtain ⟨hgf,hnf⟩:=List.nodup_cons.1 hng
  have hni:bss[i].Nodup:=(List.pairwise_flatten.1 hnf).1 _ (List.getElem_mem hib)
  have hgi:g ∉ bss[i]:=fun hh=>hgf (mem_part hib hh)
  have hgw:g < w.heap.size:=hin g (by simp)
  have hsubi:∀ k ∈ bss[i],k ∈ p12 ++ g :: bss.flatten:=fun k hk=>by
    simp only [List.mem_append,List.mem_cons];exact Or.inr (Or.inr (mem_part hib hk))
  refine ⟨g,l,c,cs,bss[i],d1,hc8,hl,hg,hcs,by simp,hgi,hni,hsubi,hE i hi hib,?_⟩
  intro w' x D' d' bi' cs' hD ho hnb hsub hoth hg' hcs' hfar
  have h12:∀ k ∈ p12,w'.heap[k]?=w.heap[k]?:=fun k hk=>hoth k (hin k (by simp [hk])) (fun e=>hdis k hk g (by simp) e) (fun hh=>hdis k hk k (by simp only [List.mem_cons];exact Or.inr (mem_part hib hh)) rfl)
  have hbi:b ∉ bss[i]:=fun hh=>hb (hsubi b hh)
  have hbg:b≠g:=fun e=>hb (by rw [e];simp)
  refine ⟨p12 ++ g :: (bss.set i bi').flatten,max d1 d'+1,?_,?_,?_⟩
  · refine hmk w' D' (max d1 d') _ (bss.set i bi') cs' hD (by simp) (by simp) h12 (fun q hq=>World.cell?_of_block (hoth b hbw hbg hbi)) hg' hcs' ?_
    intro j hj hj'
    have hj1:j < t.A.length:=by simpa using hj
    have hj2:j < bss.length:=by simpa using hj'
    by_cases hji:j=i
    · subst hji
      simp only [List.getElem_set_self]
      exact ho.deeper (by omega)
    · simp only [List.getElem_set_ne (fun e=>hji e.symm)]
      refine (((hE j hj1 hj2).keep (fun q hq=>hfar _ (by omega)) (fun k hk=>hoth k (hin k ?_) ?_ ?_)).deeperD hD).deeper (by omega)
      · simp only [List.mem_append,List.mem_cons];exact Or.inr (Or.inr (mem_part hj2 hk))
      · rintro rfl;exact hgf (mem_part hj2 hk)
      · exact fun h1=>part_apart hnf hj2 hib hji hk h1
  · refine List.nodup_append.2 ⟨hn12,List.nodup_cons.2 ⟨fun hh=>?_,?_⟩,?_⟩
    · rcases mem_setc hh with h1 | h1
      · exact hgf h1
      · rcases hsub g h1 with h2 | h2
        · exact hgi h2
        · omega
    · refine nodup_setc hib hnf hnb fun k hk=>?_
      rcases hsub k hk with h1 | h1
      · exact Or.inl h1
      · refine Or.inr fun hh=>?_
        have h3:=hin k (by simp only [List.mem_append,List.mem_cons];exact Or.inr (Or.inr hh))
        omega
    · intro a ha b2 hb2
      rcases List.mem_cons.1 hb2 with rfl | hb2
      · exact hdis a ha _ (by simp)
      · rcases mem_setc hb2 with h1 | h1
        · exact hdis a ha b2 (List.mem_cons_of_mem _ h1)
        · rcases hsub b2 h1 with h2 | h2
          · exact hdis a ha b2 (List.mem_cons_of_mem _ (mem_part hib h2))
          · have h4:=hin a (List.mem_append_left _ ha)
            omega
  · intro k hk
    rcases List.mem_append.1 hk with hk | hk
    · exact Or.inl (List.mem_append_left _ hk)
    · rcases List.mem_cons.1 hk with rfl | hk
      · exact Or.inl (by simp)
      · rcases mem_setc hk with h1 | h1
        · exact Or.inl (by simp only [List.mem_append,List.mem_cons];exact Or.inr (Or.inr h1))
        · exact Or.inr h1
def givM (t:Tm):Option (ByteArray × Tm × Tm) :=
  if t.K=6 then some (t.S,pa t 0,pa t 1)
  else if t.K=5∧(pa t 0).K=4 then some ((pa t 0).S,pa t 1,pa (pa t 0) 0) else none
def mayM (s:ByteArray) (x t:Tm):Bool:=pureM x && decide (usesN (bs s) 24 t < 2)
theorem hereM_none {t:Tm} (h:givM t=none):hereM t=(t,false):=by
  unfold givM at h
  by_cases h6:t.K=6
  · rw [if_pos h6] at h;cases h
  rw [if_neg h6] at h
  by_cases h5:t.K=5∧(pa t 0).K=4
  · rw [if_pos h5] at h;cases h
  have hA:hereA t=false:=by
    unfold hereA
    by_cases e:t.K=5
    · have:¬ (pa t 0).K=4:=fun e2=>h5 ⟨e,e2⟩
      simp [this]
    · simp [e]
  have hL:hereL t=false:=by unfold hereL;simp [h6]
  unfold hereM
  rw [if_neg (by rw [hA];simp),if_neg (by rw [hL];simp)]
theorem hereM_some {t x y:Tm} {s:ByteArray} (h:givM t=some (s,x,y)):hereM t=if mayM s x y=true then spR (freeW 24 x [] []) x (usesP (bs s) 24 y) y else (t,false):=by
  unfold givM at h
  by_cases h6:t.K=6
  · rw [if_pos h6] at h
    injection h with h
    injection h with e1 h
    injection h with e2 e3
    subst e1 e2 e3
    have hA:hereA t=false:=by unfold hereA;simp [h6]
    have hL:hereL t=mayM t.S (pa t 0) (pa t 1):=by unfold hereL mayM;simp [h6]
    unfold hereM
    rw [if_neg (by rw [hA];simp),hL]
  rw [if_neg h6] at h
  by_cases h5:t.K=5∧(pa t 0).K=4
  · rw [if_pos h5] at h
    injection h with h
    injection h with e1 h
    injection h with e2 e3
    subst e1 e2 e3
    have hA:hereA t=mayM (pa t 0).S (pa t 1) (pa (pa t 0) 0):=by unfold hereA mayM;simp [h5.1,h5.2]
    have hL:hereL t=false:=by unfold hereL;simp [h6]
    unfold hereM
    rw [hA,hL]
    simp
  · rw [if_neg h5] at h;cases h
end Go.Proofs.YtcepgedbmffkdaaGreat

/-
  What it is that a form's type is asked: a call.
-/
namespace Go.Proofs.YtcepgedbmffkdaaGreat
open Go.RowKit
set_option linter.unusedVariables false
set_option linter.unusedSimpArgs false
theorem is_appForm (W:World) (v:Value):(Instr.typeAssert (.iface 112 v) 52 112 true).run Tryz.prog W=.ok (.tuple #[v,.bool true]) W:=by kernel_rfl
theorem no_appForm (W:World) (u:TypeId) (v:Value) (h:u≠112):(Instr.typeAssert (.iface u v) 52 112 true).run Tryz.prog W=.ok (.tuple #[.agg #[.int .i64 0,.nilIface,.nilIface],.bool false]) W:=by
  have hz:(zeroValue 112).run Tryz.prog W=.ok (.agg #[.int .i64 0,.nilIface,.nilIface]) W:=by kernel_rfl
  simp [Instr.typeAssert,run_underlying Tryz.underlying112,h,hz]
end Go.Proofs.YtcepgedbmffkdaaGreat
