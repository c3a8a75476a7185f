/-
  The program's 'givenBy', whatever the form: what is given a name, its memory among the term's own.
-/
import Derived.Test.YtcepgedbmffkdaaGreatFbaGv
import Derived.Test.YtcepgedbmffkdaaGreatFbaZ3
import Derived.Test.YtcepgedbmffkdaaGreatFbaZ6
import Derived.Test.YtcepgedbmffkdaaGreatFbaZ16
import Derived.Test.YtcepgedbmffkdaaGreatFbaZ21
namespace Go.Proofs.YtcepgedbmffkdaaGreat
open Go.RowKit
set_option linter.unusedVariables false
set_option linter.unusedSimpArgs false
theorem fval_tag (nd k n:Int) (s z:ByteArray) (tk tn:Int) (v1 v2 p0 p1 p2:Value):∃ τ u,fval nd k n s z tk tn v1 v2 p0 p1 p2=.iface τ u∧(k≠4→τ≠110)∧(k≠5→τ≠112)∧(k≠6→τ≠114):=by
  unfold fval
  by_cases h1:k=1
  · rw [if_pos h1];exact ⟨_,_,rfl,fun _=>by decide,fun _=>by decide,fun _=>by decide⟩
  rw [if_neg h1]
  by_cases h2:k=2
  · rw [if_pos h2];exact ⟨_,_,rfl,fun _=>by decide,fun _=>by decide,fun _=>by decide⟩
  rw [if_neg h2]
  by_cases h3:k=3
  · rw [if_pos h3];exact ⟨_,_,rfl,fun _=>by decide,fun _=>by decide,fun _=>by decide⟩
  rw [if_neg h3]
  by_cases h4:k=4
  · rw [if_pos h4];exact ⟨_,_,rfl,fun h=>absurd h4 h,fun _=>by decide,fun _=>by decide⟩
  rw [if_neg h4]
  by_cases h5:k=5
  · rw [if_pos h5];exact ⟨_,_,rfl,fun _=>by decide,fun h=>absurd h5 h,fun _=>by decide⟩
  rw [if_neg h5]
  by_cases h6:k=6
  · rw [if_pos h6];exact ⟨_,_,rfl,fun _=>by decide,fun _=>by decide,fun h=>absurd h6 h⟩
  rw [if_neg h6]
  by_cases h7:k=7
  · rw [if_pos h7];exact ⟨_,_,rfl,fun _=>by decide,fun _=>by decide,fun _=>by decide⟩
  rw [if_neg h7]
  by_cases h8:k=8
  · rw [if_pos h8];exact ⟨_,_,rfl,fun _=>by decide,fun _=>by decide,fun _=>by decide⟩
  rw [if_neg h8]
  by_cases h9:k=9
  · rw [if_pos h9];exact ⟨_,_,rfl,fun _=>by decide,fun _=>by decide,fun _=>by decide⟩
  rw [if_neg h9]
  by_cases h10:k=10
  · rw [if_pos h10];exact ⟨_,_,rfl,fun _=>by decide,fun _=>by decide,fun _=>by decide⟩
  rw [if_neg h10]
  by_cases h11:k=11
  · rw [if_pos h11];exact ⟨_,_,rfl,fun _=>by decide,fun _=>by decide,fun _=>by decide⟩
  rw [if_neg h11]
  by_cases h12:k=12
  · rw [if_pos h12];exact ⟨_,_,rfl,fun _=>by decide,fun _=>by decide,fun _=>by decide⟩
  rw [if_neg h12]
  by_cases h13:k=13
  · rw [if_pos h13];exact ⟨_,_,rfl,fun _=>by decide,fun _=>by decide,fun _=>by decide⟩
  rw [if_neg h13]
  by_cases h14:k=14
  · rw [if_pos h14];exact ⟨_,_,rfl,fun _=>by decide,fun _=>by decide,fun _=>by decide⟩
  rw [if_neg h14]
  by_cases h15:k=15
  · rw [if_pos h15];exact ⟨_,_,rfl,fun _=>by decide,fun _=>by decide,fun _=>by decide⟩
  rw [if_neg h15]
  by_cases h16:k=16
  · rw [if_pos h16];exact ⟨_,_,rfl,fun _=>by decide,fun _=>by decide,fun _=>by decide⟩
  rw [if_neg h16]
  exact ⟨_,_,rfl,fun _=>by decide,fun _=>by decide,fun _=>by decide⟩
theorem paGetB {t:Tm} {i:Nat} (hi:i < t.A.length):pa t i=t.A[i]:=by unfold pa;rw [List.getElem?_eq_getElem hi];rfl
theorem FldO.parts {w:World} {D d:Nat} {t:Tm} {a1 a2 a3:Option Addr} {l1 l2 l3:Nat} {bs:List Nat} (h:FldO w D (OwM w D d) t a1 l1 a2 l2 a3 l3 bs) (hA:0 < t.A.length) :
    ∃ (g:Nat) (cs:Array Value) (p12:List Nat) (bss:List (List Nat)) (d1:Nat),d=d1+1∧a3=some ⟨g,0,none⟩∧l3=t.A.length∧w.heap[g]?=some (.cells cs 34 (0,0))∧bss.length=t.A.length∧bs=p12 ++ g :: bss.flatten ∧
      ∀ i (_:i < t.A.length) (_:i < bss.length),∃ b1 m1 e1 b2 m2 e2 b3 m3 e3,Nine w g (i * 9) t.A[i].K t.A[i].N t.A[i].S t.A[i].Z t.A[i].T.K t.A[i].T.N (.slice b1 m1 e1) (.slice b2 m2 e2) (.slice b3 m3 e3)∧FldO w D (OwM w D d1) t.A[i] b1 m1 b2 m2 b3 m3 bss[i]:=by
  obtain ⟨p1,p2,p3,rfl,h1,h2,h3,h4,h5⟩:=h
  cases d with
  | zero=>obtain ⟨_,h6,_⟩:=h5;rw [h6] at hA;simp at hA
  | succ d1 =>
    rcases h5 with ⟨_,h6,_⟩ | ⟨g,cs,bss,rfl,hl,hm,hg,hc,hbl,rfl,hE⟩
    · rw [h6] at hA;simp at hA
    · exact ⟨g,cs,p1 ++ p2,bss,d1,rfl,rfl,hl,hg,hbl,rfl,hE⟩
def GivE (w w':World) (D:Nat) (t:Tm) (bs:List Nat) (e:Ending):Prop :=
  Below w.heap.size w w'∧∃ (GC:Array Value),GC.size=19 ∧
    ((givM t=none∧e=.returned (.tuple #[.agg GC,.bool false])∧GC=#[.string ⟨#[]⟩,.int .i64 0,.int .i64 0,.string ⟨#[]⟩,.string ⟨#[]⟩,.int .i64 0,.int .i64 0,.slice none 0 0,.slice none 0 0,.slice none 0 0,.int .i64 0,.int .i64 0,.string ⟨#[]⟩,.string ⟨#[]⟩,.int .i64 0,.int .i64 0,.slice none 0 0,.slice none 0 0,.slice none 0 0]) ∨
     (∃ (s:ByteArray) (x y:Tm) (b1:Option Addr) (m1 e1:Nat) (b2:Option Addr) (m2 e2:Nat) (b3:Option Addr) (m3 e3:Nat) (d1:Option Addr) (n1 f1:Nat) (d2:Option Addr) (n2 f2:Nat) (d3:Option Addr) (n3 f3:Nat) (d':Nat) (bx bY:List Nat),givM t=some (s,x,y)∧e=.returned (.tuple #[.agg GC,.bool true])∧GC=#[.string s,.int .i64 x.K,.int .i64 x.N,.string x.S,.string x.Z,.int .i64 x.T.K,.int .i64 x.T.N,.slice b1 m1 e1,.slice b2 m2 e2,.slice b3 m3 e3,.int .i64 y.K,.int .i64 y.N,.string y.S,.string y.Z,.int .i64 y.T.K,.int .i64 y.T.N,.slice d1 n1 f1,.slice d2 n2 f2,.slice d3 n3 f3] ∧
        FldO w D (OwM w D d') x b1 m1 b2 m2 b3 m3 bx∧FldO w D (OwM w D d') y d1 n1 d2 n2 d3 n3 bY∧bx.Nodup∧bY.Nodup∧(∀ k ∈ bx,k ∉ bY)∧(∀ k ∈ bx,k ∈ bs)∧(∀ k ∈ bY,k ∈ bs)))
theorem FldO.deeperd {w:World} {D d d':Nat} {t:Tm} {a1 a2 a3:Option Addr} {l1 l2 l3:Nat} {bs:List Nat} (h:FldO w D (OwM w D d) t a1 l1 a2 l2 a3 l3 bs) (hd:d≤d'):FldO w D (OwM w D d') t a1 l1 a2 l2 a3 l3 bs :=
  h.map (fun _ _ _ _ _ hr=>hr) (fun _ _ _ _ _ hr=>hr.deepP hd)
set_option maxRecDepth 100000 in
set_option maxHeartbeats 4000000 in
theorem gv_any (l:Nat) (L B D0:Nat) (w0:World) (t:Tm) (vf:Value) (hv:Fv L B w0 D0 (l+1) t vf) (m:Nat) (hm:nodesM (l+1) t=some m) (w:World) (D d:Nat) (a1:Option Addr) (l1 c1:Nat) (a2:Option Addr) (l2 c2:Nat) (a3:Option Addr) (l3 c3:Nat) (bs:List Nat)
    (hf:FldO w D (OwM w D d) t a1 l1 a2 l2 a3 l3 bs) (hnd:bs.Nodup) (hin:∀ k ∈ bs,k < w.heap.size) :
    Calls Tryz.prog 74 #[.agg #[.int .i64 t.K,.int .i64 t.N,.string t.S,.string t.Z,.int .i64 t.T.K,.int .i64 t.T.N,.slice a1 l1 c1,.slice a2 l2 c2,.slice a3 l3 c3],vf] w fun e w'=>GivE w w' D t bs e:=by
  obtain ⟨nd,v1,k1,j1,v2,k2,j2,p,_,_,hp,rfl⟩:=hv
  obtain ⟨hn,hparts⟩:=nodesM_get hm
  obtain ⟨hk1,hk2,hsh⟩:=nodeM_kinds hn
  by_cases h6:t.K=6
  · have hl:t.A.length=2:=by have h:=hsh;rw [h6] at h;have h2:shP 6=2:=rfl;omega
    obtain ⟨g,cs,p12,bss,d1,rfl,rfl,hl3,hg,hbl,rfl,hE⟩:=hf.parts (by omega)
    obtain rfl:l3=2:=by omega
    obtain ⟨b1,m1,e1,b2,m2,e2,b3,m3,e3,hx9,hxf⟩:=hE 0 (by omega) (by omega)
    obtain ⟨d1',n1,f1,d2,n2,f2,d3,n3,f3,hy9,hyf⟩:=hE 1 (by omega) (by omega)
    have hgiv:givM t=some (t.S,t.A[0],t.A[1]):=by unfold givM;rw [if_pos h6,paGetB (by omega),paGetB (by omega)]
    obtain ⟨hn12,hng,hdis⟩:=List.nodup_append.1 hnd
    obtain ⟨hgf,hnf⟩:=List.nodup_cons.1 hng
    have hN0:(bss[0]'(by omega)).Nodup:=(List.pairwise_flatten.1 hnf).1 _ (List.getElem_mem _)
    have hN1:(bss[1]'(by omega)).Nodup:=(List.pairwise_flatten.1 hnf).1 _ (List.getElem_mem _)
    have hNa:∀ k ∈ (bss[0]'(by omega)),k ∉ (bss[1]'(by omega)):=fun k h1 h2=>part_apart hnf (by omega) (by omega) (by decide) h1 h2
    have hs0:∀ k ∈ (bss[0]'(by omega)),k ∈ p12 ++ g :: bss.flatten:=fun k hk=>by simp only [List.mem_append,List.mem_cons];exact Or.inr (Or.inr (mem_part (by omega) hk))
    have hs1:∀ k ∈ (bss[1]'(by omega)),k ∈ p12 ++ g :: bss.flatten:=fun k hk=>by simp only [List.mem_append,List.mem_cons];exact Or.inr (Or.inr (mem_part (by omega) hk))
    obtain ⟨τ0,u0,e0⟩:=(hp 0 (by omega)).iface
    obtain ⟨τ1,u1,e1'⟩:=(hp 1 (by omega)).iface
    have hfv:fval nd t.K t.N t.S t.Z t.T.K t.T.N (.slice v1 k1 j1) (.slice v2 k2 j2) (p 0) (p 1) (p 2)=.iface 114 (.agg #[.string t.S,.int .i64 t.N,.iface τ0 u0,.iface τ1 u1]):=by
      rw [h6,e0,e1'];rfl
    rw [hfv]
    refine (givenBy_let t a1 l1 c1 a2 l2 c2 c3 t.A[0] b1 m1 e1 b2 m2 e2 b3 m3 e3 t.A[1] d1' n1 f1 d2 n2 f2 d3 n3 f3 t.S t.N τ0 τ1 u0 u1 g w (hin g (by simp)) hx9 hy9).mono ?_
    rintro e w' ⟨rfl,hb⟩
    refine ⟨hb,_,by rfl,Or.inr ⟨t.S,t.A[0],t.A[1],b1,m1,e1,b2,m2,e2,b3,m3,e3,d1',n1,f1,d2,n2,f2,d3,n3,f3,d1,bss[0],bss[1],hgiv,rfl,rfl,hxf,hyf,hN0,hN1,hNa,hs0,hs1⟩⟩
  by_cases h5:t.K=5
  · have hl:t.A.length=2:=by have h:=hsh;rw [h5] at h;have h2:shP 5=2:=rfl;omega
    obtain ⟨τ1,u1,e1'⟩:=(hp 1 (by omega)).iface
    have hv0:=hp 0 (by omega)
    by_cases h4:t.A[0].K=4
    · obtain ⟨m0,hm0,_⟩:=hparts 0 (by omega)
      have hl0:t.A[0].A.length=1:=by
        cases l with
        | zero=>simp [nodesM] at hm0
        | succ l=>have h:=(nodeM_kinds (nodesM_get hm0).1).2.2;rw [h4] at h;have h2:shP 4=1:=rfl;omega
      obtain ⟨g,cs,p12,bss,d1,rfl,rfl,hl3,hg,hbl,rfl,hE⟩:=hf.parts (by omega)
      obtain rfl:l3=2:=by omega
      obtain ⟨q1,r1,s1,q2,r2,s2,q3,r3,s3,hf9,hff⟩:=hE 0 (by omega) (by omega)
      obtain ⟨b1,m1,e1,b2,m2,e2,b3,m3,e3,hx9,hxf⟩:=hE 1 (by omega) (by omega)
      obtain ⟨g2,cs2,q12,bss2,d2',rfl,rfl,hr3,hg2,hbl2,hbs2,hE2⟩:=hff.parts (by omega)
      obtain rfl:r3=1:=by omega
      obtain ⟨d1',n1,f1,d2,n2,f2,d3,n3,f3,hy9,hyf⟩:=hE2 0 (by omega) (by omega)
      have hgiv:givM t=some (t.A[0].S,t.A[1],t.A[0].A[0]):=by
        unfold givM
        rw [if_neg h6,if_pos ⟨h5,by rw [paGetB (by omega)];exact h4⟩,paGetB (i:=0) (by omega),paGetB (i:=1) (by omega),paGetB (by omega)]
      obtain ⟨hn12,hng,hdis⟩:=List.nodup_append.1 hnd
      obtain ⟨hgf,hnf⟩:=List.nodup_cons.1 hng
      have hni:(bss[0]'(by omega)).Nodup:=(List.pairwise_flatten.1 hnf).1 _ (List.getElem_mem _)
      have hsub0:∀ k ∈ (bss2[0]'(by omega)),k ∈ (bss[0]'(by omega)):=fun k hk=>by
        rw [hbs2];simp only [List.mem_append,List.mem_cons];exact Or.inr (Or.inr (mem_part (by omega) hk))
      have hN1:(bss[1]'(by omega)).Nodup:=(List.pairwise_flatten.1 hnf).1 _ (List.getElem_mem _)
      have hN0:(bss2[0]'(by omega)).Nodup:=by
        have h:=hni
        rw [hbs2] at h
        exact (List.pairwise_flatten.1 (List.nodup_cons.1 (List.nodup_append.1 h).2.1).2).1 _ (List.getElem_mem _)
      have hNa:∀ k ∈ (bss[1]'(by omega)),k ∉ (bss2[0]'(by omega)):=fun k h1 h2=>part_apart hnf (by omega) (by omega) (show 1≠0 by decide) h1 (hsub0 k h2)
      have hs1:∀ k ∈ (bss[1]'(by omega)),k ∈ p12 ++ g :: bss.flatten:=fun k hk=>by simp only [List.mem_append,List.mem_cons];exact Or.inr (Or.inr (mem_part (by omega) hk))
      have hs0:∀ k ∈ (bss2[0]'(by omega)),k ∈ p12 ++ g :: bss.flatten:=fun k hk=>by simp only [List.mem_append,List.mem_cons];exact Or.inr (Or.inr (mem_part (by omega) (hsub0 k hk)))
      have hg2in:g2 ∈ (bss[0]'(by omega)):=by rw [hbs2];simp
      cases l with
      | zero=>simp [nodesM] at hm0
      | succ l =>
        obtain ⟨nd0,z1,z2,z3,z4,z5,z6,p',_,_,hp',e0⟩:=hv0
        obtain ⟨τ2,u2,e2'⟩:=(hp' 0 (by omega)).iface
        have hfv0:p 0=.iface 110 (.agg #[.int .i64 nd0,.string t.A[0].S,.int .i64 t.A[0].T.K,.int .i64 t.A[0].T.N,.slice z1 z2 z3,.iface τ2 u2]):=by
          rw [e0,h4,e2'];rfl
        have hfv:fval nd t.K t.N t.S t.Z t.T.K t.T.N (.slice v1 k1 j1) (.slice v2 k2 j2) (p 0) (p 1) (p 2)=.iface 112 (.agg #[.int .i64 nd,.iface 110 (.agg #[.int .i64 nd0,.string t.A[0].S,.int .i64 t.A[0].T.K,.int .i64 t.A[0].T.N,.slice z1 z2 z3,.iface τ2 u2]),.iface τ1 u1]):=by
          rw [h5,hfv0,e1'];rfl
        rw [hfv]
        refine (givenBy_fn t a1 l1 c1 a2 l2 c2 c3 t.A[1] b1 m1 e1 b2 m2 e2 b3 m3 e3 t.A[0].A[0] d1' n1 f1 d2 n2 f2 d3 n3 f3 t.A[0] q1 r1 s1 q2 r2 s2 s3 t.A[0].S nd nd0 t.A[0].T.K t.A[0].T.N z1 z2 z3 τ1 τ2 u1 u2 g g2 w (hin g (by simp)) (hin g2 (by simp only [List.mem_append,List.mem_cons];exact Or.inr (Or.inr (mem_part (by omega) hg2in)))) hf9 hx9 hy9).mono ?_
        rintro e w' ⟨rfl,hb⟩
        refine ⟨hb,_,by rfl,Or.inr ⟨t.A[0].S,t.A[1],t.A[0].A[0],b1,m1,e1,b2,m2,e2,b3,m3,e3,d1',n1,f1,d2,n2,f2,d3,n3,f3,d2'+1,bss[1],bss2[0],hgiv,rfl,rfl,hxf,hyf.deeperd (by omega),hN1,hN0,hNa,hs1,hs0⟩⟩
    · have hgiv:givM t=none:=by
        unfold givM
        rw [if_neg h6,if_neg (fun h=>h4 (by have:=h.2;rw [paGetB (by omega)] at this;exact this))]
      cases l with
      | zero=>exact hv0.elim
      | succ l =>
        obtain ⟨nd0,z1,z2,z3,z4,z5,z6,p',_,_,hp',e0⟩:=hv0
        obtain ⟨τ0,u0,et,ht4,_,_⟩:=fval_tag nd0 t.A[0].K t.A[0].N t.A[0].S t.A[0].Z t.A[0].T.K t.A[0].T.N (.slice z1 z2 z3) (.slice z4 z5 z6) (p' 0) (p' 1) (p' 2)
        have hfv:fval nd t.K t.N t.S t.Z t.T.K t.T.N (.slice v1 k1 j1) (.slice v2 k2 j2) (p 0) (p 1) (p 2)=.iface 112 (.agg #[.int .i64 nd,.iface τ0 u0,.iface τ1 u1]):=by
          rw [h5,e0,et,e1'];rfl
        rw [hfv]
        refine (givenBy_app t a1 l1 c1 a2 l2 c2 a3 l3 c3 nd τ0 τ1 u0 u1 (ht4 h4) w).mono ?_
        rintro e w' ⟨rfl,hb⟩
        exact ⟨hb,_,by rfl,Or.inl ⟨hgiv,rfl,rfl⟩⟩
  · have hgiv:givM t=none:=by
      unfold givM
      rw [if_neg h6,if_neg (fun h=>h5 h.1)]
    obtain ⟨τ0,u0,et,_,ht5,ht6⟩:=fval_tag nd t.K t.N t.S t.Z t.T.K t.T.N (.slice v1 k1 j1) (.slice v2 k2 j2) (p 0) (p 1) (p 2)
    rw [et]
    refine (givenBy_no t a1 l1 c1 a2 l2 c2 a3 l3 c3 τ0 u0 (ht6 h6) (ht5 h5) w).mono ?_
    rintro e w' ⟨rfl,hb⟩
    exact ⟨hb,_,by rfl,Or.inl ⟨hgiv,rfl,rfl⟩⟩
end Go.Proofs.YtcepgedbmffkdaaGreat

/-
  What the program's 'putForAll' comes to where there is one use at most: what is put in may lie anywhere.
-/
namespace Go.Proofs.YtcepgedbmffkdaaGreat
open Go.RowKit
set_option linter.unusedVariables false
set_option linter.unusedSimpArgs false
def PutAt (w w':World) (D dx:Nat) (bk ok:Nat) (x:Tm):Prop:=∃ (w5:World) (r1:Option Addr) (s1 v1:Nat) (r2:Option Addr) (s2 v2:Nat) (r3:Option Addr) (s3 v3:Nat),Below w.heap.size w w5∧FmO w.heap.size w5.heap.size w5 D dx x r1 s1 r2 s2 r3 s3∧w'=set9 w5 bk ok (.int .i64 x.K) (.int .i64 x.N) (.string x.S) (.string x.Z) (.int .i64 x.T.K) (.int .i64 x.T.N) (.slice r1 s1 v1) (.slice r2 s2 v2) (.slice r3 s3 v3)
def PoE (w w':World) (D dx:Nat) (x:Tm) (us:List Use) (qs:List Way9) (e:Ending):Prop :=
  e=.returned (.bool (putOk (freeT x) qs))∧(putOk (freeT x) qs=false→Below w.heap.size w w')∧(us.length=0→Below w.heap.size w w') ∧
  (putOk (freeT x) qs=true→∀ (h:0 < us.length) (bk ok:Nat),us[0].1=⟨bk,ok,none⟩→PutAt w w' D dx bk ok x)
set_option maxRecDepth 100000 in
set_option maxHeartbeats 4000000 in
theorem putOne_any (D0 d0 L B base:Nat) (x:Tm) (a1:Option Addr) (l1 c1:Nat) (a2:Option Addr) (l2 c2:Nat) (a3:Option Addr) (l3 c3:Nat) (us:List Use) (qs:List Way9) (uo:Option Addr) (un uc:Nat) (w:World)
    (hB:B≤w.heap.size) (hx:Fm L B w D0 d0 x a1 l1 a2 l2 a3 l3) (hcx:cntM x≤1048576)
    (hU:Uss base w (.slice uo un uc) us) (hql:us.length=qs.length) (hone:us.length≤1)
    (hat:∀ j (h:j < us.length) (h':j < qs.length),∃ (bk ok:Nat) (csk:Array Value) (tyk:TypeId) (yk:Tm) (v6 v7 v8:Value),us[j].1=⟨bk,ok,none⟩∧w.heap[bk]?=some (.cells csk tyk (0,0))∧Nine w bk ok yk.K yk.N yk.S yk.Z yk.T.K yk.T.N v6 v7 v8∧Nsl w us[j].2.1 us[j].2.2.1 qs[j].2∧qs[j].2.length≤1000) :
    Calls Tryz.prog 77 #[.slice uo un uc,.agg #[.int .i64 x.K,.int .i64 x.N,.string x.S,.string x.Z,.int .i64 x.T.K,.int .i64 x.T.N,.slice a1 l1 c1,.slice a2 l2 c2,.slice a3 l3 c3]] w fun e w'=>PoE w w' (D0+1) d0 x us qs e:=by
  obtain ⟨X,hX⟩:∃ X,X=w.alloc (.cells #[.int .i64 x.K,.int .i64 x.N,.string x.S,.string x.Z,.int .i64 x.T.K,.int .i64 x.T.N,.slice a1 l1 c1,.slice a2 l2 c2,.slice a3 l3 c3] 34):=⟨_,rfl⟩
  have hXs:X.heap.size=w.heap.size+1:=by rw [hX];simp
  have hXb:Below w.heap.size w X:=by rw [hX];exact (Below.refl _ _).alloc (Nat.le_refl _) _
  have hX1:X.heap[w.heap.size]?=some (.cells #[.int .i64 x.K,.int .i64 x.N,.string x.S,.string x.Z,.int .i64 x.T.K,.int .i64 x.T.N,.slice a1 l1 c1,.slice a2 l2 c2,.slice a3 l3 c3] 34 (0,0)):=by rw [hX];exact heap_new rfl
  have HX:Hid (X=_):=hX
  clear hX
  have hul:un=us.length:=by
    obtain ⟨ao,cp,e⟩:=uss_form hU
    injection e
  go_enter Tryz.func77,Tryz.ntmps77
  go_wp2_with fail
  rw [← HX.out]
  refine (freeOf_any D0 d0 L B x a1 l1 c1 a2 l2 c2 a3 l3 c3 X (by omega) (Fm.below hXb hB hx)).mono ?_
  rintro e w1 ⟨vF,rfl,hb1,hF⟩
  obtain ⟨F,hFe⟩:∃ F,freeT x=F:=⟨_,rfl⟩
  rw [hFe] at hF
  have HFE:Hid (freeT x=F):=hFe
  obtain ⟨fo,fc,rfl⟩:=toks_form hF
  obtain ⟨fn,hfn⟩:∃ fn,F.length=fn:=⟨_,rfl⟩
  have hz1:=hb1.size
  have hbw1:Below w.heap.size w w1:=hXb.trans (hb1.mono (by omega))
  have hfb:fn≤9223372036854775807:=by
    rcases hF.2 with ⟨_,h⟩ | ⟨_,_,_,_,_,_,h1,h2,_⟩
    · omega
    · unfold maxLen at h2;omega
  have hNF:Nsl w1 fo fn F:=by rw [← hfn];exact Nsl.of_toks hF
  rw [hfn]
  have hU1:=uss_below hU hbw1
  have y1:=(hb1.block _ (by omega)).trans hX1
  have hx1:Fm L B w1 D0 d0 x a1 l1 a2 l2 a3 l3:=Fm.below hbw1 hB hx
  have HN0:Hid (putOk F qs=false→∀ W,Below w1.heap.size w1 W→PoE w W (D0+1) d0 x us qs (.returned (.bool false))):=fun h0 W hW=>by
    have hWw:Below w.heap.size w W:=hbw1.trans (hW.mono (by omega))
    refine ⟨by rw [HFE.out,h0],fun _=>hWw,fun _=>hWw,fun h1=>?_⟩
    rw [HFE.out,h0] at h1
    cases h1
  have HN1:Hid (us.length=0→PoE w w1 (D0+1) d0 x us qs (.returned (.bool true))):=fun h0=>by
    have hq:qs=[]:=List.length_eq_zero_iff.1 (by omega)
    refine ⟨by rw [hq];rfl,fun _=>hbw1,fun _=>hbw1,fun _ h1=>by omega⟩
  have HN2:Hid (∀ W,putOk F qs=true→0 < us.length→(∀ (h:0 < us.length) (bk ok:Nat),us[0].1=⟨bk,ok,none⟩→PutAt w W (D0+1) d0 bk ok x)→PoE w W (D0+1) d0 x us qs (.returned (.bool true))):=fun W h0 hl h1=>by
    refine ⟨by rw [HFE.out,h0],fun h2=>?_,fun h2=>by omega,fun _=>h1⟩
    rw [HFE.out,h0] at h2
    cases h2
  obtain ⟨y0,y1',y2,y3,y4,y5,y6,y7,y8⟩:=Nine.box y1
  have hun:(un:Int)=(us.length:Int):=by omega
  have HFL:Hid (F.length=fn):=hfn
  clear hU hF HX hx hfn hFe
  go_wp2_with fail
  go_loopw [14] (fun y wr=>∃ k:Nat,y=.int .i64 k∧k≤un∧Hid ((k=0∧wr=w1)∨(k=1∧putOk F qs=true∧∀ (h:0 < us.length) (bk ok:Nat),us[0].1=⟨bk,ok,none⟩→PutAt w wr (D0+1) d0 bk ok x))) (fun y _=>un - (intOf y).toNat)
  case atStart=>exact ⟨0,rfl,by omega,Or.inl ⟨rfl,rfl⟩⟩
  case round =>
    obtain ⟨k,rfl,hk,hS⟩:=hrel
    rcases hS.out with ⟨rfl,rfl⟩ | ⟨rfl,hok1,hput1⟩
    · by_cases hlt:0 < un
      · generalize wr=W0 at *
        have hku:0 < us.length:=by omega
        have hkq:0 < qs.length:=by omega
        obtain ⟨gU,capU,csU,eU,hhU,u0,u1⟩:=uss_at hU1 0 hku
        injection eU with eU1 eU2 eU3
        subst eU1
        subst eU3
        obtain ⟨bk,ok,csk,tyk,yk,v6,v7,v8,eb,hrk,h9k,hNs,hq2⟩:=hat 0 hku hkq
        have hbk:bk < w.heap.size:=(Array.getElem?_eq_some_iff.1 hrk).1
        have hrk1:=(hbw1.block bk hbk).trans hrk
        have h9k1:=h9k.below hbw1 hbk
        have hNs1:=hNs.below hbw1
        obtain ⟨no,hno⟩:∃ no,us[0].2.1=no:=⟨_,rfl⟩
        obtain ⟨nn,hnn⟩:∃ nn,us[0].2.2.1=nn:=⟨_,rfl⟩
        obtain ⟨nc,hnc⟩:∃ nc,us[0].2.2.2=nc:=⟨_,rfl⟩
        rw [eb] at u0
        rw [hno,hnn,hnc] at u1
        rw [hno,hnn] at hNs1
        have HEB:Hid (us[0].1=⟨bk,ok,none⟩):=eb
        have HQ1:Hid (qs=[qs[0]]):=by
          show qs=_
          have:qs.length=1:=by omega
          obtain ⟨q,hq⟩:=List.length_eq_one_iff.1 this
          subst hq
          rfl
        have hki:((0:Nat):Int) < (un:Int):=by omega
        have hki2:((0:Nat):Int) < (us.length:Int):=by omega
        have hki3:(0:Int) < (us.length:Int):=by omega
        have hki4:(0:Int) < (un:Int):=by omega
        obtain ⟨A,hA⟩:∃ A,A=W0.alloc (.cells #[.pointer (some ⟨bk,ok,none⟩),.slice no nn nc] 173):=⟨_,rfl⟩
        have hAb:Below W0.heap.size W0 A:=by rw [hA];exact (Below.refl _ _).alloc (Nat.le_refl _) _
        have hAs:A.heap.size=W0.heap.size+1:=by rw [hA];simp
        have hA0:A.heap[W0.heap.size]?=some (.cells #[.pointer (some ⟨bk,ok,none⟩),.slice no nn nc] 173 (0,0)):=by rw [hA];exact heap_new rfl
        have HA:Hid (A=_):=hA
        have hNsA:=hNs1.below hAb
        have hNFA:=hNF.below hAb
        clear hno hnn hnc hA eb
        go_wp2_with fail
        rw [← HA.out]
        go_loopw [20] (fun y wi=>∃ i:Nat,y=.int .i64 i∧i≤fn∧wi=A∧Hid (∀ q (hq:q < F.length),q < i→¬ F[q] ∈ qs[0].2)) (fun y _=>fn - (intOf y).toNat)
        case atStart=>exact ⟨0,rfl,by omega,rfl,fun _ _ h=>by omega⟩
        case round =>
          obtain ⟨i,rfl,hi,rfl,hnot⟩:=hrel
          obtain ⟨b0,b1⟩:=two_cells hA0
          by_cases hlt2:i < fn
          · have hiF:i < F.length:=by have:=HFL.out;omega
            obtain ⟨gF,eF,_,f0⟩:=hNFA.2 i hiF
            subst eF
            obtain ⟨z,hz⟩:∃ z:ByteArray,tk F[i]=.string z:=⟨_,rfl⟩
            have hbz:bs z=F[i]:=by
              have:(⟨F[i].toArray⟩:ByteArray)=z:=by simpa [tk] using hz
              rw [← this];simp [bs]
            rw [hz,Nat.zero_add] at f0
            have KC:=contains_nsl nc hNsA (by omega) z
            have hfi:(i:Int) < (fn:Int):=by omega
            clear hz
            go_wp2_with fail
            refine KC.mono ?_
            rintro e w4 ⟨rfl,hw⟩
            subst hw
            by_cases hm:bs z ∈ qs[0].2
            · have HT:decide (bs z ∈ qs[0].2)=true:=by simpa using hm
              have HNO:Hid (putOk F qs=false):=not_ok hkq (List.getElem_mem hiF) (by rw [← hbz];exact hm)
              rw [HT]
              clear hm
              go_wp2_with fail
              go_ret
              exact HN0.out HNO.out _ hAb
            · have HT:decide (bs z ∈ qs[0].2)=false:=by simpa using hm
              have HN2':Hid (∀ q (hq:q < F.length),q < i+1→¬ F[q] ∈ qs[0].2):=fun q hq hqi=>by
                by_cases e:q=i
                · subst e;rw [← hbz];exact hm
                · exact hnot.out q hq (by omega)
              have HI2:Hid (i+1≤fn):=by show _≤_;omega
              rw [HT]
              clear hm
              go_wp2_with fail
              go_roundw
              case rel=>exact ⟨i+1,by go_num,HI2.out,by first | rfl | trivial,HN2'⟩
              case measure=>have:=HI2.out;simp [intOf];omega
          · have hfree:freeAt F qs[0]=true:=free_all fun q hq=>hnot.out q hq (by have:=HFL.out;omega)
            have HOK:Hid (putOk F qs=true):=by
              show _=_
              rw [HQ1.out]
              simp [putOk,hfree]
            have HCA:=ct_any D0 d0 L B x a1 l1 c1 a2 l2 c2 a3 l3 c3 wr.drew (show B≤wr.heap.size by omega) (Fm.drew (Fm.below hAb (by omega) hx1)) hcx
            have hbox:=(hAb.block w.heap.size (by omega)).trans y1
            obtain ⟨p0,p1,p2,p3,p4,p5,p6,p7,p8⟩:=Nine.box hbox
            have h9A:=h9k1.below hAb (by omega)
            have hrA:=(hAb.block bk (by omega)).trans hrk1
            have HD5:Hid (∀ w5,Below wr.drew.heap.size wr.drew w5→Below wr.heap.size wr w5):=fun w5 h=>((Below.refl _ _).drew).trans (h.mono (Nat.le_refl _))
            have hbkA:bk < wr.heap.size:=by omega
            have hbxA:W0.heap.size < wr.heap.size:=by omega
            have HPA:Hid (∀ (w5 W:World) (r1:Option Addr) (s1 v1:Nat) (r2:Option Addr) (s2 v2:Nat) (r3:Option Addr) (s3 v3:Nat),Below wr.heap.size wr w5→FmO wr.drew.heap.size w5.heap.size w5 (D0+1) d0 x r1 s1 r2 s2 r3 s3→W=set9 w5 bk ok (.int .i64 x.K) (.int .i64 x.N) (.string x.S) (.string x.Z) (.int .i64 x.T.K) (.int .i64 x.T.N) (.slice r1 s1 v1) (.slice r2 s2 v2) (.slice r3 s3 v3)→∀ (h:0 < us.length) (bk' ok':Nat),us[0].1=⟨bk',ok',none⟩→PutAt w W (D0+1) d0 bk' ok' x):=fun w5 W r1 s1 v1 r2 s2 v2 r3 s3 v3 hb5 hO5 hW h bk' ok' e=>by
              have e2:(⟨bk,ok,none⟩:Addr)=⟨bk',ok',none⟩:=HEB.out.symm.trans e
              injection e2 with e3 e4
              subst e3
              subst e4
              refine ⟨w5,r1,s1,v1,r2,s2,v2,r3,s3,v3,hbw1.trans ((hAb.trans (hb5.mono (by omega))).mono (by omega)),?_,hW⟩
              exact hO5.keep (fun _ _ _=>rfl) (show w.heap.size≤wr.heap.size by omega) (Nat.le_refl _)
            clear hfree hS hNsA hNs1 u0 u1 h9k1 hrk1 hNFA
            go_wp2_with fail
            go_region_law (first
              | (go_simp;go_at_call 25;refine HCA.mono ?_;rintro e w5 ⟨r1,s1,v1,r2,v2,r3,v3,rfl,hb5,hO5⟩;have hb5d:=HD5.out w5 hb5;have q0:=(bcell hb5d hbxA 0).trans b0;obtain ⟨g0,g1,g2,g3,g4,g5,g6,g7,g8⟩:=h9A.below hb5d hbkA;have gf:=row_free ((hb5d.block bk hbkA).trans hrA)))
            all_goals
              have hP2:Hid (∀ (h:0 < us.length) (bk' ok':Nat),us[0].1=⟨bk',ok',none⟩→PutAt w (((((((((w5.setCell ⟨bk,ok,none⟩ (.int .i64 x.K)).setCell ⟨bk,ok+1,none⟩ (.int .i64 x.N)).setCell ⟨bk,ok+2,none⟩ (.string x.S)).setCell ⟨bk,ok+3,none⟩ (.string x.Z)).setCell ⟨bk,ok+4,none⟩ (.int .i64 x.T.K)).setCell ⟨bk,ok+5,none⟩ (.int .i64 x.T.N)).setCell ⟨bk,ok+6,none⟩ (.slice r1 s1 v1)).setCell ⟨bk,ok+7,none⟩ (.slice r2 l2 v2)).setCell ⟨bk,ok+8,none⟩ (.slice r3 l3 v3)) (D0+1) d0 bk' ok' x):=HPA.out w5 _ r1 s1 v1 r2 l2 v2 r3 l3 v3 hb5d hO5 (by rfl)
              have HK1:Hid (0+1≤un):=by show _≤_;omega
              clear hb5 hO5 hb5d q0 g0 g1 g2 g3 g4 g5 g6 g7 g8 gf p0 p1 p2 p3 p4 p5 p6 p7 p8
              go_wp2_with fail
              go_roundw
              case rel=>first | exact ⟨1,by go_num,HK1.out,Or.inr ⟨rfl,HOK.out,hP2.out⟩⟩ | ((repeat apply Exists.intro);exact ⟨⟨1,by go_num,HK1.out,Or.inr ⟨rfl,HOK.out,hP2.out⟩⟩,rfl⟩)
              case measure=>have:=HK1.out;simp [intOf];omega
      · have HZ:Hid (us.length=0):=by show _=_;omega
        have hz0:un=0:=by omega
        clear hat hone hU1 hNF hx1 y0 y1' y2 y3 y4 y5 y6 y7 y8
        go_wp2_with fail
        go_ret
        exact HN1.out HZ.out
    · have HZ:Hid (0 < us.length):=by show _ < _;omega
      have HOK:Hid (putOk F qs=true):=hok1
      have HP1:Hid (∀ (h:0 < us.length) (bk ok:Nat),us[0].1=⟨bk,ok,none⟩→PutAt w wr (D0+1) d0 bk ok x):=hput1
      have h1u:un=1:=by omega
      clear hat hone hU1 hNF hx1 y0 y1' y2 y3 y4 y5 y6 y7 y8 hok1 hput1
      go_wp2_with fail
      go_ret
      exact HN2.out wr HOK.out HZ.out HP1.out
end Go.Proofs.YtcepgedbmffkdaaGreat

/-
  The lists that are open on the way through a term, each with how many of its parts are asked; what lies in memory of them: no walk.
-/
namespace Go.Proofs.YtcepgedbmffkdaaGreat
open Go.RowKit
set_option linter.unusedVariables false
set_option linter.unusedSimpArgs false
theorem Tryz.infoOp:(Tryz.prog.info? 192).map (fun i=>(i.zero,i.size,i.bytes))=some (some (.agg #[.slice none 0 0,.int .i64 0]),2,32):=by kernel_rfl
structure Fr where
  g:Nat
  cap:Nat
  ts:List Tm
  bss:List (List Nat)
  n:Nat
abbrev Fr.vs (f:Fr):Array Value:=#[.slice (some ⟨f.g,0,none⟩) 2 f.cap,.int .i64 (f.n:Int)]
def Fr.cells (f:Fr):List Value:=f.vs.toList
def Fr.left (f:Fr):List Nat:=(f.bss.drop f.n).flatten
def Fr.ok (f:Fr):Bool:=(f.ts.drop f.n).all pureM
def Fr.wt (f:Fr):Nat:=1+((f.ts.drop f.n).map fun t=>1+2 * cntM t).sum
def wsum (fs:List Fr):Nat:=(fs.map Fr.wt).sum
def Fr.next (f:Fr):Fr:={ f with n:=f.n+1 }
structure FrOk (w:World) (D d:Nat) (f:Fr):Prop where
  lt:f.ts.length=2
  lb:f.bss.length=2
  n:f.n≤2
  it:∀ i (hi:i < f.ts.length) (hi':i < f.bss.length),∃ a1 l1 c1 a2 l2 c2 a3 l3 c3,Nine w f.g (i * 9) f.ts[i].K f.ts[i].N f.ts[i].S f.ts[i].Z f.ts[i].T.K f.ts[i].T.N (.slice a1 l1 c1) (.slice a2 l2 c2) (.slice a3 l3 c3)∧FldO w D (OwM w D d) f.ts[i] a1 l1 a2 l2 a3 l3 f.bss[i]
structure PSt (w:World) (D d:Nat) (fs:List Fr) (cs:List Nat):Prop where
  ok:∀ f ∈ fs,FrOk w D d f
  cin:∀ f ∈ fs,f.g ∈ cs
  nodup:(fs.flatMap Fr.left ++ cs).Nodup
  bnd:∀ b ∈ fs.flatMap Fr.left ++ cs,b < w.heap.size
  fro:∀ b ∈ cs,∃ a t,w.heap[b]?=some (.cells a t (0,0))
structure PDyn (w wr:World) (wp mp:Nat) (v:Value) (fs:List Fr) (cs:List Nat):Prop where
  bel:Below w.heap.size w wr
  wpl:w.heap.size≤wp
  mpl:w.heap.size≤mp
  box:wr.heap[wp]?=some (.cells #[v,.map (some mp)] 170 (0,0))
  row:wr.ownsRow 0 192 2 v fs.length (fs.flatMap Fr.cells)
  blk:∀ x,v.ownBlock=some x→w.heap.size≤x
  map:∃ es clock,wr.heap[mp]?=some (.map es clock)∧KeysP es cs
theorem wsum_append (a b:List Fr):wsum (a ++ b)=wsum a+wsum b:=by simp [wsum]
theorem wsum_len (fs:List Fr):fs.length≤wsum fs:=by
  induction fs with
  | nil=>simp [wsum]
  | cons f l ih =>
    simp only [wsum,List.map_cons,List.sum_cons,List.length_cons] at *;have:1≤f.wt:=by unfold Fr.wt;omega
    omega
theorem p_below {w wr w1:World} {wp mp:Nat} {v:Value} {fs:List Fr} {cs:List Nat} (h:PDyn w wr wp mp v fs cs) (hb:Below wr.heap.size wr w1):PDyn w w1 wp mp v fs cs:=by
  refine ⟨h.bel.trans (hb.mono h.bel.size),h.wpl,h.mpl,(hb.block wp (Array.getElem?_eq_some_iff.1 h.box).1).trans h.box,own_keep h.row fun g hg=>hb.block g (own_cells h.row hg).1,h.blk,?_⟩
  obtain ⟨es,clock,hm,hk⟩:=h.map
  exact ⟨es,clock,(hb.block mp (Array.getElem?_eq_some_iff.1 hm).1).trans hm,hk⟩
theorem p_apart {w wr:World} {wp mp:Nat} {v:Value} {fs:List Fr} {cs:List Nat} (h:PDyn w wr wp mp v fs cs):wp≠mp∧v.ownBlock≠some wp∧v.ownBlock≠some mp:=by
  obtain ⟨es,clock,hm,_⟩:=h.map
  refine ⟨fun e=>?_,fun e=>?_,fun e=>?_⟩
  · subst e;rw [h.box] at hm;cases hm
  · obtain ⟨_,cur,fr,e1⟩:=own_cells h.row e
    rw [h.box] at e1;cases e1
  · obtain ⟨_,cur,fr,e1⟩:=own_cells h.row e
    rw [hm] at e1;cases e1
theorem cellsF_len (f:Fr):f.cells.length=2:=rfl
theorem cellsF_flat (fs:List Fr):(fs.flatMap Fr.cells).length=fs.length * 2:=by
  induction fs with
  | nil=>rfl
  | cons i l ih=>simp only [List.flatMap_cons,List.length_append,ih,cellsF_len,List.length_cons];omega
theorem p_top {w wr:World} {wp mp:Nat} {v:Value} {init:List Fr} {f:Fr} {cs:List Nat} (h:PDyn w wr wp mp v (init ++ [f]) cs) :
    ∃ g cap cur,v=.slice (some ⟨g,0,none⟩) (init.length+1) cap∧wr.heap[g]?=some (.cells cur 192 (0,0))∧w.heap.size≤g∧g≠wp∧g≠mp∧init.length+1≤cap∧cap≤9223372036854775807∧init.length * 2+1 < cur.size ∧
      wr.cell? ⟨g,init.length * 2,none⟩=some (.slice (some ⟨f.g,0,none⟩) 2 f.cap)∧wr.cell? ⟨g,init.length * 2+1,none⟩=some (.int .i64 (f.n:Int)) ∧
      PDyn w (wr.setCell ⟨wp,0,none⟩ (.slice (some ⟨g,0,none⟩) init.length cap)) wp mp (.slice (some ⟨g,0,none⟩) init.length cap) init cs ∧
      PDyn w (wr.setCell ⟨g,init.length * 2+1,none⟩ (.int .i64 ((f.n:Int)+1))) wp mp v (init ++ [f.next]) cs:=by
  have hrow:=h.row
  obtain ⟨hne,hv1,hv2⟩:=p_apart h
  rw [List.length_append,List.flatMap_append] at hrow
  simp only [List.length_singleton,List.flatMap_cons,List.flatMap_nil,List.append_nil] at hrow
  rcases hrow.2 with ⟨_,hn⟩ | ⟨g,cap,cur,rfl,hg,hh,hc1,hc2,hc3,ht⟩
  · omega
  · have hl:=cellsF_flat init
    have hgp:g≠wp:=fun e=>hv1 (by simp [Value.ownBlock,e])
    have hgm:g≠mp:=fun e=>hv2 (by simp [Value.ownBlock,e])
    have look:∀ j,j < 2→wr.cell? ⟨g,init.length * 2+j,none⟩=f.vs[j]?:=by
      intro j hj
      rw [row_cell hh]
      have e:(cur.toList.take ((init.length+1) * 2))[init.length * 2+j]?=f.cells[j]?:=by
        rw [ht,List.getElem?_append_right (by omega),hl];congr 1;omega
      rw [List.getElem?_take,if_pos (by omega)] at e
      rw [← Array.getElem?_toList,e]
      unfold Fr.cells
      exact Array.getElem?_toList
    have hcs:init.length * 2+1 < cur.size:=by
      have h1:=look 1 (by omega)
      rw [row_cell hh] at h1
      exact (Array.getElem?_eq_some_iff.1 h1).1
    obtain ⟨es,clock,hm,hk⟩:=h.map
    refine ⟨g,cap,cur,rfl,hh,h.blk g rfl,hgp,hgm,hc1,by unfold maxLen at hc2;omega,hcs,look 0 (by omega),look 1 (by omega),?_,?_⟩
    · refine ⟨h.bel.setCell (p:=⟨wp,0,none⟩) h.wpl _,h.wpl,h.mpl,row_set h.box _ _,⟨hl,Or.inr ⟨g,cap,cur,rfl,hg,(row_other _ _ _ hgp).trans hh,by omega,hc2,hc3,?_⟩⟩,fun x hx=>h.blk x hx,⟨es,clock,(row_other _ _ _ (fun e=>hne e.symm)).trans hm,hk⟩⟩
      have e2:cur.toList.take (init.length * 2)=(cur.toList.take ((init.length+1) * 2)).take (init.length * 2):=by rw [List.take_take];congr 1;omega
      rw [e2,ht,List.take_append_of_le_length (by omega),List.take_of_length_le (by omega)]
    · refine ⟨h.bel.setCell (p:=⟨g,_,none⟩) (h.blk g rfl) _,h.wpl,h.mpl,(row_other _ _ _ (fun e=>hgp e.symm)).trans h.box,?_,fun x hx=>h.blk x hx,⟨es,clock,(row_other _ _ _ (fun e=>hgm e.symm)).trans hm,hk⟩⟩
      rw [List.length_append,List.flatMap_append]
      simp only [List.length_singleton,List.flatMap_cons,List.flatMap_nil,List.append_nil]
      refine ⟨by simp [hl,cellsF_len];omega,Or.inr ⟨g,cap,_,rfl,hg,row_set hh _ _,hc1,hc2,by simpa using hc3,?_⟩⟩
      rw [Array.toList_setIfInBounds,List.take_set,ht,List.set_append_right _ _ (by omega),hl]
      congr 1
      have:init.length * 2+1 - init.length * 2=1:=by omega
      rw [this]
      simp [Fr.cells,Fr.vs,Fr.next]
theorem p_push {w wr:World} {wp mp:Nat} {v:Value} {fs:List Fr} {cs:List Nat} (h:PDyn w wr wp mp v fs cs) (hsz:fs.length≤2097153) (f:Fr) :
    ∃ g cap w2,(Builtin.append_ #[168,168] 168 #[v,.slice (some ⟨wr.heap.size,0,none⟩) 1 1]).run Tryz.prog (wr.alloc (.cells f.vs 192))=.ok (.slice (some ⟨g,0,none⟩) (fs.length+1) cap) w2 ∧
      PDyn w (w2.setCell ⟨wp,0,none⟩ (.slice (some ⟨g,0,none⟩) (fs.length+1) cap)) wp mp (.slice (some ⟨g,0,none⟩) (fs.length+1) cap) (fs ++ [f]) cs∧(∀ i,i < wr.heap.size→v.ownBlock≠some i→w2.heap[i]?=wr.heap[i]?)∧Below w.heap.size w w2∧w2.heap[wp]?=some (.cells #[v,.map (some mp)] 170 (0,0)):=by
  obtain ⟨i0,hi,hz0,hz1,hz2⟩:=info_parts Tryz.infoOp
  have hX:Below wr.heap.size wr (wr.alloc (.cells f.vs 192)):=(Below.refl _ _).alloc (Nat.le_refl _) _
  have h1:=p_below h hX
  have hgw:=h.bel.size
  obtain ⟨g,cap,w2,hrun,hown2,hgrow,hat,hlt⟩:=run_append_lies (P:=Tryz.prog) (wr.alloc (.cells f.vs 192)) 168 168 0 192 i0 _ 2 32 Tryz.underlying168 hi hz0 hz1 hz2 rfl (by omega) v fs.length _ h1.row
    ⟨wr.heap.size,0,none⟩ 1 1 f.cells rfl (World.news_of_block (cs:=f.vs) (t:=192) (fr:=(0,0)) (heap_alloc_new wr _)) (by simp [Value.oneCell',Fr.cells])
    (by omega) (by unfold maxLen;omega) (by omega) (by simp) _ rfl
  obtain ⟨hne,hv1,hv2⟩:=p_apart h1
  have hkeep:∀ i,i < (wr.alloc (.cells f.vs 192)).heap.size→v.ownBlock≠some i→w2.heap[i]?=(wr.alloc (.cells f.vs 192)).heap[i]?:=fun i hi hr=>hgrow.block i hi (fun e=>hr e.symm)
  have hb2:Below w.heap.size w w2:=⟨hgrow.os.trans h1.bel.os,hgrow.tape.trans h1.bel.tape,hgrow.output.trans h1.bel.output,Nat.le_trans h1.bel.size hgrow.size,fun i hi=>by
    have hne:v.ownBlock≠some i:=fun e=>by have:=h1.blk i e;omega
    exact (hkeep i (Nat.lt_of_lt_of_le hi h1.bel.size) hne).trans (h1.bel.block i hi)⟩
  have hbx:w2.heap[wp]?=some (.cells #[v,.map (some mp)] 170 (0,0)):=(hkeep wp (Array.getElem?_eq_some_iff.1 h1.box).1 hv1).trans h1.box
  have hwlt:wp < wr.heap.size:=(Array.getElem?_eq_some_iff.1 h.box).1
  obtain ⟨es,clock,hm,hk⟩:=h1.map
  have hm2:w2.heap[mp]?=some (.map es clock):=(hkeep mp (Array.getElem?_eq_some_iff.1 hm).1 hv2).trans hm
  have hgwp:g≠wp:=by
    rcases hat with hat | hat
    · exact fun e=>hv1 (by rw [hat,e])
    · simp at hat;omega
  refine ⟨g,cap,w2,hrun,⟨hb2.setCell (p:=⟨wp,0,none⟩) h.wpl _,h.wpl,h.mpl,row_set hbx _ _,?_,?_,⟨es,clock,(row_other _ _ _ (fun e=>hne e.symm)).trans hm2,hk⟩⟩,fun i hi hr=>(hkeep i (by simp;omega) hr).trans (Below.heap_alloc _ _ _ hi),hb2,hbx⟩
  · rw [List.length_append,List.flatMap_append]
    exact own_keep (by simpa using hown2) fun g' hg'=>row_other _ _ _ (by
      have:g=g':=by simpa [Value.ownBlock] using hg'
      omega)
  · intro x hx
    have hx':g=x:=by simpa [Value.ownBlock] using hx
    subst hx'
    rcases hat with hat | hat
    · exact h1.blk g hat
    · simp at hat;omega
theorem p_key {w wr:World} {wp mp:Nat} {v:Value} {fs:List Fr} {cs:List Nat} (h:PDyn w wr wp mp v fs cs) (c:Nat) (hfr:∀ x,x=c∨x ∈ cs→∃ a t,w.heap[x]?=some (.cells a t (0,0))) (u:Value) :
    ∃ w1,(Instr.mapUpdate 167 (.map (some mp)) (keyP c) u).run Tryz.prog wr=.ok () w1∧PDyn w w1 wp mp v fs (c :: cs)∧(∀ i,i≠mp→w1.heap[i]?=wr.heap[i]?)∧w1.heap.size=wr.heap.size:=by
  obtain ⟨es,clock,hm,hk⟩:=h.map
  obtain ⟨hne,hv1,hv2⟩:=p_apart h
  have hfr':∀ x,x=c∨x ∈ cs→∃ a t,wr.heap[x]?=some (.cells a t (0,0)):=fun x hx=>by
    obtain ⟨a,t,ha⟩:=hfr x hx
    exact ⟨a,t,(h.bel.block x (Array.getElem?_eq_some_iff.1 ha).1).trans ha⟩
  obtain ⟨es',clock',hrun,hk'⟩:=updateP u hm hfr' hk
  have hlt:mp < wr.heap.size:=(Array.getElem?_eq_some_iff.1 hm).1
  have other:∀ i,i≠mp→(wr.heap.setIfInBounds mp (.map es' clock'))[i]?=wr.heap[i]?:=fun i hi=>by
    rw [Array.getElem?_setIfInBounds];rw [if_neg (fun e=>hi e.symm)]
  refine ⟨_,hrun,⟨⟨h.bel.os,h.bel.tape,h.bel.output,by simpa using h.bel.size,fun i hi=>(other i (by have:=h.mpl;omega)).trans (h.bel.block i hi)⟩,h.wpl,h.mpl,(other wp hne).trans h.box,own_keep h.row fun g hg=>other g (fun e=>hv2 (e ▸ hg)),h.blk,⟨es',clock',by show (Array.setIfInBounds _ _ _)[mp]?=_;rw [Array.getElem?_setIfInBounds];simp [hlt],hk'⟩⟩,other,by simp⟩
theorem p_look {w wr:World} {wp mp:Nat} {v:Value} {fs:List Fr} {cs:List Nat} (h:PDyn w wr wp mp v fs cs) (c:Nat) (hc:c ∉ cs) (hfr:∀ x,x=c∨x ∈ cs→∃ a t,w.heap[x]?=some (.cells a t (0,0))) :
    (Instr.lookup 167 (.map (some mp)) (keyP c) false).run Tryz.prog wr=.ok (.int .i64 0) wr:=by
  obtain ⟨es,clock,hm,hk⟩:=h.map
  exact lookupP hm (fun x hx=>by
    obtain ⟨a,t,ha⟩:=hfr x hx
    exact ⟨a,t,(h.bel.block x (Array.getElem?_eq_some_iff.1 ha).1).trans ha⟩) hc hk
end Go.Proofs.YtcepgedbmffkdaaGreat
