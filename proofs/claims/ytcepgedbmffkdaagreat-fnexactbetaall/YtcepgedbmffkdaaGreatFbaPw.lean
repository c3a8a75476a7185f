/-
  What the program's 'putWithin' comes to.
-/
import Derived.Test.YtcepgedbmffkdaaGreatFbaZ29
import Derived.Test.YtcepgedbmffkdaaGreatFbaZ16
import Derived.Test.YtcepgedbmffkdaaGreatFbaZ30
namespace Go.Proofs.YtcepgedbmffkdaaGreat
open Go.RowKit
set_option linter.unusedVariables false
set_option linter.unusedSimpArgs false
structure Wk (S:List Nat) (w w':World):Prop where
  os:w'.os=w.os
  tape:w'.tape=w.tape
  output:w'.output=w.output
  size:w.heap.size≤w'.heap.size
  block:∀ k,k < w.heap.size→k ∉ S→w'.heap[k]?=w.heap[k]?
theorem Wk.of_below {S:List Nat} {w w':World} (h:Below w.heap.size w w'):Wk S w w':=⟨h.os,h.tape,h.output,h.size,fun k hk _=>h.block k hk⟩
theorem Wk.trans {S:List Nat} {w w' w'':World} (h:Wk S w w') (k:Wk S w' w''):Wk S w w'' :=
  ⟨k.os.trans h.os,k.tape.trans h.tape,k.output.trans h.output,Nat.le_trans h.size k.size,fun i hi hs=>(k.block i (Nat.lt_of_lt_of_le hi h.size) hs).trans (h.block i hi hs)⟩
theorem Wk.mono {S S':List Nat} {w w':World} (h:Wk S w w') (hs:∀ k ∈ S,k ∈ S'∨w.heap.size≤k):Wk S' w w' :=
  ⟨h.os,h.tape,h.output,h.size,fun k hk hn=>h.block k hk (fun hh=>by rcases hs k hh with h1 | h1;exact hn h1;omega)⟩
theorem okM_of {t:Tm} {m:Nat} (h:nodesM 24 t=some m) (hm:m≤150):okM t=true:=by
  unfold okM
  rw [h]
  unfold lid
  simp
  omega
theorem giv_nodes {t x y:Tm} {s:ByteArray} {m:Nat} (hm:nodesM 24 t=some m) (h:givM t=some (s,x,y)):∃ a b,nodesM 24 x=some a∧nodesM 24 y=some b∧a≤m∧b≤m∧cntM x≤cntM t∧cntM y≤cntM t:=by
  have hget:∀ {t:Tm} {m:Nat},nodesM 24 t=some m→∀ {i:Nat} (hi:i < t.A.length),∃ a,nodesM 24 (pa t i)=some a∧a+1≤m:=fun {t m} hm {i} hi=>by
    obtain ⟨a,ha,h2⟩:=(nodesM_get hm).2 i hi
    exact ⟨a,by rw [paGetB hi];exact nodesM_more 23 _ _ ha,h2⟩
  have hcnt:∀ {t:Tm} {i:Nat} (hi:i < t.A.length),cntM (pa t i)≤cntM t:=fun {t i} hi=>by
    rw [paGetB hi]
    have:=cntMS_get t.A i hi
    have:=cntM_eq t
    omega
  have hsh:=(nodeM_kinds (nodesM_get hm).1).2.2
  unfold givM at h
  by_cases h6:t.K=6
  · rw [if_pos h6] at h
    injection h with h
    injection h with e1 h
    injection h with e2 e3
    subst e1 e2 e3
    have hl:t.A.length=2:=by rw [h6] at hsh;have h2:shP 6=2:=rfl;omega
    obtain ⟨a,ha,ha2⟩:=hget hm (i:=0) (by omega)
    obtain ⟨b,hb,hb2⟩:=hget hm (i:=1) (by omega)
    exact ⟨a,b,ha,hb,by omega,by omega,hcnt (by omega),hcnt (by omega)⟩
  rw [if_neg h6] at h
  by_cases h5:t.K=5∧(pa t 0).K=4
  · rw [if_pos h5] at h
    injection h with h
    injection h with e1 h
    injection h with e2 e3
    subst e1 e2 e3
    have hl:t.A.length=2:=by rw [h5.1] at hsh;have h2:shP 5=2:=rfl;omega
    obtain ⟨a,ha,ha2⟩:=hget hm (i:=1) (by omega)
    obtain ⟨c,hc,hc2⟩:=hget hm (i:=0) (by omega)
    have hl0:(pa t 0).A.length=1:=by have h:=(nodeM_kinds (nodesM_get hc).1).2.2;rw [h5.2] at h;have h2:shP 4=1:=rfl;omega
    obtain ⟨b,hb,hb2⟩:=hget hc (i:=0) (by omega)
    exact ⟨a,b,ha,hb,by omega,by omega,hcnt (by omega),Nat.le_trans (hcnt (by omega)) (hcnt (by omega))⟩
  · rw [if_neg h5] at h;cases h
theorem given_new (w1:World) (GC:Array Value) (hGs:GC.size=19) (h1:GC.all (·.oneCell')=true) :
    ∃ Y,(storeCells ⟨w1.heap.size,0,none⟩ GC.toList).run Tryz.prog (w1.alloc (.cells #[.string ⟨#[]⟩,.int .i64 0,.int .i64 0,.string ⟨#[]⟩,.string ⟨#[]⟩,.int .i64 0,.int .i64 0,.slice none 0 0,.slice none 0 0,.slice none 0 0,.int .i64 0,.int .i64 0,.string ⟨#[]⟩,.string ⟨#[]⟩,.int .i64 0,.int .i64 0,.slice none 0 0,.slice none 0 0,.slice none 0 0] 97))=.ok () Y∧Below w1.heap.size w1 Y∧Y.heap[w1.heap.size]?=some (.cells GC 97 (0,0)):=by
  have hr:(w1.alloc (.cells #[.string ⟨#[]⟩,.int .i64 0,.int .i64 0,.string ⟨#[]⟩,.string ⟨#[]⟩,.int .i64 0,.int .i64 0,.slice none 0 0,.slice none 0 0,.slice none 0 0,.int .i64 0,.int .i64 0,.string ⟨#[]⟩,.string ⟨#[]⟩,.int .i64 0,.int .i64 0,.slice none 0 0,.slice none 0 0,.slice none 0 0] 97)).heap[w1.heap.size]?=some (.cells #[.string ⟨#[]⟩,.int .i64 0,.int .i64 0,.string ⟨#[]⟩,.string ⟨#[]⟩,.int .i64 0,.int .i64 0,.slice none 0 0,.slice none 0 0,.slice none 0 0,.int .i64 0,.int .i64 0,.string ⟨#[]⟩,.string ⟨#[]⟩,.int .i64 0,.int .i64 0,.slice none 0 0,.slice none 0 0,.slice none 0 0] 97 (0,0)):=heap_new rfl
  refine ⟨_,store_cellsP hr rfl (by rw [hGs];exact Nat.le_refl _) rfl h1,setCells_below (Nat.le_refl _) _ _ ((Below.refl _ _).alloc (Nat.le_refl _) _),setCells_rowP hr (by rw [hGs];rfl)⟩
theorem atb_M {w:World} {M M':Nat} (hM:M≤M'):∀ {p:List Nat} {b o b' o':Nat},AtB w M b o p b' o'→AtB w M' b o p b' o':=by
  intro p
  induction p with
  | nil=>intro b o b' o' h;exact ⟨h.1,h.2⟩
  | cons i p ih =>
    intro b o b' o' h
    obtain ⟨hb,g,og,l,c,hc,h2⟩:=h
    exact ⟨by omega,g,og,l,c,hc,ih h2⟩
theorem UseAt.M {w:World} {M M' b o:Nat} {P:List (List UInt8)} {u:Use} {q:Way9} (h:UseAt w M b o P u q) (hM:M≤M'):UseAt w M' b o P u q:=by
  obtain ⟨bk,ok,e,h1,h2⟩:=h
  exact ⟨bk,ok,e,atb_M hM h1,h2⟩
theorem usr_M {w:World} {M M' b o:Nat} {P:List (List UInt8)}:∀ {us:List Use} {qs:List Way9},UsR w M b o P us qs→M≤M'→UsR w M' b o P us qs
  | [],[],_,_=>trivial
  | _ :: _,_ :: _,h,hM=>⟨h.1.M hM,usr_M h.2 hM⟩
def WiE (w w':World) (D:Nat) (t:Tm) (bL:List Nat) (e:Ending):Prop :=
  ∃ (P:Tm) (za:Option Addr) (la ca:Nat) (zb:Option Addr) (lb cb:Nat) (zc:Option Addr) (lc cc:Nat),e=.returned (.tuple #[.agg #[.int .i64 P.K,.int .i64 P.N,.string P.S,.string P.Z,.int .i64 P.T.K,.int .i64 P.T.N,.slice za la ca,.slice zb lb cb,.slice zc lc cc],.bool (hereM t).2])∧((hereM t).2=false→Below w.heap.size w w') ∧
    ((hereM t).2=true→P=(hereM t).1∧Wk bL w w'∧∃ d' bsP,FldO w' (D+1) (OwM w' (D+1) d') P za la zb lb zc lc bsP∧bsP.Nodup∧∀ k ∈ bsP,(k ∈ bL∨w.heap.size≤k)∧k < w'.heap.size)
theorem WiE.no {w X Y W:World} {D:Nat} {t:Tm} {bL:List Nat} {r:Nat} (hb:Below w.heap.size w W) (hr:w.heap.size≤r) (h:(hereM t).2=false) :
    ∀ W',W'=set9 W r 0 (.int .i64 0) (.int .i64 0) (.string ⟨#[]⟩) (.string ⟨#[]⟩) (.int .i64 0) (.int .i64 0) (.slice none 0 0) (.slice none 0 0) (.slice none 0 0)→WiE w W' D t bL (.returned (.tuple #[.agg #[.int .i64 0,.int .i64 0,.string ⟨#[]⟩,.string ⟨#[]⟩,.int .i64 0,.int .i64 0,.slice none 0 0,.slice none 0 0,.slice none 0 0],.bool false])):=fun W' hW'=>by
  have hWb:Below w.heap.size w W':=by rw [hW'];exact set9_below hb hr
  refine ⟨zTm,none,0,0,none,0,0,none,0,0,by rw [h];rfl,fun _=>hWb,fun h1=>?_⟩
  rw [h] at h1;cases h1
theorem wi_yes {w W2 W3:World} {D D' d' gb:Nat} {t x y:Tm} {s:ByteArray} {bL bY:List Nat} {us:List Use} {d1:Option Addr} {n1 f1:Nat} {d2:Option Addr} {n2 f2:Nat} {d3:Option Addr} {n3 f3:Nat} {GC:Array Value}
    (hG:givM t=some (s,x,y)) (hpu:pureM x=true) (hfew:usesN (bs s) 24 y < 2) (hFx:freeT x=freeW 24 x [] [])
    (hok:putOk (freeT x) (usesP (bs s) 24 y)=true) (hR:UsR W2 W2.heap.size gb 10 [] us (usesP (bs s) 24 y))
    (hrow:W2.heap[gb]?=some (.cells GC 97 (0,0))) (hGs:GC.size=19) (h9:Nine W2 gb 10 y.K y.N y.S y.Z y.T.K y.T.N (.slice d1 n1 f1) (.slice d2 n2 f2) (.slice d3 n3 f3))
    (hf:FldO W2 D (OwM W2 D d') y d1 n1 d2 n2 d3 n3 bY) (hnd:bY.Nodup) (hin:∀ k ∈ bY,k ∈ bL∧k < w.heap.size) (hgb:w.heap.size≤gb) (hgw:gb < W2.heap.size) (hb2:Below w.heap.size w W2)
    (h0:us.length=0→Below W2.heap.size W2 W3) (h1:∀ (h:0 < us.length) (bk ok:Nat),us[0].1=⟨bk,ok,none⟩→PutAt W2 W3 (D+1) D' bk ok x) :
    (hereM t).2=true∧∃ (za:Option Addr) (la ca:Nat) (zb:Option Addr) (lb cb:Nat) (zc:Option Addr) (lc cc:Nat) (d2':Nat) (bsP:List Nat),Nine W3 gb 10 (hereM t).1.K (hereM t).1.N (hereM t).1.S (hereM t).1.Z (hereM t).1.T.K (hereM t).1.T.N (.slice za la ca) (.slice zb lb cb) (.slice zc lc cc) ∧
      FldO W3 (D+1) (OwM W3 (D+1) d2') (hereM t).1 za la zb lb zc lc bsP∧bsP.Nodup∧(∀ k ∈ bsP,(k ∈ bL∨W2.heap.size≤k)∧k < W3.heap.size)∧Wk (gb :: bY) W2 W3:=by
  have hmay:mayM s x y=true:=by unfold mayM;rw [hpu];simpa using hfew
  have hH:hereM t=(putF y (usesP (bs s) 24 y) x,true):=by
    rw [hereM_some hG,if_pos hmay,spR_yes (by rw [← hFx];exact hok)]
  rw [hH]
  refine ⟨rfl,?_⟩
  have hlen:=hR.len
  have hl2:(usesP (bs s) 24 y).length < 2:=by rw [usesP_len];exact hfew
  have hwW2:=hb2.size
  have hO9:Own9 W2 D d' gb 10 y bY:=⟨d1,n1,f1,d2,n2,f2,d3,n3,f3,h9,hf⟩
  have hnb:gb ∉ bY:=fun h=>by have:=(hin gb h).2;omega
  by_cases hz:us.length=0
  · have hq:usesP (bs s) 24 y=[]:=List.length_eq_zero_iff.1 (by omega)
    have hb:=h0 hz
    have hO:=(hO9.keep (w':=W3) (fun i _=>bcell hb hgw _) (fun k hk=>hb.block k (by have:=(hin k hk).2;omega))).deeperD (Nat.le_succ D)
    obtain ⟨za,la,ca,zb,lb,cb,zc,lc,cc,h9',hf'⟩:=hO
    rw [hq]
    refine ⟨za,la,ca,zb,lb,cb,zc,lc,cc,d',bY,h9',hf',hnd,fun k hk=>⟨Or.inl (hin k hk).1,by have:=(hin k hk).2;have:=hb.size;omega⟩,Wk.of_below hb⟩
  · obtain ⟨q,hq⟩:∃ q,usesP (bs s) 24 y=[q]:=List.length_eq_one_iff.1 (by omega)
    have hq2:(getP y q.1).isSome:=usesP_get (bs s) 24 y q (by rw [hq];simp)
    obtain ⟨bk,ok,eb,hat,_⟩:=usr_get hR 0 (by omega) (by omega)
    have hat':AtP W2 gb 10 q.1 bk ok:=by
      have h:=hat.at
      have e:(usesP (bs s) 24 y)[0]'(by omega)=q:=by simp [hq]
      rw [e] at h
      exact h
    obtain ⟨w5,r1,s1,v1,r2,s2,v2,r3,s3,v3,hb5,hfO,hW3⟩:=h1 (by omega) bk ok eb
    have hz5:=hb5.size
    have hO5:Own9 w5 (D+1) d' gb 10 y bY:=(hO9.keep (w':=w5) (fun i _=>bcell hb5 hgw _) (fun k hk=>hb5.block k (by have:=(hin k hk).2;omega))).deeperD (Nat.le_succ D)
    obtain ⟨bn,hfn,hndn,hbn⟩:=hfO
    have hrow5:=(hb5.block gb hgw).trans hrow
    obtain ⟨bsN,hoN,hndN,hsub⟩:=put_at (i1:=v1) (i2:=v2) (i3:=v3) (M:=W2.heap.size) hfn hndn (fun k hk=>(hbn k hk).1) q.1 hO5 hnd hnb hgw (fun k hk=>by have:=(hin k hk).2;omega) hq2 (hat'.below hb5) ⟨GC,_,_,hrow5,by omega⟩
    rw [← hW3] at hoN
    obtain ⟨za,la,ca,zb,lb,cb,zc,lc,cc,h9',hf'⟩:=hoN
    have hbk:bk=gb∨bk ∈ bY:=by
      rcases atp_in q.1 hO9 hq2 hat' with ⟨_,e,_⟩ | ⟨h,_⟩
      · exact Or.inl e
      · exact Or.inr h
    have hWs:W3.heap.size=w5.heap.size:=by rw [hW3];exact set9_size _ _ _ _ _ _ _ _ _ _ _ _
    have hWb:Below bk w5 W3:=by rw [hW3];exact set9_below (Below.refl _ _) (Nat.le_refl _)
    have e:putF y (usesP (bs s) 24 y) x=setP y q.1 x:=by rw [hq];rfl
    rw [e]
    refine ⟨za,la,ca,zb,lb,cb,zc,lc,cc,_,bsN,h9',hf',hndN,fun k hk=>?_,?_⟩
    · rcases hsub k hk with h | h
      · exact ⟨Or.inl (hin k h).1,by have:=(hin k h).2;omega⟩
      · have:=hbn k h
        exact ⟨Or.inr this.1,by omega⟩
    · refine ⟨hWb.os.trans hb5.os,hWb.tape.trans hb5.tape,hWb.output.trans hb5.output,by omega,fun k hk hn=>?_⟩
      rw [hW3]
      refine (set9_other k ?_).trans (hb5.block k hk)
      rintro rfl
      rcases hbk with h | h
      · exact hn (by simp [h])
      · exact hn (List.mem_cons_of_mem _ h)
set_option maxRecDepth 100000 in
set_option maxHeartbeats 8000000 in
theorem putWithin_any (l:Nat) (L B D0:Nat) (w0:World) (t:Tm) (vf:Value) (hv:Fv L B w0 D0 (l+1) t vf) (m n:Nat) (hm:nodesM (l+1) t=some m) (hn:nodesM 24 t=some n) (hn2:n≤150) (hct:cntM t≤1048576) (w:World) (D d:Nat) (a1:Option Addr) (l1 c1:Nat) (a2:Option Addr) (l2 c2:Nat) (a3:Option Addr) (l3 c3:Nat) (bL:List Nat)
    (hf:FldO w D (OwM w D d) t a1 l1 a2 l2 a3 l3 bL) (hnd:bL.Nodup) (hin:∀ k ∈ bL,k < w.heap.size) :
    Calls Tryz.prog 50 #[.agg #[.int .i64 t.K,.int .i64 t.N,.string t.S,.string t.Z,.int .i64 t.T.K,.int .i64 t.T.N,.slice a1 l1 c1,.slice a2 l2 c2,.slice a3 l3 c3],vf] w fun e w'=>WiE w w' D t bL e:=by
  obtain ⟨X,hX⟩:∃ X,X=(w.alloc (.cells #[.int .i64 t.K,.int .i64 t.N,.string t.S,.string t.Z,.int .i64 t.T.K,.int .i64 t.T.N,.slice a1 l1 c1,.slice a2 l2 c2,.slice a3 l3 c3] 34)).alloc (.cells #[.int .i64 0,.int .i64 0,.string ⟨#[]⟩,.string ⟨#[]⟩,.int .i64 0,.int .i64 0,.slice none 0 0,.slice none 0 0,.slice none 0 0] 34):=⟨_,rfl⟩
  have hXs:X.heap.size=w.heap.size+2:=by rw [hX];simp
  have hXb:Below w.heap.size w X:=by rw [hX];exact ((Below.refl _ _).alloc (Nat.le_refl _) _).alloc (by simp) _
  have hX0:X.heap[w.heap.size]?=some (.cells #[.int .i64 t.K,.int .i64 t.N,.string t.S,.string t.Z,.int .i64 t.T.K,.int .i64 t.T.N,.slice a1 l1 c1,.slice a2 l2 c2,.slice a3 l3 c3] 34 (0,0)):=by rw [hX,Below.heap_alloc _ _ _ (by simp)];exact heap_new rfl
  have hX1:X.heap[w.heap.size+1]?=some (.cells #[.int .i64 0,.int .i64 0,.string ⟨#[]⟩,.string ⟨#[]⟩,.int .i64 0,.int .i64 0,.slice none 0 0,.slice none 0 0,.slice none 0 0] 34 (0,0)):=by rw [hX];exact heap_new (by simp)
  have HX:Hid (X=_):=hX
  clear hX
  obtain ⟨x0,x1,x2,x3,x4,x5,x6,x7,x8⟩:=Nine.box hX0
  have KG:=gv_any l L B D0 w0 t vf hv m hm X D d a1 l1 c1 a2 l2 c2 a3 l3 c3 bL (FldO.keep (fun k hk=>hXb.block k (hin k hk)) hf) hnd (fun k hk=>by have:=hin k hk;omega)
  clear hv hm
  go_enter Tryz.func50,Tryz.ntmps50
  go_upto_region 1 with fail
  rw [← HX.out]
  go_wp2_with fail
  refine KG.mono ?_
  rintro e w1 ⟨hb1,GC,hGs,hcase⟩
  have z1:=hb1.size
  have hGall:GC.all (·.oneCell')=true:=by
    rcases hcase with ⟨_,_,h⟩ | ⟨s,x,y,b1,m1,e1,b2,m2,e2,b3,m3,e3,d1,n1,f1,d2,n2,f2,d3,n3,f3,d',bx,bY,_,_,h,_⟩
    · rw [h];simp [Value.oneCell']
    · rw [h];simp [Value.oneCell']
  obtain ⟨Y,hSC,hYb,hYg⟩:=given_new w1 GC hGs hGall
  have hYs:w1.heap.size < Y.heap.size:=(Array.getElem?_eq_some_iff.1 hYg).1
  have hYX:Below X.heap.size X Y:=hb1.trans (hYb.mono z1)
  have hYw:Below w.heap.size w Y:=hXb.trans (hYX.mono (by omega))
  have hY1:=(hYX.block (w.heap.size+1) (by omega)).trans hX1
  have HNO:Hid (∀ W,Below Y.heap.size Y W→(hereM t).2=false→WiE w (set9 W (w.heap.size+1) 0 (.int .i64 0) (.int .i64 0) (.string ⟨#[]⟩) (.string ⟨#[]⟩) (.int .i64 0) (.int .i64 0) (.slice none 0 0) (.slice none 0 0) (.slice none 0 0)) D t bL (.returned (.tuple #[.agg #[.int .i64 0,.int .i64 0,.string ⟨#[]⟩,.string ⟨#[]⟩,.int .i64 0,.int .i64 0,.slice none 0 0,.slice none 0 0,.slice none 0 0],.bool false]))):=fun W hW h=>WiE.no (X:=X) (Y:=Y) (hYw.trans (hW.mono (by omega))) (by omega) h _ rfl
  clear KG x0 x1 x2 x3 x4 x5 x6 x7 x8 hGall
  rcases hcase with ⟨hgn,rfl,hGC⟩ | ⟨s,x,y,b1,m1,e1,b2,m2,e2,b3,m3,e3,d1,n1,f1,d2,n2,f2,d3,n3,f3,d',bx,bY,hgv,rfl,hGC,hxf,hyf,hxn,hyn,hxy,hxs,hys⟩
  · have HHF:Hid ((hereM t).2=false):=by show _=_;rw [hereM_none hgn]
    have hbY:Below Y.heap.size Y Y:=Below.refl _ _
    clear hGC hYb
    go_upto_region 2 with fail
    have rr:=(hbY.block (w.heap.size+1) (by omega)).trans hY1
    obtain ⟨y0,y1,y2,y3,y4,y5,y6,y7,y8⟩:=Nine.box rr
    have yf:=row_free rr
    have HW9:=HNO.out Y hbY
    go_wp2_with fail
    (try simp only [Exit.inBlock,Exit.then]);refine bodyPost_ret (v:=.tuple #[.agg #[.int .i64 0,.int .i64 0,.string ⟨#[]⟩,.string ⟨#[]⟩,.int .i64 0,.int .i64 0,.slice none 0 0,.slice none 0 0,.slice none 0 0],.bool false]) (by simp [results,Tryz.results50,go_sem,y0,y1,y2,y3,y4,y5,y6,y7,y8]) rfl ?_
    exact HW9 HHF.out
  · have HGC:Hid (GC=#[.string s,.int .i64 x.K,.int .i64 x.N,.string x.S,.string x.Z,.int .i64 x.T.K,.int .i64 x.T.N,.slice b1 m1 e1,.slice b2 m2 e2,.slice b3 m3 e3,.int .i64 y.K,.int .i64 y.N,.string y.S,.string y.Z,.int .i64 y.T.K,.int .i64 y.T.N,.slice d1 n1 f1,.slice d2 n2 f2,.slice d3 n3 f3]):=hGC
    have hbxw:∀ k ∈ bx,k < w.heap.size:=fun k hk=>hin k (hxs k hk)
    have hbYw:∀ k ∈ bY,k < w.heap.size:=fun k hk=>hin k (hys k hk)
    have hfxX:FldO Y D (OwM Y D d') x b1 m1 b2 m2 b3 m3 bx:=FldO.keep (fun k hk=>hYX.block k (by have:=hbxw k hk;omega)) hxf
    have hfyX:FldO Y D (OwM Y D d') y d1 n1 d2 n2 d3 n3 bY:=FldO.keep (fun k hk=>hYX.block k (by have:=hbYw k hk;omega)) hyf
    have hFx:FmO 0 w.heap.size Y D d' x b1 m1 b2 m2 b3 m3:=⟨bx,hfxX,hxn,fun k hk=>⟨by omega,hbxw k hk⟩⟩
    have hFy:FmO 0 w.heap.size Y D d' y d1 n1 d2 n2 d3 n3:=⟨bY,hfyX,hyn,fun k hk=>⟨by omega,hbYw k hk⟩⟩
    obtain ⟨ma,mb,hma,hmb,hma2,hmb2,hcx,hcy⟩:=giv_nodes hn hgv
    have hwY:w.heap.size≤Y.heap.size:=hYw.size
    have KP:=pure_any D d' 0 w.heap.size x b1 m1 e1 b2 m2 e2 b3 m3 e3 Y hwY hFx (by omega)
    have hYr:Y.heap[w1.heap.size]?=some (.cells #[.string s,.int .i64 x.K,.int .i64 x.N,.string x.S,.string x.Z,.int .i64 x.T.K,.int .i64 x.T.N,.slice b1 m1 e1,.slice b2 m2 e2,.slice b3 m3 e3,.int .i64 y.K,.int .i64 y.N,.string y.S,.string y.Z,.int .i64 y.T.K,.int .i64 y.T.N,.slice d1 n1 f1,.slice d2 n2 f2,.slice d3 n3 f3] 97 (0,0)):=by rw [← hGC];exact hYg
    have hQ1:Nine Y w1.heap.size 1 x.K x.N x.S x.Z x.T.K x.T.N (.slice b1 m1 e1) (.slice b2 m2 e2) (.slice b3 m3 e3):=⟨row_cell hYr 1,row_cell hYr 2,row_cell hYr 3,row_cell hYr 4,row_cell hYr 5,row_cell hYr 6,row_cell hYr 7,row_cell hYr 8,row_cell hYr 9⟩
    have hQ2:Nine Y w1.heap.size 10 y.K y.N y.S y.Z y.T.K y.T.N (.slice d1 n1 f1) (.slice d2 n2 f2) (.slice d3 n3 f3):=⟨row_cell hYr 10,row_cell hYr 11,row_cell hYr 12,row_cell hYr 13,row_cell hYr 14,row_cell hYr 15,row_cell hYr 16,row_cell hYr 17,row_cell hYr 18⟩
    have hQ0:Y.cell? ⟨w1.heap.size,0,none⟩=some (.string s):=row_cell hYr 0
    obtain ⟨g0,g1,g2,g3,g4,g5,g6,g7,g8⟩:=hQ1
    have hQ1:Nine Y w1.heap.size 1 x.K x.N x.S x.Z x.T.K x.T.N (.slice b1 m1 e1) (.slice b2 m2 e2) (.slice b3 m3 e3):=⟨g0,g1,g2,g3,g4,g5,g6,g7,g8⟩
    clear hGC hYb hxf hyf hYr
    go_upto_region 2 with fail
    have hgY:=hYs
    have hHB:Hid (Nine Y w1.heap.size 10 y.K y.N y.S y.Z y.T.K y.T.N (.slice d1 n1 f1) (.slice d2 n2 f2) (.slice d3 n3 f3)∧Y.cell? ⟨w1.heap.size,0,none⟩=some (.string s)):=⟨hQ2,hQ0⟩
    clear hQ2 hQ0
    go_wp2_with fail
    refine KP.mono ?_
    rintro e w2 ⟨rfl,hb2⟩
    have z2:=hb2.size
    have hb2w:Below w.heap.size w w2:=hYw.trans (hb2.mono hwY)
    have hR1:=hQ1.below hb2 hgY
    have hR2:=hHB.out.1.below hb2 hgY
    have hR0:=(bcell hb2 hgY 0).trans hHB.out.2
    clear KP g0 g1 g2 g3 g4 g5 g6 g7 g8
    cases hpu:pureM x with
    | false =>
      have HHF:Hid ((hereM t).2=false):=by
        show _=_
        rw [hereM_some hgv,if_neg (by unfold mayM;rw [hpu];simp)]
      clear hR0
      have rr:=(hb2.block (w.heap.size+1) (by omega)).trans hY1
      obtain ⟨y0,y1,y2,y3,y4,y5,y6,y7,y8⟩:=Nine.box rr
      have yf:=row_free rr
      have HW9:=HNO.out w2 hb2
      go_wp2_with fail
      (try simp only [Exit.inBlock,Exit.then]);refine bodyPost_ret (v:=.tuple #[.agg #[.int .i64 0,.int .i64 0,.string ⟨#[]⟩,.string ⟨#[]⟩,.int .i64 0,.int .i64 0,.slice none 0 0,.slice none 0 0,.slice none 0 0],.bool false]) (by simp [results,Tryz.results50,go_sem,y0,y1,y2,y3,y4,y5,y6,y7,y8]) rfl ?_
      exact HW9 HHF.out
    | true =>
      have hFy2:Fm 0 w.heap.size w2 D d' y d1 n1 d2 n2 d3 n3:=Fm.below hb2 hwY hFy.fm
      have hFx2:Fm 0 w.heap.size w2 D d' x b1 m1 b2 m2 b3 m3:=Fm.below hb2 hwY hFx.fm
      have KU:=up_any 24 D d' 0 w.heap.size y d1 n1 f1 d2 n2 f2 d3 n3 f3 w1.heap.size 10 mb w2.heap.size s [] none 0 0 w2 (by omega) (by omega) (Nat.le_refl _) hR2 hFy2 hmb (by omega) ⟨rfl,fun j hj=>by simp at hj⟩ (by omega)
      clear hYX
      go_wp2_with fail
      refine KU.mono ?_
      rintro e w3 ⟨v,us,rfl,hR,hU,hb3⟩
      have z3:=hb3.size
      obtain ⟨uo,uc,rfl⟩:=uss_form hU
      obtain ⟨qs,hqs⟩:∃ qs,usesP (bs s) 24 y=qs:=⟨_,rfl⟩
      rw [hqs] at hR KU
      have hlen:=hR.len
      obtain ⟨un,hun⟩:∃ un,us.length=un:=⟨_,rfl⟩
      rw [hun]
      have hb3w:Below w.heap.size w w3:=hb2w.trans (hb3.mono (by omega))
      have hbY3:Below Y.heap.size Y w3:=hb2.trans (hb3.mono z2)
      have hS1:=hR1.below hb3 (by omega)
      have hS2:=hR2.below hb3 (by omega)
      have hrow3:=(hbY3.block _ hgY).trans hYg
      clear KU hR0 hQ1 hHB
      by_cases hle:un≤1
      · have hl1:¬ (1:Int) < (un:Int):=by omega
        have hl2:¬ 1 < un:=by omega
        have hfx3:Fm 0 w.heap.size w3 D d' x b1 m1 b2 m2 b3 m3:=Fm.below hb3 (by omega) hFx2
        have hO9:Own9 w3 D d' w1.heap.size 10 y bY:=⟨d1,n1,f1,d2,n2,f2,d3,n3,f3,hS2,FldO.keep (fun k hk=>hbY3.block k (by have:=hbYw k hk;omega)) hfyX⟩
        have hat:∀ j (h:j < us.length) (h':j < qs.length),∃ (bk ok:Nat) (csk:Array Value) (tyk:TypeId) (yk:Tm) (v6 v7 v8:Value),us[j].1=⟨bk,ok,none⟩∧w3.heap[bk]?=some (.cells csk tyk (0,0))∧Nine w3 bk ok yk.K yk.N yk.S yk.Z yk.T.K yk.T.N v6 v7 v8∧Nsl w3 us[j].2.1 us[j].2.2.1 qs[j].2∧qs[j].2.length≤1000:=fun j h h'=>by
          obtain ⟨bk,ok,eb,hat,hns⟩:=usr_get hR j h h'
          rw [List.nil_append] at hns
          have hq2:(getP y qs[j].1).isSome:=usesP_get (bs s) 24 y _ (by rw [hqs];exact List.getElem_mem h')
          have hnm:=usesP_names (bs s) 24 y qs[j] (by rw [hqs];exact List.getElem_mem h')
          obtain ⟨yk,bk2,dk,q1,r1,s1,q2,r2,s2,q3,r3,s3,h9k,_⟩:=own_at qs[j].1 hO9 hq2 hat.at
          rcases atp_in qs[j].1 hO9 hq2 hat.at with ⟨_,e1,_⟩ | ⟨_,cs,hcs,_⟩
          · exact ⟨bk,ok,_,_,yk,_,_,_,eb,by rw [e1];exact hrow3,h9k,hns,by omega⟩
          · exact ⟨bk,ok,cs,_,yk,_,_,_,eb,hcs,h9k,hns,by omega⟩
        have KO:=putOne_any D d' 0 w.heap.size w2.heap.size x b1 m1 e1 b2 m2 e2 b3 m3 e3 us qs uo un uc w3 (by omega) hfx3 (by omega) (by rw [← hun];exact hU) hlen (by omega) hat
        obtain ⟨g0,g1,g2,g3,g4,g5,g6,g7,g8⟩:=hS1
        have hfT:freeT x=freeW 24 x [] []:=by unfold freeT;rw [if_pos (okM_of hma (by omega))]
        have hfew:usesN (bs s) 24 y < 2:=by rw [← usesP_len,hqs];omega
        clear hat
        go_wp2_with fail
        refine KO.mono ?_
        rintro e w4 ⟨rfl,hPf,hP0,hP1⟩
        clear KO g0 g1 g2 g3 g4 g5 g6 g7 g8
        cases hok:putOk (freeT x) qs with
        | false =>
          have hb4:=hPf hok
          have HHF:Hid ((hereM t).2=false):=by
            show _=_
            rw [hereM_some hgv]
            split
            · rw [spR_no (by rw [← hfT,hqs];exact hok)]
            · rfl
          have hb4Y:Below Y.heap.size Y w4:=hbY3.trans (hb4.mono (by omega))
          clear hP0 hP1 hPf hfx3 hO9
          have rr:=(hb4Y.block (w.heap.size+1) (by omega)).trans hY1
          obtain ⟨y0,y1,y2,y3,y4,y5,y6,y7,y8⟩:=Nine.box rr
          have yf:=row_free rr
          have HW9:=HNO.out w4 hb4Y
          go_wp2_with fail
          (try simp only [Exit.inBlock,Exit.then]);refine bodyPost_ret (v:=.tuple #[.agg #[.int .i64 0,.int .i64 0,.string ⟨#[]⟩,.string ⟨#[]⟩,.int .i64 0,.int .i64 0,.slice none 0 0,.slice none 0 0,.slice none 0 0],.bool false]) (by simp [results,Tryz.results50,go_sem,y0,y1,y2,y3,y4,y5,y6,y7,y8]) rfl ?_
          exact HW9 HHF.out
        | true =>
          obtain ⟨hH2,za,la,ca,zb,lb,cb,zc,lc,cc,d2',bsP,h9',hf',hndP,hinP,hWk⟩:=wi_yes hgv hpu hfew hfT (by rw [hqs];exact hok) (by rw [hqs];exact usr_M hR (by omega)) hrow3 hGs hS2 (FldO.keep (fun k hk=>hbY3.block k (by have:=hbYw k hk;omega)) hfyX) hyn (fun k hk=>⟨hys k hk,hbYw k hk⟩) (show w.heap.size≤w1.heap.size by omega) (by omega) hb3w hP0 (hP1 hok)
          obtain ⟨P,hPe⟩:∃ P,(hereM t).1=P:=⟨_,rfl⟩
          rw [hPe] at h9' hf'
          have z4:=hWk.size
          have hnr:(w.heap.size+1) ∉ (w1.heap.size :: bY):=fun h=>by
            rcases List.mem_cons.1 h with h | h
            · omega
            · have:=hbYw _ h;omega
          have rr:=(hWk.block (w.heap.size+1) (by omega) hnr).trans ((hbY3.block (w.heap.size+1) (by omega)).trans hY1)
          obtain ⟨y0,y1,y2,y3,y4,y5,y6,y7,y8⟩:=Nine.box rr
          have yf:=row_free rr
          have HFIN:Hid (WiE w (set9 w4 (w.heap.size+1) 0 (.int .i64 P.K) (.int .i64 P.N) (.string P.S) (.string P.Z) (.int .i64 P.T.K) (.int .i64 P.T.N) (.slice za la ca) (.slice zb lb cb) (.slice zc lc cc)) D t bL (.returned (.tuple #[.agg #[.int .i64 P.K,.int .i64 P.N,.string P.S,.string P.Z,.int .i64 P.T.K,.int .i64 P.T.N,.slice za la ca,.slice zb lb cb,.slice zc lc cc],.bool true]))):=by
            have hWb:Below (w.heap.size+1) w4 (set9 w4 (w.heap.size+1) 0 (.int .i64 P.K) (.int .i64 P.N) (.string P.S) (.string P.Z) (.int .i64 P.T.K) (.int .i64 P.T.N) (.slice za la ca) (.slice zb lb cb) (.slice zc lc cc)):=set9_below (Below.refl _ _) (Nat.le_refl _)
            have hWs:(set9 w4 (w.heap.size+1) 0 (.int .i64 P.K) (.int .i64 P.N) (.string P.S) (.string P.Z) (.int .i64 P.T.K) (.int .i64 P.T.N) (.slice za la ca) (.slice zb lb cb) (.slice zc lc cc)).heap.size=w4.heap.size:=set9_size _ _ _ _ _ _ _ _ _ _ _ _
            refine ⟨P,za,la,ca,zb,lb,cb,zc,lc,cc,by rw [hH2],(fun h=>by rw [hH2] at h;cases h),fun _=>⟨hPe.symm,?_,d2',bsP,?_,hndP,fun k hk=>?_⟩⟩
            · refine ⟨hWb.os.trans (hWk.os.trans hb3w.os),hWb.tape.trans (hWk.tape.trans hb3w.tape),hWb.output.trans (hWk.output.trans hb3w.output),by rw [hWs];omega,fun k hk hn=>?_⟩
              refine (set9_other k (by omega)).trans ((hWk.block k (by omega) ?_).trans (hb3w.block k hk))
              intro h
              rcases List.mem_cons.1 h with h | h
              · omega
              · exact hn (hys k h)
            · refine FldO.keep (fun k hk=>set9_other k ?_) hf'
              rcases (hinP k hk).1 with h | h
              · have:=hin k h;omega
              · omega
            · rw [hWs]
              rcases (hinP k hk).1 with h | h
              · exact ⟨Or.inl h,(hinP k hk).2⟩
              · exact ⟨Or.inr (by omega),(hinP k hk).2⟩
          obtain ⟨t0,t1,t2,t3,t4,t5,t6,t7,t8⟩:=h9'
          clear hP0 hP1 hPf hfx3 hO9 hf' hinP hndP hWk hS2 hrow3 rr
          go_wp2_with fail
          (try simp only [Exit.inBlock,Exit.then]);refine bodyPost_ret (v:=.tuple #[.agg #[.int .i64 P.K,.int .i64 P.N,.string P.S,.string P.Z,.int .i64 P.T.K,.int .i64 P.T.N,.slice za la ca,.slice zb lb cb,.slice zc lc cc],.bool true]) (by simp [results,Tryz.results50,go_sem,y0,y1,y2,y3,y4,y5,y6,y7,y8]) rfl ?_
          exact HFIN.out
      · have hl1:(1:Int) < (un:Int):=by omega
        have hl2:1 < un:=by omega
        have HHF:Hid ((hereM t).2=false):=by
          show _=_
          rw [hereM_some hgv,if_neg]
          unfold mayM
          have:¬ usesN (bs s) 24 y < 2:=by rw [← usesP_len,hqs];omega
          simp [this]
        clear hS1 hS2 hrow3
        have rr:=(hbY3.block (w.heap.size+1) (by omega)).trans hY1
        obtain ⟨y0,y1,y2,y3,y4,y5,y6,y7,y8⟩:=Nine.box rr
        have yf:=row_free rr
        have HW9:=HNO.out w3 hbY3
        go_wp2_with fail
        (try simp only [Exit.inBlock,Exit.then]);refine bodyPost_ret (v:=.tuple #[.agg #[.int .i64 0,.int .i64 0,.string ⟨#[]⟩,.string ⟨#[]⟩,.int .i64 0,.int .i64 0,.slice none 0 0,.slice none 0 0,.slice none 0 0],.bool false]) (by simp [results,Tryz.results50,go_sem,y0,y1,y2,y3,y4,y5,y6,y7,y8]) rfl ?_
        exact HW9 HHF.out
end Go.Proofs.YtcepgedbmffkdaaGreat
