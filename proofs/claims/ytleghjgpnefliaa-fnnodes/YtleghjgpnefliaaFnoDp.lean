/-
  What the model's 'l3Shape' comes to, given 'l3Make' one level below.
-/
import Derived.Test.YtleghjgpnefliaaFnoDl
namespace Go.Proofs.Ytleghjgpnefliaa
open Go.RowKit
set_option linter.unusedVariables false
set_option linter.unusedSimpArgs false
def SaidMake (dep:Nat):Prop:=∀ (p:Nat) (cao:Option Addr) (clen ccap:Nat) (wv:Value) (t:Tr) (v:Value) (es:List Ev) (vs:Int) (w:World),Cur w p cao clen ccap->Ty2 w p (12 - dep) wv t->En2 w p 14 v es->es.length+4*dep≤300->0≤vs->vs≤2 →
    Calls Try.prog 54 #[.pointer (some ⟨p,0,none⟩),wv,v,.int .i64 (dep:Int),.int .i64 vs] w fun e w'=>∃ rv tm,e=.returned rv∧TmV w' w.heap.size 14 (16+dep) rv tm∧Drw w w' p cao clen ccap
def SaidShape (dep:Nat):Prop:=∀ (p:Nat) (cao:Option Addr) (clen ccap:Nat) (wv:Value) (t:Tr) (v:Value) (es:List Ev) (vs:Int) (w:World),Cur w p cao clen ccap->Ty2 w p (11 - dep) wv t->En2 w p 14 v es->es.length+4*dep+4≤300->0≤vs->vs≤2 →
    Calls Try.prog 58 #[.pointer (some ⟨p,0,none⟩),wv,v,.int .i64 ((dep:Int)+1),.int .i64 vs] w fun e w'=>∃ rv tm,e=.returned rv∧TmV w' w.heap.size 14 (16+dep+1) rv tm∧Drw w w' p cao clen ccap
set_option maxRecDepth 100000 in
set_option maxHeartbeats 4000000 in
theorem shape_step (dep:Nat) (hdep:dep≤4) (IH:SaidMake dep):SaidShape dep:=by
 intro p cao clen ccap wv t v es vs w hc hwv hv hlen hv0 hv2
 have hp:=hc.lt
 have hwv0:=hwv
 obtain⟨k,hk⟩:∃ k,k=11 - dep:=⟨_,rfl⟩
 rw [← hk] at hwv
 have hk14:k≤14:=by omega
 have hk12:k≤12 - dep:=by omega
 obtain⟨⟨ao,len,cap,rfl,hs⟩,m,hm⟩:=hwv
 obtain⟨ae,ce,rfl⟩:=hv.1.form
 obtain⟨X,hX⟩:∃ X,X=(w.alloc (.cells #[.int .i64 t.K,.int .i64 t.N,.slice ao len cap] 26)).alloc (.cells #[.int .i64 0,.int .i64 0,.string ⟨#[]⟩,.string ⟨#[]⟩,.int .i64 0,.int .i64 0,.slice none 0 0,.slice none 0 0,.slice none 0 0] 29):=⟨_,rfl⟩
 have hXs:X.heap.size=w.heap.size+2:=by rw [hX];simp
 have hXb:Below w.heap.size w X:=by rw [hX];exact ((Below.refl _ _).alloc (Nat.le_refl _) _).alloc (by simp) _
 have hX0:X.heap[w.heap.size]?=some (.cells #[.int .i64 t.K,.int .i64 t.N,.slice ao len cap] 26 (0,0)):=by rw [hX,Below.heap_alloc _ _ _ (by simp)];exact Qac rfl
 have hX1:X.heap[w.heap.size+1]?=some (.cells #[.int .i64 0,.int .i64 0,.string ⟨#[]⟩,.string ⟨#[]⟩,.int .i64 0,.int .i64 0,.slice none 0 0,.slice none 0 0,.slice none 0 0] 29 (0,0)):=by rw [hX];exact Qac (by simp)
 have hcX:=hc.below hXb
 have hgX:w.grownBy X (some p):=Qae _ hXb
 have hsX:Hs (p+1) X.heap.size X k ao len t.A:=hs_up hs hXb
 have hvX:=hv.grown hgX
 have HX:Hid (X=_):=hX
 obtain⟨n,hn⟩:∃ n,n=es.length:=⟨_,rfl⟩
 have HN:Hid (n=es.length):=hn
 rw [← hn] at hlen ⊢
 have HKd:Hid (k=11 - dep):=hk
 clear hX hn hk
 obtain⟨wr,hwr⟩:∃ wr,wr=X:=⟨_,rfl⟩
 have hD:Drw X wr p cao clen ccap:=by rw [hwr];exact⟨Qaq _ _,hcX⟩
 have HX2:Hid (wr=_):=hwr.trans HX.out
 clear HX hwr
 have hzr:=hD.grown.size
 have b0:=(hD.grown.block w.heap.size (by omega) (by simp;omega)).trans hX0
 have r0:=(hD.grown.block (w.heap.size+1) (by omega) (by simp;omega)).trans hX1
 obtain⟨x0,x1,x2⟩:=Qaf b0
 have hcur:=hD.cur
 have hgw:w.grownBy wr (some p):=Qab hgX hD.grown
 have hk1:1≤k:=by cases k with|zero=>simp [Qai] at hm|succ k=>omega
 obtain⟨k',rfl⟩:∃ k',k=k'+1:=⟨k - 1,by omega⟩
 have hm':Qai (k'+1) ⟨t.K,t.N,t.A⟩=some m:=by rw [Qap];exact hm
 obtain⟨hnk,hparts⟩:=Qay hm'
 have hcnt:=Qeb _ _ _ hm
 rw [Qdd] at hcnt
 have hmlt:=Qdr _ _ _ hm
 have hpow:2 ^ (k'+1)≤16384:=by
  have:2 ^ (k'+1)≤2 ^ 14:=Nat.pow_le_pow_right (by omega) hk14
  simpa using this
 have hsr:Hs (p+1) wr.heap.size wr (k'+1) ao len t.A:=hsX.keep (fun q hq1 hq2=>hD.grown.block q hq2 (by simp;omega)) (Nat.le_refl _) hzr
 have hKc:t.K=1∨t.K=2∨t.K=3∨t.K=4∨t.K=5∨t.K=6:=by
  have hp1:=(Qbb hnk).1
  have:parts t.K≠-1:=by omega
  unfold parts at this
  (repeat' split at this) <;> omega
 have HR:Hid (∀ W:World,wr.grownBy W (some p)->W.heap[w.heap.size+1]?=some (.cells #[.int .i64 0,.int .i64 0,.string ⟨#[]⟩,.string ⟨#[]⟩,.int .i64 0,.int .i64 0,.slice none 0 0,.slice none 0 0,.slice none 0 0] 29 (0,0))):=fun W hg=>(hg.block _ (by omega) (by simp;omega)).trans r0
 have HDr:Hid (∀ W:World,wr.grownBy W (some p)->Cur W p cao clen ccap->Drw w W p cao clen ccap):=fun W hg hcu=>⟨Qab hgw hg,hcu⟩
 have hrp:w.heap.size+1<wr.heap.size:=by omega
 have HTW:Hid (∀ W:World,wr.grownBy W (some p)->Ty2 W p (k'+1) (.agg #[.int .i64 t.K,.int .i64 t.N,.slice ao len cap]) t):=fun W hg=>⟨⟨ao,len,cap,rfl,hsr.keep (fun q hq1 hq2=>hg.block q hq2 (by simp;omega)) (Nat.le_refl _) hg.size⟩,m,hm⟩
 have HEn:Hid (∀ W:World,wr.grownBy W (some p)->En2 W p 14 (.slice ae n ce) es):=fun W hg=>by have:=(hvX.grown hD.grown).grown hg;rw [← HN.out] at this;exact this
 have HMk:Hid (∀ (W:World) (kk:Nat) (wv:Value) (u:Tr) (v':Value) (es':List Ev),wr.grownBy W (some p)->Cur W p cao clen ccap->Ty2 W p kk wv u->kk≤12 - dep->En2 W p 14 v' es'->es'.length≤n+4->Calls Try.prog 54 #[.pointer (some ⟨p,0,none⟩),wv,v',.int .i64 (dep:Int),.int .i64 vs] W fun e w'=>∃ rv tm,e=.returned rv∧TmV w' W.heap.size 14 (16+dep) rv tm∧Drw W w' p cao clen ccap):=fun W kk wv u v' es' hg hcu ht hkk hE hl=>IH p cao clen ccap wv u v' es' vs W hcu (ht.up hkk) hE (by omega) hv0 hv2
 have hkd:k'+1≤12 - dep:=by omega
 have hkd1:k'≤12 - dep:=by omega
 have HLn:Hid (es.length≤n+4):=by have:=HN.out;show _≤_;omega
 have HK:=hKc
 clear hKc hm' hm IH
 go_enter Try.func58,Try.ntmps58
 rcases HK with hK|hK|hK|hK|hK|hK
 · rw [hK] at x0 HX2
   go_wp2_with fail
   rw [← HX2.out]
   refine (Qat p cao clen ccap 3 _ hcur (by omega) (by omega)).mono ?_
   rintro e v1 ⟨z,rfl,hz0,hz1,hD0⟩
   have q0:=hD0.grown
   have hpv:=hD0.cur.lt
   go_wp2_with fail
   refine (Qee p 1 v1 hpv).mono ?_
   rintro e v2 ⟨iv,rfl,hT1,hb1⟩
   have q1:wr.grownBy v2 (some p):=Qab q0 (Qae _ hb1)
   go_wp2_with fail
   refine (HMk.out v2 1 _ _ _ es q1 (hD0.cur.below hb1) ⟨hT1,leafW 1 (Nat.le_refl _) (by decide)⟩ (by omega) (HEn.out _ q1) HLn.out).mono ?_
   rintro e w1 ⟨rv1,tm1,rfl,⟨a1,l1,c1,a2,l2,c2,a3,l3,c3,rfl,hF1⟩,hD1⟩
   have q2:wr.grownBy w1 (some p):=Qab q1 hD1.grown
   go_wp2_with fail
   refine (Qee p 1 w1 hD1.cur.lt).mono ?_
   rintro e v4 ⟨iv2,rfl,hT2,hb3⟩
   have q3:wr.grownBy v4 (some p):=Qab q2 (Qae _ hb3)
   go_wp2_with fail
   refine (HMk.out v4 1 _ _ _ es q3 (hD1.cur.below hb3) ⟨hT2,leafW 1 (Nat.le_refl _) (by decide)⟩ (by omega) (HEn.out _ q3) HLn.out).mono ?_
   rintro e w2 ⟨rv2,tm2,rfl,⟨b1,n1,e1,b2,n2,e2,b3,n3,e3,rfl,hF2⟩,hD2⟩
   have q4:wr.grownBy w2 (some p):=Qab q3 hD2.grown
   have hrl:w.heap.size+1<w2.heap.size:=Nat.lt_of_lt_of_le hrp q4.size
   have r2:=HR.out w2 q4
   obtain⟨y0,y1,y2,y3,y4,y5,y6,y7,y8⟩:=Nine.box r2
   have yf:=Qad r2
   go_wp2_with fail
   have hzq1:=q1.size
   have hzq3:=q3.size
   have hzb3:=hb3.size
   have hzd2:=hD2.grown.size
   have hG1:Fm wr.heap.size w2.heap.size w2 14 (16+dep) tm1 a1 l1 a2 l2 a3 l3:=Fm.keep (fun q h1 h2=>(hD2.grown.block q (by omega) (by simp;omega)).trans (hb3.block q h2)) hzq1 (by omega) hF1
   have hG2:Fm wr.heap.size w2.heap.size w2 14 (16+dep) tm2 b1 n1 b2 n2 b3 n3:=Fm.keep (fun _ _ _=>rfl) hzq3 (Nat.le_refl _) hF2
   have fin:=Qbf (w:=w) (w3:=w2) (O:=.cells #[.int .i64 tm1.K,.int .i64 tm1.N,.string tm1.S,.string tm1.Z,.int .i64 tm1.T.K,.int .i64 tm1.T.N,.slice a1 l1 c1,.slice a2 l2 c2,.slice a3 l3 c3,.int .i64 tm2.K,.int .i64 tm2.N,.string tm2.S,.string tm2.Z,.int .i64 tm2.T.K,.int .i64 tm2.T.N,.slice b1 n1 e1,.slice b2 n2 e2,.slice b3 n3 e3] 29) (r:=w.heap.size+1) (L:=wr.heap.size) (D:=14) (d:=16+dep+1) (t:=⟨15,1+z,⟨#[]⟩,⟨#[]⟩,⟨0,0,[]⟩,[],[tm1,tm2]⟩) (a1:=none) (l1:=0) (c1:=0) (a2:=none) (l2:=0) (c2:=0) (a3:=some ⟨w2.heap.size,0,none⟩) (l3:=2) (c3:=2)
    ⟨Nat.zero_le _,Nat.zero_le _,Hs.nil _ _ _ _ _,Hs.nil _ _ _ _ _,Qca hG1 hG2 q4.size⟩ (by omega) (by omega) hp (HDr.out w2 q4 hD2.cur)
   exact bodyPost_ret (v:=.agg #[.int .i64 15,.int .i64 (1+z),.string ⟨#[]⟩,.string ⟨#[]⟩,.int .i64 0,.int .i64 0,.slice none 0 0,.slice none 0 0,.slice (some ⟨w2.heap.size,0,none⟩) 2 2]) (by simp [results,Try.results58,go_sem,y0,y1,y2,y3,y4,y5,y6,y7,y8,hrl]) rfl ⟨_,_,rfl,fin.1,fin.2⟩
 · rw [hK] at x0 HX2
   go_wp2_with fail
   rw [← HX2.out]
   refine (Qat p cao clen ccap 2 _ hcur (by omega) (by omega)).mono ?_
   rintro e v1 ⟨z,rfl,hz0,hz1,hD0⟩
   have q0:=hD0.grown
   have hpv:=hD0.cur.lt
   go_wp2_with fail
   refine (Qee p 1 v1 hpv).mono ?_
   rintro e v2 ⟨iv,rfl,hT1,hb1⟩
   have q1:wr.grownBy v2 (some p):=Qab q0 (Qae _ hb1)
   go_wp2_with fail
   refine (HMk.out v2 1 _ _ _ es q1 (hD0.cur.below hb1) ⟨hT1,leafW 1 (Nat.le_refl _) (by decide)⟩ (by omega) (HEn.out _ q1) HLn.out).mono ?_
   rintro e w1 ⟨rv1,tm1,rfl,⟨a1,l1,c1,a2,l2,c2,a3,l3,c3,rfl,hF1⟩,hD1⟩
   have q2:wr.grownBy w1 (some p):=Qab q1 hD1.grown
   go_wp2_with fail
   refine (Qee p 1 w1 hD1.cur.lt).mono ?_
   rintro e v4 ⟨iv2,rfl,hT2,hb3⟩
   have q3:wr.grownBy v4 (some p):=Qab q2 (Qae _ hb3)
   go_wp2_with fail
   refine (HMk.out v4 1 _ _ _ es q3 (hD1.cur.below hb3) ⟨hT2,leafW 1 (Nat.le_refl _) (by decide)⟩ (by omega) (HEn.out _ q3) HLn.out).mono ?_
   rintro e w2 ⟨rv2,tm2,rfl,⟨b1,n1,e1,b2,n2,e2,b3,n3,e3,rfl,hF2⟩,hD2⟩
   have q4:wr.grownBy w2 (some p):=Qab q3 hD2.grown
   have hrl:w.heap.size+1<w2.heap.size:=Nat.lt_of_lt_of_le hrp q4.size
   have r2:=HR.out w2 q4
   obtain⟨y0,y1,y2,y3,y4,y5,y6,y7,y8⟩:=Nine.box r2
   have yf:=Qad r2
   go_wp2_with fail
   have hzq1:=q1.size
   have hzq3:=q3.size
   have hzb3:=hb3.size
   have hzd2:=hD2.grown.size
   have hG1:Fm wr.heap.size w2.heap.size w2 14 (16+dep) tm1 a1 l1 a2 l2 a3 l3:=Fm.keep (fun q h1 h2=>(hD2.grown.block q (by omega) (by simp;omega)).trans (hb3.block q h2)) hzq1 (by omega) hF1
   have hG2:Fm wr.heap.size w2.heap.size w2 14 (16+dep) tm2 b1 n1 b2 n2 b3 n3:=Fm.keep (fun _ _ _=>rfl) hzq3 (Nat.le_refl _) hF2
   have fin:=Qbf (w:=w) (w3:=w2) (O:=.cells #[.int .i64 tm1.K,.int .i64 tm1.N,.string tm1.S,.string tm1.Z,.int .i64 tm1.T.K,.int .i64 tm1.T.N,.slice a1 l1 c1,.slice a2 l2 c2,.slice a3 l3 c3,.int .i64 tm2.K,.int .i64 tm2.N,.string tm2.S,.string tm2.Z,.int .i64 tm2.T.K,.int .i64 tm2.T.N,.slice b1 n1 e1,.slice b2 n2 e2,.slice b3 n3 e3] 29) (r:=w.heap.size+1) (L:=wr.heap.size) (D:=14) (d:=16+dep+1) (t:=⟨15,4+z,⟨#[]⟩,⟨#[]⟩,⟨0,0,[]⟩,[],[tm1,tm2]⟩) (a1:=none) (l1:=0) (c1:=0) (a2:=none) (l2:=0) (c2:=0) (a3:=some ⟨w2.heap.size,0,none⟩) (l3:=2) (c3:=2)
    ⟨Nat.zero_le _,Nat.zero_le _,Hs.nil _ _ _ _ _,Hs.nil _ _ _ _ _,Qca hG1 hG2 q4.size⟩ (by omega) (by omega) hp (HDr.out w2 q4 hD2.cur)
   exact bodyPost_ret (v:=.agg #[.int .i64 15,.int .i64 (4+z),.string ⟨#[]⟩,.string ⟨#[]⟩,.int .i64 0,.int .i64 0,.slice none 0 0,.slice none 0 0,.slice (some ⟨w2.heap.size,0,none⟩) 2 2]) (by simp [results,Try.results58,go_sem,y0,y1,y2,y3,y4,y5,y6,y7,y8,hrl]) rfl ⟨_,_,rfl,fin.1,fin.2⟩
 · rw [hK] at x0 HX2
   go_wp2_with fail
   rw [← HX2.out]
   refine (leaf_any (k'+1) hk14 p cao clen ccap _ t _ es wr hcur (by have:=HTW.out wr (Qaq _ _);rw [hK] at this;exact this) (HEn.out wr (Qaq _ _)) (by have:=HN.out;omega)).mono ?_
   rintro e w2 ⟨rv,tm,rfl,⟨q1,q2,q3,q4,q5,q6,q7,q8,q9,rfl,hF⟩,hD2⟩
   have r2:=HR.out w2 hD2.grown
   have hz2:=hD2.grown.size
   obtain⟨y0,y1,y2,y3,y4,y5,y6,y7,y8⟩:=Nine.box r2
   have yf:=Qad r2
   go_wp2_with fail
   have fin:=Qar (w:=w) (r:=w.heap.size+1) (c1:=q3) (c2:=q6) (c3:=q9) hF (by omega) (by omega) hp (HDr.out w2 hD2.grown hD2.cur)
   exact bodyPost_ret (v:=.agg #[.int .i64 tm.K,.int .i64 tm.N,.string tm.S,.string tm.Z,.int .i64 tm.T.K,.int .i64 tm.T.N,.slice q1 q2 q3,.slice q4 q5 q6,.slice q7 q8 q9]) (by simp [results,Try.results58,go_sem,y0,y1,y2,y3,y4,y5,y6,y7,y8]) rfl ⟨_,_,rfl,fin.1.deeper (Nat.le_refl _) (by omega),fin.2⟩
 · rw [hK] at x0 HX2
   have hlen2:len=2:=by have h1:=hsr.len.1;have h2:=(Qbb hnk).1;rw [hK] at h2;simp [parts] at h2;omega
   have hA0:0<t.A.length:=by have h1:=hsr.len.1;omega
   have hA1:1<t.A.length:=by have h1:=hsr.len.1;omega
   obtain⟨b,o,rfl,hb1,hb2,f1,m1,g1,z0,z1,z2,hp0⟩:=hs.get 0 hA0
   obtain⟨b',o',e',_,_,f2,m2,g2,z3,z4,z5,hp1⟩:=hs.get 1 hA1
   injection e' with e'
   injection e' with e1 e2
   subst e1 e2
   rw [Nat.zero_mul,Nat.add_zero] at z0 z1 z2
   rw [Nat.one_mul] at z3 z4 z5
   obtain⟨n0,hn0⟩:=hparts 0 hA0
   obtain⟨n1,hn1⟩:=hparts 1 hA1
   have HS:Hid (∀ w':World,wr.grownBy w' (some p)->w'.cell? ⟨w.heap.size,2,none⟩=some (.slice (some ⟨b,o,none⟩) len cap)∧w'.cell? ⟨b,o,none⟩=some (.int .i64 t.A[0].K)∧w'.cell? ⟨b,o+1,none⟩=some (.int .i64 t.A[0].N)∧w'.cell? ⟨b,o+2,none⟩=some (.slice f1 m1 g1)∧w'.cell? ⟨b,o+3,none⟩=some (.int .i64 t.A[1].K)∧w'.cell? ⟨b,o+3+1,none⟩=some (.int .i64 t.A[1].N)∧w'.cell? ⟨b,o+3+2,none⟩=some (.slice f2 m2 g2)):=by
    intro w' hg
    have k1:w'.heap[b]?=w.heap[b]?:=(Qab hgw hg).block b hb2 (by simp;omega)
    have k2:w'.heap[w.heap.size]?=wr.heap[w.heap.size]?:=hg.block _ (by omega) (by simp;omega)
    exact⟨(World.cell?_of_block k2).trans x2,(World.cell?_of_block k1).trans z0,(World.cell?_of_block k1).trans z1,(World.cell?_of_block k1).trans z2,(World.cell?_of_block k1).trans z3,(World.cell?_of_block k1).trans z4,(World.cell?_of_block k1).trans z5⟩
   have HCp:Hid (∀ W:World,wr.grownBy W (some p)->Calls Try.prog 63 #[.agg #[.int .i64 t.A[0].K,.int .i64 t.A[0].N,.slice f1 m1 g1]] W fun e w'=>∃ ao2 len2 cap2,e=.returned (.agg #[.int .i64 t.A[0].K,.int .i64 t.A[0].N,.slice ao2 len2 cap2])∧Below W.heap.size W w'∧OwR W.heap.size w'.heap.size w' k' ao2 len2 t.A[0].A):=fun W hg =>
    Qed k' _ _ _ _ _ _ _ _ W (Nat.le_refl _) (hp0.keep (fun q hq1 hq2=>(Qab hgw hg).block q hq2 (by simp;omega)) (Nat.le_refl _) (Qab hgw hg).size) (by have:=Qcn t.A 0 hA0;omega)
   have HWi:Hid (∀ (W:World) (s:ByteArray),wr.grownBy W (some p)->s.size=1->Calls Try.prog 59 #[.slice ae n ce,.string s,.int .i64 0,.agg #[.int .i64 t.A[0].K,.int .i64 t.A[0].N,.slice f1 m1 g1]] W fun e w'=>∃ v',e=.returned v'∧En2 w' p 14 v' (es++[⟨s,0,t.A[0]⟩])∧Below W.heap.size W w'):=by
    intro W s hg hs1
    have hvW:=(hvX.grown hD.grown).grown hg
    rw [← HN.out] at hvW
    have hz:=(Qab hgw hg).size
    refine (l3With_any p 14 _ es s 0 _ t.A[0] W (by omega) hvW.1 ⟨f1,m1,g1,rfl,(hp0.keep (fun q hq1 hq2=>(Qab hgw hg).block q hq2 (by simp;omega)) (Nat.le_refl _) (Qab hgw hg).size).deeper (by omega)⟩ (by have:=HN.out;omega)).mono ?_
    rintro e w' ⟨v',rfl,hE,hb⟩
    refine⟨v',rfl,⟨hE,fun e he=>?_⟩,hb⟩
    rcases List.mem_append.1 he with he|he
    · exact hvW.2 e he
    · rw [List.mem_singleton.1 he]
      exact⟨⟨n0,Qcm (by omega) hn0⟩,Or.inl rfl,by show s.size≤8;omega⟩
   have HL1:Hid (∀ (W:World) (s:ByteArray) (v':Value),wr.grownBy W (some p)->Cur W p cao clen ccap->En2 W p 14 v' (es++[⟨s,0,t.A[0]⟩])->Calls Try.prog 54 #[.pointer (some ⟨p,0,none⟩),.agg #[.int .i64 t.A[1].K,.int .i64 t.A[1].N,.slice f2 m2 g2],v',.int .i64 (dep:Int),.int .i64 vs] W fun e w'=>∃ rv tm,e=.returned rv∧TmV w' W.heap.size 14 (16+dep) rv tm∧Drw W w' p cao clen ccap):=fun W s v' hg hcu hE =>
    HMk.out W k' _ t.A[1] _ _ hg hcu ⟨⟨f2,m2,g2,rfl,hp1.keep (fun q hq1 hq2=>(Qab hgw hg).block q hq2 (by simp;omega)) (Nat.le_refl _) (Qab hgw hg).size⟩,n1,hn1⟩ hkd1 hE (by have:=HN.out;simp;omega)
   have hnb:b≠w.heap.size+1:=by omega
   have hnw:w.heap.size≠w.heap.size+1:=by omega
   subst hlen2
   generalize t.A[0]=u0 at *
   generalize t.A[1]=u1 at *
   clear hcnt hmlt hparts hnk hsr hn0 hn1
   have SF:Hid (∀ (W:World),wr.grownBy W (some p)->∀ (a0 a1 a2 a3 a4 a5 a6 a7 a8:Value) (O:Obj),((((((((((W.setCell ⟨w.heap.size+1,0,none⟩ a0).setCell ⟨w.heap.size+1,1,none⟩ a1).setCell ⟨w.heap.size+1,2,none⟩ a2).setCell ⟨w.heap.size+1,3,none⟩ a3).setCell ⟨w.heap.size+1,4,none⟩ a4).setCell ⟨w.heap.size+1,5,none⟩ a5).setCell ⟨w.heap.size+1,6,none⟩ a6).setCell ⟨w.heap.size+1,7,none⟩ a7).setCell ⟨w.heap.size+1,8,none⟩ a8).alloc O).cell? ⟨w.heap.size,2,none⟩=some (.slice (some ⟨b,o,none⟩) 2 cap)∧((((((((((W.setCell ⟨w.heap.size+1,0,none⟩ a0).setCell ⟨w.heap.size+1,1,none⟩ a1).setCell ⟨w.heap.size+1,2,none⟩ a2).setCell ⟨w.heap.size+1,3,none⟩ a3).setCell ⟨w.heap.size+1,4,none⟩ a4).setCell ⟨w.heap.size+1,5,none⟩ a5).setCell ⟨w.heap.size+1,6,none⟩ a6).setCell ⟨w.heap.size+1,7,none⟩ a7).setCell ⟨w.heap.size+1,8,none⟩ a8).alloc O).cell? ⟨b,o,none⟩=some (.int .i64 u0.K)∧((((((((((W.setCell ⟨w.heap.size+1,0,none⟩ a0).setCell ⟨w.heap.size+1,1,none⟩ a1).setCell ⟨w.heap.size+1,2,none⟩ a2).setCell ⟨w.heap.size+1,3,none⟩ a3).setCell ⟨w.heap.size+1,4,none⟩ a4).setCell ⟨w.heap.size+1,5,none⟩ a5).setCell ⟨w.heap.size+1,6,none⟩ a6).setCell ⟨w.heap.size+1,7,none⟩ a7).setCell ⟨w.heap.size+1,8,none⟩ a8).alloc O).cell? ⟨b,o+1,none⟩=some (.int .i64 u0.N)∧((((((((((W.setCell ⟨w.heap.size+1,0,none⟩ a0).setCell ⟨w.heap.size+1,1,none⟩ a1).setCell ⟨w.heap.size+1,2,none⟩ a2).setCell ⟨w.heap.size+1,3,none⟩ a3).setCell ⟨w.heap.size+1,4,none⟩ a4).setCell ⟨w.heap.size+1,5,none⟩ a5).setCell ⟨w.heap.size+1,6,none⟩ a6).setCell ⟨w.heap.size+1,7,none⟩ a7).setCell ⟨w.heap.size+1,8,none⟩ a8).alloc O).cell? ⟨b,o+2,none⟩=some (.slice f1 m1 g1)∧((((((((((W.setCell ⟨w.heap.size+1,0,none⟩ a0).setCell ⟨w.heap.size+1,1,none⟩ a1).setCell ⟨w.heap.size+1,2,none⟩ a2).setCell ⟨w.heap.size+1,3,none⟩ a3).setCell ⟨w.heap.size+1,4,none⟩ a4).setCell ⟨w.heap.size+1,5,none⟩ a5).setCell ⟨w.heap.size+1,6,none⟩ a6).setCell ⟨w.heap.size+1,7,none⟩ a7).setCell ⟨w.heap.size+1,8,none⟩ a8).alloc O).cell? ⟨b,o+3,none⟩=some (.int .i64 u1.K)∧((((((((((W.setCell ⟨w.heap.size+1,0,none⟩ a0).setCell ⟨w.heap.size+1,1,none⟩ a1).setCell ⟨w.heap.size+1,2,none⟩ a2).setCell ⟨w.heap.size+1,3,none⟩ a3).setCell ⟨w.heap.size+1,4,none⟩ a4).setCell ⟨w.heap.size+1,5,none⟩ a5).setCell ⟨w.heap.size+1,6,none⟩ a6).setCell ⟨w.heap.size+1,7,none⟩ a7).setCell ⟨w.heap.size+1,8,none⟩ a8).alloc O).cell? ⟨b,o+3+1,none⟩=some (.int .i64 u1.N)∧((((((((((W.setCell ⟨w.heap.size+1,0,none⟩ a0).setCell ⟨w.heap.size+1,1,none⟩ a1).setCell ⟨w.heap.size+1,2,none⟩ a2).setCell ⟨w.heap.size+1,3,none⟩ a3).setCell ⟨w.heap.size+1,4,none⟩ a4).setCell ⟨w.heap.size+1,5,none⟩ a5).setCell ⟨w.heap.size+1,6,none⟩ a6).setCell ⟨w.heap.size+1,7,none⟩ a7).setCell ⟨w.heap.size+1,8,none⟩ a8).alloc O).cell? ⟨b,o+3+2,none⟩=some (.slice f2 m2 g2)):=by
    intro W hg a0 a1 a2 a3 a4 a5 a6 a7 a8 O
    obtain⟨v0,v1,v2,v3,v4,v5,v6⟩:=HS.out W hg
    have hz:=(Qab hgw hg).size
    have hzz:=hg.size
    have kb:b<W.heap.size:=by omega
    have kw:w.heap.size<W.heap.size:=by omega
    exact⟨(Qam W (w.heap.size+1) a0 a1 a2 a3 a4 a5 a6 a7 a8 O w.heap.size 2 hnw kw).trans v0,(Qam W (w.heap.size+1) a0 a1 a2 a3 a4 a5 a6 a7 a8 O b o hnb kb).trans v1,(Qam W (w.heap.size+1) a0 a1 a2 a3 a4 a5 a6 a7 a8 O b (o+1) hnb kb).trans v2,(Qam W (w.heap.size+1) a0 a1 a2 a3 a4 a5 a6 a7 a8 O b (o+2) hnb kb).trans v3,(Qam W (w.heap.size+1) a0 a1 a2 a3 a4 a5 a6 a7 a8 O b (o+3) hnb kb).trans v4,(Qam W (w.heap.size+1) a0 a1 a2 a3 a4 a5 a6 a7 a8 O b (o+3+1) hnb kb).trans v5,(Qam W (w.heap.size+1) a0 a1 a2 a3 a4 a5 a6 a7 a8 O b (o+3+2) hnb kb).trans v6⟩
   go_wp2_with fail
   rw [← HX2.out]
   refine (l3Fresh_any p cao clen ccap wr hcur).mono ?_
   rintro e v1 ⟨s,rfl,hs1,hDf⟩
   have q0:wr.grownBy v1.drew (some p):=Qab hDf.grown (Qae _ ((Below.refl _ _).drew))
   have hc0:Cur v1.drew p cao clen ccap:=hDf.cur.keep (w':=v1.drew) (fun _ _=>rfl)
   have HS1:Hid (s.size=1):=hs1
   clear hs1
   obtain⟨d0,d1,d2,d3,d4,d5,d6⟩:=HS.out v1 hDf.grown
   go_wp2_with fail
   go_region_held3 (fun w'=>w'.cell? ⟨w.heap.size,2,none⟩=some (.slice (some ⟨b,o,none⟩) 2 cap)∧w'.cell? ⟨b,o,none⟩=some (.int .i64 u0.K)∧w'.cell? ⟨b,o+1,none⟩=some (.int .i64 u0.N)∧w'.cell? ⟨b,o+2,none⟩=some (.slice f1 m1 g1)∧w'.cell? ⟨b,o+3,none⟩=some (.int .i64 u1.K)∧w'.cell? ⟨b,o+3+1,none⟩=some (.int .i64 u1.N)∧w'.cell? ⟨b,o+3+2,none⟩=some (.slice f2 m2 g2))
    (first|with_reducible exact HS.out _ (q3a _)|with_reducible exact HS.out _ q3|with_reducible exact HS.out _ q2|with_reducible exact HS.out _ q1|with_reducible exact HS.out _ q0|with_reducible exact SF.out _ q3 _ _ _ _ _ _ _ _ _ _)
    (first
      | (go_at_call 54;refine (HL1.out _ _ _ q2 hc2 hE2).mono ?_;rintro e w2 ⟨rv2,tm2,rfl,⟨b1,n1,e1,b2,n2,e2,b3,n3,e3,rfl,hF2⟩,hD2⟩;have q3:wr.grownBy w2 (some p):=Qab q2 hD2.grown;have q3a:∀ o,wr.grownBy (w2.alloc o) (some p):=fun o=>Qab q3 (Qae _ ((Below.refl _ _).alloc (Nat.le_refl _) _));have hrl:w.heap.size+1<w2.heap.size:=Nat.lt_of_lt_of_le hrp q3.size;obtain⟨v0,v1,v2,v3,v4,v5,v6⟩:=HS.out _ q3;have r2:=HR.out w2 q3;obtain⟨y0,y1,y2,y3,y4,y5,y6,y7,y8⟩:=Nine.box r2;have yf:=Qad r2;have hbl2:b<w2.heap.size:=Nat.lt_of_lt_of_le hb2 (Nat.le_trans hgw.size q3.size);have hwl2:w.heap.size<w2.heap.size:=Nat.lt_of_succ_lt hrl)
      | (go_at_call 59;refine (HWi.out _ _ q1 HS1.out).mono ?_;rintro e v3 ⟨v',rfl,hE2,hb3⟩;have q2:wr.grownBy v3 (some p):=Qab q1 (Qae _ hb3);have hc2:=hc1.below hb3)
      | (go_at_call 63;refine (HCp.out _ q0).mono ?_;rintro e v2 ⟨ao2,len2,cap2,rfl,hb1',ho1⟩;have q1:wr.grownBy v2 (some p):=Qab q0 (Qae _ hb1');have hc1:=hc0.below hb1'))
   all_goals
    go_wp2_with fail
    have hzq0:=q0.size
    have hzq1:=q1.size
    have hzq2:=q2.size
    have hzb3:=hb3.size
    have hzd2:=hD2.grown.size
    have hG2:Fm wr.heap.size w2.heap.size w2 14 (16+dep) tm2 b1 n1 b2 n2 b3 n3:=Fm.keep (fun _ _ _=>rfl) hzq2 (Nat.le_refl _) hF2
    have hba:Below w2.heap.size w2 (w2.alloc (.cells #[.int .i64 tm2.K,.int .i64 tm2.N,.string tm2.S,.string tm2.Z,.int .i64 tm2.T.K,.int .i64 tm2.T.N,.slice b1 n1 e1,.slice b2 n2 e2,.slice b3 n3 e3] 29)):=(Below.refl _ _).alloc (Nat.le_refl _) _
    have hsT:Hs wr.heap.size (w2.alloc (.cells #[.int .i64 tm2.K,.int .i64 tm2.N,.string tm2.S,.string tm2.Z,.int .i64 tm2.T.K,.int .i64 tm2.T.N,.slice b1 n1 e1,.slice b2 n2 e2,.slice b3 n3 e3] 29)).heap.size (w2.alloc (.cells #[.int .i64 tm2.K,.int .i64 tm2.N,.string tm2.S,.string tm2.Z,.int .i64 tm2.T.K,.int .i64 tm2.T.N,.slice b1 n1 e1,.slice b2 n2 e2,.slice b3 n3 e3] 29)) 14 ao2 len2 u0.A:=(ho1.hs.keep (fun q h1 h2=>(hba.block q (by omega)).trans ((hD2.grown.block q (by omega) (by simp;omega)).trans (hb3.block q h2))) hzq0 (by have:=hba.size;omega)).deeper (by omega)
    have fin:=Qbf (w:=w) (w3:=w2) (O:=.cells #[.int .i64 tm2.K,.int .i64 tm2.N,.string tm2.S,.string tm2.Z,.int .i64 tm2.T.K,.int .i64 tm2.T.N,.slice b1 n1 e1,.slice b2 n2 e2,.slice b3 n3 e3] 29) (r:=w.heap.size+1) (L:=wr.heap.size) (D:=14) (d:=16+dep+1) (t:=⟨4,0,s,⟨#[]⟩,u0,[],[tm2]⟩) (a1:=ao2) (l1:=len2) (c1:=cap2) (a2:=none) (l2:=0) (c2:=0) (a3:=some ⟨w2.heap.size,0,none⟩) (l3:=1) (c3:=1)
     ⟨by have:=HS1.out;show s.size≤_;omega,Nat.zero_le _,hsT,Hs.nil _ _ _ _ _,hm_new1 hG2 q3.size⟩ (by omega) (by omega) hp (HDr.out w2 q3 hD2.cur)
    exact bodyPost_ret (v:=.agg #[.int .i64 4,.int .i64 0,.string s,.string ⟨#[]⟩,.int .i64 u0.K,.int .i64 u0.N,.slice ao2 len2 cap2,.slice none 0 0,.slice (some ⟨w2.heap.size,0,none⟩) 1 1]) (by simp [results,Try.results58,go_sem,y0,y1,y2,y3,y4,y5,y6,y7,y8,hrl]) rfl ⟨_,_,rfl,fin.1,fin.2⟩
 · rw [hK] at x0 HX2
   have hlen2:len=2:=by have h1:=hsr.len.1;have h2:=(Qbb hnk).1;rw [hK] at h2;simp [parts] at h2;omega
   have hA0:0<t.A.length:=by have h1:=hsr.len.1;omega
   have hA1:1<t.A.length:=by have h1:=hsr.len.1;omega
   obtain⟨b,o,rfl,hb1,hb2,f1,m1,g1,z0,z1,z2,hp0⟩:=hs.get 0 hA0
   obtain⟨b',o',e',_,_,f2,m2,g2,z3,z4,z5,hp1⟩:=hs.get 1 hA1
   injection e' with e'
   injection e' with e1 e2
   subst e1 e2
   rw [Nat.zero_mul,Nat.add_zero] at z0 z1 z2
   rw [Nat.one_mul] at z3 z4 z5
   obtain⟨n0,hn0⟩:=hparts 0 hA0
   obtain⟨n1,hn1⟩:=hparts 1 hA1
   have HS:Hid (∀ w':World,wr.grownBy w' (some p)->w'.cell? ⟨w.heap.size,2,none⟩=some (.slice (some ⟨b,o,none⟩) len cap)∧w'.cell? ⟨b,o,none⟩=some (.int .i64 t.A[0].K)∧w'.cell? ⟨b,o+1,none⟩=some (.int .i64 t.A[0].N)∧w'.cell? ⟨b,o+2,none⟩=some (.slice f1 m1 g1)∧w'.cell? ⟨b,o+3,none⟩=some (.int .i64 t.A[1].K)∧w'.cell? ⟨b,o+3+1,none⟩=some (.int .i64 t.A[1].N)∧w'.cell? ⟨b,o+3+2,none⟩=some (.slice f2 m2 g2)):=by
    intro w' hg
    have k1:w'.heap[b]?=w.heap[b]?:=(Qab hgw hg).block b hb2 (by simp;omega)
    have k2:w'.heap[w.heap.size]?=wr.heap[w.heap.size]?:=hg.block _ (by omega) (by simp;omega)
    exact⟨(World.cell?_of_block k2).trans x2,(World.cell?_of_block k1).trans z0,(World.cell?_of_block k1).trans z1,(World.cell?_of_block k1).trans z2,(World.cell?_of_block k1).trans z3,(World.cell?_of_block k1).trans z4,(World.cell?_of_block k1).trans z5⟩
   have HL0:Hid (∀ W:World,wr.grownBy W (some p)->Cur W p cao clen ccap->Calls Try.prog 54 #[.pointer (some ⟨p,0,none⟩),.agg #[.int .i64 t.A[0].K,.int .i64 t.A[0].N,.slice f1 m1 g1],.slice ae n ce,.int .i64 (dep:Int),.int .i64 vs] W fun e w'=>∃ rv tm,e=.returned rv∧TmV w' W.heap.size 14 (16+dep) rv tm∧Drw W w' p cao clen ccap):=fun W hg hcu =>
    HMk.out W k' _ t.A[0] _ es hg hcu ⟨⟨f1,m1,g1,rfl,hp0.keep (fun q hq1 hq2=>(Qab hgw hg).block q hq2 (by simp;omega)) (Nat.le_refl _) (Qab hgw hg).size⟩,n0,hn0⟩ hkd1 (HEn.out W hg) HLn.out
   have HL1:Hid (∀ W:World,wr.grownBy W (some p)->Cur W p cao clen ccap->Calls Try.prog 54 #[.pointer (some ⟨p,0,none⟩),.agg #[.int .i64 t.A[1].K,.int .i64 t.A[1].N,.slice f2 m2 g2],.slice ae n ce,.int .i64 (dep:Int),.int .i64 vs] W fun e w'=>∃ rv tm,e=.returned rv∧TmV w' W.heap.size 14 (16+dep) rv tm∧Drw W w' p cao clen ccap):=fun W hg hcu =>
    HMk.out W k' _ t.A[1] _ es hg hcu ⟨⟨f2,m2,g2,rfl,hp1.keep (fun q hq1 hq2=>(Qab hgw hg).block q hq2 (by simp;omega)) (Nat.le_refl _) (Qab hgw hg).size⟩,n1,hn1⟩ hkd1 (HEn.out W hg) HLn.out
   have q0:wr.grownBy wr.drew (some p):=Qae _ ((Below.refl _ _).drew)
   have hc0:Cur wr.drew p cao clen ccap:=hcur.keep (w':=wr.drew) (fun _ _=>rfl)
   have hnb:b≠w.heap.size+1:=by omega
   have hnw:w.heap.size≠w.heap.size+1:=by omega
   subst hlen2
   generalize t.A[0]=u0 at *
   generalize t.A[1]=u1 at *
   clear hcnt hmlt hparts hnk hsr hn0 hn1
   have SF:Hid (∀ (W:World),wr.grownBy W (some p)->∀ (a0 a1 a2 a3 a4 a5 a6 a7 a8:Value) (O:Obj),((((((((((W.setCell ⟨w.heap.size+1,0,none⟩ a0).setCell ⟨w.heap.size+1,1,none⟩ a1).setCell ⟨w.heap.size+1,2,none⟩ a2).setCell ⟨w.heap.size+1,3,none⟩ a3).setCell ⟨w.heap.size+1,4,none⟩ a4).setCell ⟨w.heap.size+1,5,none⟩ a5).setCell ⟨w.heap.size+1,6,none⟩ a6).setCell ⟨w.heap.size+1,7,none⟩ a7).setCell ⟨w.heap.size+1,8,none⟩ a8).alloc O).cell? ⟨w.heap.size,2,none⟩=some (.slice (some ⟨b,o,none⟩) 2 cap)∧((((((((((W.setCell ⟨w.heap.size+1,0,none⟩ a0).setCell ⟨w.heap.size+1,1,none⟩ a1).setCell ⟨w.heap.size+1,2,none⟩ a2).setCell ⟨w.heap.size+1,3,none⟩ a3).setCell ⟨w.heap.size+1,4,none⟩ a4).setCell ⟨w.heap.size+1,5,none⟩ a5).setCell ⟨w.heap.size+1,6,none⟩ a6).setCell ⟨w.heap.size+1,7,none⟩ a7).setCell ⟨w.heap.size+1,8,none⟩ a8).alloc O).cell? ⟨b,o,none⟩=some (.int .i64 u0.K)∧((((((((((W.setCell ⟨w.heap.size+1,0,none⟩ a0).setCell ⟨w.heap.size+1,1,none⟩ a1).setCell ⟨w.heap.size+1,2,none⟩ a2).setCell ⟨w.heap.size+1,3,none⟩ a3).setCell ⟨w.heap.size+1,4,none⟩ a4).setCell ⟨w.heap.size+1,5,none⟩ a5).setCell ⟨w.heap.size+1,6,none⟩ a6).setCell ⟨w.heap.size+1,7,none⟩ a7).setCell ⟨w.heap.size+1,8,none⟩ a8).alloc O).cell? ⟨b,o+1,none⟩=some (.int .i64 u0.N)∧((((((((((W.setCell ⟨w.heap.size+1,0,none⟩ a0).setCell ⟨w.heap.size+1,1,none⟩ a1).setCell ⟨w.heap.size+1,2,none⟩ a2).setCell ⟨w.heap.size+1,3,none⟩ a3).setCell ⟨w.heap.size+1,4,none⟩ a4).setCell ⟨w.heap.size+1,5,none⟩ a5).setCell ⟨w.heap.size+1,6,none⟩ a6).setCell ⟨w.heap.size+1,7,none⟩ a7).setCell ⟨w.heap.size+1,8,none⟩ a8).alloc O).cell? ⟨b,o+2,none⟩=some (.slice f1 m1 g1)∧((((((((((W.setCell ⟨w.heap.size+1,0,none⟩ a0).setCell ⟨w.heap.size+1,1,none⟩ a1).setCell ⟨w.heap.size+1,2,none⟩ a2).setCell ⟨w.heap.size+1,3,none⟩ a3).setCell ⟨w.heap.size+1,4,none⟩ a4).setCell ⟨w.heap.size+1,5,none⟩ a5).setCell ⟨w.heap.size+1,6,none⟩ a6).setCell ⟨w.heap.size+1,7,none⟩ a7).setCell ⟨w.heap.size+1,8,none⟩ a8).alloc O).cell? ⟨b,o+3,none⟩=some (.int .i64 u1.K)∧((((((((((W.setCell ⟨w.heap.size+1,0,none⟩ a0).setCell ⟨w.heap.size+1,1,none⟩ a1).setCell ⟨w.heap.size+1,2,none⟩ a2).setCell ⟨w.heap.size+1,3,none⟩ a3).setCell ⟨w.heap.size+1,4,none⟩ a4).setCell ⟨w.heap.size+1,5,none⟩ a5).setCell ⟨w.heap.size+1,6,none⟩ a6).setCell ⟨w.heap.size+1,7,none⟩ a7).setCell ⟨w.heap.size+1,8,none⟩ a8).alloc O).cell? ⟨b,o+3+1,none⟩=some (.int .i64 u1.N)∧((((((((((W.setCell ⟨w.heap.size+1,0,none⟩ a0).setCell ⟨w.heap.size+1,1,none⟩ a1).setCell ⟨w.heap.size+1,2,none⟩ a2).setCell ⟨w.heap.size+1,3,none⟩ a3).setCell ⟨w.heap.size+1,4,none⟩ a4).setCell ⟨w.heap.size+1,5,none⟩ a5).setCell ⟨w.heap.size+1,6,none⟩ a6).setCell ⟨w.heap.size+1,7,none⟩ a7).setCell ⟨w.heap.size+1,8,none⟩ a8).alloc O).cell? ⟨b,o+3+2,none⟩=some (.slice f2 m2 g2)):=by
    intro W hg a0 a1 a2 a3 a4 a5 a6 a7 a8 O
    obtain⟨v0,v1,v2,v3,v4,v5,v6⟩:=HS.out W hg
    have hz:=(Qab hgw hg).size
    have hzz:=hg.size
    have kb:b<W.heap.size:=by omega
    have kw:w.heap.size<W.heap.size:=by omega
    exact⟨(Qam W (w.heap.size+1) a0 a1 a2 a3 a4 a5 a6 a7 a8 O w.heap.size 2 hnw kw).trans v0,(Qam W (w.heap.size+1) a0 a1 a2 a3 a4 a5 a6 a7 a8 O b o hnb kb).trans v1,(Qam W (w.heap.size+1) a0 a1 a2 a3 a4 a5 a6 a7 a8 O b (o+1) hnb kb).trans v2,(Qam W (w.heap.size+1) a0 a1 a2 a3 a4 a5 a6 a7 a8 O b (o+2) hnb kb).trans v3,(Qam W (w.heap.size+1) a0 a1 a2 a3 a4 a5 a6 a7 a8 O b (o+3) hnb kb).trans v4,(Qam W (w.heap.size+1) a0 a1 a2 a3 a4 a5 a6 a7 a8 O b (o+3+1) hnb kb).trans v5,(Qam W (w.heap.size+1) a0 a1 a2 a3 a4 a5 a6 a7 a8 O b (o+3+2) hnb kb).trans v6⟩
   go_wp2_with fail
   rw [← HX2.out]
   go_region_held3 (fun w'=>w'.cell? ⟨w.heap.size,2,none⟩=some (.slice (some ⟨b,o,none⟩) 2 cap)∧w'.cell? ⟨b,o,none⟩=some (.int .i64 u0.K)∧w'.cell? ⟨b,o+1,none⟩=some (.int .i64 u0.N)∧w'.cell? ⟨b,o+2,none⟩=some (.slice f1 m1 g1)∧w'.cell? ⟨b,o+3,none⟩=some (.int .i64 u1.K)∧w'.cell? ⟨b,o+3+1,none⟩=some (.int .i64 u1.N)∧w'.cell? ⟨b,o+3+2,none⟩=some (.slice f2 m2 g2))
    (first|with_reducible exact HS.out _ (q2a _)|with_reducible exact HS.out _ q2|with_reducible exact HS.out _ q1|with_reducible exact HS.out _ q0|with_reducible exact SF.out _ q2 _ _ _ _ _ _ _ _ _ _)
    (first
      | (go_at_call 54;refine (HL1.out _ q1 hc1).mono ?_;rintro e w2 ⟨rv2,tm2,rfl,⟨b1,n1,e1,b2,n2,e2,b3,n3,e3,rfl,hF2⟩,hD2⟩;have q2:wr.grownBy w2 (some p):=Qab q1 hD2.grown;have q2a:∀ o,wr.grownBy (w2.alloc o) (some p):=fun o=>Qab q2 (Qae _ ((Below.refl _ _).alloc (Nat.le_refl _) _));have hrl:w.heap.size+1<w2.heap.size:=Nat.lt_of_lt_of_le hrp q2.size;obtain⟨v0,v1,v2,v3,v4,v5,v6⟩:=HS.out _ q2;have r2:=HR.out w2 q2;obtain⟨y0,y1,y2,y3,y4,y5,y6,y7,y8⟩:=Nine.box r2;have yf:=Qad r2;have hbl2:b<w2.heap.size:=Nat.lt_of_lt_of_le hb2 (Nat.le_trans hgw.size q2.size);have hwl2:w.heap.size<w2.heap.size:=Nat.lt_of_succ_lt hrl)
      | (go_at_call 54;refine (HL0.out _ q0 hc0).mono ?_;rintro e w1 ⟨rv1,tm1,rfl,⟨a1,l1,c1,a2,l2,c2,a3,l3,c3,rfl,hF1⟩,hD1⟩;have q1:wr.grownBy w1 (some p):=Qab q0 hD1.grown;have hc1:=hD1.cur))
   all_goals
    go_wp2_with fail
    have hzq1:=q1.size
    have hzq2:=hD2.grown.size
    have hG1:Fm wr.heap.size w2.heap.size w2 14 (16+dep) tm1 a1 l1 a2 l2 a3 l3:=Fm.keep (fun q h1 h2=>hD2.grown.block q h2 (by have h1':wr.heap.size≤q:=h1;simp;omega)) (Nat.le_refl _) hzq2 hF1
    have hG2:Fm wr.heap.size w2.heap.size w2 14 (16+dep) tm2 b1 n1 b2 n2 b3 n3:=Fm.keep (fun _ _ _=>rfl) hzq1 (Nat.le_refl _) hF2
    have fin:=Qbf (w:=w) (w3:=w2) (O:=.cells #[.int .i64 tm1.K,.int .i64 tm1.N,.string tm1.S,.string tm1.Z,.int .i64 tm1.T.K,.int .i64 tm1.T.N,.slice a1 l1 c1,.slice a2 l2 c2,.slice a3 l3 c3,.int .i64 tm2.K,.int .i64 tm2.N,.string tm2.S,.string tm2.Z,.int .i64 tm2.T.K,.int .i64 tm2.T.N,.slice b1 n1 e1,.slice b2 n2 e2,.slice b3 n3 e3] 29) (r:=w.heap.size+1) (L:=wr.heap.size) (D:=14) (d:=16+dep+1) (t:=⟨9,0,⟨#[]⟩,⟨#[]⟩,⟨0,0,[]⟩,[],[tm1,tm2]⟩) (a1:=none) (l1:=0) (c1:=0) (a2:=none) (l2:=0) (c2:=0) (a3:=some ⟨w2.heap.size,0,none⟩) (l3:=2) (c3:=2)
     ⟨Nat.zero_le _,Nat.zero_le _,Hs.nil _ _ _ _ _,Hs.nil _ _ _ _ _,Qca hG1 hG2 q2.size⟩ (by omega) (by omega) hp (HDr.out w2 q2 hD2.cur)
    exact bodyPost_ret (v:=.agg #[.int .i64 9,.int .i64 0,.string ⟨#[]⟩,.string ⟨#[]⟩,.int .i64 0,.int .i64 0,.slice none 0 0,.slice none 0 0,.slice (some ⟨w2.heap.size,0,none⟩) 2 2]) (by simp [results,Try.results58,go_sem,y0,y1,y2,y3,y4,y5,y6,y7,y8,hrl]) rfl ⟨_,_,rfl,fin.1,fin.2⟩
 · rw [hK] at x0 HX2
   have hlen2:len=1:=by have h1:=hsr.len.1;have h2:=(Qbb hnk).1;rw [hK] at h2;simp [parts] at h2;omega
   have hA0:0<t.A.length:=by have h1:=hsr.len.1;omega
   obtain⟨b,o,rfl,hb1,hb2,f1,m1,g1,z0,z1,z2,hp0⟩:=hs.get 0 hA0
   rw [Nat.zero_mul,Nat.add_zero] at z0 z1 z2
   obtain⟨n0,hn0⟩:=hparts 0 hA0
   have HS:Hid (∀ w':World,wr.grownBy w' (some p)->w'.cell? ⟨w.heap.size,0,none⟩=some (.int .i64 6)∧w'.cell? ⟨w.heap.size,1,none⟩=some (.int .i64 t.N)∧w'.cell? ⟨w.heap.size,2,none⟩=some (.slice (some ⟨b,o,none⟩) len cap)∧w'.cell? ⟨b,o,none⟩=some (.int .i64 t.A[0].K)∧w'.cell? ⟨b,o+1,none⟩=some (.int .i64 t.A[0].N)∧w'.cell? ⟨b,o+2,none⟩=some (.slice f1 m1 g1)):=by
    intro w' hg
    have k1:w'.heap[b]?=w.heap[b]?:=(Qab hgw hg).block b hb2 (by simp;omega)
    have k2:w'.heap[w.heap.size]?=wr.heap[w.heap.size]?:=hg.block _ (by omega) (by simp;omega)
    exact⟨(World.cell?_of_block k2).trans x0,(World.cell?_of_block k2).trans x1,(World.cell?_of_block k2).trans x2,(World.cell?_of_block k1).trans z0,(World.cell?_of_block k1).trans z1,(World.cell?_of_block k1).trans z2⟩
   have HL0:Hid (∀ W:World,wr.grownBy W (some p)->Cur W p cao clen ccap->Calls Try.prog 54 #[.pointer (some ⟨p,0,none⟩),.agg #[.int .i64 t.A[0].K,.int .i64 t.A[0].N,.slice f1 m1 g1],.slice ae n ce,.int .i64 (dep:Int),.int .i64 vs] W fun e w'=>∃ rv tm,e=.returned rv∧TmV w' W.heap.size 14 (16+dep) rv tm∧Drw W w' p cao clen ccap):=fun W hg hcu =>
    HMk.out W k' _ t.A[0] _ es hg hcu ⟨⟨f1,m1,g1,rfl,hp0.keep (fun q hq1 hq2=>(Qab hgw hg).block q hq2 (by simp;omega)) (Nat.le_refl _) (Qab hgw hg).size⟩,n0,hn0⟩ hkd1 (HEn.out W hg) HLn.out
   have HL1:Hid (∀ W:World,wr.grownBy W (some p)->Cur W p cao clen ccap->Calls Try.prog 54 #[.pointer (some ⟨p,0,none⟩),.agg #[.int .i64 6,.int .i64 t.N,.slice (some ⟨b,o,none⟩) len cap],.slice ae n ce,.int .i64 (dep:Int),.int .i64 vs] W fun e w'=>∃ rv tm,e=.returned rv∧TmV w' W.heap.size 14 (16+dep) rv tm∧Drw W w' p cao clen ccap):=fun W hg hcu =>
    HMk.out W (k'+1) _ t _ es hg hcu (by have:=HTW.out W hg;rw [hK] at this;exact this) hkd (HEn.out W hg) HLn.out
   have q0:wr.grownBy wr.drew (some p):=Qae _ ((Below.refl _ _).drew)
   have hc0:Cur wr.drew p cao clen ccap:=hcur.keep (w':=wr.drew) (fun _ _=>rfl)
   have hnb:b≠w.heap.size+1:=by omega
   have hnw:w.heap.size≠w.heap.size+1:=by omega
   subst hlen2
   generalize t.A[0]=u0 at *
   clear hcnt hmlt hparts hnk hsr hn0
   have SF:Hid (∀ (W:World),wr.grownBy W (some p)->∀ (a0 a1 a2 a3 a4 a5 a6 a7 a8:Value) (O:Obj),((((((((((W.setCell ⟨w.heap.size+1,0,none⟩ a0).setCell ⟨w.heap.size+1,1,none⟩ a1).setCell ⟨w.heap.size+1,2,none⟩ a2).setCell ⟨w.heap.size+1,3,none⟩ a3).setCell ⟨w.heap.size+1,4,none⟩ a4).setCell ⟨w.heap.size+1,5,none⟩ a5).setCell ⟨w.heap.size+1,6,none⟩ a6).setCell ⟨w.heap.size+1,7,none⟩ a7).setCell ⟨w.heap.size+1,8,none⟩ a8).alloc O).cell? ⟨w.heap.size,0,none⟩=some (.int .i64 6)∧((((((((((W.setCell ⟨w.heap.size+1,0,none⟩ a0).setCell ⟨w.heap.size+1,1,none⟩ a1).setCell ⟨w.heap.size+1,2,none⟩ a2).setCell ⟨w.heap.size+1,3,none⟩ a3).setCell ⟨w.heap.size+1,4,none⟩ a4).setCell ⟨w.heap.size+1,5,none⟩ a5).setCell ⟨w.heap.size+1,6,none⟩ a6).setCell ⟨w.heap.size+1,7,none⟩ a7).setCell ⟨w.heap.size+1,8,none⟩ a8).alloc O).cell? ⟨w.heap.size,1,none⟩=some (.int .i64 t.N)∧((((((((((W.setCell ⟨w.heap.size+1,0,none⟩ a0).setCell ⟨w.heap.size+1,1,none⟩ a1).setCell ⟨w.heap.size+1,2,none⟩ a2).setCell ⟨w.heap.size+1,3,none⟩ a3).setCell ⟨w.heap.size+1,4,none⟩ a4).setCell ⟨w.heap.size+1,5,none⟩ a5).setCell ⟨w.heap.size+1,6,none⟩ a6).setCell ⟨w.heap.size+1,7,none⟩ a7).setCell ⟨w.heap.size+1,8,none⟩ a8).alloc O).cell? ⟨w.heap.size,2,none⟩=some (.slice (some ⟨b,o,none⟩) 1 cap)∧((((((((((W.setCell ⟨w.heap.size+1,0,none⟩ a0).setCell ⟨w.heap.size+1,1,none⟩ a1).setCell ⟨w.heap.size+1,2,none⟩ a2).setCell ⟨w.heap.size+1,3,none⟩ a3).setCell ⟨w.heap.size+1,4,none⟩ a4).setCell ⟨w.heap.size+1,5,none⟩ a5).setCell ⟨w.heap.size+1,6,none⟩ a6).setCell ⟨w.heap.size+1,7,none⟩ a7).setCell ⟨w.heap.size+1,8,none⟩ a8).alloc O).cell? ⟨b,o,none⟩=some (.int .i64 u0.K)∧((((((((((W.setCell ⟨w.heap.size+1,0,none⟩ a0).setCell ⟨w.heap.size+1,1,none⟩ a1).setCell ⟨w.heap.size+1,2,none⟩ a2).setCell ⟨w.heap.size+1,3,none⟩ a3).setCell ⟨w.heap.size+1,4,none⟩ a4).setCell ⟨w.heap.size+1,5,none⟩ a5).setCell ⟨w.heap.size+1,6,none⟩ a6).setCell ⟨w.heap.size+1,7,none⟩ a7).setCell ⟨w.heap.size+1,8,none⟩ a8).alloc O).cell? ⟨b,o+1,none⟩=some (.int .i64 u0.N)∧((((((((((W.setCell ⟨w.heap.size+1,0,none⟩ a0).setCell ⟨w.heap.size+1,1,none⟩ a1).setCell ⟨w.heap.size+1,2,none⟩ a2).setCell ⟨w.heap.size+1,3,none⟩ a3).setCell ⟨w.heap.size+1,4,none⟩ a4).setCell ⟨w.heap.size+1,5,none⟩ a5).setCell ⟨w.heap.size+1,6,none⟩ a6).setCell ⟨w.heap.size+1,7,none⟩ a7).setCell ⟨w.heap.size+1,8,none⟩ a8).alloc O).cell? ⟨b,o+2,none⟩=some (.slice f1 m1 g1)):=by
    intro W hg a0 a1 a2 a3 a4 a5 a6 a7 a8 O
    obtain⟨v0,v1,v2,v3,v4,v5⟩:=HS.out W hg
    have hz:=(Qab hgw hg).size
    have hzz:=hg.size
    have kb:b<W.heap.size:=by omega
    have kw:w.heap.size<W.heap.size:=by omega
    exact⟨(Qam W (w.heap.size+1) a0 a1 a2 a3 a4 a5 a6 a7 a8 O w.heap.size 0 hnw kw).trans v0,(Qam W (w.heap.size+1) a0 a1 a2 a3 a4 a5 a6 a7 a8 O w.heap.size 1 hnw kw).trans v1,(Qam W (w.heap.size+1) a0 a1 a2 a3 a4 a5 a6 a7 a8 O w.heap.size 2 hnw kw).trans v2,(Qam W (w.heap.size+1) a0 a1 a2 a3 a4 a5 a6 a7 a8 O b o hnb kb).trans v3,(Qam W (w.heap.size+1) a0 a1 a2 a3 a4 a5 a6 a7 a8 O b (o+1) hnb kb).trans v4,(Qam W (w.heap.size+1) a0 a1 a2 a3 a4 a5 a6 a7 a8 O b (o+2) hnb kb).trans v5⟩
   go_wp2_with fail
   rw [← HX2.out]
   go_region_held3 (fun w'=>w'.cell? ⟨w.heap.size,0,none⟩=some (.int .i64 6)∧w'.cell? ⟨w.heap.size,1,none⟩=some (.int .i64 t.N)∧w'.cell? ⟨w.heap.size,2,none⟩=some (.slice (some ⟨b,o,none⟩) 1 cap)∧w'.cell? ⟨b,o,none⟩=some (.int .i64 u0.K)∧w'.cell? ⟨b,o+1,none⟩=some (.int .i64 u0.N)∧w'.cell? ⟨b,o+2,none⟩=some (.slice f1 m1 g1))
    (first|with_reducible exact HS.out _ (q2a _)|with_reducible exact HS.out _ q2|with_reducible exact HS.out _ q1|with_reducible exact HS.out _ q0|with_reducible exact SF.out _ q2 _ _ _ _ _ _ _ _ _ _)
    (first
      | (go_at_call 54;refine (HL1.out _ q1 hc1).mono ?_;rintro e w2 ⟨rv2,tm2,rfl,⟨b1,n1,e1,b2,n2,e2,b3,n3,e3,rfl,hF2⟩,hD2⟩;have q2:wr.grownBy w2 (some p):=Qab q1 hD2.grown;have q2a:∀ o,wr.grownBy (w2.alloc o) (some p):=fun o=>Qab q2 (Qae _ ((Below.refl _ _).alloc (Nat.le_refl _) _));have hrl:w.heap.size+1<w2.heap.size:=Nat.lt_of_lt_of_le hrp q2.size;obtain⟨v0,v1,v2,v3,v4,v5⟩:=HS.out _ q2;have r2:=HR.out w2 q2;obtain⟨y0,y1,y2,y3,y4,y5,y6,y7,y8⟩:=Nine.box r2;have yf:=Qad r2;have hbl2:b<w2.heap.size:=Nat.lt_of_lt_of_le hb2 (Nat.le_trans hgw.size q2.size);have hwl2:w.heap.size<w2.heap.size:=Nat.lt_of_succ_lt hrl)
      | (go_at_call 54;refine (HL0.out _ q0 hc0).mono ?_;rintro e w1 ⟨rv1,tm1,rfl,⟨a1,l1,c1,a2,l2,c2,a3,l3,c3,rfl,hF1⟩,hD1⟩;have q1:wr.grownBy w1 (some p):=Qab q0 hD1.grown;have hc1:=hD1.cur))
   all_goals
    go_wp2_with fail
    have hzq1:=q1.size
    have hzq2:=hD2.grown.size
    have hG1:Fm wr.heap.size w2.heap.size w2 14 (16+dep) tm1 a1 l1 a2 l2 a3 l3:=Fm.keep (fun q h1 h2=>hD2.grown.block q h2 (by have h1':wr.heap.size≤q:=h1;simp;omega)) (Nat.le_refl _) hzq2 hF1
    have hG2:Fm wr.heap.size w2.heap.size w2 14 (16+dep) tm2 b1 n1 b2 n2 b3 n3:=Fm.keep (fun _ _ _=>rfl) hzq1 (Nat.le_refl _) hF2
    have fin:=Qbf (w:=w) (w3:=w2) (O:=.cells #[.int .i64 tm1.K,.int .i64 tm1.N,.string tm1.S,.string tm1.Z,.int .i64 tm1.T.K,.int .i64 tm1.T.N,.slice a1 l1 c1,.slice a2 l2 c2,.slice a3 l3 c3,.int .i64 tm2.K,.int .i64 tm2.N,.string tm2.S,.string tm2.Z,.int .i64 tm2.T.K,.int .i64 tm2.T.N,.slice b1 n1 e1,.slice b2 n2 e2,.slice b3 n3 e3] 29) (r:=w.heap.size+1) (L:=wr.heap.size) (D:=14) (d:=16+dep+1) (t:=⟨13,0,⟨#[]⟩,⟨#[]⟩,⟨0,0,[]⟩,[],[tm1,tm2]⟩) (a1:=none) (l1:=0) (c1:=0) (a2:=none) (l2:=0) (c2:=0) (a3:=some ⟨w2.heap.size,0,none⟩) (l3:=2) (c3:=2)
     ⟨Nat.zero_le _,Nat.zero_le _,Hs.nil _ _ _ _ _,Hs.nil _ _ _ _ _,Qca hG1 hG2 q2.size⟩ (by omega) (by omega) hp (HDr.out w2 q2 hD2.cur)
    exact bodyPost_ret (v:=.agg #[.int .i64 13,.int .i64 0,.string ⟨#[]⟩,.string ⟨#[]⟩,.int .i64 0,.int .i64 0,.slice none 0 0,.slice none 0 0,.slice (some ⟨w2.heap.size,0,none⟩) 2 2]) (by simp [results,Try.results58,go_sem,y0,y1,y2,y3,y4,y5,y6,y7,y8,hrl]) rfl ⟨_,_,rfl,fin.1,fin.2⟩
end Go.Proofs.Ytleghjgpnefliaa
