/-
  What the model's 'l3Part' comes to, given 'l3Type' one level below: case by case.
-/
import Derived.Test.YtleghjgpnefliaaFlaZ24
namespace Go.Proofs.Ytleghjgpnefliaa
open Go.RowKit
set_option linter.unusedVariables false
set_option linter.unusedSimpArgs false
set_option maxRecDepth 100000 in
set_option maxHeartbeats 8000000 in
theorem part_4_0 (n:Nat) (IH:SaidTp n) (P:Nat→Prop) (p L B D d m:Nat) (t:Tm) (a1:Option Addr) (l1 c1:Nat) (a2:Option Addr) (l2 c2:Nat) (a3:Option Addr) (l3 c3:Nat) (hK:t.K=4) (u:Tr) (fa:Option Addr) (fl fc:Nat) (v:Value) (es:List Ev) (vs:Int) (w:World) (hp:p < w.heap.size) (hPp:∀ k,P k→p+1≤k) (hPn:∀ k,w.heap.size≤k→P k) (hLB:∀ k,L≤k→k < B→P k) (hB:B≤w.heap.size) (hD:D≤14) (hf:Fm L B w D d t a1 l1 a2 l2 a3 l3) (hm:nodesM (n+1) t=some m) (hi:0 < t.A.length) (hu:HsQ P w 14 fa fl u.A) (hur:0 < 0→∃ m,nodesW 6 u=some m) (hE:EnQ P w 14 v es) (hR:∀ e ∈ es,∃ m,nodesW 6 e.t=some m) (hl:es.length+2 * (n+1)≤900) :
    Calls Try.prog 80 #[.agg #[.int .i64 t.K,.int .i64 t.N,.string t.S,.string t.Z,.int .i64 t.T.K,.int .i64 t.T.N,.slice a1 l1 c1,.slice a2 l2 c2,.slice a3 l3 c3],.int .i64 0,.agg #[.int .i64 u.K,.int .i64 u.N,.slice fa fl fc],v,.int .i64 vs] w fun e w'=>CkQ P e w'∧Below w.heap.size w w':=by
  obtain ⟨hn,hparts⟩:=nodesM_inv hm
  obtain ⟨mi,hmi⟩:=hparts 0 hi
  obtain ⟨_,_,hsh⟩:=nodeM_kinds hn
  have hl3:=hf.m.len.1
  have hl3m:=hf.m.len.2
  obtain ⟨b,o,rfl,hLb,hbB,b1,m1,d1,b2,m2,d2,b3,m3,d3,h9,hfA⟩:=hf.m.get 0 hi
  obtain ⟨g0,g1,g2,g3,g4,g5,g6,g7,g8⟩:=h9
  obtain ⟨x,hx⟩:∃ x,x=t.A[0]'hi:=⟨_,rfl⟩
  rw [← hx] at hmi hfA g0 g1 g2 g3 g4 g5
  have hnp:l3=1:=by
    rw [hK] at hsh
    have h2:shP 4=1:=by decide
    rw [h2] at hsh
    omega
  subst hnp
  simp only [Nat.zero_mul,Nat.add_zero,Nat.one_mul,Nat.reduceMul] at g0 g1 g2 g3 g4 g5 g6 g7 g8
  have hT:HsQ P w 14 a1 l1 t.T.A:=(HsQ.of hLB hB hf.t1).deeper hD
  obtain ⟨X,hX⟩:∃ X,X=((w.alloc (.cells #[.int .i64 t.K,.int .i64 t.N,.string t.S,.string t.Z,.int .i64 t.T.K,.int .i64 t.T.N,.slice a1 l1 c1,.slice a2 l2 c2,.slice (some ⟨b,o,none⟩) 1 c3] 29)).alloc (.cells #[.int .i64 u.K,.int .i64 u.N,.slice fa fl fc] 26)).alloc (.cells #[.int .i64 0,.int .i64 0,.slice none 0 0] 26):=⟨_,rfl⟩
  have hXs:X.heap.size=w.heap.size+1+1+1:=by rw [hX];simp
  have hXb:Below w.heap.size w X:=by rw [hX];exact (((Below.refl _ _).alloc (Nat.le_refl _) _).alloc (by simp) _).alloc (by simp;omega) _
  have hX0:X.heap[w.heap.size]?=some (.cells #[.int .i64 t.K,.int .i64 t.N,.string t.S,.string t.Z,.int .i64 t.T.K,.int .i64 t.T.N,.slice a1 l1 c1,.slice a2 l2 c2,.slice (some ⟨b,o,none⟩) 1 c3] 29 (0,0)):=by rw [hX,Below.heap_alloc _ _ _ (by simp;omega),Below.heap_alloc _ _ _ (by simp)];exact heap_new rfl
  have hX1:X.heap[w.heap.size+1]?=some (.cells #[.int .i64 u.K,.int .i64 u.N,.slice fa fl fc] 26 (0,0)):=by rw [hX,Below.heap_alloc _ _ _ (by simp)];exact heap_new (by simp)
  have hX2:X.heap[w.heap.size+1+1]?=some (.cells #[.int .i64 0,.int .i64 0,.slice none 0 0] 26 (0,0)):=by rw [hX];exact heap_new (by simp)
  rw [hK] at hX0 hX ⊢
  have kX:Kr X (w.heap.size+1+1) X:=⟨Nat.le_refl _,rfl,rfl,rfl,fun _ _ _=>rfl,_,_,_,hX2⟩
  have HX:Hid (X=_):=hX
  have HKW:Hid (∀ W,Kr X (w.heap.size+1+1) W→∀ k,k < w.heap.size→W.heap[k]?=w.heap[k]?):=fun W hW k hk=>(hW.blk k (by omega) (by omega)).trans (hXb.block k hk)
  have HSZ:Hid (∀ W,Kr X (w.heap.size+1+1) W→w.heap.size+1+1+1≤W.heap.size):=fun W hW=>by have:=hW.size;omega
  have HBW:Hid (∀ W,Kr X (w.heap.size+1+1) W→Below w.heap.size w W):=fun W hW=>⟨hW.os.trans hXb.os,hW.tape.trans hXb.tape,hW.output.trans hXb.output,by have:=HSZ.out W hW;omega,fun k hk=>HKW.out W hW k hk⟩
  have HPW:Hid (∀ W,Kr X (w.heap.size+1+1) W→∀ k,W.heap.size≤k→(fun k=>P k∧k≠w.heap.size+1+1) k):=fun W hW k hk=>by have:=HSZ.out W hW;exact ⟨hPn k (by omega),by omega⟩
  have HTT:Hid (∀ W,Kr X (w.heap.size+1+1) W→TyQ (fun k=>P k∧k≠w.heap.size+1+1) W 14 (.agg #[.int .i64 t.T.K,.int .i64 t.T.N,.slice a1 l1 c1]) t.T):=fun W hW=>⟨_,_,_,rfl,hT.keep (fun k _ hk=>HKW.out W hW k hk) (fun k h hk=>⟨h,by omega⟩) (by have:=HSZ.out W hW;omega)⟩
  have HU:Hid (∀ W,Kr X (w.heap.size+1+1) W→TyQ (fun k=>P k∧k≠w.heap.size+1+1) W 14 (.agg #[.int .i64 u.K,.int .i64 u.N,.slice fa fl fc]) u):=fun W hW=>⟨_,_,_,rfl,hu.keep (fun k _ hk=>HKW.out W hW k hk) (fun k h hk=>⟨h,by omega⟩) (by have:=HSZ.out W hW;omega)⟩
  have HE:Hid (∀ W,Kr X (w.heap.size+1+1) W→EnQ (fun k=>P k∧k≠w.heap.size+1+1) W 14 v es):=fun W hW=>hE.keep (fun k _ hk=>HKW.out W hW k hk) (fun k h hk=>⟨h,by omega⟩) (by have:=HSZ.out W hW;omega)
  have HW:Hid (∀ (W:World) (v':Value) (es':List Ev) (s:ByteArray) (nn:Int) (tv:Value) (u':Tr),Kr X (w.heap.size+1+1) W→EnQ (fun k=>P k∧k≠w.heap.size+1+1) W 14 v' es'→TyQ (fun k=>P k∧k≠w.heap.size+1+1) W 14 tv u'→es'.length≤es.length+1→Calls Try.prog 59 #[v',.string s,.int .i64 nn,tv] W fun e w'=>∃ v'',e=.returned v''∧EnQ (fun k=>P k∧k≠w.heap.size+1+1) w' 14 v'' (es' ++ [⟨s,nn,u'⟩])∧Below W.heap.size W w'):=fun W v' es' s nn tv u' hW h1 h2 h3=>l3With_q (fun k=>P k∧k≠w.heap.size+1+1) 14 v' es' s nn tv u' W (HPW.out W hW) h1 h2 (by omega)
  have HI:Hid (∀ (W:World) (v':Value) (es':List Ev) (vs':Int),Kr X (w.heap.size+1+1) W→EnQ (fun k=>P k∧k≠w.heap.size+1+1) W 14 v' es'→(∀ e ∈ es',∃ m,nodesW 6 e.t=some m)→es'.length≤es.length+2→Calls Try.prog 61 #[.agg #[.int .i64 x.K,.int .i64 x.N,.string x.S,.string x.Z,.int .i64 x.T.K,.int .i64 x.T.N,.slice b1 m1 d1,.slice b2 m2 d2,.slice b3 m3 d3],v',.int .i64 vs'] W fun e w'=>CkQ (fun k=>P k∧k≠w.heap.size+1+1) e w'∧Below W.heap.size W w'):=fun W v' es' vs' hW h1 h2 h3 =>
    IH (fun k=>P k∧k≠w.heap.size+1+1) p L B D (d - 1) mi x b1 m1 d1 b2 m2 d2 b3 m3 d3 v' es' vs' W (by have:=HSZ.out W hW;omega) (fun k hk=>hPp k hk.1) (HPW.out W hW) (fun k hk1 hk2=>⟨hLB k hk1 hk2,by omega⟩) (by have:=HSZ.out W hW;omega) hD (Fm.keep (fun k _ hk=>HKW.out W hW k (by omega)) (Nat.le_refl _) (Nat.le_refl _) hfA) hmi h1 h2 (by omega)
  have hbw:b < w.heap.size:=by omega
  have HC:Hid (∀ W,Kr X (w.heap.size+1+1) W→W.cell? ⟨w.heap.size,0,none⟩=some (.int .i64 4)∧W.cell? ⟨w.heap.size,1,none⟩=some (.int .i64 t.N)∧W.cell? ⟨w.heap.size,2,none⟩=some (.string t.S)∧W.cell? ⟨w.heap.size,3,none⟩=some (.string t.Z)∧W.cell? ⟨w.heap.size,4,none⟩=some (.int .i64 t.T.K)∧W.cell? ⟨w.heap.size,5,none⟩=some (.int .i64 t.T.N)∧W.cell? ⟨w.heap.size,6,none⟩=some (.slice a1 l1 c1)∧W.cell? ⟨w.heap.size,8,none⟩=some (.slice (some ⟨b,o,none⟩) 1 c3)∧W.cell? ⟨w.heap.size+1,0,none⟩=some (.int .i64 u.K)∧W.cell? ⟨w.heap.size+1,1,none⟩=some (.int .i64 u.N)∧W.cell? ⟨w.heap.size+1,2,none⟩=some (.slice fa fl fc)∧W.cell? ⟨b,o,none⟩=some (.int .i64 x.K)∧W.cell? ⟨b,o+1,none⟩=some (.int .i64 x.N)∧W.cell? ⟨b,o+2,none⟩=some (.string x.S)∧W.cell? ⟨b,o+3,none⟩=some (.string x.Z)∧W.cell? ⟨b,o+4,none⟩=some (.int .i64 x.T.K)∧W.cell? ⟨b,o+5,none⟩=some (.int .i64 x.T.N)∧W.cell? ⟨b,o+6,none⟩=some (.slice b1 m1 d1)∧W.cell? ⟨b,o+7,none⟩=some (.slice b2 m2 d2)∧W.cell? ⟨b,o+8,none⟩=some (.slice b3 m3 d3)):=fun W hW=>by
    have r:=(hW.blk w.heap.size (by omega) (by omega)).trans hX0
    have r1:=(hW.blk (w.heap.size+1) (by omega) (by omega)).trans hX1
    have e:=HKW.out W hW b hbw
    exact ⟨row_cell r 0,row_cell r 1,row_cell r 2,row_cell r 3,row_cell r 4,row_cell r 5,row_cell r 6,row_cell r 8,row_cell r1 0,row_cell r1 1,row_cell r1 2,(World.cell?_of_block e).trans g0,(World.cell?_of_block e).trans g1,(World.cell?_of_block e).trans g2,(World.cell?_of_block e).trans g3,(World.cell?_of_block e).trans g4,(World.cell?_of_block e).trans g5,(World.cell?_of_block e).trans g6,(World.cell?_of_block e).trans g7,(World.cell?_of_block e).trans g8⟩
  have HRU:Hid (0 < 0→∃ m,nodesW 6 u=some m):=hur
  have HR0:Hid (∀ e ∈ es,∃ m,nodesW 6 e.t=some m):=hR
  have HLE:Hid (es.length≤es.length+1):=Nat.le_succ _
  have HN:Hid (nodeM t=true):=hn
  have hrX:w.heap.size+1+1 < X.heap.size:=by omega
  have hbX:b < X.heap.size:=by omega
  have hbr:b≠w.heap.size+1+1:=by omega
  have HK0:Hid (t.K=4):=hK
  have HRT:Hid (∃ m,nodesW 6 t.T=some m):=by
    have hty:=hn
    unfold nodeM at hty
    simp only [Bool.and_eq_true] at hty
    have h1:=hty.2
    unfold typesB at h1
    rw [hK] at h1
    simp only [Bool.and_eq_true] at h1
    have h2:shT 4=true:=by decide
    rw [h2,if_pos rfl] at h1
    exact okT_some h1.1.1
  obtain ⟨x0,x1,x2,x3,x4,x5,x6,x8,y0,y1,y2,e0,e1,e2,e3,e4,e5,e6,e7,e8⟩:=HC.out X kX
  have k0:Kr X (w.heap.size+1+1) X.drew:=kX.drew
  clear hX hX0 hX1 g0 g1 g2 g3 g4 g5 g6 g7 g8 hm hparts hmi hn hsh hl3 hu hT hE hR hur hf hfA IH hx hl hXb hXs hLB hPn hPp hK
  go_enter Try.func80,Try.ntmps80
  go_upto_region 2 with fail
  rw [← HX.out]
  go_wp2_with fail
  refine Calls.mono (HW.out X v es t.S 0 (.agg #[.int .i64 t.T.K,.int .i64 t.T.N,.slice a1 l1 c1]) t.T kX (HE.out _ kX) (HTT.out _ kX) HLE.out) ?_
  rintro e v1 ⟨v',rfl,hE1,hb1⟩
  have k1:=Kr.below kX hb1
  obtain ⟨qx0,qx1,qx2,qx3,qx4,qx5,qx6,qx8,qy0,qy1,qy2,qe0,qe1,qe2,qe3,qe4,qe5,qe6,qe7,qe8⟩:=HC.out v1 k1
  go_wp2_with fail
  refine Calls.mono (HI.out _ v' (es ++ [⟨t.S,0,t.T⟩]) _ k1 hE1 (fun e he=>(List.mem_append.1 he).elim (HR0.out e) (fun h=>by rw [List.mem_singleton.1 h];exact HRT.out)) (by simp)) ?_
  rintro e v2 ⟨⟨ya,yl,yc,y,code,rfl,hy,hyr⟩,hb⟩
  have k2:=Kr.below k1 hb
  obtain ⟨zc0,zc1,zc2,zb⟩:=k2.box;obtain ⟨z0,z1,z2⟩:=box_cells zb;have zf:=row_free zb
  have HYR:Hid (code=0→∃ m,nodesW 6 y=some m):=hyr
  clear hyr
  go_wp2_with fail
  refine bodyPost_ret (v:=.tuple #[.agg #[.int .i64 y.K,.int .i64 y.N,.slice ya yl yc],.int .i64 code]) (by simp [results,Try.results80,go_sem,z0,z1,z2]) rfl ⟨⟨_,_,_,y,code,rfl,HsQ.mono (P:=(fun k=>P k∧k≠w.heap.size+1+1)) (fun _ h _=>And.left h) (by (repeat (first | with_reducible exact hy | with_reducible refine HsQ.setr ?_ | with_reducible refine HsQ.drewr ?_))),HYR.out⟩,HBW.out _ (by (repeat (first | with_reducible exact k2 | with_reducible exact k1 | with_reducible exact k0 | with_reducible refine Kr.set ?_ _ _ | with_reducible refine Kr.drew ?_ | with_reducible refine Kr.drewN ?_)))⟩
set_option maxRecDepth 100000 in
set_option maxHeartbeats 8000000 in
theorem part_6_0 (n:Nat) (IH:SaidTp n) (P:Nat→Prop) (p L B D d m:Nat) (t:Tm) (a1:Option Addr) (l1 c1:Nat) (a2:Option Addr) (l2 c2:Nat) (a3:Option Addr) (l3 c3:Nat) (hK:t.K=6) (u:Tr) (fa:Option Addr) (fl fc:Nat) (v:Value) (es:List Ev) (vs:Int) (w:World) (hp:p < w.heap.size) (hPp:∀ k,P k→p+1≤k) (hPn:∀ k,w.heap.size≤k→P k) (hLB:∀ k,L≤k→k < B→P k) (hB:B≤w.heap.size) (hD:D≤14) (hf:Fm L B w D d t a1 l1 a2 l2 a3 l3) (hm:nodesM (n+1) t=some m) (hi:0 < t.A.length) (hu:HsQ P w 14 fa fl u.A) (hur:0 < 0→∃ m,nodesW 6 u=some m) (hE:EnQ P w 14 v es) (hR:∀ e ∈ es,∃ m,nodesW 6 e.t=some m) (hl:es.length+2 * (n+1)≤900) :
    Calls Try.prog 80 #[.agg #[.int .i64 t.K,.int .i64 t.N,.string t.S,.string t.Z,.int .i64 t.T.K,.int .i64 t.T.N,.slice a1 l1 c1,.slice a2 l2 c2,.slice a3 l3 c3],.int .i64 0,.agg #[.int .i64 u.K,.int .i64 u.N,.slice fa fl fc],v,.int .i64 vs] w fun e w'=>CkQ P e w'∧Below w.heap.size w w':=by
  obtain ⟨hn,hparts⟩:=nodesM_inv hm
  obtain ⟨mi,hmi⟩:=hparts 0 hi
  obtain ⟨_,_,hsh⟩:=nodeM_kinds hn
  have hl3:=hf.m.len.1
  have hl3m:=hf.m.len.2
  obtain ⟨b,o,rfl,hLb,hbB,b1,m1,d1,b2,m2,d2,b3,m3,d3,h9,hfA⟩:=hf.m.get 0 hi
  obtain ⟨g0,g1,g2,g3,g4,g5,g6,g7,g8⟩:=h9
  obtain ⟨x,hx⟩:∃ x,x=t.A[0]'hi:=⟨_,rfl⟩
  rw [← hx] at hmi hfA g0 g1 g2 g3 g4 g5
  have hnp:l3=2:=by
    rw [hK] at hsh
    have h2:shP 6=2:=by decide
    rw [h2] at hsh
    omega
  subst hnp
  simp only [Nat.zero_mul,Nat.add_zero,Nat.one_mul,Nat.reduceMul] at g0 g1 g2 g3 g4 g5 g6 g7 g8
  have hT:HsQ P w 14 a1 l1 t.T.A:=(HsQ.of hLB hB hf.t1).deeper hD
  obtain ⟨X,hX⟩:∃ X,X=((w.alloc (.cells #[.int .i64 t.K,.int .i64 t.N,.string t.S,.string t.Z,.int .i64 t.T.K,.int .i64 t.T.N,.slice a1 l1 c1,.slice a2 l2 c2,.slice (some ⟨b,o,none⟩) 2 c3] 29)).alloc (.cells #[.int .i64 u.K,.int .i64 u.N,.slice fa fl fc] 26)).alloc (.cells #[.int .i64 0,.int .i64 0,.slice none 0 0] 26):=⟨_,rfl⟩
  have hXs:X.heap.size=w.heap.size+1+1+1:=by rw [hX];simp
  have hXb:Below w.heap.size w X:=by rw [hX];exact (((Below.refl _ _).alloc (Nat.le_refl _) _).alloc (by simp) _).alloc (by simp;omega) _
  have hX0:X.heap[w.heap.size]?=some (.cells #[.int .i64 t.K,.int .i64 t.N,.string t.S,.string t.Z,.int .i64 t.T.K,.int .i64 t.T.N,.slice a1 l1 c1,.slice a2 l2 c2,.slice (some ⟨b,o,none⟩) 2 c3] 29 (0,0)):=by rw [hX,Below.heap_alloc _ _ _ (by simp;omega),Below.heap_alloc _ _ _ (by simp)];exact heap_new rfl
  have hX1:X.heap[w.heap.size+1]?=some (.cells #[.int .i64 u.K,.int .i64 u.N,.slice fa fl fc] 26 (0,0)):=by rw [hX,Below.heap_alloc _ _ _ (by simp)];exact heap_new (by simp)
  have hX2:X.heap[w.heap.size+1+1]?=some (.cells #[.int .i64 0,.int .i64 0,.slice none 0 0] 26 (0,0)):=by rw [hX];exact heap_new (by simp)
  rw [hK] at hX0 hX ⊢
  have kX:Kr X (w.heap.size+1+1) X:=⟨Nat.le_refl _,rfl,rfl,rfl,fun _ _ _=>rfl,_,_,_,hX2⟩
  have HX:Hid (X=_):=hX
  have HKW:Hid (∀ W,Kr X (w.heap.size+1+1) W→∀ k,k < w.heap.size→W.heap[k]?=w.heap[k]?):=fun W hW k hk=>(hW.blk k (by omega) (by omega)).trans (hXb.block k hk)
  have HSZ:Hid (∀ W,Kr X (w.heap.size+1+1) W→w.heap.size+1+1+1≤W.heap.size):=fun W hW=>by have:=hW.size;omega
  have HBW:Hid (∀ W,Kr X (w.heap.size+1+1) W→Below w.heap.size w W):=fun W hW=>⟨hW.os.trans hXb.os,hW.tape.trans hXb.tape,hW.output.trans hXb.output,by have:=HSZ.out W hW;omega,fun k hk=>HKW.out W hW k hk⟩
  have HPW:Hid (∀ W,Kr X (w.heap.size+1+1) W→∀ k,W.heap.size≤k→(fun k=>P k∧k≠w.heap.size+1+1) k):=fun W hW k hk=>by have:=HSZ.out W hW;exact ⟨hPn k (by omega),by omega⟩
  have HTT:Hid (∀ W,Kr X (w.heap.size+1+1) W→TyQ (fun k=>P k∧k≠w.heap.size+1+1) W 14 (.agg #[.int .i64 t.T.K,.int .i64 t.T.N,.slice a1 l1 c1]) t.T):=fun W hW=>⟨_,_,_,rfl,hT.keep (fun k _ hk=>HKW.out W hW k hk) (fun k h hk=>⟨h,by omega⟩) (by have:=HSZ.out W hW;omega)⟩
  have HU:Hid (∀ W,Kr X (w.heap.size+1+1) W→TyQ (fun k=>P k∧k≠w.heap.size+1+1) W 14 (.agg #[.int .i64 u.K,.int .i64 u.N,.slice fa fl fc]) u):=fun W hW=>⟨_,_,_,rfl,hu.keep (fun k _ hk=>HKW.out W hW k hk) (fun k h hk=>⟨h,by omega⟩) (by have:=HSZ.out W hW;omega)⟩
  have HE:Hid (∀ W,Kr X (w.heap.size+1+1) W→EnQ (fun k=>P k∧k≠w.heap.size+1+1) W 14 v es):=fun W hW=>hE.keep (fun k _ hk=>HKW.out W hW k hk) (fun k h hk=>⟨h,by omega⟩) (by have:=HSZ.out W hW;omega)
  have HW:Hid (∀ (W:World) (v':Value) (es':List Ev) (s:ByteArray) (nn:Int) (tv:Value) (u':Tr),Kr X (w.heap.size+1+1) W→EnQ (fun k=>P k∧k≠w.heap.size+1+1) W 14 v' es'→TyQ (fun k=>P k∧k≠w.heap.size+1+1) W 14 tv u'→es'.length≤es.length+1→Calls Try.prog 59 #[v',.string s,.int .i64 nn,tv] W fun e w'=>∃ v'',e=.returned v''∧EnQ (fun k=>P k∧k≠w.heap.size+1+1) w' 14 v'' (es' ++ [⟨s,nn,u'⟩])∧Below W.heap.size W w'):=fun W v' es' s nn tv u' hW h1 h2 h3=>l3With_q (fun k=>P k∧k≠w.heap.size+1+1) 14 v' es' s nn tv u' W (HPW.out W hW) h1 h2 (by omega)
  have HI:Hid (∀ (W:World) (v':Value) (es':List Ev) (vs':Int),Kr X (w.heap.size+1+1) W→EnQ (fun k=>P k∧k≠w.heap.size+1+1) W 14 v' es'→(∀ e ∈ es',∃ m,nodesW 6 e.t=some m)→es'.length≤es.length+2→Calls Try.prog 61 #[.agg #[.int .i64 x.K,.int .i64 x.N,.string x.S,.string x.Z,.int .i64 x.T.K,.int .i64 x.T.N,.slice b1 m1 d1,.slice b2 m2 d2,.slice b3 m3 d3],v',.int .i64 vs'] W fun e w'=>CkQ (fun k=>P k∧k≠w.heap.size+1+1) e w'∧Below W.heap.size W w'):=fun W v' es' vs' hW h1 h2 h3 =>
    IH (fun k=>P k∧k≠w.heap.size+1+1) p L B D (d - 1) mi x b1 m1 d1 b2 m2 d2 b3 m3 d3 v' es' vs' W (by have:=HSZ.out W hW;omega) (fun k hk=>hPp k hk.1) (HPW.out W hW) (fun k hk1 hk2=>⟨hLB k hk1 hk2,by omega⟩) (by have:=HSZ.out W hW;omega) hD (Fm.keep (fun k _ hk=>HKW.out W hW k (by omega)) (Nat.le_refl _) (Nat.le_refl _) hfA) hmi h1 h2 (by omega)
  have hbw:b < w.heap.size:=by omega
  have HC:Hid (∀ W,Kr X (w.heap.size+1+1) W→W.cell? ⟨w.heap.size,0,none⟩=some (.int .i64 6)∧W.cell? ⟨w.heap.size,1,none⟩=some (.int .i64 t.N)∧W.cell? ⟨w.heap.size,2,none⟩=some (.string t.S)∧W.cell? ⟨w.heap.size,3,none⟩=some (.string t.Z)∧W.cell? ⟨w.heap.size,4,none⟩=some (.int .i64 t.T.K)∧W.cell? ⟨w.heap.size,5,none⟩=some (.int .i64 t.T.N)∧W.cell? ⟨w.heap.size,6,none⟩=some (.slice a1 l1 c1)∧W.cell? ⟨w.heap.size,8,none⟩=some (.slice (some ⟨b,o,none⟩) 2 c3)∧W.cell? ⟨w.heap.size+1,0,none⟩=some (.int .i64 u.K)∧W.cell? ⟨w.heap.size+1,1,none⟩=some (.int .i64 u.N)∧W.cell? ⟨w.heap.size+1,2,none⟩=some (.slice fa fl fc)∧W.cell? ⟨b,o,none⟩=some (.int .i64 x.K)∧W.cell? ⟨b,o+1,none⟩=some (.int .i64 x.N)∧W.cell? ⟨b,o+2,none⟩=some (.string x.S)∧W.cell? ⟨b,o+3,none⟩=some (.string x.Z)∧W.cell? ⟨b,o+4,none⟩=some (.int .i64 x.T.K)∧W.cell? ⟨b,o+5,none⟩=some (.int .i64 x.T.N)∧W.cell? ⟨b,o+6,none⟩=some (.slice b1 m1 d1)∧W.cell? ⟨b,o+7,none⟩=some (.slice b2 m2 d2)∧W.cell? ⟨b,o+8,none⟩=some (.slice b3 m3 d3)):=fun W hW=>by
    have r:=(hW.blk w.heap.size (by omega) (by omega)).trans hX0
    have r1:=(hW.blk (w.heap.size+1) (by omega) (by omega)).trans hX1
    have e:=HKW.out W hW b hbw
    exact ⟨row_cell r 0,row_cell r 1,row_cell r 2,row_cell r 3,row_cell r 4,row_cell r 5,row_cell r 6,row_cell r 8,row_cell r1 0,row_cell r1 1,row_cell r1 2,(World.cell?_of_block e).trans g0,(World.cell?_of_block e).trans g1,(World.cell?_of_block e).trans g2,(World.cell?_of_block e).trans g3,(World.cell?_of_block e).trans g4,(World.cell?_of_block e).trans g5,(World.cell?_of_block e).trans g6,(World.cell?_of_block e).trans g7,(World.cell?_of_block e).trans g8⟩
  have HRU:Hid (0 < 0→∃ m,nodesW 6 u=some m):=hur
  have HR0:Hid (∀ e ∈ es,∃ m,nodesW 6 e.t=some m):=hR
  have HLE:Hid (es.length≤es.length+1):=Nat.le_succ _
  have HN:Hid (nodeM t=true):=hn
  have hrX:w.heap.size+1+1 < X.heap.size:=by omega
  have hbX:b < X.heap.size:=by omega
  have hbr:b≠w.heap.size+1+1:=by omega
  have HK0:Hid (t.K=6):=hK
  obtain ⟨x0,x1,x2,x3,x4,x5,x6,x8,y0,y1,y2,e0,e1,e2,e3,e4,e5,e6,e7,e8⟩:=HC.out X kX
  have k0:Kr X (w.heap.size+1+1) X.drew:=kX.drew
  clear hX hX0 hX1 g0 g1 g2 g3 g4 g5 g6 g7 g8 hm hparts hmi hn hsh hl3 hu hT hE hR hur hf hfA IH hx hl hXb hXs hLB hPn hPp hK
  by_cases hN:0 < t.N
  all_goals
    go_enter Try.func80,Try.ntmps80
    go_upto_region 15 with fail
    rw [← HX.out]
    go_wp2_with fail
    refine Calls.mono (HI.out _ v es _ kX (HE.out _ kX) HR0.out (by simp)) ?_
    rintro e v2 ⟨⟨ya,yl,yc,y,code,rfl,hy,hyr⟩,hb⟩
    have k2:=Kr.below kX hb
    obtain ⟨zc0,zc1,zc2,zb⟩:=k2.box;obtain ⟨z0,z1,z2⟩:=box_cells zb;have zf:=row_free zb
    have HYR:Hid (code=0→∃ m,nodesW 6 y=some m):=hyr
    clear hyr
    go_wp2_with fail
    refine bodyPost_ret (v:=.tuple #[.agg #[.int .i64 y.K,.int .i64 y.N,.slice ya yl yc],.int .i64 code]) (by simp [results,Try.results80,go_sem,z0,z1,z2]) rfl ⟨⟨_,_,_,y,code,rfl,HsQ.mono (P:=(fun k=>P k∧k≠w.heap.size+1+1)) (fun _ h _=>And.left h) (by (repeat (first | with_reducible exact hy | with_reducible refine HsQ.setr ?_ | with_reducible refine HsQ.drewr ?_))),HYR.out⟩,HBW.out _ (by (repeat (first | with_reducible exact k2 | with_reducible exact k1 | with_reducible exact k0 | with_reducible refine Kr.set ?_ _ _ | with_reducible refine Kr.drew ?_ | with_reducible refine Kr.drewN ?_)))⟩
set_option maxRecDepth 100000 in
set_option maxHeartbeats 8000000 in
theorem part_6_1 (n:Nat) (IH:SaidTp n) (P:Nat→Prop) (p L B D d m:Nat) (t:Tm) (a1:Option Addr) (l1 c1:Nat) (a2:Option Addr) (l2 c2:Nat) (a3:Option Addr) (l3 c3:Nat) (hK:t.K=6) (u:Tr) (fa:Option Addr) (fl fc:Nat) (v:Value) (es:List Ev) (vs:Int) (w:World) (hp:p < w.heap.size) (hPp:∀ k,P k→p+1≤k) (hPn:∀ k,w.heap.size≤k→P k) (hLB:∀ k,L≤k→k < B→P k) (hB:B≤w.heap.size) (hD:D≤14) (hf:Fm L B w D d t a1 l1 a2 l2 a3 l3) (hm:nodesM (n+1) t=some m) (hi:1 < t.A.length) (hu:HsQ P w 14 fa fl u.A) (hur:0 < 1→∃ m,nodesW 6 u=some m) (hE:EnQ P w 14 v es) (hR:∀ e ∈ es,∃ m,nodesW 6 e.t=some m) (hl:es.length+2 * (n+1)≤900) :
    Calls Try.prog 80 #[.agg #[.int .i64 t.K,.int .i64 t.N,.string t.S,.string t.Z,.int .i64 t.T.K,.int .i64 t.T.N,.slice a1 l1 c1,.slice a2 l2 c2,.slice a3 l3 c3],.int .i64 1,.agg #[.int .i64 u.K,.int .i64 u.N,.slice fa fl fc],v,.int .i64 vs] w fun e w'=>CkQ P e w'∧Below w.heap.size w w':=by
  obtain ⟨hn,hparts⟩:=nodesM_inv hm
  obtain ⟨mi,hmi⟩:=hparts 1 hi
  obtain ⟨_,_,hsh⟩:=nodeM_kinds hn
  have hl3:=hf.m.len.1
  have hl3m:=hf.m.len.2
  obtain ⟨b,o,rfl,hLb,hbB,b1,m1,d1,b2,m2,d2,b3,m3,d3,h9,hfA⟩:=hf.m.get 1 hi
  obtain ⟨g0,g1,g2,g3,g4,g5,g6,g7,g8⟩:=h9
  obtain ⟨x,hx⟩:∃ x,x=t.A[1]'hi:=⟨_,rfl⟩
  rw [← hx] at hmi hfA g0 g1 g2 g3 g4 g5
  have hnp:l3=2:=by
    rw [hK] at hsh
    have h2:shP 6=2:=by decide
    rw [h2] at hsh
    omega
  subst hnp
  simp only [Nat.zero_mul,Nat.add_zero,Nat.one_mul,Nat.reduceMul] at g0 g1 g2 g3 g4 g5 g6 g7 g8
  have hT:HsQ P w 14 a1 l1 t.T.A:=(HsQ.of hLB hB hf.t1).deeper hD
  obtain ⟨X,hX⟩:∃ X,X=((w.alloc (.cells #[.int .i64 t.K,.int .i64 t.N,.string t.S,.string t.Z,.int .i64 t.T.K,.int .i64 t.T.N,.slice a1 l1 c1,.slice a2 l2 c2,.slice (some ⟨b,o,none⟩) 2 c3] 29)).alloc (.cells #[.int .i64 u.K,.int .i64 u.N,.slice fa fl fc] 26)).alloc (.cells #[.int .i64 0,.int .i64 0,.slice none 0 0] 26):=⟨_,rfl⟩
  have hXs:X.heap.size=w.heap.size+1+1+1:=by rw [hX];simp
  have hXb:Below w.heap.size w X:=by rw [hX];exact (((Below.refl _ _).alloc (Nat.le_refl _) _).alloc (by simp) _).alloc (by simp;omega) _
  have hX0:X.heap[w.heap.size]?=some (.cells #[.int .i64 t.K,.int .i64 t.N,.string t.S,.string t.Z,.int .i64 t.T.K,.int .i64 t.T.N,.slice a1 l1 c1,.slice a2 l2 c2,.slice (some ⟨b,o,none⟩) 2 c3] 29 (0,0)):=by rw [hX,Below.heap_alloc _ _ _ (by simp;omega),Below.heap_alloc _ _ _ (by simp)];exact heap_new rfl
  have hX1:X.heap[w.heap.size+1]?=some (.cells #[.int .i64 u.K,.int .i64 u.N,.slice fa fl fc] 26 (0,0)):=by rw [hX,Below.heap_alloc _ _ _ (by simp)];exact heap_new (by simp)
  have hX2:X.heap[w.heap.size+1+1]?=some (.cells #[.int .i64 0,.int .i64 0,.slice none 0 0] 26 (0,0)):=by rw [hX];exact heap_new (by simp)
  rw [hK] at hX0 hX ⊢
  have kX:Kr X (w.heap.size+1+1) X:=⟨Nat.le_refl _,rfl,rfl,rfl,fun _ _ _=>rfl,_,_,_,hX2⟩
  have HX:Hid (X=_):=hX
  have HKW:Hid (∀ W,Kr X (w.heap.size+1+1) W→∀ k,k < w.heap.size→W.heap[k]?=w.heap[k]?):=fun W hW k hk=>(hW.blk k (by omega) (by omega)).trans (hXb.block k hk)
  have HSZ:Hid (∀ W,Kr X (w.heap.size+1+1) W→w.heap.size+1+1+1≤W.heap.size):=fun W hW=>by have:=hW.size;omega
  have HBW:Hid (∀ W,Kr X (w.heap.size+1+1) W→Below w.heap.size w W):=fun W hW=>⟨hW.os.trans hXb.os,hW.tape.trans hXb.tape,hW.output.trans hXb.output,by have:=HSZ.out W hW;omega,fun k hk=>HKW.out W hW k hk⟩
  have HPW:Hid (∀ W,Kr X (w.heap.size+1+1) W→∀ k,W.heap.size≤k→(fun k=>P k∧k≠w.heap.size+1+1) k):=fun W hW k hk=>by have:=HSZ.out W hW;exact ⟨hPn k (by omega),by omega⟩
  have HTT:Hid (∀ W,Kr X (w.heap.size+1+1) W→TyQ (fun k=>P k∧k≠w.heap.size+1+1) W 14 (.agg #[.int .i64 t.T.K,.int .i64 t.T.N,.slice a1 l1 c1]) t.T):=fun W hW=>⟨_,_,_,rfl,hT.keep (fun k _ hk=>HKW.out W hW k hk) (fun k h hk=>⟨h,by omega⟩) (by have:=HSZ.out W hW;omega)⟩
  have HU:Hid (∀ W,Kr X (w.heap.size+1+1) W→TyQ (fun k=>P k∧k≠w.heap.size+1+1) W 14 (.agg #[.int .i64 u.K,.int .i64 u.N,.slice fa fl fc]) u):=fun W hW=>⟨_,_,_,rfl,hu.keep (fun k _ hk=>HKW.out W hW k hk) (fun k h hk=>⟨h,by omega⟩) (by have:=HSZ.out W hW;omega)⟩
  have HE:Hid (∀ W,Kr X (w.heap.size+1+1) W→EnQ (fun k=>P k∧k≠w.heap.size+1+1) W 14 v es):=fun W hW=>hE.keep (fun k _ hk=>HKW.out W hW k hk) (fun k h hk=>⟨h,by omega⟩) (by have:=HSZ.out W hW;omega)
  have HW:Hid (∀ (W:World) (v':Value) (es':List Ev) (s:ByteArray) (nn:Int) (tv:Value) (u':Tr),Kr X (w.heap.size+1+1) W→EnQ (fun k=>P k∧k≠w.heap.size+1+1) W 14 v' es'→TyQ (fun k=>P k∧k≠w.heap.size+1+1) W 14 tv u'→es'.length≤es.length+1→Calls Try.prog 59 #[v',.string s,.int .i64 nn,tv] W fun e w'=>∃ v'',e=.returned v''∧EnQ (fun k=>P k∧k≠w.heap.size+1+1) w' 14 v'' (es' ++ [⟨s,nn,u'⟩])∧Below W.heap.size W w'):=fun W v' es' s nn tv u' hW h1 h2 h3=>l3With_q (fun k=>P k∧k≠w.heap.size+1+1) 14 v' es' s nn tv u' W (HPW.out W hW) h1 h2 (by omega)
  have HI:Hid (∀ (W:World) (v':Value) (es':List Ev) (vs':Int),Kr X (w.heap.size+1+1) W→EnQ (fun k=>P k∧k≠w.heap.size+1+1) W 14 v' es'→(∀ e ∈ es',∃ m,nodesW 6 e.t=some m)→es'.length≤es.length+2→Calls Try.prog 61 #[.agg #[.int .i64 x.K,.int .i64 x.N,.string x.S,.string x.Z,.int .i64 x.T.K,.int .i64 x.T.N,.slice b1 m1 d1,.slice b2 m2 d2,.slice b3 m3 d3],v',.int .i64 vs'] W fun e w'=>CkQ (fun k=>P k∧k≠w.heap.size+1+1) e w'∧Below W.heap.size W w'):=fun W v' es' vs' hW h1 h2 h3 =>
    IH (fun k=>P k∧k≠w.heap.size+1+1) p L B D (d - 1) mi x b1 m1 d1 b2 m2 d2 b3 m3 d3 v' es' vs' W (by have:=HSZ.out W hW;omega) (fun k hk=>hPp k hk.1) (HPW.out W hW) (fun k hk1 hk2=>⟨hLB k hk1 hk2,by omega⟩) (by have:=HSZ.out W hW;omega) hD (Fm.keep (fun k _ hk=>HKW.out W hW k (by omega)) (Nat.le_refl _) (Nat.le_refl _) hfA) hmi h1 h2 (by omega)
  have hbw:b < w.heap.size:=by omega
  have HC:Hid (∀ W,Kr X (w.heap.size+1+1) W→W.cell? ⟨w.heap.size,0,none⟩=some (.int .i64 6)∧W.cell? ⟨w.heap.size,1,none⟩=some (.int .i64 t.N)∧W.cell? ⟨w.heap.size,2,none⟩=some (.string t.S)∧W.cell? ⟨w.heap.size,3,none⟩=some (.string t.Z)∧W.cell? ⟨w.heap.size,4,none⟩=some (.int .i64 t.T.K)∧W.cell? ⟨w.heap.size,5,none⟩=some (.int .i64 t.T.N)∧W.cell? ⟨w.heap.size,6,none⟩=some (.slice a1 l1 c1)∧W.cell? ⟨w.heap.size,8,none⟩=some (.slice (some ⟨b,o,none⟩) 2 c3)∧W.cell? ⟨w.heap.size+1,0,none⟩=some (.int .i64 u.K)∧W.cell? ⟨w.heap.size+1,1,none⟩=some (.int .i64 u.N)∧W.cell? ⟨w.heap.size+1,2,none⟩=some (.slice fa fl fc)∧W.cell? ⟨b,o+9,none⟩=some (.int .i64 x.K)∧W.cell? ⟨b,o+9+1,none⟩=some (.int .i64 x.N)∧W.cell? ⟨b,o+9+2,none⟩=some (.string x.S)∧W.cell? ⟨b,o+9+3,none⟩=some (.string x.Z)∧W.cell? ⟨b,o+9+4,none⟩=some (.int .i64 x.T.K)∧W.cell? ⟨b,o+9+5,none⟩=some (.int .i64 x.T.N)∧W.cell? ⟨b,o+9+6,none⟩=some (.slice b1 m1 d1)∧W.cell? ⟨b,o+9+7,none⟩=some (.slice b2 m2 d2)∧W.cell? ⟨b,o+9+8,none⟩=some (.slice b3 m3 d3)):=fun W hW=>by
    have r:=(hW.blk w.heap.size (by omega) (by omega)).trans hX0
    have r1:=(hW.blk (w.heap.size+1) (by omega) (by omega)).trans hX1
    have e:=HKW.out W hW b hbw
    exact ⟨row_cell r 0,row_cell r 1,row_cell r 2,row_cell r 3,row_cell r 4,row_cell r 5,row_cell r 6,row_cell r 8,row_cell r1 0,row_cell r1 1,row_cell r1 2,(World.cell?_of_block e).trans g0,(World.cell?_of_block e).trans g1,(World.cell?_of_block e).trans g2,(World.cell?_of_block e).trans g3,(World.cell?_of_block e).trans g4,(World.cell?_of_block e).trans g5,(World.cell?_of_block e).trans g6,(World.cell?_of_block e).trans g7,(World.cell?_of_block e).trans g8⟩
  have HRU:Hid (0 < 1→∃ m,nodesW 6 u=some m):=hur
  have HR0:Hid (∀ e ∈ es,∃ m,nodesW 6 e.t=some m):=hR
  have HLE:Hid (es.length≤es.length+1):=Nat.le_succ _
  have HN:Hid (nodeM t=true):=hn
  have hrX:w.heap.size+1+1 < X.heap.size:=by omega
  have hbX:b < X.heap.size:=by omega
  have hbr:b≠w.heap.size+1+1:=by omega
  have HK0:Hid (t.K=6):=hK
  obtain ⟨x0,x1,x2,x3,x4,x5,x6,x8,y0,y1,y2,e0,e1,e2,e3,e4,e5,e6,e7,e8⟩:=HC.out X kX
  have k0:Kr X (w.heap.size+1+1) X.drew:=kX.drew
  clear hX hX0 hX1 g0 g1 g2 g3 g4 g5 g6 g7 g8 hm hparts hmi hn hsh hl3 hu hT hE hR hur hf hfA IH hx hl hXb hXs hLB hPn hPp hK
  go_enter Try.func80,Try.ntmps80
  go_upto_region 4 with fail
  rw [← HX.out]
  go_wp2_with fail
  refine Calls.mono (HW.out X v es t.S t.N (.agg #[.int .i64 u.K,.int .i64 u.N,.slice fa fl fc]) u kX (HE.out _ kX) (HU.out _ kX) HLE.out) ?_
  rintro e v1 ⟨v',rfl,hE1,hb1⟩
  have k1:=Kr.below kX hb1
  obtain ⟨qx0,qx1,qx2,qx3,qx4,qx5,qx6,qx8,qy0,qy1,qy2,qe0,qe1,qe2,qe3,qe4,qe5,qe6,qe7,qe8⟩:=HC.out v1 k1
  go_wp2_with fail
  refine Calls.mono (HI.out _ v' (es ++ [⟨t.S,t.N,u⟩]) _ k1 hE1 (fun e he=>(List.mem_append.1 he).elim (HR0.out e) (fun h=>by rw [List.mem_singleton.1 h];exact (HRU.out (by omega)))) (by simp)) ?_
  rintro e v2 ⟨⟨ya,yl,yc,y,code,rfl,hy,hyr⟩,hb⟩
  have k2:=Kr.below k1 hb
  obtain ⟨zc0,zc1,zc2,zb⟩:=k2.box;obtain ⟨z0,z1,z2⟩:=box_cells zb;have zf:=row_free zb
  have HYR:Hid (code=0→∃ m,nodesW 6 y=some m):=hyr
  clear hyr
  go_wp2_with fail
  refine bodyPost_ret (v:=.tuple #[.agg #[.int .i64 y.K,.int .i64 y.N,.slice ya yl yc],.int .i64 code]) (by simp [results,Try.results80,go_sem,z0,z1,z2]) rfl ⟨⟨_,_,_,y,code,rfl,HsQ.mono (P:=(fun k=>P k∧k≠w.heap.size+1+1)) (fun _ h _=>And.left h) (by (repeat (first | with_reducible exact hy | with_reducible refine HsQ.setr ?_ | with_reducible refine HsQ.drewr ?_))),HYR.out⟩,HBW.out _ (by (repeat (first | with_reducible exact k2 | with_reducible exact k1 | with_reducible exact k0 | with_reducible refine Kr.set ?_ _ _ | with_reducible refine Kr.drew ?_ | with_reducible refine Kr.drewN ?_)))⟩
end Go.Proofs.Ytleghjgpnefliaa
