/-
  What the model's 'l3Whole' comes to, kind by kind.
-/
import Derived.Test.YtleghjgpnefliaaFnoZ21
namespace Go.Proofs.Ytleghjgpnefliaa
open Go.RowKit
set_option linter.unusedVariables false
set_option linter.unusedSimpArgs false
set_option maxRecDepth 100000 in
set_option maxHeartbeats 4000000 in
theorem whole_5 (P:Nat->Prop) (t:Tm) (a1:Option Addr) (l1 c1:Nat) (a2:Option Addr) (l2 c2:Nat) (a3:Option Addr) (l3 c3:Nat) (cap:Nat) (w:World) (hPn:∀ k,w.heap.size≤k->P k) (hK:t.K=5) (hT:HsQ P w 5 a1 l1 t.T.A) (g o:Nat) (hg:g<w.heap.size) (u0:Tr) (p0:Option Addr) (n0 q0:Nat) (e00:w.cell? ⟨g,o,none⟩=some (.int .i64 u0.K)) (e01:w.cell? ⟨g,o+1,none⟩=some (.int .i64 u0.N)) (e02:w.cell? ⟨g,o+2,none⟩=some (.slice p0 n0 q0)) (s0:HsQ P w 5 p0 n0 u0.A) (r0:∃ m,Qai 6 u0=some m) (u1:Tr) (p1:Option Addr) (n1 q1:Nat) (e10:w.cell? ⟨g,o+3,none⟩=some (.int .i64 u1.K)) (e11:w.cell? ⟨g,o+3+1,none⟩=some (.int .i64 u1.N)) (e12:w.cell? ⟨g,o+3+2,none⟩=some (.slice p1 n1 q1)) (s1:HsQ P w 5 p1 n1 u1.A) (r1:∃ m,Qai 6 u1=some m) :
 Calls Try.prog 81 #[.agg #[.int .i64 t.K,.int .i64 t.N,.string t.S,.string t.Z,.int .i64 t.T.K,.int .i64 t.T.N,.slice a1 l1 c1,.slice a2 l2 c2,.slice a3 l3 c3],.slice (some ⟨g,o,none⟩) 2 cap] w fun e w'=>WhQ P w e w':=by
 obtain⟨X,hX⟩:∃ X,X=(w.alloc (.cells #[.int .i64 t.K,.int .i64 t.N,.string t.S,.string t.Z,.int .i64 t.T.K,.int .i64 t.T.N,.slice a1 l1 c1,.slice a2 l2 c2,.slice a3 l3 c3] 29)).alloc (.cells #[.int .i64 0,.int .i64 0,.slice none 0 0] 26):=⟨_,rfl⟩
 have hXs:X.heap.size=w.heap.size+2:=by rw [hX];simp
 have hXb:Below w.heap.size w X:=by rw [hX];exact ((Below.refl _ _).alloc (Nat.le_refl _) _).alloc (by simp) _
 have hX0:X.heap[w.heap.size]?=some (.cells #[.int .i64 t.K,.int .i64 t.N,.string t.S,.string t.Z,.int .i64 t.T.K,.int .i64 t.T.N,.slice a1 l1 c1,.slice a2 l2 c2,.slice a3 l3 c3] 29 (0,0)):=by rw [hX,Below.heap_alloc _ _ _ (by simp)];exact Qac rfl
 have hX1:X.heap[w.heap.size+1]?=some (.cells #[.int .i64 0,.int .i64 0,.slice none 0 0] 26 (0,0)):=by rw [hX];exact Qac (by simp)
 rw [hK] at hX0 hX ⊢
 have kX:Kr X (w.heap.size+1) X:=⟨Nat.le_refl _,rfl,rfl,rfl,fun _ _ _=>rfl,_,_,_,hX1⟩
 have HX:Hid (X=_):=hX
 have HKW:Hid (∀ W,Kr X (w.heap.size+1) W->∀ k,k<w.heap.size->W.heap[k]?=w.heap[k]?):=fun W hW k hk=>(hW.blk k (by omega) (by omega)).trans (hXb.block k hk)
 have HSZ:Hid (∀ W,Kr X (w.heap.size+1) W->w.heap.size≤W.heap.size):=fun W hW=>by have:=hW.size;omega
 have HBW:Hid (∀ W,Kr X (w.heap.size+1) W->Below w.heap.size w W):=fun W hW=>⟨hW.os.trans hXb.os,hW.tape.trans hXb.tape,hW.output.trans hXb.output,HSZ.out W hW,fun k hk=>HKW.out W hW k hk⟩
 have HPW:Hid (∀ W,Kr X (w.heap.size+1) W->∀ k,W.heap.size≤k->(fun k=>P k∧k≠w.heap.size+1) k):=fun W hW k hk=>⟨hPn k (by have:=HSZ.out W hW;omega),by have:=hW.size;omega⟩
 have HT:Hid (∀ W,Kr X (w.heap.size+1) W->HsQ (fun k=>P k∧k≠w.heap.size+1) W 8 a1 l1 t.T.A):=fun W hW=>(hT.keep (fun k _ hk=>HKW.out W hW k hk) (fun k h hk=>⟨h,by omega⟩) (HSZ.out W hW)).deeper (by omega)
 have H0:Hid (∀ W,Kr X (w.heap.size+1) W->HsQ (fun k=>P k∧k≠w.heap.size+1) W 8 p0 n0 u0.A):=fun W hW=>(s0.keep (fun k _ hk=>HKW.out W hW k hk) (fun k h hk=>⟨h,by omega⟩) (HSZ.out W hW)).deeper (by omega)
 have H1:Hid (∀ W,Kr X (w.heap.size+1) W->HsQ (fun k=>P k∧k≠w.heap.size+1) W 8 p1 n1 u1.A):=fun W hW=>(s1.keep (fun k _ hk=>HKW.out W hW k hk) (fun k h hk=>⟨h,by omega⟩) (HSZ.out W hW)).deeper (by omega)
 have HC:Hid (∀ W,Kr X (w.heap.size+1) W->W.cell? ⟨w.heap.size,0,none⟩=some (.int .i64 5)∧W.cell? ⟨w.heap.size,1,none⟩=some (.int .i64 t.N)∧W.cell? ⟨w.heap.size,4,none⟩=some (.int .i64 t.T.K)∧W.cell? ⟨w.heap.size,5,none⟩=some (.int .i64 t.T.N)∧W.cell? ⟨w.heap.size,6,none⟩=some (.slice a1 l1 c1)∧W.cell? ⟨g,o,none⟩=some (.int .i64 u0.K)∧W.cell? ⟨g,o+1,none⟩=some (.int .i64 u0.N)∧W.cell? ⟨g,o+2,none⟩=some (.slice p0 n0 q0)∧W.cell? ⟨g,o+3,none⟩=some (.int .i64 u1.K)∧W.cell? ⟨g,o+3+1,none⟩=some (.int .i64 u1.N)∧W.cell? ⟨g,o+3+2,none⟩=some (.slice p1 n1 q1)):=fun W hW=>by
  have r:=(hW.blk w.heap.size (by omega) (by omega)).trans hX0
  exact⟨Qaa r 0,Qaa r 1,Qaa r 4,Qaa r 5,Qaa r 6,(World.cell?_of_block (HKW.out W hW g hg)).trans e00,(World.cell?_of_block (HKW.out W hW g hg)).trans e01,(World.cell?_of_block (HKW.out W hW g hg)).trans e02,(World.cell?_of_block (HKW.out W hW g hg)).trans e10,(World.cell?_of_block (HKW.out W hW g hg)).trans e11,(World.cell?_of_block (HKW.out W hW g hg)).trans e12⟩
 obtain⟨x0,x1,x4,x5,x6,f00,f01,f02,f10,f11,f12⟩:=HC.out X kX
 have hrX:w.heap.size+1<X.heap.size:=by omega
 have k0:Kr X (w.heap.size+1) X.drew:=kX.drew
 have hgX:g<X.heap.size:=by omega
 have hgr:g≠w.heap.size+1:=by omega
 have hgr2:w.heap.size+1≠g:=by omega
 clear hX hXs hX0 e00 e01 e02 e10 e11 e12 hK
 obtain⟨z0,z1,z2⟩:=Qaf hX1
 have zf:=Qad hX1
 cases hq:(u0.K != 4)
 · have hK4:u0.K=4:=by simpa using hq
   obtain⟨m0,hm0⟩:=r0
   obtain⟨hnk,hpp⟩:=Qay (l:=5) (k:=u0.K) (n:=u0.N) (ts:=u0.A) (m:=m0) (by rw [Qap];exact hm0)
   have hA2:u0.A.length=2:=by
    have h:=(Qbb hnk).1
    rw [hK4] at h
    have h2:parts 4=2:=by decide
    rw [h2] at h
    omega
   have hn2:n0=2:=by rw [s0.len.1];exact hA2
   obtain⟨c,oc,ec,_,hc,y0,yn0,yq0,g00,g01,g02,sy0⟩:=s0.get 0 (by omega)
   obtain⟨c',oc',ec',_,_,y1,yn1,yq1,g10,g11,g12,sy1⟩:=s0.get 1 (by omega)
   subst ec hn2
   cases ec'
   rw [Nat.zero_mul,Nat.add_zero] at g00 g01 g02
   rw [Nat.one_mul] at g10 g11 g12
   obtain⟨v0,hv0⟩:∃ v,v=u0.A[0]'(by omega):=⟨_,rfl⟩
   obtain⟨v1,hv1⟩:∃ v,v=u0.A[1]'(by omega):=⟨_,rfl⟩
   rw [← hv0] at g00 g01 sy0
   rw [← hv1] at g10 g11 sy1
   clear hv0 hv1
   have HY0:Hid (∀ W,Kr X (w.heap.size+1) W->HsQ (fun k=>P k∧k≠w.heap.size+1) W 8 y0 yn0 v0.A):=fun W hW=>(sy0.keep (fun k _ hk=>HKW.out W hW k hk) (fun k h hk=>⟨h,by omega⟩) (HSZ.out W hW)).deeper (by omega)
   have HY1:Hid (∀ W,Kr X (w.heap.size+1) W->HsQ (fun k=>P k∧k≠w.heap.size+1) W 8 y1 yn1 v1.A):=fun W hW=>(sy1.keep (fun k _ hk=>HKW.out W hW k hk) (fun k h hk=>⟨h,by omega⟩) (HSZ.out W hW)).deeper (by omega)
   have HCI:Hid (∀ W,Kr X (w.heap.size+1) W->W.cell? ⟨c,oc,none⟩=some (.int .i64 v0.K)∧W.cell? ⟨c,oc+1,none⟩=some (.int .i64 v0.N)∧W.cell? ⟨c,oc+2,none⟩=some (.slice y0 yn0 yq0)∧W.cell? ⟨c,oc+3,none⟩=some (.int .i64 v1.K)∧W.cell? ⟨c,oc+3+1,none⟩=some (.int .i64 v1.N)∧W.cell? ⟨c,oc+3+2,none⟩=some (.slice y1 yn1 yq1)):=fun W hW =>
    have e:=HKW.out W hW c hc
    ⟨(World.cell?_of_block e).trans g00,(World.cell?_of_block e).trans g01,(World.cell?_of_block e).trans g02,(World.cell?_of_block e).trans g10,(World.cell?_of_block e).trans g11,(World.cell?_of_block e).trans g12⟩
   obtain⟨sb,hsb⟩:=Qcj v0 u1
   have HS:Hid (∀ W:World,Kr X (w.heap.size+1) W->Calls Try.prog 62 #[.agg #[.int .i64 v0.K,.int .i64 v0.N,.slice y0 yn0 yq0],.agg #[.int .i64 u1.K,.int .i64 u1.N,.slice p1 n1 q1]] W fun e w'=>e=.returned (.bool sb)∧Below W.heap.size W w'):=fun W hW =>
    ss_any 8 0 W.heap.size 0 W.heap.size _ _ _ _ _ _ _ _ _ _ _ _ sb W (Nat.le_refl _) (Nat.le_refl _) (HsQ.hs (fun _ _=>Nat.zero_le _) (HY0.out W hW)) (HsQ.hs (fun _ _=>Nat.zero_le _) (H1.out W hW)) (by rw [Qap,Qap];exact hsb)
   clear hsb
   obtain⟨i00,i01,i02,i10,i11,i12⟩:=HCI.out X kX
   have hcX:c<X.heap.size:=by omega
   have hcr:c≠w.heap.size+1:=by omega
   rw [hK4] at f00 hq
   have HK4:Hid (u0.K=4):=hK4
   clear g00 g01 g02 g10 g11 g12 hA2 hnk hpp hm0 hK4
   cases sb
   all_goals
    go_enter Try.func81,Try.ntmps81
    go_wp2_with fail
    rw [← HX.out]
    refine Qaj (by kernel_rfl) (by kernel_rfl) ?_
    repeat (first
     | go_big_quiet_skip
     | (go_big_quiet_want;unfold Oper.quiet;apply Exists.intro;refine⟨fun w' hC=>?_,?_⟩;(have hkr:=kX.below hC;obtain⟨h0,h1,h4,h5,h6,h00,h01,h02,h10,h11,h12⟩:=HC.out w' hkr;rw [HK4.out] at h00;obtain⟨j00,j01,j02,j10,j11,j12⟩:=HCI.out w' hkr;unfold Oper.quietAt;go_simp;first|exact rfl|exact⟨rfl,rfl⟩|(go_at_call 62;exact (HS.out w' (kX.below hC)).mono fun e w'' ⟨h1,h2⟩=>⟨h1,hC.trans (h2.mono hC.size)⟩));go_big_quiet_on;simp only [Act.put,List.setIfInBounds_toArray,List.set_cons_zero,List.set_cons_succ]))
    refine wpQuiet_nil ?_
    intro v2 hb2
    have k2:=kX.below hb2
    clear z0 z1 z2 zf
    obtain⟨zc0,zc1,zc2,zb⟩:=k2.box;obtain⟨z0,z1,z2⟩:=Qaf zb;have zf:=Qad zb
    obtain⟨h0,h1,h4,h5,h6,h00,h01,h02,h10,h11,h12⟩:=HC.out v2 k2
    rw [HK4.out] at h00
    obtain⟨j00,j01,j02,j10,j11,j12⟩:=HCI.out v2 k2
    go_wp2_with fail
   · refine bodyPost_ret (v:=.tuple #[.agg #[.int .i64 0,.int .i64 0,.slice none 0 0],.bool false]) (by simp [results,Try.results81,go_sem,z0,z1,z2]) rfl ⟨⟨_,_,_,⟨0,0,[]⟩,_,rfl,HsQ.mono (P:=(fun k=>P k∧k≠w.heap.size+1)) (fun _ h _=>And.left h) (HsQ.nil (fun k=>P k∧k≠w.heap.size+1) _ _ _)⟩,HBW.out _ (by (repeat (first|with_reducible exact k2|with_reducible exact k0|with_reducible refine Kr.set ?_ _ _|with_reducible refine Kr.drew ?_|with_reducible refine Kr.drewN ?_)))⟩
   · refine bodyPost_ret (v:=.tuple #[.agg #[.int .i64 v1.K,.int .i64 v1.N,.slice y1 yn1 yq1],.bool true]) (by simp [results,Try.results81,go_sem,z0,z1,z2]) rfl ⟨⟨_,_,_,v1,_,rfl,HsQ.mono (P:=(fun k=>P k∧k≠w.heap.size+1)) (fun _ h _=>And.left h) (HY1.out _ (by (repeat (first|with_reducible exact k2|with_reducible exact k0|with_reducible refine Kr.set ?_ _ _|with_reducible refine Kr.drew ?_|with_reducible refine Kr.drewN ?_))))⟩,HBW.out _ (by (repeat (first|with_reducible exact k2|with_reducible exact k0|with_reducible refine Kr.set ?_ _ _|with_reducible refine Kr.drew ?_|with_reducible refine Kr.drewN ?_)))⟩
 · go_enter Try.func81,Try.ntmps81
   go_wp2_with fail
   rw [← HX.out]
   go_quiet (fail)
   go_wp2_with fail
   have k2:=kX
   refine bodyPost_ret (v:=.tuple #[.agg #[.int .i64 0,.int .i64 0,.slice none 0 0],.bool false]) (by simp [results,Try.results81,go_sem,z0,z1,z2]) rfl ⟨⟨_,_,_,⟨0,0,[]⟩,_,rfl,HsQ.mono (P:=(fun k=>P k∧k≠w.heap.size+1)) (fun _ h _=>And.left h) (HsQ.nil (fun k=>P k∧k≠w.heap.size+1) _ _ _)⟩,HBW.out _ (by (repeat (first|with_reducible exact k2|with_reducible exact k0|with_reducible refine Kr.set ?_ _ _|with_reducible refine Kr.drew ?_|with_reducible refine Kr.drewN ?_)))⟩
set_option maxRecDepth 100000 in
set_option maxHeartbeats 4000000 in
theorem whole_16 (P:Nat->Prop) (t:Tm) (a1:Option Addr) (l1 c1:Nat) (a2:Option Addr) (l2 c2:Nat) (a3:Option Addr) (l3 c3:Nat) (cap:Nat) (w:World) (hPn:∀ k,w.heap.size≤k->P k) (hK:t.K=16) (hT:HsQ P w 5 a1 l1 t.T.A) (g o:Nat) (hg:g<w.heap.size) (u0:Tr) (p0:Option Addr) (n0 q0:Nat) (e00:w.cell? ⟨g,o,none⟩=some (.int .i64 u0.K)) (e01:w.cell? ⟨g,o+1,none⟩=some (.int .i64 u0.N)) (e02:w.cell? ⟨g,o+2,none⟩=some (.slice p0 n0 q0)) (s0:HsQ P w 5 p0 n0 u0.A) (r0:∃ m,Qai 6 u0=some m) :
 Calls Try.prog 81 #[.agg #[.int .i64 t.K,.int .i64 t.N,.string t.S,.string t.Z,.int .i64 t.T.K,.int .i64 t.T.N,.slice a1 l1 c1,.slice a2 l2 c2,.slice a3 l3 c3],.slice (some ⟨g,o,none⟩) 1 cap] w fun e w'=>WhQ P w e w':=by
 obtain⟨X,hX⟩:∃ X,X=(w.alloc (.cells #[.int .i64 t.K,.int .i64 t.N,.string t.S,.string t.Z,.int .i64 t.T.K,.int .i64 t.T.N,.slice a1 l1 c1,.slice a2 l2 c2,.slice a3 l3 c3] 29)).alloc (.cells #[.int .i64 0,.int .i64 0,.slice none 0 0] 26):=⟨_,rfl⟩
 have hXs:X.heap.size=w.heap.size+2:=by rw [hX];simp
 have hXb:Below w.heap.size w X:=by rw [hX];exact ((Below.refl _ _).alloc (Nat.le_refl _) _).alloc (by simp) _
 have hX0:X.heap[w.heap.size]?=some (.cells #[.int .i64 t.K,.int .i64 t.N,.string t.S,.string t.Z,.int .i64 t.T.K,.int .i64 t.T.N,.slice a1 l1 c1,.slice a2 l2 c2,.slice a3 l3 c3] 29 (0,0)):=by rw [hX,Below.heap_alloc _ _ _ (by simp)];exact Qac rfl
 have hX1:X.heap[w.heap.size+1]?=some (.cells #[.int .i64 0,.int .i64 0,.slice none 0 0] 26 (0,0)):=by rw [hX];exact Qac (by simp)
 rw [hK] at hX0 hX ⊢
 have kX:Kr X (w.heap.size+1) X:=⟨Nat.le_refl _,rfl,rfl,rfl,fun _ _ _=>rfl,_,_,_,hX1⟩
 have HX:Hid (X=_):=hX
 have HKW:Hid (∀ W,Kr X (w.heap.size+1) W->∀ k,k<w.heap.size->W.heap[k]?=w.heap[k]?):=fun W hW k hk=>(hW.blk k (by omega) (by omega)).trans (hXb.block k hk)
 have HSZ:Hid (∀ W,Kr X (w.heap.size+1) W->w.heap.size≤W.heap.size):=fun W hW=>by have:=hW.size;omega
 have HBW:Hid (∀ W,Kr X (w.heap.size+1) W->Below w.heap.size w W):=fun W hW=>⟨hW.os.trans hXb.os,hW.tape.trans hXb.tape,hW.output.trans hXb.output,HSZ.out W hW,fun k hk=>HKW.out W hW k hk⟩
 have HPW:Hid (∀ W,Kr X (w.heap.size+1) W->∀ k,W.heap.size≤k->(fun k=>P k∧k≠w.heap.size+1) k):=fun W hW k hk=>⟨hPn k (by have:=HSZ.out W hW;omega),by have:=hW.size;omega⟩
 have HT:Hid (∀ W,Kr X (w.heap.size+1) W->HsQ (fun k=>P k∧k≠w.heap.size+1) W 8 a1 l1 t.T.A):=fun W hW=>(hT.keep (fun k _ hk=>HKW.out W hW k hk) (fun k h hk=>⟨h,by omega⟩) (HSZ.out W hW)).deeper (by omega)
 have H0:Hid (∀ W,Kr X (w.heap.size+1) W->HsQ (fun k=>P k∧k≠w.heap.size+1) W 8 p0 n0 u0.A):=fun W hW=>(s0.keep (fun k _ hk=>HKW.out W hW k hk) (fun k h hk=>⟨h,by omega⟩) (HSZ.out W hW)).deeper (by omega)
 have HC:Hid (∀ W,Kr X (w.heap.size+1) W->W.cell? ⟨w.heap.size,0,none⟩=some (.int .i64 16)∧W.cell? ⟨w.heap.size,1,none⟩=some (.int .i64 t.N)∧W.cell? ⟨w.heap.size,4,none⟩=some (.int .i64 t.T.K)∧W.cell? ⟨w.heap.size,5,none⟩=some (.int .i64 t.T.N)∧W.cell? ⟨w.heap.size,6,none⟩=some (.slice a1 l1 c1)∧W.cell? ⟨g,o,none⟩=some (.int .i64 u0.K)∧W.cell? ⟨g,o+1,none⟩=some (.int .i64 u0.N)∧W.cell? ⟨g,o+2,none⟩=some (.slice p0 n0 q0)):=fun W hW=>by
  have r:=(hW.blk w.heap.size (by omega) (by omega)).trans hX0
  exact⟨Qaa r 0,Qaa r 1,Qaa r 4,Qaa r 5,Qaa r 6,(World.cell?_of_block (HKW.out W hW g hg)).trans e00,(World.cell?_of_block (HKW.out W hW g hg)).trans e01,(World.cell?_of_block (HKW.out W hW g hg)).trans e02⟩
 obtain⟨x0,x1,x4,x5,x6,f00,f01,f02⟩:=HC.out X kX
 have hrX:w.heap.size+1<X.heap.size:=by omega
 have k0:Kr X (w.heap.size+1) X.drew:=kX.drew
 have hgX:g<X.heap.size:=by omega
 have hgr:g≠w.heap.size+1:=by omega
 have hgr2:w.heap.size+1≠g:=by omega
 clear hX hXs hXb hX0 e00 e01 e02 hK
 obtain⟨z0,z1,z2⟩:=Qaf hX1
 have zf:=Qad hX1
 cases hq:(u0.K==1)
 · go_enter Try.func81,Try.ntmps81
   go_wp2_with fail
   rw [← HX.out]
   go_region
   all_goals
    go_wp2_with fail
    have k2:=kX
    refine bodyPost_ret (v:=.tuple #[.agg #[.int .i64 t.T.K,.int .i64 t.T.N,.slice a1 l1 c1],.bool false]) (by simp [results,Try.results81,go_sem,z0,z1,z2]) rfl ⟨⟨_,_,_,t.T,_,rfl,HsQ.mono (P:=(fun k=>P k∧k≠w.heap.size+1)) (fun _ h _=>And.left h) (HT.out _ (by (repeat (first|with_reducible exact k2|with_reducible exact k0|with_reducible refine Kr.set ?_ _ _|with_reducible refine Kr.drew ?_|with_reducible refine Kr.drewN ?_))))⟩,HBW.out _ (by (repeat (first|with_reducible exact k2|with_reducible exact k0|with_reducible refine Kr.set ?_ _ _|with_reducible refine Kr.drew ?_|with_reducible refine Kr.drewN ?_)))⟩
 · go_enter Try.func81,Try.ntmps81
   go_wp2_with fail
   rw [← HX.out]
   go_region
   all_goals
    go_wp2_with fail
    have k2:=kX
    refine bodyPost_ret (v:=.tuple #[.agg #[.int .i64 t.T.K,.int .i64 t.T.N,.slice a1 l1 c1],.bool true]) (by simp [results,Try.results81,go_sem,z0,z1,z2]) rfl ⟨⟨_,_,_,t.T,_,rfl,HsQ.mono (P:=(fun k=>P k∧k≠w.heap.size+1)) (fun _ h _=>And.left h) (HT.out _ (by (repeat (first|with_reducible exact k2|with_reducible exact k0|with_reducible refine Kr.set ?_ _ _|with_reducible refine Kr.drew ?_|with_reducible refine Kr.drewN ?_))))⟩,HBW.out _ (by (repeat (first|with_reducible exact k2|with_reducible exact k0|with_reducible refine Kr.set ?_ _ _|with_reducible refine Kr.drew ?_|with_reducible refine Kr.drewN ?_)))⟩
set_option maxRecDepth 100000 in
set_option maxHeartbeats 4000000 in
theorem whole_8 (P:Nat->Prop) (t:Tm) (a1:Option Addr) (l1 c1:Nat) (a2:Option Addr) (l2 c2:Nat) (a3:Option Addr) (l3 c3:Nat) (cap:Nat) (w:World) (hPn:∀ k,w.heap.size≤k->P k) (hK:t.K=8) (hT:HsQ P w 5 a1 l1 t.T.A) (g o:Nat) (hg:g<w.heap.size) (u0:Tr) (p0:Option Addr) (n0 q0:Nat) (e00:w.cell? ⟨g,o,none⟩=some (.int .i64 u0.K)) (e01:w.cell? ⟨g,o+1,none⟩=some (.int .i64 u0.N)) (e02:w.cell? ⟨g,o+2,none⟩=some (.slice p0 n0 q0)) (s0:HsQ P w 5 p0 n0 u0.A) (r0:∃ m,Qai 6 u0=some m) (u1:Tr) (p1:Option Addr) (n1 q1:Nat) (e10:w.cell? ⟨g,o+3,none⟩=some (.int .i64 u1.K)) (e11:w.cell? ⟨g,o+3+1,none⟩=some (.int .i64 u1.N)) (e12:w.cell? ⟨g,o+3+2,none⟩=some (.slice p1 n1 q1)) (s1:HsQ P w 5 p1 n1 u1.A) (r1:∃ m,Qai 6 u1=some m) (u2:Tr) (p2:Option Addr) (n2 q2:Nat) (e20:w.cell? ⟨g,o+6,none⟩=some (.int .i64 u2.K)) (e21:w.cell? ⟨g,o+6+1,none⟩=some (.int .i64 u2.N)) (e22:w.cell? ⟨g,o+6+2,none⟩=some (.slice p2 n2 q2)) (s2:HsQ P w 5 p2 n2 u2.A) (r2:∃ m,Qai 6 u2=some m) :
 Calls Try.prog 81 #[.agg #[.int .i64 t.K,.int .i64 t.N,.string t.S,.string t.Z,.int .i64 t.T.K,.int .i64 t.T.N,.slice a1 l1 c1,.slice a2 l2 c2,.slice a3 l3 c3],.slice (some ⟨g,o,none⟩) 3 cap] w fun e w'=>WhQ P w e w':=by
 obtain⟨X,hX⟩:∃ X,X=(w.alloc (.cells #[.int .i64 t.K,.int .i64 t.N,.string t.S,.string t.Z,.int .i64 t.T.K,.int .i64 t.T.N,.slice a1 l1 c1,.slice a2 l2 c2,.slice a3 l3 c3] 29)).alloc (.cells #[.int .i64 0,.int .i64 0,.slice none 0 0] 26):=⟨_,rfl⟩
 have hXs:X.heap.size=w.heap.size+2:=by rw [hX];simp
 have hXb:Below w.heap.size w X:=by rw [hX];exact ((Below.refl _ _).alloc (Nat.le_refl _) _).alloc (by simp) _
 have hX0:X.heap[w.heap.size]?=some (.cells #[.int .i64 t.K,.int .i64 t.N,.string t.S,.string t.Z,.int .i64 t.T.K,.int .i64 t.T.N,.slice a1 l1 c1,.slice a2 l2 c2,.slice a3 l3 c3] 29 (0,0)):=by rw [hX,Below.heap_alloc _ _ _ (by simp)];exact Qac rfl
 have hX1:X.heap[w.heap.size+1]?=some (.cells #[.int .i64 0,.int .i64 0,.slice none 0 0] 26 (0,0)):=by rw [hX];exact Qac (by simp)
 rw [hK] at hX0 hX ⊢
 have kX:Kr X (w.heap.size+1) X:=⟨Nat.le_refl _,rfl,rfl,rfl,fun _ _ _=>rfl,_,_,_,hX1⟩
 have HX:Hid (X=_):=hX
 have HKW:Hid (∀ W,Kr X (w.heap.size+1) W->∀ k,k<w.heap.size->W.heap[k]?=w.heap[k]?):=fun W hW k hk=>(hW.blk k (by omega) (by omega)).trans (hXb.block k hk)
 have HSZ:Hid (∀ W,Kr X (w.heap.size+1) W->w.heap.size≤W.heap.size):=fun W hW=>by have:=hW.size;omega
 have HBW:Hid (∀ W,Kr X (w.heap.size+1) W->Below w.heap.size w W):=fun W hW=>⟨hW.os.trans hXb.os,hW.tape.trans hXb.tape,hW.output.trans hXb.output,HSZ.out W hW,fun k hk=>HKW.out W hW k hk⟩
 have HPW:Hid (∀ W,Kr X (w.heap.size+1) W->∀ k,W.heap.size≤k->(fun k=>P k∧k≠w.heap.size+1) k):=fun W hW k hk=>⟨hPn k (by have:=HSZ.out W hW;omega),by have:=hW.size;omega⟩
 have HT:Hid (∀ W,Kr X (w.heap.size+1) W->HsQ (fun k=>P k∧k≠w.heap.size+1) W 8 a1 l1 t.T.A):=fun W hW=>(hT.keep (fun k _ hk=>HKW.out W hW k hk) (fun k h hk=>⟨h,by omega⟩) (HSZ.out W hW)).deeper (by omega)
 have H0:Hid (∀ W,Kr X (w.heap.size+1) W->HsQ (fun k=>P k∧k≠w.heap.size+1) W 8 p0 n0 u0.A):=fun W hW=>(s0.keep (fun k _ hk=>HKW.out W hW k hk) (fun k h hk=>⟨h,by omega⟩) (HSZ.out W hW)).deeper (by omega)
 have H1:Hid (∀ W,Kr X (w.heap.size+1) W->HsQ (fun k=>P k∧k≠w.heap.size+1) W 8 p1 n1 u1.A):=fun W hW=>(s1.keep (fun k _ hk=>HKW.out W hW k hk) (fun k h hk=>⟨h,by omega⟩) (HSZ.out W hW)).deeper (by omega)
 have H2:Hid (∀ W,Kr X (w.heap.size+1) W->HsQ (fun k=>P k∧k≠w.heap.size+1) W 8 p2 n2 u2.A):=fun W hW=>(s2.keep (fun k _ hk=>HKW.out W hW k hk) (fun k h hk=>⟨h,by omega⟩) (HSZ.out W hW)).deeper (by omega)
 have HC:Hid (∀ W,Kr X (w.heap.size+1) W->W.cell? ⟨w.heap.size,0,none⟩=some (.int .i64 8)∧W.cell? ⟨w.heap.size,1,none⟩=some (.int .i64 t.N)∧W.cell? ⟨w.heap.size,4,none⟩=some (.int .i64 t.T.K)∧W.cell? ⟨w.heap.size,5,none⟩=some (.int .i64 t.T.N)∧W.cell? ⟨w.heap.size,6,none⟩=some (.slice a1 l1 c1)∧W.cell? ⟨g,o,none⟩=some (.int .i64 u0.K)∧W.cell? ⟨g,o+1,none⟩=some (.int .i64 u0.N)∧W.cell? ⟨g,o+2,none⟩=some (.slice p0 n0 q0)∧W.cell? ⟨g,o+3,none⟩=some (.int .i64 u1.K)∧W.cell? ⟨g,o+3+1,none⟩=some (.int .i64 u1.N)∧W.cell? ⟨g,o+3+2,none⟩=some (.slice p1 n1 q1)∧W.cell? ⟨g,o+6,none⟩=some (.int .i64 u2.K)∧W.cell? ⟨g,o+6+1,none⟩=some (.int .i64 u2.N)∧W.cell? ⟨g,o+6+2,none⟩=some (.slice p2 n2 q2)):=fun W hW=>by
  have r:=(hW.blk w.heap.size (by omega) (by omega)).trans hX0
  exact⟨Qaa r 0,Qaa r 1,Qaa r 4,Qaa r 5,Qaa r 6,(World.cell?_of_block (HKW.out W hW g hg)).trans e00,(World.cell?_of_block (HKW.out W hW g hg)).trans e01,(World.cell?_of_block (HKW.out W hW g hg)).trans e02,(World.cell?_of_block (HKW.out W hW g hg)).trans e10,(World.cell?_of_block (HKW.out W hW g hg)).trans e11,(World.cell?_of_block (HKW.out W hW g hg)).trans e12,(World.cell?_of_block (HKW.out W hW g hg)).trans e20,(World.cell?_of_block (HKW.out W hW g hg)).trans e21,(World.cell?_of_block (HKW.out W hW g hg)).trans e22⟩
 obtain⟨x0,x1,x4,x5,x6,f00,f01,f02,f10,f11,f12,f20,f21,f22⟩:=HC.out X kX
 have hrX:w.heap.size+1<X.heap.size:=by omega
 have k0:Kr X (w.heap.size+1) X.drew:=kX.drew
 have hgX:g<X.heap.size:=by omega
 have hgr:g≠w.heap.size+1:=by omega
 have hgr2:w.heap.size+1≠g:=by omega
 obtain⟨sb,hsb⟩:=Qcj u1 u2
 have HS:Hid (∀ W:World,Kr X (w.heap.size+1) W->Calls Try.prog 62 #[.agg #[.int .i64 u1.K,.int .i64 u1.N,.slice p1 n1 q1],.agg #[.int .i64 u2.K,.int .i64 u2.N,.slice p2 n2 q2]] W fun e w'=>e=.returned (.bool sb)∧Below W.heap.size W w'):=fun W hW =>
  ss_any 8 0 W.heap.size 0 W.heap.size _ _ _ _ _ _ _ _ _ _ _ _ sb W (Nat.le_refl _) (Nat.le_refl _) (HsQ.hs (fun _ _=>Nat.zero_le _) (H1.out W hW)) (HsQ.hs (fun _ _=>Nat.zero_le _) (H2.out W hW)) (by rw [Qap,Qap];exact hsb)
 clear hsb
 clear hX hXs hXb hX0 e00 e01 e02 e10 e11 e12 e20 e21 e22 hK
 obtain⟨z0,z1,z2⟩:=Qaf hX1
 have zf:=Qad hX1
 cases hq:(u0.K==2)
 · go_enter Try.func81,Try.ntmps81
   go_wp2_with fail
   rw [← HX.out]
   go_region
   all_goals
    go_wp2_with fail
    have k2:=kX
    refine bodyPost_ret (v:=.tuple #[.agg #[.int .i64 u1.K,.int .i64 u1.N,.slice p1 n1 q1],.bool false]) (by simp [results,Try.results81,go_sem,z0,z1,z2]) rfl ⟨⟨_,_,_,u1,_,rfl,HsQ.mono (P:=(fun k=>P k∧k≠w.heap.size+1)) (fun _ h _=>And.left h) (H1.out _ (by (repeat (first|with_reducible exact k2|with_reducible exact k0|with_reducible refine Kr.set ?_ _ _|with_reducible refine Kr.drew ?_|with_reducible refine Kr.drewN ?_))))⟩,HBW.out _ (by (repeat (first|with_reducible exact k2|with_reducible exact k0|with_reducible refine Kr.set ?_ _ _|with_reducible refine Kr.drew ?_|with_reducible refine Kr.drewN ?_)))⟩
 · go_enter Try.func81,Try.ntmps81
   go_wp2_with fail
   rw [← HX.out]
   go_region_held3 (fun W=>W.cell? ⟨w.heap.size,0,none⟩=some (.int .i64 8)∧W.cell? ⟨w.heap.size,1,none⟩=some (.int .i64 t.N)∧W.cell? ⟨w.heap.size,4,none⟩=some (.int .i64 t.T.K)∧W.cell? ⟨w.heap.size,5,none⟩=some (.int .i64 t.T.N)∧W.cell? ⟨w.heap.size,6,none⟩=some (.slice a1 l1 c1)∧W.cell? ⟨g,o,none⟩=some (.int .i64 u0.K)∧W.cell? ⟨g,o+1,none⟩=some (.int .i64 u0.N)∧W.cell? ⟨g,o+2,none⟩=some (.slice p0 n0 q0)∧W.cell? ⟨g,o+3,none⟩=some (.int .i64 u1.K)∧W.cell? ⟨g,o+3+1,none⟩=some (.int .i64 u1.N)∧W.cell? ⟨g,o+3+2,none⟩=some (.slice p1 n1 q1)∧W.cell? ⟨g,o+6,none⟩=some (.int .i64 u2.K)∧W.cell? ⟨g,o+6+1,none⟩=some (.int .i64 u2.N)∧W.cell? ⟨g,o+6+2,none⟩=some (.slice p2 n2 q2))
    (first|with_reducible exact HC.out _ k2|with_reducible exact HC.out _ k0|(with_reducible refine HC.out _ ?_;(repeat (first|with_reducible exact k2|with_reducible exact k0|with_reducible refine Kr.set ?_ _ _|with_reducible refine Kr.drew ?_|with_reducible refine Kr.drewN ?_))))
    (first
      | (go_at_call 62;(with_reducible refine Calls.mono (HS.out _ k0) ?_);rintro e v2 ⟨rfl,hb⟩;have k2:=k0.below hb;clear z0 z1 z2 zf;obtain⟨zc0,zc1,zc2,zb⟩:=k2.box;obtain⟨z0,z1,z2⟩:=Qaf zb;have zf:=Qad zb)
      | (go_at_call 62;(with_reducible refine Calls.mono (HS.out _ (by (repeat (first|with_reducible exact k2|with_reducible exact k0|with_reducible refine Kr.set ?_ _ _|with_reducible refine Kr.drew ?_|with_reducible refine Kr.drewN ?_)))) ?_);rintro e v2 ⟨rfl,hb⟩;have k2:=Kr.below (X:=X) (r:=w.heap.size+1) (by (repeat (first|with_reducible exact k2|with_reducible exact k0|with_reducible refine Kr.set ?_ _ _|with_reducible refine Kr.drew ?_|with_reducible refine Kr.drewN ?_))) hb;clear z0 z1 z2 zf;obtain⟨zc0,zc1,zc2,zb⟩:=k2.box;obtain⟨z0,z1,z2⟩:=Qaf zb;have zf:=Qad zb))
   all_goals
    go_wp2_with fail
    refine bodyPost_ret (v:=.tuple #[.agg #[.int .i64 u1.K,.int .i64 u1.N,.slice p1 n1 q1],.bool sb]) (by simp [results,Try.results81,go_sem,z0,z1,z2]) rfl ⟨⟨_,_,_,u1,_,rfl,HsQ.mono (P:=(fun k=>P k∧k≠w.heap.size+1)) (fun _ h _=>And.left h) (H1.out _ (by (repeat (first|with_reducible exact k2|with_reducible exact k0|with_reducible refine Kr.set ?_ _ _|with_reducible refine Kr.drew ?_|with_reducible refine Kr.drewN ?_))))⟩,HBW.out _ (by (repeat (first|with_reducible exact k2|with_reducible exact k0|with_reducible refine Kr.set ?_ _ _|with_reducible refine Kr.drew ?_|with_reducible refine Kr.drewN ?_)))⟩
end Go.Proofs.Ytleghjgpnefliaa
