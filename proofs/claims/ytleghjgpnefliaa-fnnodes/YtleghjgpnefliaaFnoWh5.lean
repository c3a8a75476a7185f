/-
  What the model's 'l3Whole' comes to, kind by kind.
-/
import Derived.Test.YtleghjgpnefliaaFnoZ21
namespace Go.Proofs.Ytleghjgpnefliaa
open Go.RowKit
set_option linter.unusedVariables false
set_option linter.unusedSimpArgs false
set_option maxRecDepth 100000 in
set_option maxHeartbeats 4000000 in
theorem whole_10 (P:Nat->Prop) (t:Tm) (a1:Option Addr) (l1 c1:Nat) (a2:Option Addr) (l2 c2:Nat) (a3:Option Addr) (l3 c3:Nat) (cap:Nat) (w:World) (hPn:∀ k,w.heap.size≤k->P k) (hK:t.K=10) (hT:HsQ P w 5 a1 l1 t.T.A) (g o:Nat) (hg:g<w.heap.size) (u0:Tr) (p0:Option Addr) (n0 q0:Nat) (e00:w.cell? ⟨g,o,none⟩=some (.int .i64 u0.K)) (e01:w.cell? ⟨g,o+1,none⟩=some (.int .i64 u0.N)) (e02:w.cell? ⟨g,o+2,none⟩=some (.slice p0 n0 q0)) (s0:HsQ P w 5 p0 n0 u0.A) (r0:∃ m,Qai 6 u0=some m) :
 Calls Try.prog 81 #[.agg #[.int .i64 t.K,.int .i64 t.N,.string t.S,.string t.Z,.int .i64 t.T.K,.int .i64 t.T.N,.slice a1 l1 c1,.slice a2 l2 c2,.slice a3 l3 c3],.slice (some ⟨g,o,none⟩) 1 cap] w fun e w'=>WhQ P w e w':=by
 obtain⟨X,hX⟩:∃ X,X=(w.alloc (.cells #[.int .i64 t.K,.int .i64 t.N,.string t.S,.string t.Z,.int .i64 t.T.K,.int .i64 t.T.N,.slice a1 l1 c1,.slice a2 l2 c2,.slice a3 l3 c3] 29)).alloc (.cells #[.int .i64 0,.int .i64 0,.slice none 0 0] 26):=⟨_,rfl⟩
 have hXs:X.heap.size=w.heap.size+2:=by rw [hX];simp
 have hXb:Below w.heap.size w X:=by rw [hX];exact ((Below.refl _ _).alloc (Nat.le_refl _) _).alloc (by simp) _
 have hX0:X.heap[w.heap.size]?=some (.cells #[.int .i64 t.K,.int .i64 t.N,.string t.S,.string t.Z,.int .i64 t.T.K,.int .i64 t.T.N,.slice a1 l1 c1,.slice a2 l2 c2,.slice a3 l3 c3] 29 (0,0)):=by rw [hX,Below.heap_alloc _ _ _ (by simp)];exact Qac rfl
 have hX1:X.heap[w.heap.size+1]?=some (.cells #[.int .i64 0,.int .i64 0,.slice none 0 0] 26 (0,0)):=by rw [hX];exact Qac (by simp)
 rw [hK] at hX0 hX ⊢
 have kX:Kr X (w.heap.size+1) X:=⟨Nat.le_refl _,rfl,rfl,rfl,fun _ _ _=>rfl,_,_,_,hX1⟩
 have HX:Hid (X=_):=hX
 have HKW:Hid (∀ W,Kr X (w.heap.size+1) W->∀ k,k<w.heap.size->W.heap[k]?=w.heap[k]?):=fun W hW k hk=>(hW.blk k (by omega) (by omega)).trans (hXb.block k hk)
 have HSZ:Hid (∀ W,Kr X (w.heap.size+1) W->w.heap.size≤W.heap.size):=fun W hW=>by have:=hW.size;omega
 have HBW:Hid (∀ W,Kr X (w.heap.size+1) W->Below w.heap.size w W):=fun W hW=>⟨hW.os.trans hXb.os,hW.tape.trans hXb.tape,hW.output.trans hXb.output,HSZ.out W hW,fun k hk=>HKW.out W hW k hk⟩
 have HPW:Hid (∀ W,Kr X (w.heap.size+1) W->∀ k,W.heap.size≤k->(fun k=>P k∧k≠w.heap.size+1) k):=fun W hW k hk=>⟨hPn k (by have:=HSZ.out W hW;omega),by have:=hW.size;omega⟩
 have HT:Hid (∀ W,Kr X (w.heap.size+1) W->HsQ (fun k=>P k∧k≠w.heap.size+1) W 8 a1 l1 t.T.A):=fun W hW=>(hT.keep (fun k _ hk=>HKW.out W hW k hk) (fun k h hk=>⟨h,by omega⟩) (HSZ.out W hW)).deeper (by omega)
 have H0:Hid (∀ W,Kr X (w.heap.size+1) W->HsQ (fun k=>P k∧k≠w.heap.size+1) W 8 p0 n0 u0.A):=fun W hW=>(s0.keep (fun k _ hk=>HKW.out W hW k hk) (fun k h hk=>⟨h,by omega⟩) (HSZ.out W hW)).deeper (by omega)
 have HC:Hid (∀ W,Kr X (w.heap.size+1) W->W.cell? ⟨w.heap.size,0,none⟩=some (.int .i64 10)∧W.cell? ⟨w.heap.size,1,none⟩=some (.int .i64 t.N)∧W.cell? ⟨w.heap.size,4,none⟩=some (.int .i64 t.T.K)∧W.cell? ⟨w.heap.size,5,none⟩=some (.int .i64 t.T.N)∧W.cell? ⟨w.heap.size,6,none⟩=some (.slice a1 l1 c1)∧W.cell? ⟨g,o,none⟩=some (.int .i64 u0.K)∧W.cell? ⟨g,o+1,none⟩=some (.int .i64 u0.N)∧W.cell? ⟨g,o+2,none⟩=some (.slice p0 n0 q0)):=fun W hW=>by
  have r:=(hW.blk w.heap.size (by omega) (by omega)).trans hX0
  exact⟨Qaa r 0,Qaa r 1,Qaa r 4,Qaa r 5,Qaa r 6,(World.cell?_of_block (HKW.out W hW g hg)).trans e00,(World.cell?_of_block (HKW.out W hW g hg)).trans e01,(World.cell?_of_block (HKW.out W hW g hg)).trans e02⟩
 obtain⟨x0,x1,x4,x5,x6,f00,f01,f02⟩:=HC.out X kX
 have hrX:w.heap.size+1<X.heap.size:=by omega
 have k0:Kr X (w.heap.size+1) X.drew:=kX.drew
 have hgX:g<X.heap.size:=by omega
 have hgr:g≠w.heap.size+1:=by omega
 have hgr2:w.heap.size+1≠g:=by omega
 clear hX hXs hX0 e00 e01 e02 hK
 obtain⟨z0,z1,z2⟩:=Qaf hX1
 have zf:=Qad hX1
 cases hq:(u0.K != 5)
 · have hK4:u0.K=5:=by simpa using hq
   obtain⟨m0,hm0⟩:=r0
   obtain⟨hnk,hpp⟩:=Qay (l:=5) (k:=u0.K) (n:=u0.N) (ts:=u0.A) (m:=m0) (by rw [Qap];exact hm0)
   have hA2:u0.A.length=2:=by
    have h:=(Qbb hnk).1
    rw [hK4] at h
    have h2:parts 5=2:=by decide
    rw [h2] at h
    omega
   have hn2:n0=2:=by rw [s0.len.1];exact hA2
   obtain⟨c,oc,ec,_,hc,y0,yn0,yq0,g00,g01,g02,sy0⟩:=s0.get 0 (by omega)
   subst ec hn2
   rw [Nat.zero_mul,Nat.add_zero] at g00 g01 g02
   obtain⟨v0,hv0⟩:∃ v,v=u0.A[0]'(by omega):=⟨_,rfl⟩
   rw [← hv0] at g00 g01 sy0
   clear hv0
   have HY0:Hid (∀ W,Kr X (w.heap.size+1) W->HsQ (fun k=>P k∧k≠w.heap.size+1) W 8 y0 yn0 v0.A):=fun W hW=>(sy0.keep (fun k _ hk=>HKW.out W hW k hk) (fun k h hk=>⟨h,by omega⟩) (HSZ.out W hW)).deeper (by omega)
   have e:=HKW.out X kX c hc
   have i00:=(World.cell?_of_block e).trans g00
   have i01:=(World.cell?_of_block e).trans g01
   have i02:=(World.cell?_of_block e).trans g02
   have hcX:c<X.heap.size:=by omega
   have hcr:c≠w.heap.size+1:=by omega
   rw [hK4] at f00 hq
   clear e g00 g01 g02 hA2 hnk hpp hm0 hK4
   go_enter Try.func81,Try.ntmps81
   go_upto_region 22 with fail
   rw [← HX.out]
   go_wp2_with fail
   go_region
   all_goals
    go_wp2_with fail
    have k2:=kX
    refine bodyPost_ret (v:=.tuple #[.agg #[.int .i64 v0.K,.int .i64 v0.N,.slice y0 yn0 yq0],.bool true]) (by simp [results,Try.results81,go_sem,z0,z1,z2]) rfl ⟨⟨_,_,_,v0,_,rfl,HsQ.mono (P:=(fun k=>P k∧k≠w.heap.size+1)) (fun _ h _=>And.left h) (HY0.out _ (by (repeat (first|with_reducible exact k2|with_reducible exact k0|with_reducible refine Kr.set ?_ _ _|with_reducible refine Kr.drew ?_|with_reducible refine Kr.drewN ?_))))⟩,HBW.out _ (by (repeat (first|with_reducible exact k2|with_reducible exact k0|with_reducible refine Kr.set ?_ _ _|with_reducible refine Kr.drew ?_|with_reducible refine Kr.drewN ?_)))⟩
 · go_enter Try.func81,Try.ntmps81
   go_upto_region 22 with fail
   rw [← HX.out]
   go_wp2_with fail
   have k2:=kX
   refine bodyPost_ret (v:=.tuple #[.agg #[.int .i64 0,.int .i64 0,.slice none 0 0],.bool false]) (by simp [results,Try.results81,go_sem,z0,z1,z2]) rfl ⟨⟨_,_,_,⟨0,0,[]⟩,_,rfl,HsQ.mono (P:=(fun k=>P k∧k≠w.heap.size+1)) (fun _ h _=>And.left h) (HsQ.nil (fun k=>P k∧k≠w.heap.size+1) _ _ _)⟩,HBW.out _ (by (repeat (first|with_reducible exact k2|with_reducible exact k0|with_reducible refine Kr.set ?_ _ _|with_reducible refine Kr.drew ?_|with_reducible refine Kr.drewN ?_)))⟩
set_option maxRecDepth 100000 in
set_option maxHeartbeats 4000000 in
theorem whole_11 (P:Nat->Prop) (t:Tm) (a1:Option Addr) (l1 c1:Nat) (a2:Option Addr) (l2 c2:Nat) (a3:Option Addr) (l3 c3:Nat) (cap:Nat) (w:World) (hPn:∀ k,w.heap.size≤k->P k) (hK:t.K=11) (hT:HsQ P w 5 a1 l1 t.T.A) (g o:Nat) (hg:g<w.heap.size) (u0:Tr) (p0:Option Addr) (n0 q0:Nat) (e00:w.cell? ⟨g,o,none⟩=some (.int .i64 u0.K)) (e01:w.cell? ⟨g,o+1,none⟩=some (.int .i64 u0.N)) (e02:w.cell? ⟨g,o+2,none⟩=some (.slice p0 n0 q0)) (s0:HsQ P w 5 p0 n0 u0.A) (r0:∃ m,Qai 6 u0=some m) :
 Calls Try.prog 81 #[.agg #[.int .i64 t.K,.int .i64 t.N,.string t.S,.string t.Z,.int .i64 t.T.K,.int .i64 t.T.N,.slice a1 l1 c1,.slice a2 l2 c2,.slice a3 l3 c3],.slice (some ⟨g,o,none⟩) 1 cap] w fun e w'=>WhQ P w e w':=by
 obtain⟨X,hX⟩:∃ X,X=(w.alloc (.cells #[.int .i64 t.K,.int .i64 t.N,.string t.S,.string t.Z,.int .i64 t.T.K,.int .i64 t.T.N,.slice a1 l1 c1,.slice a2 l2 c2,.slice a3 l3 c3] 29)).alloc (.cells #[.int .i64 0,.int .i64 0,.slice none 0 0] 26):=⟨_,rfl⟩
 have hXs:X.heap.size=w.heap.size+2:=by rw [hX];simp
 have hXb:Below w.heap.size w X:=by rw [hX];exact ((Below.refl _ _).alloc (Nat.le_refl _) _).alloc (by simp) _
 have hX0:X.heap[w.heap.size]?=some (.cells #[.int .i64 t.K,.int .i64 t.N,.string t.S,.string t.Z,.int .i64 t.T.K,.int .i64 t.T.N,.slice a1 l1 c1,.slice a2 l2 c2,.slice a3 l3 c3] 29 (0,0)):=by rw [hX,Below.heap_alloc _ _ _ (by simp)];exact Qac rfl
 have hX1:X.heap[w.heap.size+1]?=some (.cells #[.int .i64 0,.int .i64 0,.slice none 0 0] 26 (0,0)):=by rw [hX];exact Qac (by simp)
 rw [hK] at hX0 hX ⊢
 have kX:Kr X (w.heap.size+1) X:=⟨Nat.le_refl _,rfl,rfl,rfl,fun _ _ _=>rfl,_,_,_,hX1⟩
 have HX:Hid (X=_):=hX
 have HKW:Hid (∀ W,Kr X (w.heap.size+1) W->∀ k,k<w.heap.size->W.heap[k]?=w.heap[k]?):=fun W hW k hk=>(hW.blk k (by omega) (by omega)).trans (hXb.block k hk)
 have HSZ:Hid (∀ W,Kr X (w.heap.size+1) W->w.heap.size≤W.heap.size):=fun W hW=>by have:=hW.size;omega
 have HBW:Hid (∀ W,Kr X (w.heap.size+1) W->Below w.heap.size w W):=fun W hW=>⟨hW.os.trans hXb.os,hW.tape.trans hXb.tape,hW.output.trans hXb.output,HSZ.out W hW,fun k hk=>HKW.out W hW k hk⟩
 have HPW:Hid (∀ W,Kr X (w.heap.size+1) W->∀ k,W.heap.size≤k->(fun k=>P k∧k≠w.heap.size+1) k):=fun W hW k hk=>⟨hPn k (by have:=HSZ.out W hW;omega),by have:=hW.size;omega⟩
 have HT:Hid (∀ W,Kr X (w.heap.size+1) W->HsQ (fun k=>P k∧k≠w.heap.size+1) W 8 a1 l1 t.T.A):=fun W hW=>(hT.keep (fun k _ hk=>HKW.out W hW k hk) (fun k h hk=>⟨h,by omega⟩) (HSZ.out W hW)).deeper (by omega)
 have H0:Hid (∀ W,Kr X (w.heap.size+1) W->HsQ (fun k=>P k∧k≠w.heap.size+1) W 8 p0 n0 u0.A):=fun W hW=>(s0.keep (fun k _ hk=>HKW.out W hW k hk) (fun k h hk=>⟨h,by omega⟩) (HSZ.out W hW)).deeper (by omega)
 have HC:Hid (∀ W,Kr X (w.heap.size+1) W->W.cell? ⟨w.heap.size,0,none⟩=some (.int .i64 11)∧W.cell? ⟨w.heap.size,1,none⟩=some (.int .i64 t.N)∧W.cell? ⟨w.heap.size,4,none⟩=some (.int .i64 t.T.K)∧W.cell? ⟨w.heap.size,5,none⟩=some (.int .i64 t.T.N)∧W.cell? ⟨w.heap.size,6,none⟩=some (.slice a1 l1 c1)∧W.cell? ⟨g,o,none⟩=some (.int .i64 u0.K)∧W.cell? ⟨g,o+1,none⟩=some (.int .i64 u0.N)∧W.cell? ⟨g,o+2,none⟩=some (.slice p0 n0 q0)):=fun W hW=>by
  have r:=(hW.blk w.heap.size (by omega) (by omega)).trans hX0
  exact⟨Qaa r 0,Qaa r 1,Qaa r 4,Qaa r 5,Qaa r 6,(World.cell?_of_block (HKW.out W hW g hg)).trans e00,(World.cell?_of_block (HKW.out W hW g hg)).trans e01,(World.cell?_of_block (HKW.out W hW g hg)).trans e02⟩
 obtain⟨x0,x1,x4,x5,x6,f00,f01,f02⟩:=HC.out X kX
 have hrX:w.heap.size+1<X.heap.size:=by omega
 have k0:Kr X (w.heap.size+1) X.drew:=kX.drew
 have hgX:g<X.heap.size:=by omega
 have hgr:g≠w.heap.size+1:=by omega
 have hgr2:w.heap.size+1≠g:=by omega
 clear hX hXs hX0 e00 e01 e02 hK
 obtain⟨z0,z1,z2⟩:=Qaf hX1
 have zf:=Qad hX1
 cases hq:(u0.K != 5)
 · have hK4:u0.K=5:=by simpa using hq
   obtain⟨m0,hm0⟩:=r0
   obtain⟨hnk,hpp⟩:=Qay (l:=5) (k:=u0.K) (n:=u0.N) (ts:=u0.A) (m:=m0) (by rw [Qap];exact hm0)
   have hA2:u0.A.length=2:=by
    have h:=(Qbb hnk).1
    rw [hK4] at h
    have h2:parts 5=2:=by decide
    rw [h2] at h
    omega
   have hn2:n0=2:=by rw [s0.len.1];exact hA2
   obtain⟨c,oc,ec,_,hc,y0,yn0,yq0,g00,g01,g02,sy0⟩:=s0.get 1 (by omega)
   subst ec hn2
   rw [Nat.one_mul] at g00 g01 g02
   obtain⟨v0,hv0⟩:∃ v,v=u0.A[1]'(by omega):=⟨_,rfl⟩
   rw [← hv0] at g00 g01 sy0
   clear hv0
   have HY0:Hid (∀ W,Kr X (w.heap.size+1) W->HsQ (fun k=>P k∧k≠w.heap.size+1) W 8 y0 yn0 v0.A):=fun W hW=>(sy0.keep (fun k _ hk=>HKW.out W hW k hk) (fun k h hk=>⟨h,by omega⟩) (HSZ.out W hW)).deeper (by omega)
   have e:=HKW.out X kX c hc
   have i00:=(World.cell?_of_block e).trans g00
   have i01:=(World.cell?_of_block e).trans g01
   have i02:=(World.cell?_of_block e).trans g02
   have hcX:c<X.heap.size:=by omega
   have hcr:c≠w.heap.size+1:=by omega
   rw [hK4] at f00 hq
   clear e g00 g01 g02 hA2 hnk hpp hm0 hK4
   go_enter Try.func81,Try.ntmps81
   go_upto_region 22 with fail
   rw [← HX.out]
   go_wp2_with fail
   go_region
   all_goals
    go_wp2_with fail
    have k2:=kX
    refine bodyPost_ret (v:=.tuple #[.agg #[.int .i64 v0.K,.int .i64 v0.N,.slice y0 yn0 yq0],.bool true]) (by simp [results,Try.results81,go_sem,z0,z1,z2]) rfl ⟨⟨_,_,_,v0,_,rfl,HsQ.mono (P:=(fun k=>P k∧k≠w.heap.size+1)) (fun _ h _=>And.left h) (HY0.out _ (by (repeat (first|with_reducible exact k2|with_reducible exact k0|with_reducible refine Kr.set ?_ _ _|with_reducible refine Kr.drew ?_|with_reducible refine Kr.drewN ?_))))⟩,HBW.out _ (by (repeat (first|with_reducible exact k2|with_reducible exact k0|with_reducible refine Kr.set ?_ _ _|with_reducible refine Kr.drew ?_|with_reducible refine Kr.drewN ?_)))⟩
 · go_enter Try.func81,Try.ntmps81
   go_upto_region 22 with fail
   rw [← HX.out]
   go_wp2_with fail
   have k2:=kX
   refine bodyPost_ret (v:=.tuple #[.agg #[.int .i64 0,.int .i64 0,.slice none 0 0],.bool false]) (by simp [results,Try.results81,go_sem,z0,z1,z2]) rfl ⟨⟨_,_,_,⟨0,0,[]⟩,_,rfl,HsQ.mono (P:=(fun k=>P k∧k≠w.heap.size+1)) (fun _ h _=>And.left h) (HsQ.nil (fun k=>P k∧k≠w.heap.size+1) _ _ _)⟩,HBW.out _ (by (repeat (first|with_reducible exact k2|with_reducible exact k0|with_reducible refine Kr.set ?_ _ _|with_reducible refine Kr.drew ?_|with_reducible refine Kr.drewN ?_)))⟩
set_option maxRecDepth 100000 in
set_option maxHeartbeats 4000000 in
theorem whole_13 (P:Nat->Prop) (t:Tm) (a1:Option Addr) (l1 c1:Nat) (a2:Option Addr) (l2 c2:Nat) (a3:Option Addr) (l3 c3:Nat) (cap:Nat) (w:World) (hPn:∀ k,w.heap.size≤k->P k) (hK:t.K=13) (hT:HsQ P w 5 a1 l1 t.T.A) (g o:Nat) (hg:g<w.heap.size) (u0:Tr) (p0:Option Addr) (n0 q0:Nat) (e00:w.cell? ⟨g,o,none⟩=some (.int .i64 u0.K)) (e01:w.cell? ⟨g,o+1,none⟩=some (.int .i64 u0.N)) (e02:w.cell? ⟨g,o+2,none⟩=some (.slice p0 n0 q0)) (s0:HsQ P w 5 p0 n0 u0.A) (r0:∃ m,Qai 6 u0=some m) (u1:Tr) (p1:Option Addr) (n1 q1:Nat) (e10:w.cell? ⟨g,o+3,none⟩=some (.int .i64 u1.K)) (e11:w.cell? ⟨g,o+3+1,none⟩=some (.int .i64 u1.N)) (e12:w.cell? ⟨g,o+3+2,none⟩=some (.slice p1 n1 q1)) (s1:HsQ P w 5 p1 n1 u1.A) (r1:∃ m,Qai 6 u1=some m) :
 Calls Try.prog 81 #[.agg #[.int .i64 t.K,.int .i64 t.N,.string t.S,.string t.Z,.int .i64 t.T.K,.int .i64 t.T.N,.slice a1 l1 c1,.slice a2 l2 c2,.slice a3 l3 c3],.slice (some ⟨g,o,none⟩) 2 cap] w fun e w'=>WhQ P w e w':=by
 obtain⟨X,hX⟩:∃ X,X=(w.alloc (.cells #[.int .i64 t.K,.int .i64 t.N,.string t.S,.string t.Z,.int .i64 t.T.K,.int .i64 t.T.N,.slice a1 l1 c1,.slice a2 l2 c2,.slice a3 l3 c3] 29)).alloc (.cells #[.int .i64 0,.int .i64 0,.slice none 0 0] 26):=⟨_,rfl⟩
 have hXs:X.heap.size=w.heap.size+2:=by rw [hX];simp
 have hXb:Below w.heap.size w X:=by rw [hX];exact ((Below.refl _ _).alloc (Nat.le_refl _) _).alloc (by simp) _
 have hX0:X.heap[w.heap.size]?=some (.cells #[.int .i64 t.K,.int .i64 t.N,.string t.S,.string t.Z,.int .i64 t.T.K,.int .i64 t.T.N,.slice a1 l1 c1,.slice a2 l2 c2,.slice a3 l3 c3] 29 (0,0)):=by rw [hX,Below.heap_alloc _ _ _ (by simp)];exact Qac rfl
 have hX1:X.heap[w.heap.size+1]?=some (.cells #[.int .i64 0,.int .i64 0,.slice none 0 0] 26 (0,0)):=by rw [hX];exact Qac (by simp)
 rw [hK] at hX0 hX ⊢
 have kX:Kr X (w.heap.size+1) X:=⟨Nat.le_refl _,rfl,rfl,rfl,fun _ _ _=>rfl,_,_,_,hX1⟩
 have HX:Hid (X=_):=hX
 have HKW:Hid (∀ W,Kr X (w.heap.size+1) W->∀ k,k<w.heap.size->W.heap[k]?=w.heap[k]?):=fun W hW k hk=>(hW.blk k (by omega) (by omega)).trans (hXb.block k hk)
 have HSZ:Hid (∀ W,Kr X (w.heap.size+1) W->w.heap.size≤W.heap.size):=fun W hW=>by have:=hW.size;omega
 have HBW:Hid (∀ W,Kr X (w.heap.size+1) W->Below w.heap.size w W):=fun W hW=>⟨hW.os.trans hXb.os,hW.tape.trans hXb.tape,hW.output.trans hXb.output,HSZ.out W hW,fun k hk=>HKW.out W hW k hk⟩
 have HPW:Hid (∀ W,Kr X (w.heap.size+1) W->∀ k,W.heap.size≤k->(fun k=>P k∧k≠w.heap.size+1) k):=fun W hW k hk=>⟨hPn k (by have:=HSZ.out W hW;omega),by have:=hW.size;omega⟩
 have HT:Hid (∀ W,Kr X (w.heap.size+1) W->HsQ (fun k=>P k∧k≠w.heap.size+1) W 8 a1 l1 t.T.A):=fun W hW=>(hT.keep (fun k _ hk=>HKW.out W hW k hk) (fun k h hk=>⟨h,by omega⟩) (HSZ.out W hW)).deeper (by omega)
 have H0:Hid (∀ W,Kr X (w.heap.size+1) W->HsQ (fun k=>P k∧k≠w.heap.size+1) W 8 p0 n0 u0.A):=fun W hW=>(s0.keep (fun k _ hk=>HKW.out W hW k hk) (fun k h hk=>⟨h,by omega⟩) (HSZ.out W hW)).deeper (by omega)
 have H1:Hid (∀ W,Kr X (w.heap.size+1) W->HsQ (fun k=>P k∧k≠w.heap.size+1) W 8 p1 n1 u1.A):=fun W hW=>(s1.keep (fun k _ hk=>HKW.out W hW k hk) (fun k h hk=>⟨h,by omega⟩) (HSZ.out W hW)).deeper (by omega)
 have HC:Hid (∀ W,Kr X (w.heap.size+1) W->W.cell? ⟨w.heap.size,0,none⟩=some (.int .i64 13)∧W.cell? ⟨w.heap.size,1,none⟩=some (.int .i64 t.N)∧W.cell? ⟨w.heap.size,4,none⟩=some (.int .i64 t.T.K)∧W.cell? ⟨w.heap.size,5,none⟩=some (.int .i64 t.T.N)∧W.cell? ⟨w.heap.size,6,none⟩=some (.slice a1 l1 c1)∧W.cell? ⟨g,o,none⟩=some (.int .i64 u0.K)∧W.cell? ⟨g,o+1,none⟩=some (.int .i64 u0.N)∧W.cell? ⟨g,o+2,none⟩=some (.slice p0 n0 q0)∧W.cell? ⟨g,o+3,none⟩=some (.int .i64 u1.K)∧W.cell? ⟨g,o+3+1,none⟩=some (.int .i64 u1.N)∧W.cell? ⟨g,o+3+2,none⟩=some (.slice p1 n1 q1)):=fun W hW=>by
  have r:=(hW.blk w.heap.size (by omega) (by omega)).trans hX0
  exact⟨Qaa r 0,Qaa r 1,Qaa r 4,Qaa r 5,Qaa r 6,(World.cell?_of_block (HKW.out W hW g hg)).trans e00,(World.cell?_of_block (HKW.out W hW g hg)).trans e01,(World.cell?_of_block (HKW.out W hW g hg)).trans e02,(World.cell?_of_block (HKW.out W hW g hg)).trans e10,(World.cell?_of_block (HKW.out W hW g hg)).trans e11,(World.cell?_of_block (HKW.out W hW g hg)).trans e12⟩
 obtain⟨x0,x1,x4,x5,x6,f00,f01,f02,f10,f11,f12⟩:=HC.out X kX
 have hrX:w.heap.size+1<X.heap.size:=by omega
 have k0:Kr X (w.heap.size+1) X.drew:=kX.drew
 have hgX:g<X.heap.size:=by omega
 have hgr:g≠w.heap.size+1:=by omega
 have hgr2:w.heap.size+1≠g:=by omega
 have HA7:Hid (∀ W,Kr X (w.heap.size+1) W->TyQ (fun k=>P k∧k≠w.heap.size+1) W 7 (.agg #[.int .i64 u0.K,.int .i64 u0.N,.slice p0 n0 q0]) u0):=fun W hW=>⟨_,_,_,rfl,(s0.keep (fun k _ hk=>HKW.out W hW k hk) (fun k h hk=>⟨h,by omega⟩) (HSZ.out W hW)).deeper (by omega)⟩
 obtain⟨sb,hsb⟩:=Qcj u1 ⟨6,0,[u0]⟩
 have HS:Hid (∀ W:World,Kr X (w.heap.size+1) W->∀ ya yl yc,HsQ (fun k=>P k∧k≠w.heap.size+1) W 8 ya yl [u0]->Calls Try.prog 62 #[.agg #[.int .i64 u1.K,.int .i64 u1.N,.slice p1 n1 q1],.agg #[.int .i64 6,.int .i64 0,.slice ya yl yc]] W fun e w'=>e=.returned (.bool sb)∧Below W.heap.size W w'):=fun W hW ya yl yc hy =>
  ss_any 8 0 W.heap.size 0 W.heap.size _ _ _ _ _ _ _ _ _ _ _ _ sb W (Nat.le_refl _) (Nat.le_refl _) (HsQ.hs (fun _ _=>Nat.zero_le _) (H1.out W hW)) (HsQ.hs (fun _ _=>Nat.zero_le _) hy) (by rw [Qap];exact hsb)
 clear hsb
 clear hX kX hXs hXb hX0 e00 e01 e02 e10 e11 e12 hK
 obtain⟨z0,z1,z2⟩:=Qaf hX1
 have zf:=Qad hX1
 go_enter Try.func81,Try.ntmps81
 go_wp2_with fail
 rw [← HX.out]
 go_region_held3 (fun W=>W.cell? ⟨w.heap.size,0,none⟩=some (.int .i64 13)∧W.cell? ⟨w.heap.size,1,none⟩=some (.int .i64 t.N)∧W.cell? ⟨w.heap.size,4,none⟩=some (.int .i64 t.T.K)∧W.cell? ⟨w.heap.size,5,none⟩=some (.int .i64 t.T.N)∧W.cell? ⟨w.heap.size,6,none⟩=some (.slice a1 l1 c1)∧W.cell? ⟨g,o,none⟩=some (.int .i64 u0.K)∧W.cell? ⟨g,o+1,none⟩=some (.int .i64 u0.N)∧W.cell? ⟨g,o+2,none⟩=some (.slice p0 n0 q0)∧W.cell? ⟨g,o+3,none⟩=some (.int .i64 u1.K)∧W.cell? ⟨g,o+3+1,none⟩=some (.int .i64 u1.N)∧W.cell? ⟨g,o+3+2,none⟩=some (.slice p1 n1 q1))
  (first|with_reducible exact HC.out _ k2|with_reducible exact HC.out _ k0|(with_reducible refine HC.out _ ?_;(repeat (first|with_reducible exact k2|with_reducible exact k0|with_reducible refine Kr.set ?_ _ _|with_reducible refine Kr.drew ?_|with_reducible refine Kr.drewN ?_))))
  (first
    | (go_at_call 62;(with_reducible refine Calls.mono (HS.out _ (by (repeat (first|with_reducible exact k2|with_reducible exact k0|with_reducible refine Kr.set ?_ _ _|with_reducible refine Kr.drew ?_|with_reducible refine Kr.drewN ?_))) _ _ _ (by (repeat (first|with_reducible exact hy|with_reducible refine HsQ.setr ?_|with_reducible refine HsQ.drewr ?_)))) ?_);rintro e v3 ⟨rfl,hb3⟩;have k2:=Kr.below (X:=X) (r:=w.heap.size+1) (by (repeat (first|with_reducible exact k2|with_reducible exact k0|with_reducible refine Kr.set ?_ _ _|with_reducible refine Kr.drew ?_|with_reducible refine Kr.drewN ?_))) hb3;clear z0 z1 z2 zf;obtain⟨zc0,zc1,zc2,zb⟩:=k2.box;obtain⟨z0,z1,z2⟩:=Qaf zb;have zf:=Qad zb)
    | (go_at_call 37;(with_reducible refine Calls.mono (l3List_q (fun k=>P k∧k≠w.heap.size+1) 7 u0 _ _ (HPW.out _ (by (repeat (first|with_reducible exact k2|with_reducible exact k0|with_reducible refine Kr.set ?_ _ _|with_reducible refine Kr.drew ?_|with_reducible refine Kr.drewN ?_)))) (HA7.out _ (by (repeat (first|with_reducible exact k2|with_reducible exact k0|with_reducible refine Kr.set ?_ _ _|with_reducible refine Kr.drew ?_|with_reducible refine Kr.drewN ?_))))) ?_);rintro e v2 ⟨v',rfl,⟨ya,yl,yc,rfl,hy⟩,hb⟩;have k2:=Kr.below (X:=X) (r:=w.heap.size+1) (by (repeat (first|with_reducible exact k2|with_reducible exact k0|with_reducible refine Kr.set ?_ _ _|with_reducible refine Kr.drew ?_|with_reducible refine Kr.drewN ?_))) hb;clear z0 z1 z2 zf;obtain⟨zc0,zc1,zc2,zb⟩:=k2.box;obtain⟨z0,z1,z2⟩:=Qaf zb;have zf:=Qad zb))
 all_goals
  go_wp2_with fail
  refine bodyPost_ret (v:=.tuple #[.agg #[.int .i64 u1.K,.int .i64 u1.N,.slice p1 n1 q1],.bool sb]) (by simp [results,Try.results81,go_sem,z0,z1,z2]) rfl ⟨⟨_,_,_,u1,_,rfl,HsQ.mono (P:=(fun k=>P k∧k≠w.heap.size+1)) (fun _ h _=>And.left h) (H1.out _ (by (repeat (first|with_reducible exact k2|with_reducible exact k0|with_reducible refine Kr.set ?_ _ _|with_reducible refine Kr.drew ?_|with_reducible refine Kr.drewN ?_))))⟩,HBW.out _ (by (repeat (first|with_reducible exact k2|with_reducible exact k0|with_reducible refine Kr.set ?_ _ _|with_reducible refine Kr.drew ?_|with_reducible refine Kr.drewN ?_)))⟩
end Go.Proofs.Ytleghjgpnefliaa
