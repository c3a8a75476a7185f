/-
  What the model's 'l3Whole' comes to, kind by kind.
-/
import Derived.Test.YtleghjgpnefliaaFnoZ21
import Derived.Test.YtleghjgpnefliaaFnoZ27
import Derived.Test.YtleghjgpnefliaaFnoWh2
import Derived.Test.YtleghjgpnefliaaFnoZ29
import Derived.Test.YtleghjgpnefliaaFnoWh5
import Derived.Test.YtleghjgpnefliaaFnoZ3
namespace Go.Proofs.Ytleghjgpnefliaa
open Go.RowKit
set_option linter.unusedVariables false
set_option linter.unusedSimpArgs false
set_option maxRecDepth 100000 in
set_option maxHeartbeats 4000000 in
theorem whole_15 (P:Nat->Prop) (t:Tm) (a1:Option Addr) (l1 c1:Nat) (a2:Option Addr) (l2 c2:Nat) (a3:Option Addr) (l3 c3:Nat) (cap:Nat) (w:World) (hPn:∀ k,w.heap.size≤k->P k) (hK:t.K=15) (hT:HsQ P w 5 a1 l1 t.T.A) (g o:Nat) (hg:g<w.heap.size) (u0:Tr) (p0:Option Addr) (n0 q0:Nat) (e00:w.cell? ⟨g,o,none⟩=some (.int .i64 u0.K)) (e01:w.cell? ⟨g,o+1,none⟩=some (.int .i64 u0.N)) (e02:w.cell? ⟨g,o+2,none⟩=some (.slice p0 n0 q0)) (s0:HsQ P w 5 p0 n0 u0.A) (r0:∃ m,Qai 6 u0=some m) (u1:Tr) (p1:Option Addr) (n1 q1:Nat) (e10:w.cell? ⟨g,o+3,none⟩=some (.int .i64 u1.K)) (e11:w.cell? ⟨g,o+3+1,none⟩=some (.int .i64 u1.N)) (e12:w.cell? ⟨g,o+3+2,none⟩=some (.slice p1 n1 q1)) (s1:HsQ P w 5 p1 n1 u1.A) (r1:∃ m,Qai 6 u1=some m) :
 Calls Try.prog 81 #[.agg #[.int .i64 t.K,.int .i64 t.N,.string t.S,.string t.Z,.int .i64 t.T.K,.int .i64 t.T.N,.slice a1 l1 c1,.slice a2 l2 c2,.slice a3 l3 c3],.slice (some ⟨g,o,none⟩) 2 cap] w fun e w'=>WhQ P w e w':=by
 obtain⟨X,hX⟩:∃ X,X=(w.alloc (.cells #[.int .i64 t.K,.int .i64 t.N,.string t.S,.string t.Z,.int .i64 t.T.K,.int .i64 t.T.N,.slice a1 l1 c1,.slice a2 l2 c2,.slice a3 l3 c3] 29)).alloc (.cells #[.int .i64 0,.int .i64 0,.slice none 0 0] 26):=⟨_,rfl⟩
 have hXs:X.heap.size=w.heap.size+2:=by rw [hX];simp
 have hXb:Below w.heap.size w X:=by rw [hX];exact ((Below.refl _ _).alloc (Nat.le_refl _) _).alloc (by simp) _
 have hX0:X.heap[w.heap.size]?=some (.cells #[.int .i64 t.K,.int .i64 t.N,.string t.S,.string t.Z,.int .i64 t.T.K,.int .i64 t.T.N,.slice a1 l1 c1,.slice a2 l2 c2,.slice a3 l3 c3] 29 (0,0)):=by rw [hX,Below.heap_alloc _ _ _ (by simp)];exact Qac rfl
 have hX1:X.heap[w.heap.size+1]?=some (.cells #[.int .i64 0,.int .i64 0,.slice none 0 0] 26 (0,0)):=by rw [hX];exact Qac (by simp)
 rw [hK] at hX0 hX ⊢
 have kX:Kr X (w.heap.size+1) X:=⟨Nat.le_refl _,rfl,rfl,rfl,fun _ _ _=>rfl,_,_,_,hX1⟩
 have HX:Hid (X=_):=hX
 have HKW:Hid (∀ W,Kr X (w.heap.size+1) W->∀ k,k<w.heap.size->W.heap[k]?=w.heap[k]?):=fun W hW k hk=>(hW.blk k (by omega) (by omega)).trans (hXb.block k hk)
 have HSZ:Hid (∀ W,Kr X (w.heap.size+1) W->w.heap.size≤W.heap.size):=fun W hW=>by have:=hW.size;omega
 have HBW:Hid (∀ W,Kr X (w.heap.size+1) W->Below w.heap.size w W):=fun W hW=>⟨hW.os.trans hXb.os,hW.tape.trans hXb.tape,hW.output.trans hXb.output,HSZ.out W hW,fun k hk=>HKW.out W hW k hk⟩
 have HPW:Hid (∀ W,Kr X (w.heap.size+1) W->∀ k,W.heap.size≤k->(fun k=>P k∧k≠w.heap.size+1) k):=fun W hW k hk=>⟨hPn k (by have:=HSZ.out W hW;omega),by have:=hW.size;omega⟩
 have HT:Hid (∀ W,Kr X (w.heap.size+1) W->HsQ (fun k=>P k∧k≠w.heap.size+1) W 8 a1 l1 t.T.A):=fun W hW=>(hT.keep (fun k _ hk=>HKW.out W hW k hk) (fun k h hk=>⟨h,by omega⟩) (HSZ.out W hW)).deeper (by omega)
 have H0:Hid (∀ W,Kr X (w.heap.size+1) W->HsQ (fun k=>P k∧k≠w.heap.size+1) W 8 p0 n0 u0.A):=fun W hW=>(s0.keep (fun k _ hk=>HKW.out W hW k hk) (fun k h hk=>⟨h,by omega⟩) (HSZ.out W hW)).deeper (by omega)
 have H1:Hid (∀ W,Kr X (w.heap.size+1) W->HsQ (fun k=>P k∧k≠w.heap.size+1) W 8 p1 n1 u1.A):=fun W hW=>(s1.keep (fun k _ hk=>HKW.out W hW k hk) (fun k h hk=>⟨h,by omega⟩) (HSZ.out W hW)).deeper (by omega)
 have HC:Hid (∀ W,Kr X (w.heap.size+1) W->W.cell? ⟨w.heap.size,0,none⟩=some (.int .i64 15)∧W.cell? ⟨w.heap.size,1,none⟩=some (.int .i64 t.N)∧W.cell? ⟨w.heap.size,4,none⟩=some (.int .i64 t.T.K)∧W.cell? ⟨w.heap.size,5,none⟩=some (.int .i64 t.T.N)∧W.cell? ⟨w.heap.size,6,none⟩=some (.slice a1 l1 c1)∧W.cell? ⟨g,o,none⟩=some (.int .i64 u0.K)∧W.cell? ⟨g,o+1,none⟩=some (.int .i64 u0.N)∧W.cell? ⟨g,o+2,none⟩=some (.slice p0 n0 q0)∧W.cell? ⟨g,o+3,none⟩=some (.int .i64 u1.K)∧W.cell? ⟨g,o+3+1,none⟩=some (.int .i64 u1.N)∧W.cell? ⟨g,o+3+2,none⟩=some (.slice p1 n1 q1)):=fun W hW=>by
  have r:=(hW.blk w.heap.size (by omega) (by omega)).trans hX0
  exact⟨Qaa r 0,Qaa r 1,Qaa r 4,Qaa r 5,Qaa r 6,(World.cell?_of_block (HKW.out W hW g hg)).trans e00,(World.cell?_of_block (HKW.out W hW g hg)).trans e01,(World.cell?_of_block (HKW.out W hW g hg)).trans e02,(World.cell?_of_block (HKW.out W hW g hg)).trans e10,(World.cell?_of_block (HKW.out W hW g hg)).trans e11,(World.cell?_of_block (HKW.out W hW g hg)).trans e12⟩
 obtain⟨x0,x1,x4,x5,x6,f00,f01,f02,f10,f11,f12⟩:=HC.out X kX
 have hrX:w.heap.size+1<X.heap.size:=by omega
 have k0:Kr X (w.heap.size+1) X.drew:=kX.drew
 have hgX:g<X.heap.size:=by omega
 have hgr:g≠w.heap.size+1:=by omega
 have hgr2:w.heap.size+1≠g:=by omega
 clear hX hXs hXb hX0 e00 e01 e02 e10 e11 e12 hK
 obtain⟨z0,z1,z2⟩:=Qaf hX1
 have zf:=Qad hX1
 by_cases hN:3<t.N
 · cases hq:(u0.K==1)
   · go_enter Try.func81,Try.ntmps81
     go_wp2_with fail
     rw [← HX.out]
     first
      | (go_region_law (first
          | (go_simp;go_at_call 36;(with_reducible refine Calls.mono (l3Bool_q _) ?_);rintro e v2 ⟨rfl,hb⟩;have k2:=Kr.below (X:=X) (r:=w.heap.size+1) (by (repeat (first|with_reducible exact k2|with_reducible exact k0|with_reducible refine Kr.set ?_ _ _|with_reducible refine Kr.drew ?_|with_reducible refine Kr.drewN ?_))) hb;clear z0 z1 z2 zf;obtain⟨zc0,zc1,zc2,zb⟩:=k2.box;obtain⟨z0,z1,z2⟩:=Qaf zb;have zf:=Qad zb;obtain⟨x0,x1,x4,x5,x6,f00,f01,f02,f10,f11,f12⟩:=HC.out v2 k2)))
      | fail
     all_goals
      go_wp2_with fail
      refine bodyPost_ret (v:=.tuple #[.agg #[.int .i64 2,.int .i64 0,.slice none 0 0],.bool false]) (by simp [results,Try.results81,go_sem,z0,z1,z2]) rfl ⟨⟨_,_,_,⟨2,0,[]⟩,_,rfl,HsQ.mono (P:=(fun k=>P k∧k≠w.heap.size+1)) (fun _ h _=>And.left h) (HsQ.nil (fun k=>P k∧k≠w.heap.size+1) _ _ _)⟩,HBW.out _ (by (repeat (first|with_reducible exact k2|with_reducible exact k0|with_reducible refine Kr.set ?_ _ _|with_reducible refine Kr.drew ?_|with_reducible refine Kr.drewN ?_)))⟩
   · cases hq1:(u1.K==1)
     · go_enter Try.func81,Try.ntmps81
       go_wp2_with fail
       rw [← HX.out]
       go_region_held3 (fun W=>W.cell? ⟨w.heap.size,0,none⟩=some (.int .i64 15)∧W.cell? ⟨w.heap.size,1,none⟩=some (.int .i64 t.N)∧W.cell? ⟨w.heap.size,4,none⟩=some (.int .i64 t.T.K)∧W.cell? ⟨w.heap.size,5,none⟩=some (.int .i64 t.T.N)∧W.cell? ⟨w.heap.size,6,none⟩=some (.slice a1 l1 c1)∧W.cell? ⟨g,o,none⟩=some (.int .i64 u0.K)∧W.cell? ⟨g,o+1,none⟩=some (.int .i64 u0.N)∧W.cell? ⟨g,o+2,none⟩=some (.slice p0 n0 q0)∧W.cell? ⟨g,o+3,none⟩=some (.int .i64 u1.K)∧W.cell? ⟨g,o+3+1,none⟩=some (.int .i64 u1.N)∧W.cell? ⟨g,o+3+2,none⟩=some (.slice p1 n1 q1))
        (first|with_reducible exact HC.out _ k2|with_reducible exact HC.out _ k0|(with_reducible refine HC.out _ ?_;(repeat (first|with_reducible exact k2|with_reducible exact k0|with_reducible refine Kr.set ?_ _ _|with_reducible refine Kr.drew ?_|with_reducible refine Kr.drewN ?_))))
        (first
       | (go_at_call 36;(with_reducible refine Calls.mono (l3Bool_q _) ?_);rintro e v2 ⟨rfl,hb⟩;have k2:=Kr.below (X:=X) (r:=w.heap.size+1) (by (repeat (first|with_reducible exact k2|with_reducible exact k0|with_reducible refine Kr.set ?_ _ _|with_reducible refine Kr.drew ?_|with_reducible refine Kr.drewN ?_))) hb;clear z0 z1 z2 zf;obtain⟨zc0,zc1,zc2,zb⟩:=k2.box;obtain⟨z0,z1,z2⟩:=Qaf zb;have zf:=Qad zb))
       all_goals
        go_wp2_with fail
        refine bodyPost_ret (v:=.tuple #[.agg #[.int .i64 2,.int .i64 0,.slice none 0 0],.bool false]) (by simp [results,Try.results81,go_sem,z0,z1,z2]) rfl ⟨⟨_,_,_,⟨2,0,[]⟩,_,rfl,HsQ.mono (P:=(fun k=>P k∧k≠w.heap.size+1)) (fun _ h _=>And.left h) (HsQ.nil (fun k=>P k∧k≠w.heap.size+1) _ _ _)⟩,HBW.out _ (by (repeat (first|with_reducible exact k2|with_reducible exact k0|with_reducible refine Kr.set ?_ _ _|with_reducible refine Kr.drew ?_|with_reducible refine Kr.drewN ?_)))⟩
     · go_enter Try.func81,Try.ntmps81
       go_wp2_with fail
       rw [← HX.out]
       go_region_held3 (fun W=>W.cell? ⟨w.heap.size,0,none⟩=some (.int .i64 15)∧W.cell? ⟨w.heap.size,1,none⟩=some (.int .i64 t.N)∧W.cell? ⟨w.heap.size,4,none⟩=some (.int .i64 t.T.K)∧W.cell? ⟨w.heap.size,5,none⟩=some (.int .i64 t.T.N)∧W.cell? ⟨w.heap.size,6,none⟩=some (.slice a1 l1 c1)∧W.cell? ⟨g,o,none⟩=some (.int .i64 u0.K)∧W.cell? ⟨g,o+1,none⟩=some (.int .i64 u0.N)∧W.cell? ⟨g,o+2,none⟩=some (.slice p0 n0 q0)∧W.cell? ⟨g,o+3,none⟩=some (.int .i64 u1.K)∧W.cell? ⟨g,o+3+1,none⟩=some (.int .i64 u1.N)∧W.cell? ⟨g,o+3+2,none⟩=some (.slice p1 n1 q1))
        (first|with_reducible exact HC.out _ k2|with_reducible exact HC.out _ k0|(with_reducible refine HC.out _ ?_;(repeat (first|with_reducible exact k2|with_reducible exact k0|with_reducible refine Kr.set ?_ _ _|with_reducible refine Kr.drew ?_|with_reducible refine Kr.drewN ?_))))
        (first
       | (go_at_call 36;(with_reducible refine Calls.mono (l3Bool_q _) ?_);rintro e v2 ⟨rfl,hb⟩;have k2:=Kr.below (X:=X) (r:=w.heap.size+1) (by (repeat (first|with_reducible exact k2|with_reducible exact k0|with_reducible refine Kr.set ?_ _ _|with_reducible refine Kr.drew ?_|with_reducible refine Kr.drewN ?_))) hb;clear z0 z1 z2 zf;obtain⟨zc0,zc1,zc2,zb⟩:=k2.box;obtain⟨z0,z1,z2⟩:=Qaf zb;have zf:=Qad zb))
       all_goals
        go_wp2_with fail
        refine bodyPost_ret (v:=.tuple #[.agg #[.int .i64 2,.int .i64 0,.slice none 0 0],.bool true]) (by simp [results,Try.results81,go_sem,z0,z1,z2]) rfl ⟨⟨_,_,_,⟨2,0,[]⟩,_,rfl,HsQ.mono (P:=(fun k=>P k∧k≠w.heap.size+1)) (fun _ h _=>And.left h) (HsQ.nil (fun k=>P k∧k≠w.heap.size+1) _ _ _)⟩,HBW.out _ (by (repeat (first|with_reducible exact k2|with_reducible exact k0|with_reducible refine Kr.set ?_ _ _|with_reducible refine Kr.drew ?_|with_reducible refine Kr.drewN ?_)))⟩
 · cases hq:(u0.K==1)
   · go_enter Try.func81,Try.ntmps81
     go_wp2_with fail
     rw [← HX.out]
     first
      | (go_region_law (first
          | (go_simp;go_at_call 35;(with_reducible refine Calls.mono (l3Int_q _) ?_);rintro e v2 ⟨rfl,hb⟩;have k2:=Kr.below (X:=X) (r:=w.heap.size+1) (by (repeat (first|with_reducible exact k2|with_reducible exact k0|with_reducible refine Kr.set ?_ _ _|with_reducible refine Kr.drew ?_|with_reducible refine Kr.drewN ?_))) hb;clear z0 z1 z2 zf;obtain⟨zc0,zc1,zc2,zb⟩:=k2.box;obtain⟨z0,z1,z2⟩:=Qaf zb;have zf:=Qad zb;obtain⟨x0,x1,x4,x5,x6,f00,f01,f02,f10,f11,f12⟩:=HC.out v2 k2)))
      | fail
     all_goals
      go_wp2_with fail
      refine bodyPost_ret (v:=.tuple #[.agg #[.int .i64 1,.int .i64 0,.slice none 0 0],.bool false]) (by simp [results,Try.results81,go_sem,z0,z1,z2]) rfl ⟨⟨_,_,_,⟨1,0,[]⟩,_,rfl,HsQ.mono (P:=(fun k=>P k∧k≠w.heap.size+1)) (fun _ h _=>And.left h) (HsQ.nil (fun k=>P k∧k≠w.heap.size+1) _ _ _)⟩,HBW.out _ (by (repeat (first|with_reducible exact k2|with_reducible exact k0|with_reducible refine Kr.set ?_ _ _|with_reducible refine Kr.drew ?_|with_reducible refine Kr.drewN ?_)))⟩
   · cases hq1:(u1.K==1)
     · go_enter Try.func81,Try.ntmps81
       go_wp2_with fail
       rw [← HX.out]
       go_region_held3 (fun W=>W.cell? ⟨w.heap.size,0,none⟩=some (.int .i64 15)∧W.cell? ⟨w.heap.size,1,none⟩=some (.int .i64 t.N)∧W.cell? ⟨w.heap.size,4,none⟩=some (.int .i64 t.T.K)∧W.cell? ⟨w.heap.size,5,none⟩=some (.int .i64 t.T.N)∧W.cell? ⟨w.heap.size,6,none⟩=some (.slice a1 l1 c1)∧W.cell? ⟨g,o,none⟩=some (.int .i64 u0.K)∧W.cell? ⟨g,o+1,none⟩=some (.int .i64 u0.N)∧W.cell? ⟨g,o+2,none⟩=some (.slice p0 n0 q0)∧W.cell? ⟨g,o+3,none⟩=some (.int .i64 u1.K)∧W.cell? ⟨g,o+3+1,none⟩=some (.int .i64 u1.N)∧W.cell? ⟨g,o+3+2,none⟩=some (.slice p1 n1 q1))
        (first|with_reducible exact HC.out _ k2|with_reducible exact HC.out _ k0|(with_reducible refine HC.out _ ?_;(repeat (first|with_reducible exact k2|with_reducible exact k0|with_reducible refine Kr.set ?_ _ _|with_reducible refine Kr.drew ?_|with_reducible refine Kr.drewN ?_))))
        (first
       | (go_at_call 35;(with_reducible refine Calls.mono (l3Int_q _) ?_);rintro e v2 ⟨rfl,hb⟩;have k2:=Kr.below (X:=X) (r:=w.heap.size+1) (by (repeat (first|with_reducible exact k2|with_reducible exact k0|with_reducible refine Kr.set ?_ _ _|with_reducible refine Kr.drew ?_|with_reducible refine Kr.drewN ?_))) hb;clear z0 z1 z2 zf;obtain⟨zc0,zc1,zc2,zb⟩:=k2.box;obtain⟨z0,z1,z2⟩:=Qaf zb;have zf:=Qad zb))
       all_goals
        go_wp2_with fail
        refine bodyPost_ret (v:=.tuple #[.agg #[.int .i64 1,.int .i64 0,.slice none 0 0],.bool false]) (by simp [results,Try.results81,go_sem,z0,z1,z2]) rfl ⟨⟨_,_,_,⟨1,0,[]⟩,_,rfl,HsQ.mono (P:=(fun k=>P k∧k≠w.heap.size+1)) (fun _ h _=>And.left h) (HsQ.nil (fun k=>P k∧k≠w.heap.size+1) _ _ _)⟩,HBW.out _ (by (repeat (first|with_reducible exact k2|with_reducible exact k0|with_reducible refine Kr.set ?_ _ _|with_reducible refine Kr.drew ?_|with_reducible refine Kr.drewN ?_)))⟩
     · go_enter Try.func81,Try.ntmps81
       go_wp2_with fail
       rw [← HX.out]
       go_region_held3 (fun W=>W.cell? ⟨w.heap.size,0,none⟩=some (.int .i64 15)∧W.cell? ⟨w.heap.size,1,none⟩=some (.int .i64 t.N)∧W.cell? ⟨w.heap.size,4,none⟩=some (.int .i64 t.T.K)∧W.cell? ⟨w.heap.size,5,none⟩=some (.int .i64 t.T.N)∧W.cell? ⟨w.heap.size,6,none⟩=some (.slice a1 l1 c1)∧W.cell? ⟨g,o,none⟩=some (.int .i64 u0.K)∧W.cell? ⟨g,o+1,none⟩=some (.int .i64 u0.N)∧W.cell? ⟨g,o+2,none⟩=some (.slice p0 n0 q0)∧W.cell? ⟨g,o+3,none⟩=some (.int .i64 u1.K)∧W.cell? ⟨g,o+3+1,none⟩=some (.int .i64 u1.N)∧W.cell? ⟨g,o+3+2,none⟩=some (.slice p1 n1 q1))
        (first|with_reducible exact HC.out _ k2|with_reducible exact HC.out _ k0|(with_reducible refine HC.out _ ?_;(repeat (first|with_reducible exact k2|with_reducible exact k0|with_reducible refine Kr.set ?_ _ _|with_reducible refine Kr.drew ?_|with_reducible refine Kr.drewN ?_))))
        (first
       | (go_at_call 35;(with_reducible refine Calls.mono (l3Int_q _) ?_);rintro e v2 ⟨rfl,hb⟩;have k2:=Kr.below (X:=X) (r:=w.heap.size+1) (by (repeat (first|with_reducible exact k2|with_reducible exact k0|with_reducible refine Kr.set ?_ _ _|with_reducible refine Kr.drew ?_|with_reducible refine Kr.drewN ?_))) hb;clear z0 z1 z2 zf;obtain⟨zc0,zc1,zc2,zb⟩:=k2.box;obtain⟨z0,z1,z2⟩:=Qaf zb;have zf:=Qad zb))
       all_goals
        go_wp2_with fail
        refine bodyPost_ret (v:=.tuple #[.agg #[.int .i64 1,.int .i64 0,.slice none 0 0],.bool true]) (by simp [results,Try.results81,go_sem,z0,z1,z2]) rfl ⟨⟨_,_,_,⟨1,0,[]⟩,_,rfl,HsQ.mono (P:=(fun k=>P k∧k≠w.heap.size+1)) (fun _ h _=>And.left h) (HsQ.nil (fun k=>P k∧k≠w.heap.size+1) _ _ _)⟩,HBW.out _ (by (repeat (first|with_reducible exact k2|with_reducible exact k0|with_reducible refine Kr.set ?_ _ _|with_reducible refine Kr.drew ?_|with_reducible refine Kr.drewN ?_)))⟩
theorem WhQ.mono {P P':Nat->Prop} {w w':World} {e:Ending} (hP:∀ k,P k->P' k) (h:WhQ P w e w'):WhQ P' w e w':=by
 obtain⟨⟨ao,len,cap,u,b,he,hs⟩,hb⟩:=h
 exact⟨⟨ao,len,cap,u,b,he,hs.mono fun k hk _=>hP k hk⟩,hb⟩
theorem hsq_own {P:Nat->Prop} {w:World} {D:Nat} {t:Tm} (hn:Qaz t=true) {ao:Option Addr} {len:Nat} (hs:HsQ P w D ao len t.T.A):HsQ P w 5 ao len t.T.A:=by
 unfold Qaz at hn
 simp only [Bool.and_eq_true] at hn
 have ht:=hn.2
 unfold Qdh at ht
 simp only [Bool.and_eq_true] at ht
 have h1:=ht.1.1
 split at h1
 · obtain⟨m,hm⟩:=Qcx h1
   exact hs.low 5 _ m hm
 · unfold zeroT at h1
   simp only [Bool.and_eq_true,beq_iff_eq] at h1
   have:t.T.A=[]:=List.length_eq_zero_iff.1 (by have:=h1.2;omega)
   rw [this] at hs ⊢
   obtain rfl:len=0:=hs.len.1
   exact HsQ.nil _ _ _ _
set_option maxHeartbeats 1000000 in
theorem l3Whole_q (P:Nat->Prop) (t:Tm) (a1:Option Addr) (l1 c1:Nat) (a2:Option Addr) (l2 c2:Nat) (a3:Option Addr) (l3 c3:Nat) (base:Nat) (v:Value) (us:List Tr) (w:World) (hPn:∀ k,w.heap.size≤k->P k) (hn:Qaz t=true) (h3:t.K≠3)
 (hT:HsQ (fun k=>P k∧v.ownBlock≠some k) w 5 a1 l1 t.T.A) (hv:YRow P base w 5 v us) (hl:us.length=t.A.length) (hR:∀ u∈us,∃ m,Qai 6 u=some m) :
 Calls Try.prog 81 #[.agg #[.int .i64 t.K,.int .i64 t.N,.string t.S,.string t.Z,.int .i64 t.T.K,.int .i64 t.T.N,.slice a1 l1 c1,.slice a2 l2 c2,.slice a3 l3 c3],v] w fun e w'=>WhQ P w e w':=by
 obtain⟨k1,k17,hA⟩:=Qbe hn
 have hPn':∀ k,w.heap.size≤k->P k∧v.ownBlock≠some k:=fun k hk=>⟨hPn k hk,fun e=>by have:=(Qdv hv e).2;omega⟩
 have hmono:∀ {e:Ending} {w':World},WhQ (fun k=>P k∧v.ownBlock≠some k) w e w'->WhQ P w e w':=fun h=>h.mono fun k hk=>hk.1
 rw [← hl] at hA
 have hsh:shP t.K=us.length:=hA.symm
 have key:us=[]∨(∃ u0,us=[u0])∨(∃ u0 u1,us=[u0,u1])∨(∃ u0 u1 u2,us=[u0,u1,u2]):=by
  have hb:=shP_bd t.K
  match us,(show us.length≤3 by omega) with
  | [],_=>exact Or.inl rfl
  | [u0],_=>exact Or.inr (Or.inl ⟨u0,rfl⟩)
  | [u0,u1],_=>exact Or.inr (Or.inr (Or.inl ⟨u0,u1,rfl⟩))
  | [u0,u1,u2],_=>exact Or.inr (Or.inr (Or.inr ⟨u0,u1,u2,rfl⟩))
  | _::_::_::_::_,h=>simp at h
 rcases key with rfl|⟨u0,rfl⟩|⟨u0,u1,rfl⟩|⟨u0,u1,u2,rfl⟩
 · obtain⟨ao,cap,rfl⟩:=yrow_form hv
   have hk:t.K=1∨t.K=2∨t.K=12:=by
    unfold shP at hsh
    simp only [List.length_nil] at hsh
    (repeat' split at hsh) <;> omega
   rcases hk with hk|hk|hk
   · exact (whole_1 _ t a1 l1 c1 a2 l2 c2 a3 l3 c3 cap w hPn' hk hT ao).mono fun e w' h=>hmono h
   · exact (whole_2 _ t a1 l1 c1 a2 l2 c2 a3 l3 c3 cap w hPn' hk hT ao).mono fun e w' h=>hmono h
   · exact (whole_12 _ t a1 l1 c1 a2 l2 c2 a3 l3 c3 cap w hPn' hk hT ao).mono fun e w' h=>hmono h
 · obtain⟨g,cap,rfl,_,hg,p0,n0,q0,e00,e01,e02,s0⟩:=yrow_at hv 0 (by simp)
   have r0:=hR u0 (by simp)
   have hk:t.K=4∨t.K=10∨t.K=11∨t.K=16:=by
    unfold shP at hsh
    simp only [List.length_cons,List.length_nil] at hsh
    (repeat' split at hsh) <;> omega
   rcases hk with hk|hk|hk|hk
   · exact (whole_4 _ t a1 l1 c1 a2 l2 c2 a3 l3 c3 cap w hPn' hk hT g 0 hg u0 p0 n0 q0 e00 e01 e02 s0 r0).mono fun e w' h=>hmono h
   · exact (whole_10 _ t a1 l1 c1 a2 l2 c2 a3 l3 c3 cap w hPn' hk hT g 0 hg u0 p0 n0 q0 e00 e01 e02 s0 r0).mono fun e w' h=>hmono h
   · exact (whole_11 _ t a1 l1 c1 a2 l2 c2 a3 l3 c3 cap w hPn' hk hT g 0 hg u0 p0 n0 q0 e00 e01 e02 s0 r0).mono fun e w' h=>hmono h
   · exact (whole_16 _ t a1 l1 c1 a2 l2 c2 a3 l3 c3 cap w hPn' hk hT g 0 hg u0 p0 n0 q0 e00 e01 e02 s0 r0).mono fun e w' h=>hmono h
 · obtain⟨g,cap,rfl,_,hg,p0,n0,q0,e00,e01,e02,s0⟩:=yrow_at hv 0 (by simp)
   obtain⟨g',cap',eg,_,_,p1,n1,q1,e10,e11,e12,s1⟩:=yrow_at hv 1 (by simp)
   cases eg
   have r0:=hR u0 (by simp)
   have r1:=hR u1 (by simp)
   have hk:t.K=5∨t.K=6∨t.K=7∨t.K=9∨t.K=13∨t.K=15∨t.K=17:=by
    unfold shP at hsh
    simp only [List.length_cons,List.length_nil] at hsh
    (repeat' split at hsh) <;> omega
   rcases hk with hk|hk|hk|hk|hk|hk|hk
   · exact (whole_5 _ t a1 l1 c1 a2 l2 c2 a3 l3 c3 cap w hPn' hk hT g 0 hg u0 p0 n0 q0 e00 e01 e02 s0 r0 u1 p1 n1 q1 e10 e11 e12 s1 r1).mono fun e w' h=>hmono h
   · exact (whole_6 _ t a1 l1 c1 a2 l2 c2 a3 l3 c3 cap w hPn' hk hT g 0 hg u0 p0 n0 q0 e00 e01 e02 s0 r0 u1 p1 n1 q1 e10 e11 e12 s1 r1).mono fun e w' h=>hmono h
   · exact (whole_7 _ t a1 l1 c1 a2 l2 c2 a3 l3 c3 cap w hPn' hk hT g 0 hg u0 p0 n0 q0 e00 e01 e02 s0 r0 u1 p1 n1 q1 e10 e11 e12 s1 r1).mono fun e w' h=>hmono h
   · exact (whole_9 _ t a1 l1 c1 a2 l2 c2 a3 l3 c3 cap w hPn' hk hT g 0 hg u0 p0 n0 q0 e00 e01 e02 s0 r0 u1 p1 n1 q1 e10 e11 e12 s1 r1).mono fun e w' h=>hmono h
   · exact (whole_13 _ t a1 l1 c1 a2 l2 c2 a3 l3 c3 cap w hPn' hk hT g 0 hg u0 p0 n0 q0 e00 e01 e02 s0 r0 u1 p1 n1 q1 e10 e11 e12 s1 r1).mono fun e w' h=>hmono h
   · exact (whole_15 _ t a1 l1 c1 a2 l2 c2 a3 l3 c3 cap w hPn' hk hT g 0 hg u0 p0 n0 q0 e00 e01 e02 s0 r0 u1 p1 n1 q1 e10 e11 e12 s1 r1).mono fun e w' h=>hmono h
   · exact (whole_17 _ t a1 l1 c1 a2 l2 c2 a3 l3 c3 cap w hPn' hk hT g 0 hg u0 p0 n0 q0 e00 e01 e02 s0 r0 u1 p1 n1 q1 e10 e11 e12 s1 r1).mono fun e w' h=>hmono h
 · obtain⟨g,cap,rfl,_,hg,p0,n0,q0,e00,e01,e02,s0⟩:=yrow_at hv 0 (by simp)
   obtain⟨g',cap',eg,_,_,p1,n1,q1,e10,e11,e12,s1⟩:=yrow_at hv 1 (by simp)
   cases eg
   obtain⟨g',cap',eg,_,_,p2,n2,q2,e20,e21,e22,s2⟩:=yrow_at hv 2 (by simp)
   cases eg
   have r0:=hR u0 (by simp)
   have r1:=hR u1 (by simp)
   have r2:=hR u2 (by simp)
   have hk:t.K=8∨t.K=14:=by
    unfold shP at hsh
    simp only [List.length_cons,List.length_nil] at hsh
    (repeat' split at hsh) <;> omega
   rcases hk with hk|hk
   · exact (whole_8 _ t a1 l1 c1 a2 l2 c2 a3 l3 c3 cap w hPn' hk hT g 0 hg u0 p0 n0 q0 e00 e01 e02 s0 r0 u1 p1 n1 q1 e10 e11 e12 s1 r1 u2 p2 n2 q2 e20 e21 e22 s2 r2).mono fun e w' h=>hmono h
   · exact (whole_14 _ t a1 l1 c1 a2 l2 c2 a3 l3 c3 cap w hPn' hk hT g 0 hg u0 p0 n0 q0 e00 e01 e02 s0 r0 u1 p1 n1 q1 e10 e11 e12 s1 r1 u2 p2 n2 q2 e20 e21 e22 s2 r2).mono fun e w' h=>hmono h
open Go.RowKit Go.PlainAid
def inB (x a b:Int):Bool:=decide (a≤x∧x≤b)
set_option maxHeartbeats 400000 in
theorem Qdq (x a b:Int) (w:World):Calls Try.prog 94 #[.int .i64 x,.int .i64 a,.int .i64 b] w fun e w'=>e=.returned (.bool (inB x a b))∧w'=w:=by
 by_cases h:a≤x
 all_goals
  go_enter Try.func94,Try.ntmps94
  go_wp2
  go_ret
  exact⟨Qak (by unfold inB;rw [Bool.eq_iff_iff];simp;try omega),rfl⟩
def chPl (x:Int):Bool:=isLow x || isDig x
def chF (plain:Bool) (x:Int):Bool:=if plain then chPl x else chOk x
def Qbn (plain:Bool) (s:ByteArray):Bool:=decide (1≤s.size)&&decide (s.size≤8)&&isLow (bt s 0)&&allB s s.size (chF plain)
theorem nameP_false (s:ByteArray):Qbn false s=Qcg s:=rfl
theorem chF_eq (p:Bool) (x:Int):chF p x=(inB x 97 122 || inB x 48 57 || (!p&&!(x != 46))):=by
 cases p
 · show chOk x=_
   have e:(x != 46)=!decide (x=46):=by rw [Bool.eq_iff_iff];simp
   rw [e,Bool.not_not,Bool.not_false,Bool.true_and];rfl
 · show chPl x=_
   rw [Bool.not_true,Bool.false_and,Bool.or_false];rfl
theorem nameP_size {p:Bool} {s:ByteArray} (h:¬ (1≤s.size∧s.size≤8)):Qbn p s=false:=by
 unfold Qbn;rw [Bool.eq_false_iff];intro h1;simp only [Bool.and_eq_true,decide_eq_true_eq] at h1;omega
theorem nameP_first {p:Bool} {s:ByteArray} (h:isLow (bt s 0)=false):Qbn p s=false:=by simp [Qbn,h]
theorem nameP_all {p:Bool} {s:ByteArray} (h1:1≤s.size) (h8:s.size≤8) (h:isLow (bt s 0)=true):Qbn p s=allB s s.size (chF p):=by simp [Qbn,h1,h8,h]
set_option maxHeartbeats 1000000 in
theorem Qbm (p:Bool) (s:ByteArray) (w:World) (hs:s.size≤9223372036854775807):Calls Try.prog 87 #[.string s,.bool p] w fun e w'=>e=.returned (.bool (Qbn p s))∧w'=w:=by
 have hb:=get_bt s
 have hb0:=bt_nonneg s 0
 have hb1:=bt_le s 0
 by_cases h18:1≤s.size∧s.size≤8
 case' neg =>
  have HN:Hid (Qbn p s=false):=nameP_size h18
  have HI:Hid (inB s.size 1 8=false):=by show _=_;unfold inB;rw [decide_eq_false];omega
  go_enter Try.func87,Try.ntmps87
  go_wp2_with (go_at_call 94;refine (Qdq _ _ _ _).mono ?_;rintro e w' ⟨rfl,rfl⟩;rw [HI.out])
  go_ret
  exact⟨Qak HN.out.symm,rfl⟩
 have HI:Hid (inB s.size 1 8=true):=by show _=_;unfold inB;rw [decide_eq_true];omega
 obtain⟨h1,h8⟩:=h18
 cases hlo:isLow (bt s 0)
 · have HN:Hid (Qbn p s=false):=nameP_first hlo
   have HI2:Hid (inB (bt s 0) 97 122=false):=hlo
   clear hlo
   go_enter Try.func87,Try.ntmps87
   go_wp2_with (go_at_call 94;refine (Qdq _ _ _ _).mono ?_;rintro e w' ⟨rfl,rfl⟩;first|rw [HI.out]|rw [HI2.out])
   go_ret
   exact⟨Qak HN.out.symm,rfl⟩
 have HN:Hid (Qbn p s=allB s s.size (chF p)):=nameP_all h1 h8 hlo
 have HI2:Hid (inB (bt s 0) 97 122=true):=hlo
 clear hlo
 go_enter Try.func87,Try.ntmps87
 go_wp2_with (go_at_call 94;refine (Qdq _ _ _ _).mono ?_;rintro e w2 ⟨rfl,hw2⟩;rw [hw2];clear hw2 w2;first|rw [HI.out]|rw [HI2.out])
 go_loopw [5] (fun i wr=>∃ k:Nat,k≤s.size∧i=.int .i64 k∧Hid (allB s k (chF p)=true)∧wr=w) (fun i _=>s.size - (intOf i).toNat)
 case atStart=>exact⟨0,by omega,rfl,rfl,rfl⟩
 case round =>
  obtain⟨k,hk,rfl,HA,rfl⟩:=hrel
  by_cases hlt:k<s.size
  · have HS:Hid (allB s (k+1) (chF p)=(allB s k (chF p)&&(chF p) (bt s k))):=allB_succ s k _
    have HF:Hid ((chF p) (bt s k)=false->allB s s.size (chF p)=false):=fun hf=>allB_false k hlt hf
    have hbk:=bt_nonneg s k
    have hbk2:=bt_le s k
    obtain⟨x,hx⟩:∃ x,x=bt s k:=⟨_,rfl⟩
    have hbk':((s[k]'hlt).toNat:Int)=x:=by rw [hx];exact hb k hlt
    rw [← hx] at HS HF hbk hbk2
    clear hx hb
    have HC:Hid (chF p x=(inB x 97 122 || inB x 48 57 || (!p&&!(x != 46)))):=chF_eq p x
    cases hl:inB x 97 122
    all_goals cases hd:inB x 48 57
    all_goals cases hq:(x != 46)
    all_goals cases p
    all_goals
     have HL:Hid (inB x 97 122=_):=hl
     have HD:Hid (inB x 48 57=_):=hd
     rw [hl,hd,hq] at HC
     clear hl hd
     go_wp2_with (go_at_call 94;refine (Qdq _ _ _ _).mono ?_;rintro e w' ⟨rfl,rfl⟩;first|rw [HL.out]|rw [HD.out])
     first
      | (go_roundw
         case rel=>exact⟨k+1,by omega,by go_num,(by have:=HC.out;show _=_;rw [HS.out,HA.out,this];rfl),(by trivial)⟩
         case measure=>simp [intOf];omega)
      | (go_ret
         exact⟨Qak (by rw [HN.out,HF.out (HC.out.trans rfl)]),rfl⟩)
  · have hke:k=s.size:=by omega
    have HK:Hid (allB s s.size (chF p)=true):=by have:=HA.out;rw [hke] at this;exact this
    clear hke
    go_wp2_with fail
    go_ret
    exact⟨Qak (by rw [HN.out,HK.out]),rfl⟩
end Go.Proofs.Ytleghjgpnefliaa
