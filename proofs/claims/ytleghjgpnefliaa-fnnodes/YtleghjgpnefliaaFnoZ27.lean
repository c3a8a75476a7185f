/-
  What the model's 'l3Part' comes to, given 'l3Type' one level below.
-/
import Derived.Test.YtleghjgpnefliaaFnoTg7a
import Derived.Test.YtleghjgpnefliaaFnoTg7b
import Derived.Test.YtleghjgpnefliaaFnoTg7c
import Derived.Test.YtleghjgpnefliaaFnoTg7d
import Derived.Test.YtleghjgpnefliaaFnoZ21
namespace Go.Proofs.Ytleghjgpnefliaa
open Go.RowKit
set_option linter.unusedVariables false
theorem l3Part_q (n:Nat) (IH:Qdu n) (P:Nat->Prop) (p L B D d m:Nat) (t:Tm) (a1:Option Addr) (l1 c1:Nat) (a2:Option Addr) (l2 c2:Nat) (a3:Option Addr) (l3 c3:Nat) (i:Nat) (u:Tr) (fa:Option Addr) (fl fc:Nat) (v:Value) (es:List Ev) (vs:Int) (w:World) (hp:p<w.heap.size) (hPp:∀ k,P k->p+1≤k) (hPn:∀ k,w.heap.size≤k->P k) (hLB:∀ k,L≤k->k<B->P k) (hB:B≤w.heap.size) (hD:D≤14) (hf:Fm L B w D d t a1 l1 a2 l2 a3 l3) (hm:Qan (n+1) t=some m) (hi:i<t.A.length) (hu:HsQ P w 14 fa fl u.A) (hur:0<i->∃ m,Qai 6 u=some m) (hu6:t.K=14->0<i->u.K=6) (hE:EnQ P w 14 v es) (hR:∀ e∈es,∃ m,Qai 6 e.t=some m) (hl:es.length+2*(n+1)≤900) :
 Calls Try.prog 80 #[.agg #[.int .i64 t.K,.int .i64 t.N,.string t.S,.string t.Z,.int .i64 t.T.K,.int .i64 t.T.N,.slice a1 l1 c1,.slice a2 l2 c2,.slice a3 l3 c3],.int .i64 (i:Int),.agg #[.int .i64 u.K,.int .i64 u.N,.slice fa fl fc],v,.int .i64 vs] w fun e w'=>CkQ P e w'∧Below w.heap.size w w':=by
 obtain⟨_,_,hsh⟩:=Qbe (Qbd hm).1
 by_cases h4:t.K=4
 · have:shP t.K=1:=by rw [h4];decide
   obtain rfl:i=0:=by omega
   exact part_4_0 n IH P p L B D d m t a1 l1 c1 a2 l2 c2 a3 l3 c3 h4 u fa fl fc v es vs w hp hPp hPn hLB hB hD hf hm hi hu hur hE hR hl
 by_cases h6:t.K=6
 · have:shP t.K=2:=by rw [h6];decide
   have:i=0∨i=1:=by omega
   rcases this with rfl|rfl
   · exact part_6_0 n IH P p L B D d m t a1 l1 c1 a2 l2 c2 a3 l3 c3 h6 u fa fl fc v es vs w hp hPp hPn hLB hB hD hf hm hi hu hur hE hR hl
   · exact part_6_1 n IH P p L B D d m t a1 l1 c1 a2 l2 c2 a3 l3 c3 h6 u fa fl fc v es vs w hp hPp hPn hLB hB hD hf hm hi hu hur hE hR hl
 by_cases h7:t.K=7
 · have:shP t.K=2:=by rw [h7];decide
   have:i=0∨i=1:=by omega
   rcases this with rfl|rfl
   · exact part_7_0 n IH P p L B D d m t a1 l1 c1 a2 l2 c2 a3 l3 c3 h7 u fa fl fc v es vs w hp hPp hPn hLB hB hD hf hm hi hu hur hE hR hl
   · exact part_7_1 n IH P p L B D d m t a1 l1 c1 a2 l2 c2 a3 l3 c3 h7 u fa fl fc v es vs w hp hPp hPn hLB hB hD hf hm hi hu hur hE hR hl
 by_cases h17:t.K=17
 · have:shP t.K=2:=by rw [h17];decide
   have:i=0∨i=1:=by omega
   rcases this with rfl|rfl
   · exact part_17_0 n IH P p L B D d m t a1 l1 c1 a2 l2 c2 a3 l3 c3 h17 u fa fl fc v es vs w hp hPp hPn hLB hB hD hf hm hi hu hur hE hR hl
   · exact part_17_1 n IH P p L B D d m t a1 l1 c1 a2 l2 c2 a3 l3 c3 h17 u fa fl fc v es vs w hp hPp hPn hLB hB hD hf hm hi hu hur hE hR hl
 by_cases h14:t.K=14
 · have:shP t.K=3:=by rw [h14];decide
   have:i=0∨i=1∨i=2:=by omega
   rcases this with rfl|rfl|rfl
   · exact part_14_0 n IH P p L B D d m t a1 l1 c1 a2 l2 c2 a3 l3 c3 h14 u fa fl fc v es vs w hp hPp hPn hLB hB hD hf hm hi hu hur hE hR hl
   · exact part_14_1 n IH P p L B D d m t a1 l1 c1 a2 l2 c2 a3 l3 c3 h14 u fa fl fc v es vs w hp hPp hPn hLB hB hD hf hm hi hu hur hE hR hl
   · exact part_14_2 n IH P p L B D d m t a1 l1 c1 a2 l2 c2 a3 l3 c3 h14 u fa fl fc v es vs w hp hPp hPn hLB hB hD hf hm hi hu hur (hu6 h14 (by omega)) hE hR hl
 exact part_x n IH P p L B D d m t a1 l1 c1 a2 l2 c2 a3 l3 c3 h4 h6 h7 h17 h14 i u fa fl fc v es vs w hp hPp hPn hLB hB hD hf hm hi hu hur hE hR hl
set_option linter.unusedSimpArgs false
set_option maxRecDepth 100000 in
set_option maxHeartbeats 4000000 in
theorem whole_1 (P:Nat->Prop) (t:Tm) (a1:Option Addr) (l1 c1:Nat) (a2:Option Addr) (l2 c2:Nat) (a3:Option Addr) (l3 c3:Nat) (cap:Nat) (w:World) (hPn:∀ k,w.heap.size≤k->P k) (hK:t.K=1) (hT:HsQ P w 5 a1 l1 t.T.A) (ao:Option Addr) :
 Calls Try.prog 81 #[.agg #[.int .i64 t.K,.int .i64 t.N,.string t.S,.string t.Z,.int .i64 t.T.K,.int .i64 t.T.N,.slice a1 l1 c1,.slice a2 l2 c2,.slice a3 l3 c3],.slice ao 0 cap] w fun e w'=>WhQ P w e w':=by
 obtain⟨X,hX⟩:∃ X,X=(w.alloc (.cells #[.int .i64 t.K,.int .i64 t.N,.string t.S,.string t.Z,.int .i64 t.T.K,.int .i64 t.T.N,.slice a1 l1 c1,.slice a2 l2 c2,.slice a3 l3 c3] 29)).alloc (.cells #[.int .i64 0,.int .i64 0,.slice none 0 0] 26):=⟨_,rfl⟩
 have hXs:X.heap.size=w.heap.size+2:=by rw [hX];simp
 have hXb:Below w.heap.size w X:=by rw [hX];exact ((Below.refl _ _).alloc (Nat.le_refl _) _).alloc (by simp) _
 have hX0:X.heap[w.heap.size]?=some (.cells #[.int .i64 t.K,.int .i64 t.N,.string t.S,.string t.Z,.int .i64 t.T.K,.int .i64 t.T.N,.slice a1 l1 c1,.slice a2 l2 c2,.slice a3 l3 c3] 29 (0,0)):=by rw [hX,Below.heap_alloc _ _ _ (by simp)];exact Qac rfl
 have hX1:X.heap[w.heap.size+1]?=some (.cells #[.int .i64 0,.int .i64 0,.slice none 0 0] 26 (0,0)):=by rw [hX];exact Qac (by simp)
 rw [hK] at hX0 hX ⊢
 have kX:Kr X (w.heap.size+1) X:=⟨Nat.le_refl _,rfl,rfl,rfl,fun _ _ _=>rfl,_,_,_,hX1⟩
 have HX:Hid (X=_):=hX
 have HKW:Hid (∀ W,Kr X (w.heap.size+1) W->∀ k,k<w.heap.size->W.heap[k]?=w.heap[k]?):=fun W hW k hk=>(hW.blk k (by omega) (by omega)).trans (hXb.block k hk)
 have HSZ:Hid (∀ W,Kr X (w.heap.size+1) W->w.heap.size≤W.heap.size):=fun W hW=>by have:=hW.size;omega
 have HBW:Hid (∀ W,Kr X (w.heap.size+1) W->Below w.heap.size w W):=fun W hW=>⟨hW.os.trans hXb.os,hW.tape.trans hXb.tape,hW.output.trans hXb.output,HSZ.out W hW,fun k hk=>HKW.out W hW k hk⟩
 have HPW:Hid (∀ W,Kr X (w.heap.size+1) W->∀ k,W.heap.size≤k->(fun k=>P k∧k≠w.heap.size+1) k):=fun W hW k hk=>⟨hPn k (by have:=HSZ.out W hW;omega),by have:=hW.size;omega⟩
 have HT:Hid (∀ W,Kr X (w.heap.size+1) W->HsQ (fun k=>P k∧k≠w.heap.size+1) W 8 a1 l1 t.T.A):=fun W hW=>(hT.keep (fun k _ hk=>HKW.out W hW k hk) (fun k h hk=>⟨h,by omega⟩) (HSZ.out W hW)).deeper (by omega)
 have HC:Hid (∀ W,Kr X (w.heap.size+1) W->W.cell? ⟨w.heap.size,0,none⟩=some (.int .i64 1)∧W.cell? ⟨w.heap.size,1,none⟩=some (.int .i64 t.N)∧W.cell? ⟨w.heap.size,4,none⟩=some (.int .i64 t.T.K)∧W.cell? ⟨w.heap.size,5,none⟩=some (.int .i64 t.T.N)∧W.cell? ⟨w.heap.size,6,none⟩=some (.slice a1 l1 c1)):=fun W hW=>by
  have r:=(hW.blk w.heap.size (by omega) (by omega)).trans hX0
  exact⟨Qaa r 0,Qaa r 1,Qaa r 4,Qaa r 5,Qaa r 6⟩
 obtain⟨x0,x1,x4,x5,x6⟩:=HC.out X kX
 have hrX:w.heap.size+1<X.heap.size:=by omega
 have k0:Kr X (w.heap.size+1) X.drew:=kX.drew
 go_enter Try.func81,Try.ntmps81
 go_wp2_with fail
 rw [← HX.out]
 refine (l3Int_q X).mono ?_
 rintro e v2 ⟨rfl,hb⟩
 have k2:=kX.below hb
 obtain⟨zc0,zc1,zc2,zb⟩:=k2.box;obtain⟨z0,z1,z2⟩:=Qaf zb;have zf:=Qad zb
 go_wp2_with fail
 refine bodyPost_ret (v:=.tuple #[.agg #[.int .i64 1,.int .i64 0,.slice none 0 0],.bool true]) (by simp [results,Try.results81,go_sem,z0,z1,z2]) rfl ⟨⟨_,_,_,⟨1,0,[]⟩,_,rfl,HsQ.mono (P:=(fun k=>P k∧k≠w.heap.size+1)) (fun _ h _=>And.left h) (HsQ.nil (fun k=>P k∧k≠w.heap.size+1) _ _ _)⟩,HBW.out _ (by (repeat (first|with_reducible exact k2|with_reducible exact k0|with_reducible refine Kr.set ?_ _ _|with_reducible refine Kr.drew ?_|with_reducible refine Kr.drewN ?_)))⟩
set_option maxRecDepth 100000 in
set_option maxHeartbeats 4000000 in
theorem whole_2 (P:Nat->Prop) (t:Tm) (a1:Option Addr) (l1 c1:Nat) (a2:Option Addr) (l2 c2:Nat) (a3:Option Addr) (l3 c3:Nat) (cap:Nat) (w:World) (hPn:∀ k,w.heap.size≤k->P k) (hK:t.K=2) (hT:HsQ P w 5 a1 l1 t.T.A) (ao:Option Addr) :
 Calls Try.prog 81 #[.agg #[.int .i64 t.K,.int .i64 t.N,.string t.S,.string t.Z,.int .i64 t.T.K,.int .i64 t.T.N,.slice a1 l1 c1,.slice a2 l2 c2,.slice a3 l3 c3],.slice ao 0 cap] w fun e w'=>WhQ P w e w':=by
 obtain⟨X,hX⟩:∃ X,X=(w.alloc (.cells #[.int .i64 t.K,.int .i64 t.N,.string t.S,.string t.Z,.int .i64 t.T.K,.int .i64 t.T.N,.slice a1 l1 c1,.slice a2 l2 c2,.slice a3 l3 c3] 29)).alloc (.cells #[.int .i64 0,.int .i64 0,.slice none 0 0] 26):=⟨_,rfl⟩
 have hXs:X.heap.size=w.heap.size+2:=by rw [hX];simp
 have hXb:Below w.heap.size w X:=by rw [hX];exact ((Below.refl _ _).alloc (Nat.le_refl _) _).alloc (by simp) _
 have hX0:X.heap[w.heap.size]?=some (.cells #[.int .i64 t.K,.int .i64 t.N,.string t.S,.string t.Z,.int .i64 t.T.K,.int .i64 t.T.N,.slice a1 l1 c1,.slice a2 l2 c2,.slice a3 l3 c3] 29 (0,0)):=by rw [hX,Below.heap_alloc _ _ _ (by simp)];exact Qac rfl
 have hX1:X.heap[w.heap.size+1]?=some (.cells #[.int .i64 0,.int .i64 0,.slice none 0 0] 26 (0,0)):=by rw [hX];exact Qac (by simp)
 rw [hK] at hX0 hX ⊢
 have kX:Kr X (w.heap.size+1) X:=⟨Nat.le_refl _,rfl,rfl,rfl,fun _ _ _=>rfl,_,_,_,hX1⟩
 have HX:Hid (X=_):=hX
 have HKW:Hid (∀ W,Kr X (w.heap.size+1) W->∀ k,k<w.heap.size->W.heap[k]?=w.heap[k]?):=fun W hW k hk=>(hW.blk k (by omega) (by omega)).trans (hXb.block k hk)
 have HSZ:Hid (∀ W,Kr X (w.heap.size+1) W->w.heap.size≤W.heap.size):=fun W hW=>by have:=hW.size;omega
 have HBW:Hid (∀ W,Kr X (w.heap.size+1) W->Below w.heap.size w W):=fun W hW=>⟨hW.os.trans hXb.os,hW.tape.trans hXb.tape,hW.output.trans hXb.output,HSZ.out W hW,fun k hk=>HKW.out W hW k hk⟩
 have HPW:Hid (∀ W,Kr X (w.heap.size+1) W->∀ k,W.heap.size≤k->(fun k=>P k∧k≠w.heap.size+1) k):=fun W hW k hk=>⟨hPn k (by have:=HSZ.out W hW;omega),by have:=hW.size;omega⟩
 have HT:Hid (∀ W,Kr X (w.heap.size+1) W->HsQ (fun k=>P k∧k≠w.heap.size+1) W 8 a1 l1 t.T.A):=fun W hW=>(hT.keep (fun k _ hk=>HKW.out W hW k hk) (fun k h hk=>⟨h,by omega⟩) (HSZ.out W hW)).deeper (by omega)
 have HC:Hid (∀ W,Kr X (w.heap.size+1) W->W.cell? ⟨w.heap.size,0,none⟩=some (.int .i64 2)∧W.cell? ⟨w.heap.size,1,none⟩=some (.int .i64 t.N)∧W.cell? ⟨w.heap.size,4,none⟩=some (.int .i64 t.T.K)∧W.cell? ⟨w.heap.size,5,none⟩=some (.int .i64 t.T.N)∧W.cell? ⟨w.heap.size,6,none⟩=some (.slice a1 l1 c1)):=fun W hW=>by
  have r:=(hW.blk w.heap.size (by omega) (by omega)).trans hX0
  exact⟨Qaa r 0,Qaa r 1,Qaa r 4,Qaa r 5,Qaa r 6⟩
 obtain⟨x0,x1,x4,x5,x6⟩:=HC.out X kX
 have hrX:w.heap.size+1<X.heap.size:=by omega
 have k0:Kr X (w.heap.size+1) X.drew:=kX.drew
 go_enter Try.func81,Try.ntmps81
 go_wp2_with fail
 rw [← HX.out]
 refine (l3Bool_q X).mono ?_
 rintro e v2 ⟨rfl,hb⟩
 have k2:=kX.below hb
 obtain⟨zc0,zc1,zc2,zb⟩:=k2.box;obtain⟨z0,z1,z2⟩:=Qaf zb;have zf:=Qad zb
 go_wp2_with fail
 refine bodyPost_ret (v:=.tuple #[.agg #[.int .i64 2,.int .i64 0,.slice none 0 0],.bool true]) (by simp [results,Try.results81,go_sem,z0,z1,z2]) rfl ⟨⟨_,_,_,⟨2,0,[]⟩,_,rfl,HsQ.mono (P:=(fun k=>P k∧k≠w.heap.size+1)) (fun _ h _=>And.left h) (HsQ.nil (fun k=>P k∧k≠w.heap.size+1) _ _ _)⟩,HBW.out _ (by (repeat (first|with_reducible exact k2|with_reducible exact k0|with_reducible refine Kr.set ?_ _ _|with_reducible refine Kr.drew ?_|with_reducible refine Kr.drewN ?_)))⟩
set_option maxRecDepth 100000 in
set_option maxHeartbeats 4000000 in
theorem whole_12 (P:Nat->Prop) (t:Tm) (a1:Option Addr) (l1 c1:Nat) (a2:Option Addr) (l2 c2:Nat) (a3:Option Addr) (l3 c3:Nat) (cap:Nat) (w:World) (hPn:∀ k,w.heap.size≤k->P k) (hK:t.K=12) (hT:HsQ P w 5 a1 l1 t.T.A) (ao:Option Addr) :
 Calls Try.prog 81 #[.agg #[.int .i64 t.K,.int .i64 t.N,.string t.S,.string t.Z,.int .i64 t.T.K,.int .i64 t.T.N,.slice a1 l1 c1,.slice a2 l2 c2,.slice a3 l3 c3],.slice ao 0 cap] w fun e w'=>WhQ P w e w':=by
 obtain⟨X,hX⟩:∃ X,X=(w.alloc (.cells #[.int .i64 t.K,.int .i64 t.N,.string t.S,.string t.Z,.int .i64 t.T.K,.int .i64 t.T.N,.slice a1 l1 c1,.slice a2 l2 c2,.slice a3 l3 c3] 29)).alloc (.cells #[.int .i64 0,.int .i64 0,.slice none 0 0] 26):=⟨_,rfl⟩
 have hXs:X.heap.size=w.heap.size+2:=by rw [hX];simp
 have hXb:Below w.heap.size w X:=by rw [hX];exact ((Below.refl _ _).alloc (Nat.le_refl _) _).alloc (by simp) _
 have hX0:X.heap[w.heap.size]?=some (.cells #[.int .i64 t.K,.int .i64 t.N,.string t.S,.string t.Z,.int .i64 t.T.K,.int .i64 t.T.N,.slice a1 l1 c1,.slice a2 l2 c2,.slice a3 l3 c3] 29 (0,0)):=by rw [hX,Below.heap_alloc _ _ _ (by simp)];exact Qac rfl
 have hX1:X.heap[w.heap.size+1]?=some (.cells #[.int .i64 0,.int .i64 0,.slice none 0 0] 26 (0,0)):=by rw [hX];exact Qac (by simp)
 rw [hK] at hX0 hX ⊢
 have kX:Kr X (w.heap.size+1) X:=⟨Nat.le_refl _,rfl,rfl,rfl,fun _ _ _=>rfl,_,_,_,hX1⟩
 have HX:Hid (X=_):=hX
 have HKW:Hid (∀ W,Kr X (w.heap.size+1) W->∀ k,k<w.heap.size->W.heap[k]?=w.heap[k]?):=fun W hW k hk=>(hW.blk k (by omega) (by omega)).trans (hXb.block k hk)
 have HSZ:Hid (∀ W,Kr X (w.heap.size+1) W->w.heap.size≤W.heap.size):=fun W hW=>by have:=hW.size;omega
 have HBW:Hid (∀ W,Kr X (w.heap.size+1) W->Below w.heap.size w W):=fun W hW=>⟨hW.os.trans hXb.os,hW.tape.trans hXb.tape,hW.output.trans hXb.output,HSZ.out W hW,fun k hk=>HKW.out W hW k hk⟩
 have HPW:Hid (∀ W,Kr X (w.heap.size+1) W->∀ k,W.heap.size≤k->(fun k=>P k∧k≠w.heap.size+1) k):=fun W hW k hk=>⟨hPn k (by have:=HSZ.out W hW;omega),by have:=hW.size;omega⟩
 have HT:Hid (∀ W,Kr X (w.heap.size+1) W->HsQ (fun k=>P k∧k≠w.heap.size+1) W 8 a1 l1 t.T.A):=fun W hW=>(hT.keep (fun k _ hk=>HKW.out W hW k hk) (fun k h hk=>⟨h,by omega⟩) (HSZ.out W hW)).deeper (by omega)
 have HC:Hid (∀ W,Kr X (w.heap.size+1) W->W.cell? ⟨w.heap.size,0,none⟩=some (.int .i64 12)∧W.cell? ⟨w.heap.size,1,none⟩=some (.int .i64 t.N)∧W.cell? ⟨w.heap.size,4,none⟩=some (.int .i64 t.T.K)∧W.cell? ⟨w.heap.size,5,none⟩=some (.int .i64 t.T.N)∧W.cell? ⟨w.heap.size,6,none⟩=some (.slice a1 l1 c1)):=fun W hW=>by
  have r:=(hW.blk w.heap.size (by omega) (by omega)).trans hX0
  exact⟨Qaa r 0,Qaa r 1,Qaa r 4,Qaa r 5,Qaa r 6⟩
 obtain⟨x0,x1,x4,x5,x6⟩:=HC.out X kX
 have hrX:w.heap.size+1<X.heap.size:=by omega
 have k0:Kr X (w.heap.size+1) X.drew:=kX.drew
 go_enter Try.func81,Try.ntmps81
 go_wp2_with fail
 rw [← HX.out]
 refine (l3List_q (fun k=>P k∧k≠w.heap.size+1) 7 t.T _ X (HPW.out _ kX) ⟨_,_,_,rfl,(hT.keep (w':=X) (fun k _ hk=>HKW.out X kX k hk) (fun k h hk=>⟨h,by omega⟩) (HSZ.out X kX)).deeper (by omega)⟩).mono ?_
 rintro e v2 ⟨v',rfl,⟨ya,yl,yc,rfl,hy⟩,hb⟩
 have k2:=kX.below hb
 obtain⟨zc0,zc1,zc2,zb⟩:=k2.box;obtain⟨z0,z1,z2⟩:=Qaf zb;have zf:=Qad zb
 go_wp2_with fail
 refine bodyPost_ret (v:=.tuple #[.agg #[.int .i64 6,.int .i64 0,.slice ya yl yc],.bool true]) (by simp [results,Try.results81,go_sem,z0,z1,z2]) rfl ⟨⟨_,_,_,⟨6,0,[t.T]⟩,_,rfl,HsQ.mono (P:=(fun k=>P k∧k≠w.heap.size+1)) (fun _ h _=>And.left h) (by (repeat (first|with_reducible exact hy|with_reducible refine HsQ.setr ?_|with_reducible refine HsQ.drewr ?_)))⟩,HBW.out _ (by (repeat (first|with_reducible exact k2|with_reducible exact k0|with_reducible refine Kr.set ?_ _ _|with_reducible refine Kr.drew ?_|with_reducible refine Kr.drewN ?_)))⟩
set_option maxRecDepth 100000 in
set_option maxHeartbeats 4000000 in
theorem whole_6 (P:Nat->Prop) (t:Tm) (a1:Option Addr) (l1 c1:Nat) (a2:Option Addr) (l2 c2:Nat) (a3:Option Addr) (l3 c3:Nat) (cap:Nat) (w:World) (hPn:∀ k,w.heap.size≤k->P k) (hK:t.K=6) (hT:HsQ P w 5 a1 l1 t.T.A) (g o:Nat) (hg:g<w.heap.size) (u0:Tr) (p0:Option Addr) (n0 q0:Nat) (e00:w.cell? ⟨g,o,none⟩=some (.int .i64 u0.K)) (e01:w.cell? ⟨g,o+1,none⟩=some (.int .i64 u0.N)) (e02:w.cell? ⟨g,o+2,none⟩=some (.slice p0 n0 q0)) (s0:HsQ P w 5 p0 n0 u0.A) (r0:∃ m,Qai 6 u0=some m) (u1:Tr) (p1:Option Addr) (n1 q1:Nat) (e10:w.cell? ⟨g,o+3,none⟩=some (.int .i64 u1.K)) (e11:w.cell? ⟨g,o+3+1,none⟩=some (.int .i64 u1.N)) (e12:w.cell? ⟨g,o+3+2,none⟩=some (.slice p1 n1 q1)) (s1:HsQ P w 5 p1 n1 u1.A) (r1:∃ m,Qai 6 u1=some m) :
 Calls Try.prog 81 #[.agg #[.int .i64 t.K,.int .i64 t.N,.string t.S,.string t.Z,.int .i64 t.T.K,.int .i64 t.T.N,.slice a1 l1 c1,.slice a2 l2 c2,.slice a3 l3 c3],.slice (some ⟨g,o,none⟩) 2 cap] w fun e w'=>WhQ P w e w':=by
 obtain⟨X,hX⟩:∃ X,X=(w.alloc (.cells #[.int .i64 t.K,.int .i64 t.N,.string t.S,.string t.Z,.int .i64 t.T.K,.int .i64 t.T.N,.slice a1 l1 c1,.slice a2 l2 c2,.slice a3 l3 c3] 29)).alloc (.cells #[.int .i64 0,.int .i64 0,.slice none 0 0] 26):=⟨_,rfl⟩
 have hXs:X.heap.size=w.heap.size+2:=by rw [hX];simp
 have hXb:Below w.heap.size w X:=by rw [hX];exact ((Below.refl _ _).alloc (Nat.le_refl _) _).alloc (by simp) _
 have hX0:X.heap[w.heap.size]?=some (.cells #[.int .i64 t.K,.int .i64 t.N,.string t.S,.string t.Z,.int .i64 t.T.K,.int .i64 t.T.N,.slice a1 l1 c1,.slice a2 l2 c2,.slice a3 l3 c3] 29 (0,0)):=by rw [hX,Below.heap_alloc _ _ _ (by simp)];exact Qac rfl
 have hX1:X.heap[w.heap.size+1]?=some (.cells #[.int .i64 0,.int .i64 0,.slice none 0 0] 26 (0,0)):=by rw [hX];exact Qac (by simp)
 rw [hK] at hX0 hX ⊢
 have kX:Kr X (w.heap.size+1) X:=⟨Nat.le_refl _,rfl,rfl,rfl,fun _ _ _=>rfl,_,_,_,hX1⟩
 have HX:Hid (X=_):=hX
 have HKW:Hid (∀ W,Kr X (w.heap.size+1) W->∀ k,k<w.heap.size->W.heap[k]?=w.heap[k]?):=fun W hW k hk=>(hW.blk k (by omega) (by omega)).trans (hXb.block k hk)
 have HSZ:Hid (∀ W,Kr X (w.heap.size+1) W->w.heap.size≤W.heap.size):=fun W hW=>by have:=hW.size;omega
 have HBW:Hid (∀ W,Kr X (w.heap.size+1) W->Below w.heap.size w W):=fun W hW=>⟨hW.os.trans hXb.os,hW.tape.trans hXb.tape,hW.output.trans hXb.output,HSZ.out W hW,fun k hk=>HKW.out W hW k hk⟩
 have HPW:Hid (∀ W,Kr X (w.heap.size+1) W->∀ k,W.heap.size≤k->(fun k=>P k∧k≠w.heap.size+1) k):=fun W hW k hk=>⟨hPn k (by have:=HSZ.out W hW;omega),by have:=hW.size;omega⟩
 have HT:Hid (∀ W,Kr X (w.heap.size+1) W->HsQ (fun k=>P k∧k≠w.heap.size+1) W 8 a1 l1 t.T.A):=fun W hW=>(hT.keep (fun k _ hk=>HKW.out W hW k hk) (fun k h hk=>⟨h,by omega⟩) (HSZ.out W hW)).deeper (by omega)
 have H0:Hid (∀ W,Kr X (w.heap.size+1) W->HsQ (fun k=>P k∧k≠w.heap.size+1) W 8 p0 n0 u0.A):=fun W hW=>(s0.keep (fun k _ hk=>HKW.out W hW k hk) (fun k h hk=>⟨h,by omega⟩) (HSZ.out W hW)).deeper (by omega)
 have H1:Hid (∀ W,Kr X (w.heap.size+1) W->HsQ (fun k=>P k∧k≠w.heap.size+1) W 8 p1 n1 u1.A):=fun W hW=>(s1.keep (fun k _ hk=>HKW.out W hW k hk) (fun k h hk=>⟨h,by omega⟩) (HSZ.out W hW)).deeper (by omega)
 have HC:Hid (∀ W,Kr X (w.heap.size+1) W->W.cell? ⟨w.heap.size,0,none⟩=some (.int .i64 6)∧W.cell? ⟨w.heap.size,1,none⟩=some (.int .i64 t.N)∧W.cell? ⟨w.heap.size,4,none⟩=some (.int .i64 t.T.K)∧W.cell? ⟨w.heap.size,5,none⟩=some (.int .i64 t.T.N)∧W.cell? ⟨w.heap.size,6,none⟩=some (.slice a1 l1 c1)∧W.cell? ⟨g,o,none⟩=some (.int .i64 u0.K)∧W.cell? ⟨g,o+1,none⟩=some (.int .i64 u0.N)∧W.cell? ⟨g,o+2,none⟩=some (.slice p0 n0 q0)∧W.cell? ⟨g,o+3,none⟩=some (.int .i64 u1.K)∧W.cell? ⟨g,o+3+1,none⟩=some (.int .i64 u1.N)∧W.cell? ⟨g,o+3+2,none⟩=some (.slice p1 n1 q1)):=fun W hW=>by
  have r:=(hW.blk w.heap.size (by omega) (by omega)).trans hX0
  exact⟨Qaa r 0,Qaa r 1,Qaa r 4,Qaa r 5,Qaa r 6,(World.cell?_of_block (HKW.out W hW g hg)).trans e00,(World.cell?_of_block (HKW.out W hW g hg)).trans e01,(World.cell?_of_block (HKW.out W hW g hg)).trans e02,(World.cell?_of_block (HKW.out W hW g hg)).trans e10,(World.cell?_of_block (HKW.out W hW g hg)).trans e11,(World.cell?_of_block (HKW.out W hW g hg)).trans e12⟩
 obtain⟨x0,x1,x4,x5,x6,f00,f01,f02,f10,f11,f12⟩:=HC.out X kX
 have hrX:w.heap.size+1<X.heap.size:=by omega
 have k0:Kr X (w.heap.size+1) X.drew:=kX.drew
 have hgX:g<X.heap.size:=by omega
 have hgr:g≠w.heap.size+1:=by omega
 have hgr2:w.heap.size+1≠g:=by omega
 clear hX hXs hXb hX0 e00 e01 e02 e10 e11 e12 hK
 obtain⟨z0,z1,z2⟩:=Qaf hX1
 have zf:=Qad hX1
 go_enter Try.func81,Try.ntmps81
 go_upto_region 13 with fail
 rw [← HX.out]
 have k2:=kX
 go_wp2_with fail
 refine bodyPost_ret (v:=.tuple #[.agg #[.int .i64 u1.K,.int .i64 u1.N,.slice p1 n1 q1],.bool true]) (by simp [results,Try.results81,go_sem,z0,z1,z2]) rfl ⟨⟨_,_,_,u1,_,rfl,HsQ.mono (P:=(fun k=>P k∧k≠w.heap.size+1)) (fun _ h _=>And.left h) (H1.out _ (by (repeat (first|with_reducible exact k2|with_reducible exact k0|with_reducible refine Kr.set ?_ _ _|with_reducible refine Kr.drew ?_|with_reducible refine Kr.drewN ?_))))⟩,HBW.out _ (by (repeat (first|with_reducible exact k2|with_reducible exact k0|with_reducible refine Kr.set ?_ _ _|with_reducible refine Kr.drew ?_|with_reducible refine Kr.drewN ?_)))⟩
set_option maxRecDepth 100000 in
set_option maxHeartbeats 4000000 in
theorem whole_4 (P:Nat->Prop) (t:Tm) (a1:Option Addr) (l1 c1:Nat) (a2:Option Addr) (l2 c2:Nat) (a3:Option Addr) (l3 c3:Nat) (cap:Nat) (w:World) (hPn:∀ k,w.heap.size≤k->P k) (hK:t.K=4) (hT:HsQ P w 5 a1 l1 t.T.A) (g o:Nat) (hg:g<w.heap.size) (u0:Tr) (p0:Option Addr) (n0 q0:Nat) (e00:w.cell? ⟨g,o,none⟩=some (.int .i64 u0.K)) (e01:w.cell? ⟨g,o+1,none⟩=some (.int .i64 u0.N)) (e02:w.cell? ⟨g,o+2,none⟩=some (.slice p0 n0 q0)) (s0:HsQ P w 5 p0 n0 u0.A) (r0:∃ m,Qai 6 u0=some m) :
 Calls Try.prog 81 #[.agg #[.int .i64 t.K,.int .i64 t.N,.string t.S,.string t.Z,.int .i64 t.T.K,.int .i64 t.T.N,.slice a1 l1 c1,.slice a2 l2 c2,.slice a3 l3 c3],.slice (some ⟨g,o,none⟩) 1 cap] w fun e w'=>WhQ P w e w':=by
 obtain⟨X,hX⟩:∃ X,X=(w.alloc (.cells #[.int .i64 t.K,.int .i64 t.N,.string t.S,.string t.Z,.int .i64 t.T.K,.int .i64 t.T.N,.slice a1 l1 c1,.slice a2 l2 c2,.slice a3 l3 c3] 29)).alloc (.cells #[.int .i64 0,.int .i64 0,.slice none 0 0] 26):=⟨_,rfl⟩
 have hXs:X.heap.size=w.heap.size+2:=by rw [hX];simp
 have hXb:Below w.heap.size w X:=by rw [hX];exact ((Below.refl _ _).alloc (Nat.le_refl _) _).alloc (by simp) _
 have hX0:X.heap[w.heap.size]?=some (.cells #[.int .i64 t.K,.int .i64 t.N,.string t.S,.string t.Z,.int .i64 t.T.K,.int .i64 t.T.N,.slice a1 l1 c1,.slice a2 l2 c2,.slice a3 l3 c3] 29 (0,0)):=by rw [hX,Below.heap_alloc _ _ _ (by simp)];exact Qac rfl
 have hX1:X.heap[w.heap.size+1]?=some (.cells #[.int .i64 0,.int .i64 0,.slice none 0 0] 26 (0,0)):=by rw [hX];exact Qac (by simp)
 rw [hK] at hX0 hX ⊢
 have kX:Kr X (w.heap.size+1) X:=⟨Nat.le_refl _,rfl,rfl,rfl,fun _ _ _=>rfl,_,_,_,hX1⟩
 have HX:Hid (X=_):=hX
 have HKW:Hid (∀ W,Kr X (w.heap.size+1) W->∀ k,k<w.heap.size->W.heap[k]?=w.heap[k]?):=fun W hW k hk=>(hW.blk k (by omega) (by omega)).trans (hXb.block k hk)
 have HSZ:Hid (∀ W,Kr X (w.heap.size+1) W->w.heap.size≤W.heap.size):=fun W hW=>by have:=hW.size;omega
 have HBW:Hid (∀ W,Kr X (w.heap.size+1) W->Below w.heap.size w W):=fun W hW=>⟨hW.os.trans hXb.os,hW.tape.trans hXb.tape,hW.output.trans hXb.output,HSZ.out W hW,fun k hk=>HKW.out W hW k hk⟩
 have HPW:Hid (∀ W,Kr X (w.heap.size+1) W->∀ k,W.heap.size≤k->(fun k=>P k∧k≠w.heap.size+1) k):=fun W hW k hk=>⟨hPn k (by have:=HSZ.out W hW;omega),by have:=hW.size;omega⟩
 have HT:Hid (∀ W,Kr X (w.heap.size+1) W->HsQ (fun k=>P k∧k≠w.heap.size+1) W 8 a1 l1 t.T.A):=fun W hW=>(hT.keep (fun k _ hk=>HKW.out W hW k hk) (fun k h hk=>⟨h,by omega⟩) (HSZ.out W hW)).deeper (by omega)
 have H0:Hid (∀ W,Kr X (w.heap.size+1) W->HsQ (fun k=>P k∧k≠w.heap.size+1) W 8 p0 n0 u0.A):=fun W hW=>(s0.keep (fun k _ hk=>HKW.out W hW k hk) (fun k h hk=>⟨h,by omega⟩) (HSZ.out W hW)).deeper (by omega)
 have HC:Hid (∀ W,Kr X (w.heap.size+1) W->W.cell? ⟨w.heap.size,0,none⟩=some (.int .i64 4)∧W.cell? ⟨w.heap.size,1,none⟩=some (.int .i64 t.N)∧W.cell? ⟨w.heap.size,4,none⟩=some (.int .i64 t.T.K)∧W.cell? ⟨w.heap.size,5,none⟩=some (.int .i64 t.T.N)∧W.cell? ⟨w.heap.size,6,none⟩=some (.slice a1 l1 c1)∧W.cell? ⟨g,o,none⟩=some (.int .i64 u0.K)∧W.cell? ⟨g,o+1,none⟩=some (.int .i64 u0.N)∧W.cell? ⟨g,o+2,none⟩=some (.slice p0 n0 q0)):=fun W hW=>by
  have r:=(hW.blk w.heap.size (by omega) (by omega)).trans hX0
  exact⟨Qaa r 0,Qaa r 1,Qaa r 4,Qaa r 5,Qaa r 6,(World.cell?_of_block (HKW.out W hW g hg)).trans e00,(World.cell?_of_block (HKW.out W hW g hg)).trans e01,(World.cell?_of_block (HKW.out W hW g hg)).trans e02⟩
 obtain⟨x0,x1,x4,x5,x6,f00,f01,f02⟩:=HC.out X kX
 have hrX:w.heap.size+1<X.heap.size:=by omega
 have k0:Kr X (w.heap.size+1) X.drew:=kX.drew
 have hgX:g<X.heap.size:=by omega
 have hgr:g≠w.heap.size+1:=by omega
 have hgr2:w.heap.size+1≠g:=by omega
 have HT7:Hid (∀ W,Kr X (w.heap.size+1) W->TyQ (fun k=>P k∧k≠w.heap.size+1) W 7 (.agg #[.int .i64 t.T.K,.int .i64 t.T.N,.slice a1 l1 c1]) t.T):=fun W hW=>⟨_,_,_,rfl,(hT.keep (fun k _ hk=>HKW.out W hW k hk) (fun k h hk=>⟨h,by omega⟩) (HSZ.out W hW)).deeper (by omega)⟩
 have HB7:Hid (∀ W,Kr X (w.heap.size+1) W->TyQ (fun k=>P k∧k≠w.heap.size+1) W 7 (.agg #[.int .i64 u0.K,.int .i64 u0.N,.slice p0 n0 q0]) u0):=fun W hW=>⟨_,_,_,rfl,(s0.keep (fun k _ hk=>HKW.out W hW k hk) (fun k h hk=>⟨h,by omega⟩) (HSZ.out W hW)).deeper (by omega)⟩
 clear hX kX hXs hXb hX0 e00 e01 e02 hK
 go_enter Try.func81,Try.ntmps81
 go_wp2_with fail
 rw [← HX.out]
 go_region_held3 (fun W=>W.cell? ⟨w.heap.size,0,none⟩=some (.int .i64 4)∧W.cell? ⟨w.heap.size,1,none⟩=some (.int .i64 t.N)∧W.cell? ⟨w.heap.size,4,none⟩=some (.int .i64 t.T.K)∧W.cell? ⟨w.heap.size,5,none⟩=some (.int .i64 t.T.N)∧W.cell? ⟨w.heap.size,6,none⟩=some (.slice a1 l1 c1)∧W.cell? ⟨g,o,none⟩=some (.int .i64 u0.K)∧W.cell? ⟨g,o+1,none⟩=some (.int .i64 u0.N)∧W.cell? ⟨g,o+2,none⟩=some (.slice p0 n0 q0))
  (first|with_reducible exact HC.out _ k2|with_reducible exact HC.out _ k0|(with_reducible refine HC.out _ ?_;(repeat (first|with_reducible exact k2|with_reducible exact k0|with_reducible refine Kr.set ?_ _ _|with_reducible refine Kr.drew ?_|with_reducible refine Kr.drewN ?_))))
  (first
    | (go_at_call 55;(with_reducible refine Calls.mono (l3Two_q (fun k=>P k∧k≠w.heap.size+1) 7 4 t.T u0 _ _ _ (HPW.out _ k0) (HT7.out _ k0) (HB7.out _ k0)) ?_);rintro e v2 ⟨v',rfl,⟨ya,yl,yc,rfl,hy⟩,hb⟩;have k2:=k0.below hb;obtain⟨zc0,zc1,zc2,zb⟩:=k2.box;obtain⟨z0,z1,z2⟩:=Qaf zb;have zf:=Qad zb))
 all_goals
  go_wp2_with fail
  refine bodyPost_ret (v:=.tuple #[.agg #[.int .i64 4,.int .i64 0,.slice ya yl yc],.bool true]) (by simp [results,Try.results81,go_sem,z0,z1,z2]) rfl ⟨⟨_,_,_,⟨4,0,[t.T,u0]⟩,_,rfl,HsQ.mono (P:=(fun k=>P k∧k≠w.heap.size+1)) (fun _ h _=>And.left h) (by (repeat (first|with_reducible exact hy|with_reducible refine HsQ.setr ?_|with_reducible refine HsQ.drewr ?_)))⟩,HBW.out _ (by (repeat (first|with_reducible exact k2|with_reducible exact k0|with_reducible refine Kr.set ?_ _ _|with_reducible refine Kr.drew ?_|with_reducible refine Kr.drewN ?_)))⟩
set_option maxRecDepth 100000 in
set_option maxHeartbeats 4000000 in
theorem whole_9 (P:Nat->Prop) (t:Tm) (a1:Option Addr) (l1 c1:Nat) (a2:Option Addr) (l2 c2:Nat) (a3:Option Addr) (l3 c3:Nat) (cap:Nat) (w:World) (hPn:∀ k,w.heap.size≤k->P k) (hK:t.K=9) (hT:HsQ P w 5 a1 l1 t.T.A) (g o:Nat) (hg:g<w.heap.size) (u0:Tr) (p0:Option Addr) (n0 q0:Nat) (e00:w.cell? ⟨g,o,none⟩=some (.int .i64 u0.K)) (e01:w.cell? ⟨g,o+1,none⟩=some (.int .i64 u0.N)) (e02:w.cell? ⟨g,o+2,none⟩=some (.slice p0 n0 q0)) (s0:HsQ P w 5 p0 n0 u0.A) (r0:∃ m,Qai 6 u0=some m) (u1:Tr) (p1:Option Addr) (n1 q1:Nat) (e10:w.cell? ⟨g,o+3,none⟩=some (.int .i64 u1.K)) (e11:w.cell? ⟨g,o+3+1,none⟩=some (.int .i64 u1.N)) (e12:w.cell? ⟨g,o+3+2,none⟩=some (.slice p1 n1 q1)) (s1:HsQ P w 5 p1 n1 u1.A) (r1:∃ m,Qai 6 u1=some m) :
 Calls Try.prog 81 #[.agg #[.int .i64 t.K,.int .i64 t.N,.string t.S,.string t.Z,.int .i64 t.T.K,.int .i64 t.T.N,.slice a1 l1 c1,.slice a2 l2 c2,.slice a3 l3 c3],.slice (some ⟨g,o,none⟩) 2 cap] w fun e w'=>WhQ P w e w':=by
 obtain⟨X,hX⟩:∃ X,X=(w.alloc (.cells #[.int .i64 t.K,.int .i64 t.N,.string t.S,.string t.Z,.int .i64 t.T.K,.int .i64 t.T.N,.slice a1 l1 c1,.slice a2 l2 c2,.slice a3 l3 c3] 29)).alloc (.cells #[.int .i64 0,.int .i64 0,.slice none 0 0] 26):=⟨_,rfl⟩
 have hXs:X.heap.size=w.heap.size+2:=by rw [hX];simp
 have hXb:Below w.heap.size w X:=by rw [hX];exact ((Below.refl _ _).alloc (Nat.le_refl _) _).alloc (by simp) _
 have hX0:X.heap[w.heap.size]?=some (.cells #[.int .i64 t.K,.int .i64 t.N,.string t.S,.string t.Z,.int .i64 t.T.K,.int .i64 t.T.N,.slice a1 l1 c1,.slice a2 l2 c2,.slice a3 l3 c3] 29 (0,0)):=by rw [hX,Below.heap_alloc _ _ _ (by simp)];exact Qac rfl
 have hX1:X.heap[w.heap.size+1]?=some (.cells #[.int .i64 0,.int .i64 0,.slice none 0 0] 26 (0,0)):=by rw [hX];exact Qac (by simp)
 rw [hK] at hX0 hX ⊢
 have kX:Kr X (w.heap.size+1) X:=⟨Nat.le_refl _,rfl,rfl,rfl,fun _ _ _=>rfl,_,_,_,hX1⟩
 have HX:Hid (X=_):=hX
 have HKW:Hid (∀ W,Kr X (w.heap.size+1) W->∀ k,k<w.heap.size->W.heap[k]?=w.heap[k]?):=fun W hW k hk=>(hW.blk k (by omega) (by omega)).trans (hXb.block k hk)
 have HSZ:Hid (∀ W,Kr X (w.heap.size+1) W->w.heap.size≤W.heap.size):=fun W hW=>by have:=hW.size;omega
 have HBW:Hid (∀ W,Kr X (w.heap.size+1) W->Below w.heap.size w W):=fun W hW=>⟨hW.os.trans hXb.os,hW.tape.trans hXb.tape,hW.output.trans hXb.output,HSZ.out W hW,fun k hk=>HKW.out W hW k hk⟩
 have HPW:Hid (∀ W,Kr X (w.heap.size+1) W->∀ k,W.heap.size≤k->(fun k=>P k∧k≠w.heap.size+1) k):=fun W hW k hk=>⟨hPn k (by have:=HSZ.out W hW;omega),by have:=hW.size;omega⟩
 have HT:Hid (∀ W,Kr X (w.heap.size+1) W->HsQ (fun k=>P k∧k≠w.heap.size+1) W 8 a1 l1 t.T.A):=fun W hW=>(hT.keep (fun k _ hk=>HKW.out W hW k hk) (fun k h hk=>⟨h,by omega⟩) (HSZ.out W hW)).deeper (by omega)
 have H0:Hid (∀ W,Kr X (w.heap.size+1) W->HsQ (fun k=>P k∧k≠w.heap.size+1) W 8 p0 n0 u0.A):=fun W hW=>(s0.keep (fun k _ hk=>HKW.out W hW k hk) (fun k h hk=>⟨h,by omega⟩) (HSZ.out W hW)).deeper (by omega)
 have H1:Hid (∀ W,Kr X (w.heap.size+1) W->HsQ (fun k=>P k∧k≠w.heap.size+1) W 8 p1 n1 u1.A):=fun W hW=>(s1.keep (fun k _ hk=>HKW.out W hW k hk) (fun k h hk=>⟨h,by omega⟩) (HSZ.out W hW)).deeper (by omega)
 have HC:Hid (∀ W,Kr X (w.heap.size+1) W->W.cell? ⟨w.heap.size,0,none⟩=some (.int .i64 9)∧W.cell? ⟨w.heap.size,1,none⟩=some (.int .i64 t.N)∧W.cell? ⟨w.heap.size,4,none⟩=some (.int .i64 t.T.K)∧W.cell? ⟨w.heap.size,5,none⟩=some (.int .i64 t.T.N)∧W.cell? ⟨w.heap.size,6,none⟩=some (.slice a1 l1 c1)∧W.cell? ⟨g,o,none⟩=some (.int .i64 u0.K)∧W.cell? ⟨g,o+1,none⟩=some (.int .i64 u0.N)∧W.cell? ⟨g,o+2,none⟩=some (.slice p0 n0 q0)∧W.cell? ⟨g,o+3,none⟩=some (.int .i64 u1.K)∧W.cell? ⟨g,o+3+1,none⟩=some (.int .i64 u1.N)∧W.cell? ⟨g,o+3+2,none⟩=some (.slice p1 n1 q1)):=fun W hW=>by
  have r:=(hW.blk w.heap.size (by omega) (by omega)).trans hX0
  exact⟨Qaa r 0,Qaa r 1,Qaa r 4,Qaa r 5,Qaa r 6,(World.cell?_of_block (HKW.out W hW g hg)).trans e00,(World.cell?_of_block (HKW.out W hW g hg)).trans e01,(World.cell?_of_block (HKW.out W hW g hg)).trans e02,(World.cell?_of_block (HKW.out W hW g hg)).trans e10,(World.cell?_of_block (HKW.out W hW g hg)).trans e11,(World.cell?_of_block (HKW.out W hW g hg)).trans e12⟩
 obtain⟨x0,x1,x4,x5,x6,f00,f01,f02,f10,f11,f12⟩:=HC.out X kX
 have hrX:w.heap.size+1<X.heap.size:=by omega
 have k0:Kr X (w.heap.size+1) X.drew:=kX.drew
 have hgX:g<X.heap.size:=by omega
 have hgr:g≠w.heap.size+1:=by omega
 have hgr2:w.heap.size+1≠g:=by omega
 have HT7:Hid (∀ W,Kr X (w.heap.size+1) W->TyQ (fun k=>P k∧k≠w.heap.size+1) W 7 (.agg #[.int .i64 u0.K,.int .i64 u0.N,.slice p0 n0 q0]) u0):=fun W hW=>⟨_,_,_,rfl,(s0.keep (fun k _ hk=>HKW.out W hW k hk) (fun k h hk=>⟨h,by omega⟩) (HSZ.out W hW)).deeper (by omega)⟩
 have HB7:Hid (∀ W,Kr X (w.heap.size+1) W->TyQ (fun k=>P k∧k≠w.heap.size+1) W 7 (.agg #[.int .i64 u1.K,.int .i64 u1.N,.slice p1 n1 q1]) u1):=fun W hW=>⟨_,_,_,rfl,(s1.keep (fun k _ hk=>HKW.out W hW k hk) (fun k h hk=>⟨h,by omega⟩) (HSZ.out W hW)).deeper (by omega)⟩
 clear hX kX hXs hXb hX0 e00 e01 e02 e10 e11 e12 hK
 go_enter Try.func81,Try.ntmps81
 go_wp2_with fail
 rw [← HX.out]
 go_region_held3 (fun W=>W.cell? ⟨w.heap.size,0,none⟩=some (.int .i64 9)∧W.cell? ⟨w.heap.size,1,none⟩=some (.int .i64 t.N)∧W.cell? ⟨w.heap.size,4,none⟩=some (.int .i64 t.T.K)∧W.cell? ⟨w.heap.size,5,none⟩=some (.int .i64 t.T.N)∧W.cell? ⟨w.heap.size,6,none⟩=some (.slice a1 l1 c1)∧W.cell? ⟨g,o,none⟩=some (.int .i64 u0.K)∧W.cell? ⟨g,o+1,none⟩=some (.int .i64 u0.N)∧W.cell? ⟨g,o+2,none⟩=some (.slice p0 n0 q0)∧W.cell? ⟨g,o+3,none⟩=some (.int .i64 u1.K)∧W.cell? ⟨g,o+3+1,none⟩=some (.int .i64 u1.N)∧W.cell? ⟨g,o+3+2,none⟩=some (.slice p1 n1 q1))
  (first|with_reducible exact HC.out _ k2|with_reducible exact HC.out _ k0|(with_reducible refine HC.out _ ?_;(repeat (first|with_reducible exact k2|with_reducible exact k0|with_reducible refine Kr.set ?_ _ _|with_reducible refine Kr.drew ?_|with_reducible refine Kr.drewN ?_))))
  (first
    | (go_at_call 55;(with_reducible refine Calls.mono (l3Two_q (fun k=>P k∧k≠w.heap.size+1) 7 5 u0 u1 _ _ _ (HPW.out _ k0) (HT7.out _ k0) (HB7.out _ k0)) ?_);rintro e v2 ⟨v',rfl,⟨ya,yl,yc,rfl,hy⟩,hb⟩;have k2:=k0.below hb;obtain⟨zc0,zc1,zc2,zb⟩:=k2.box;obtain⟨z0,z1,z2⟩:=Qaf zb;have zf:=Qad zb))
 all_goals
  go_wp2_with fail
  refine bodyPost_ret (v:=.tuple #[.agg #[.int .i64 5,.int .i64 0,.slice ya yl yc],.bool true]) (by simp [results,Try.results81,go_sem,z0,z1,z2]) rfl ⟨⟨_,_,_,⟨5,0,[u0,u1]⟩,_,rfl,HsQ.mono (P:=(fun k=>P k∧k≠w.heap.size+1)) (fun _ h _=>And.left h) (by (repeat (first|with_reducible exact hy|with_reducible refine HsQ.setr ?_|with_reducible refine HsQ.drewr ?_)))⟩,HBW.out _ (by (repeat (first|with_reducible exact k2|with_reducible exact k0|with_reducible refine Kr.set ?_ _ _|with_reducible refine Kr.drew ?_|with_reducible refine Kr.drewN ?_)))⟩
end Go.Proofs.Ytleghjgpnefliaa
