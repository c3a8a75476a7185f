/-
  What 'toTerm', 'toTermS' come to: the same term in new memory that is its own.
-/
import Derived.Test.YtcepgedbmffkdaaGreatFbaZ4
import Derived.Test.YtcepgedbmffkdaaGreatFbaZ45
import Derived.Test.YtcepgedbmffkdaaGreatFbaToM
import Derived.Test.YtcepgedbmffkdaaGreatFbaZ1
import Derived.Deep.RegionWith
import Derived.Test.YtcepgedbmffkdaaGreatFbaZ3
namespace Go.Proofs.YtcepgedbmffkdaaGreat
open Go.RowKit
set_option linter.unusedVariables false
set_option linter.unusedSimpArgs false
def SaidToM2 (D d:Nat):Prop:=∀ (L B:Nat) (t:Tm) (a1:Option Addr) (l1 c1:Nat) (a2:Option Addr) (l2 c2:Nat) (a3:Option Addr) (l3 c3:Nat) (w:World),B≤w.heap.size→Fm L B w D d t a1 l1 a2 l2 a3 l3→cntM t≤1048576 →
    Calls Tryz.prog 7 #[.agg #[.int .i64 t.K,.int .i64 t.N,.string t.S,.string t.Z,.int .i64 t.T.K,.int .i64 t.T.N,.slice a1 l1 c1,.slice a2 l2 c2,.slice a3 l3 c3]] w fun e w'=>∃ g1 g2 g3,e=.returned (.agg #[.int .i64 t.K,.int .i64 t.N,.string t.S,.string t.Z,.int .i64 t.T.K,.int .i64 t.T.N,.slice (some ⟨g1,0,none⟩) l1 l1,.slice (some ⟨g2,0,none⟩) l2 l2,.slice (some ⟨g3,0,none⟩) l3 l3])∧Below w.heap.size w w'∧FmO w.heap.size w'.heap.size w' D d t (some ⟨g1,0,none⟩) l1 (some ⟨g2,0,none⟩) l2 (some ⟨g3,0,none⟩) l3
def SaidToMS2 (D d:Nat):Prop:=∀ (L B:Nat) (ao:Option Addr) (len cap:Nat) (ts:List Tm) (w:World),B≤w.heap.size→Hm L B w D d ao len ts→cntMS ts≤1048576 →
    Calls Tryz.prog 23 #[.slice ao len cap] w fun e w'=>∃ g,e=.returned (.slice (some ⟨g,0,none⟩) len len)∧Below w.heap.size w w'∧OwMR w.heap.size w'.heap.size w' D d (some ⟨g,0,none⟩) len ts
set_option maxHeartbeats 800000 in
theorem toTerm_of2 (D d:Nat) (h:SaidToMS2 D d):SaidToM2 D d:=by
  intro L B t a1 l1 c1 a2 l2 c2 a3 l3 c3 w hB hf hcnt
  have HC:Hid (cntM t=t.S.size+t.Z.size+cntS t.T.A+cntS t.Ts+cntMS t.A):=cntM_eq t
  obtain ⟨X,hX⟩:∃ X,X=(((w.alloc (.cells #[.int .i64 t.K,.int .i64 t.N,.string t.S,.string t.Z,.int .i64 t.T.K,.int .i64 t.T.N,.slice a1 l1 c1,.slice a2 l2 c2,.slice a3 l3 c3] 27)).alloc (.cells #[.int .i64 0,.int .i64 0,.string ⟨#[]⟩,.string ⟨#[]⟩,.int .i64 0,.int .i64 0,.slice none 0 0,.slice none 0 0,.slice none 0 0] 34)).alloc (.cells #[.int .i64 t.K,.int .i64 t.N,.string t.S,.string t.Z,.int .i64 0,.int .i64 0,.slice none 0 0,.slice none 0 0,.slice none 0 0] 34)):=⟨_,rfl⟩
  have hXs:X.heap.size=w.heap.size+3:=by rw [hX];simp
  have hXb:Below w.heap.size w X:=by rw [hX];exact (((Below.refl _ _).alloc (Nat.le_refl _) _).alloc (by simp) _).alloc (by simp;omega) _
  have hX0:X.heap[w.heap.size]?=some (.cells #[.int .i64 t.K,.int .i64 t.N,.string t.S,.string t.Z,.int .i64 t.T.K,.int .i64 t.T.N,.slice a1 l1 c1,.slice a2 l2 c2,.slice a3 l3 c3] 27 (0,0)):=by
    rw [hX,Below.heap_alloc _ _ _ (by simp;omega),Below.heap_alloc _ _ _ (by simp)];exact heap_new rfl
  have hX1:X.heap[w.heap.size+1]?=some (.cells #[.int .i64 0,.int .i64 0,.string ⟨#[]⟩,.string ⟨#[]⟩,.int .i64 0,.int .i64 0,.slice none 0 0,.slice none 0 0,.slice none 0 0] 34 (0,0)):=by
    rw [hX,Below.heap_alloc _ _ _ (by simp)];exact heap_new (by simp)
  have hX2:X.heap[w.heap.size+1+1]?=some (.cells #[.int .i64 t.K,.int .i64 t.N,.string t.S,.string t.Z,.int .i64 0,.int .i64 0,.slice none 0 0,.slice none 0 0,.slice none 0 0] 34 (0,0)):=by
    rw [hX];exact heap_new (by simp)
  have hf1:=Fm.below hXb hB hf
  have HX:Hid (X=_):=hX
  clear hX
  go_enter Tryz.func7,Tryz.ntmps7
  go_wp2_with fail
  rw [← HX.out]
  refine (toTy_any2 D L B _ _ _ _ _ t.T.A X (by omega) hf1.t1 (by have:=HC.out;omega)).mono ?_
  rintro e w1 ⟨g1,rfl,hb1,hs1⟩
  have hz1:=hb1.size
  have hbw1:Below w.heap.size w w1:=hXb.trans (hb1.mono (by omega))
  have y0:=(hb1.block _ (by omega)).trans hX0
  have y1:=(hb1.block _ (by omega)).trans hX1
  have y2:=(hb1.block _ (by omega)).trans hX2
  obtain ⟨f0,f1,f2,f3,f4,f5,f6,f7,f8⟩:=Nine.box y0
  obtain ⟨_,_,_,_,q4,q5,q6,q7,q8⟩:=Nine.box y2
  have r2:=row_free y2
  go_wp2_with fail
  have hXc:Below w.heap.size w (set3 w1 (w.heap.size+1+1) 4 (.int .i64 t.T.K) (.int .i64 t.T.N) (.slice (some ⟨g1,0,none⟩) l1 l1)):=set3_below hbw1 (by omega)
  have hf2:=Fm.below hXc hB hf
  have hzc:(set3 w1 (w.heap.size+1+1) 4 (.int .i64 t.T.K) (.int .i64 t.T.N) (.slice (some ⟨g1,0,none⟩) l1 l1)).heap.size=w1.heap.size:=set3_size _ _ _ _ _ _
  refine (toTyS_any2 D L B _ _ _ t.Ts (set3 w1 (w.heap.size+1+1) 4 (.int .i64 t.T.K) (.int .i64 t.T.N) (.slice (some ⟨g1,0,none⟩) l1 l1)) (by omega) hf2.t2 (by have:=HC.out;omega)).mono ?_
  rintro e w2 ⟨g2,rfl,hb2,hs2⟩
  have hz2:=hb2.size
  have hbw2:Below w.heap.size w w2:=hXc.trans (hb2.mono (by omega))
  have z0:=(hb2.block w.heap.size (by omega)).trans ((set3_other _ (by omega)).trans y0)
  have z1:=(hb2.block (w.heap.size+1) (by omega)).trans ((set3_other _ (by omega)).trans y1)
  have z2:w2.heap[w.heap.size+1+1]?=some (.cells #[.int .i64 t.K,.int .i64 t.N,.string t.S,.string t.Z,.int .i64 t.T.K,.int .i64 t.T.N,.slice (some ⟨g1,0,none⟩) l1 l1,.slice none 0 0,.slice none 0 0] 34 (0,0)):=(hb2.block (w.heap.size+1+1) (by omega)).trans (set3_row y2)
  have hs1':OwR (w.heap.size+3) w1.heap.size w2 D (some ⟨g1,0,none⟩) l1 t.T.A:=hs1.keep (fun j hj1 hj2=>(hb2.block j (by omega)).trans (set3_other j (by omega))) (by omega) (Nat.le_refl _)
  have hs2':OwR w1.heap.size w2.heap.size w2 D (some ⟨g2,0,none⟩) l2 t.Ts:=hs2.keep (fun j hj1 hj2=>rfl) (by omega) (by omega)
  clear f0 f1 f2 f3 f4 f5 f6 f7 f8 q4 q5 q6 q7 q8 r2 y0 y1 y2 hs1 hs2 hX0 hX1 hX2 hf1 hf2
  obtain ⟨f0,f1,f2,f3,f4,f5,f6,f7,f8⟩:=Nine.box z0
  obtain ⟨_,_,_,_,q4,q5,q6,q7,q8⟩:=Nine.box z2
  have r2:=row_free z2
  go_wp2_with fail
  have hXd:Below w.heap.size w (w2.setCell ⟨w.heap.size+1+1,7,none⟩ (.slice (some ⟨g2,0,none⟩) l2 l2)):=hbw2.setCell (p:=⟨w.heap.size+1+1,7,none⟩) (by show _≤w.heap.size+1+1;omega) _
  have hzd:(w2.setCell ⟨w.heap.size+1+1,7,none⟩ (.slice (some ⟨g2,0,none⟩) l2 l2)).heap.size=w2.heap.size:=by simp
  have hf3:=Fm.below hXd hB hf
  refine (h L B _ _ _ t.A _ (by omega) hf3.m (by have:=HC.out;omega)).mono ?_
  rintro e w3 ⟨g3,rfl,hb3,hs3⟩
  have hz3:=hb3.size
  have hbw3:Below w.heap.size w w3:=hXd.trans (hb3.mono (by omega))
  have u1:w3.heap[w.heap.size+1]?=some (.cells #[.int .i64 0,.int .i64 0,.string ⟨#[]⟩,.string ⟨#[]⟩,.int .i64 0,.int .i64 0,.slice none 0 0,.slice none 0 0,.slice none 0 0] 34 (0,0)):=(hb3.block (w.heap.size+1) (by omega)).trans ((row_other _ _ _ (by omega)).trans z1)
  have u2:w3.heap[w.heap.size+1+1]?=some (.cells #[.int .i64 t.K,.int .i64 t.N,.string t.S,.string t.Z,.int .i64 t.T.K,.int .i64 t.T.N,.slice (some ⟨g1,0,none⟩) l1 l1,.slice (some ⟨g2,0,none⟩) l2 l2,.slice none 0 0] 34 (0,0)):=(hb3.block (w.heap.size+1+1) (by omega)).trans (row_set z2 _ _)
  have hs1:OwR (w.heap.size+3) w1.heap.size w3 D (some ⟨g1,0,none⟩) l1 t.T.A:=hs1'.keep (fun j hj1 hj2=>(hb3.block j (by omega)).trans (row_other _ _ _ (by omega))) (by omega) (by omega)
  have hs2:OwR w1.heap.size w2.heap.size w3 D (some ⟨g2,0,none⟩) l2 t.Ts:=hs2'.keep (fun j hj1 hj2=>(hb3.block j (by omega)).trans (row_other _ _ _ (by omega))) (by omega) (by omega)
  have hs3':OwMR w2.heap.size w3.heap.size w3 D d (some ⟨g3,0,none⟩) l3 t.A:=hs3.keep (fun j hj1 hj2=>rfl) (by omega) (by omega)
  clear f0 f1 f2 f3 f4 f5 f6 f7 f8 q4 q5 q6 q7 q8 r2 z0 z1 z2 hs3 hf3 hs1' hs2'
  obtain ⟨p0,p1,p2,p3,p4,p5,p6,p7,p8⟩:=Nine.box u1
  obtain ⟨q0,q1,q2,q3,q4,q5,q6,q7,q8⟩:=Nine.box u2
  have r1:=row_free u1
  have r2:=row_free u2
  go_wp2_with fail
  refine bodyPost_ret (v:=.agg #[.int .i64 t.K,.int .i64 t.N,.string t.S,.string t.Z,.int .i64 t.T.K,.int .i64 t.T.N,.slice (some ⟨g1,0,none⟩) l1 l1,.slice (some ⟨g2,0,none⟩) l2 l2,.slice (some ⟨g3,0,none⟩) l3 l3]) (by simp [results,Tryz.results7,go_sem,p0,p1,p2,p3,p4,p5,p6,p7,p8]) rfl ⟨g1,g2,g3,rfl,?_,?_⟩
  · exact set9_below (o:=0) (hbw3.setCell (p:=⟨w.heap.size+1+1,8,none⟩) (by show _≤w.heap.size+1+1;omega) _) (by omega)
  · have keep:∀ j,w.heap.size+3≤j→j < w3.heap.size→(set9 (w3.setCell ⟨w.heap.size+1+1,8,none⟩ (.slice (some ⟨g3,0,none⟩) l3 l3)) (w.heap.size+1) 0 (.int .i64 t.K) (.int .i64 t.N) (.string t.S) (.string t.Z) (.int .i64 t.T.K) (.int .i64 t.T.N) (.slice (some ⟨g1,0,none⟩) l1 l1) (.slice (some ⟨g2,0,none⟩) l2 l2) (.slice (some ⟨g3,0,none⟩) l3 l3)).heap[j]?=w3.heap[j]? :=
      fun j hj _=>(set9_other j (by omega)).trans (row_other _ _ _ (by omega))
    have hsz:(set9 (w3.setCell ⟨w.heap.size+1+1,8,none⟩ (.slice (some ⟨g3,0,none⟩) l3 l3)) (w.heap.size+1) 0 (.int .i64 t.K) (.int .i64 t.N) (.string t.S) (.string t.Z) (.int .i64 t.T.K) (.int .i64 t.T.N) (.slice (some ⟨g1,0,none⟩) l1 l1) (.slice (some ⟨g2,0,none⟩) l2 l2) (.slice (some ⟨g3,0,none⟩) l3 l3)).heap.size=w3.heap.size:=by rw [set9_size];simp
    exact FmO.mk (L:=w.heap.size) (M1:=w1.heap.size) (M2:=w2.heap.size) hf.s hf.z (hs1.keep (fun j h1 h2=>keep j (by omega) (by omega)) (by omega) (Nat.le_refl _)) (hs2.keep (fun j h1 h2=>keep j (by omega) (by omega)) (Nat.le_refl _) (Nat.le_refl _)) (hs3'.keep (fun j h1 h2=>keep j (by omega) h2) (Nat.le_refl _) (Nat.le_of_eq hsz.symm)) (by omega) (by omega) (Nat.le_trans (show w2.heap.size≤w3.heap.size by omega) (Nat.le_of_eq hsz.symm))
set_option maxHeartbeats 800000 in
theorem toTermS_succ2 (D d:Nat) (IH:SaidToM2 D d):SaidToMS2 D (d+1):=by
  intro L B ao len cap ts w hB hs hcnt
  have hl:len≤1048576:=by have:=hs.1;have:=cntMS_eq ts;omega
  have HL:Hid (len=ts.length):=hs.1
  obtain ⟨i0,hi,hz0,hz1,hz2⟩:=info_parts Tryz.infoTerm
  have hmk:∃ C:Array Value,C.size=len * 9∧∀ w:World,(Instr.makeSlice 32 (.int .i64 (len:Int)) (.int .i64 (len:Int))).run Tryz.prog w=.ok (.slice (some ⟨w.heap.size,0,none⟩) len len) (w.alloc (.cells C 34)):=by
    refine ⟨madeCells (Value.cells (.agg #[.int .i64 0,.int .i64 0,.string ⟨#[]⟩,.string ⟨#[]⟩,.int .i64 0,.int .i64 0,.slice none 0 0,.slice none 0 0,.slice none 0 0])) (len * 9),?_,fun w=>?_⟩
    · exact size_madeCells _ _
    · have:=run_make (P:=Tryz.prog) (w:=w) 32 34 i0 _ Tryz.underlying32 hi hz0 .i64 .i64 (len:Int) (len:Int) (by omega) (by omega) (by rw [hz2];omega) (by omega)
      rw [hz1] at this
      simpa using this
  obtain ⟨C,hC,hmk⟩:=hmk
  go_enter Tryz.func23,Tryz.ntmps23
  go_wp2_with fail
  go_loopw [4] (fun i wr=>∃ k:Nat,k≤len∧i=.int .i64 k∧RowRelM w wr D d len k ts) (fun i _=>len - (intOf i).toNat)
  case atStart=>exact ⟨0,by omega,rfl,rrm_start hC⟩
  case round =>
    obtain ⟨k,hk,rfl,hR⟩:=hrel
    have hbel:=hR.bel
    have hsz:=hbel.size
    have hlt0:=rrm_lt hR
    clear hmk
    by_cases hlt:k < len
    · have hlt':k < ts.length:=by have:=HL.out;omega
      obtain ⟨b,o,rfl,_,hbB,a1,l1,c1,a2,l2,c2,a3,l3,c3,h9,hf⟩:=hs.2.2 k hlt'
      obtain ⟨e0,e1,e2,e3,e4,e5,e6,e7,e8⟩:=h9.below hbel (by omega)
      have hs1:=Fm.below hbel hB hf
      have hc1:=cntMS_get ts k hlt'
      go_wp2_with fail
      refine (IH L B ts[k] _ _ _ _ _ _ _ _ _ _ (by omega) hs1 (by omega)).mono ?_
      rintro e w1 ⟨g1,g2,g3,rfl,hb1,hs2⟩
      have hN:=rrm_next (c1:=l1) (c2:=l2) (c3:=l3) hR hlt hlt' hb1 hs2
      obtain ⟨cs,hrow,hcsz⟩:=rrm_row hR hb1
      have f0:=row_cell hrow (k * 9)
      have f1:=row_cell hrow (k * 9+1)
      have f2:=row_cell hrow (k * 9+2)
      have f3:=row_cell hrow (k * 9+3)
      have f4:=row_cell hrow (k * 9+4)
      have f5:=row_cell hrow (k * 9+5)
      have f6:=row_cell hrow (k * 9+6)
      have f7:=row_cell hrow (k * 9+7)
      have f8:=row_cell hrow (k * 9+8)
      rw [Array.getElem?_eq_getElem (by omega)] at f0 f1 f2 f3 f4 f5 f6 f7 f8
      have r0:=row_free hrow
      clear hrow hs2 hR e0 e1 e2 e3 e4 e5 e6 e7 e8
      go_wp2_with fail
      go_roundw
      case rel=>exact ⟨k+1,by omega,by go_num,hN⟩
      case measure=>simp [intOf];omega
    · go_wp2_with fail
      go_ret
      obtain rfl:k=len:=by omega
      exact ⟨_,rfl,hR.bel,rrm_done hR HL.out (by omega)⟩
set_option maxHeartbeats 400000 in
theorem toTermS_zero2 (D:Nat):SaidToMS2 D 0:=by
  intro L B ao len cap ts w hB hs hcnt
  obtain ⟨rfl,rfl⟩:=hs
  obtain ⟨i0,hi,hz0,hz1,hz2⟩:=info_parts Tryz.infoTerm
  have hmk:∃ C:Array Value,∀ w:World,(Instr.makeSlice 32 (.int .i64 0) (.int .i64 0)).run Tryz.prog w=.ok (.slice (some ⟨w.heap.size,0,none⟩) 0 0) (w.alloc (.cells C 34)):=by
    refine ⟨madeCells (Value.cells (.agg #[.int .i64 0,.int .i64 0,.string ⟨#[]⟩,.string ⟨#[]⟩,.int .i64 0,.int .i64 0,.slice none 0 0,.slice none 0 0,.slice none 0 0])) (0 * 9),fun w=>?_⟩
    have:=run_make (P:=Tryz.prog) (w:=w) 32 34 i0 _ Tryz.underlying32 hi hz0 .i64 .i64 0 0 (by omega) (by omega) (by omega) (by omega)
    rw [hz1] at this
    simpa using this
  obtain ⟨C,hmk⟩:=hmk
  go_enter Tryz.func23,Tryz.ntmps23
  go_wp2_with fail
  refine wp_loop_rounds 1 ?_;rw [rounds_succ]
  go_wp2_with fail
  go_ret
  exact ⟨_,rfl,(Below.refl _ _).alloc (Nat.le_refl _) _,OwMR.nil _ _ _ _ _ _⟩
theorem toTermS_any2 (D:Nat):∀ d,SaidToMS2 D d:=by
  intro d
  induction d with
  | zero=>exact toTermS_zero2 D
  | succ d ih=>exact toTermS_succ2 D d (toTerm_of2 D d ih)
theorem toTerm_any2 (D d:Nat):SaidToM2 D d:=toTerm_of2 D d (toTermS_any2 D d)
end Go.Proofs.YtcepgedbmffkdaaGreat

/-
  What 'eqTy', 'eqTyS' come to where both hold one tree: true.
-/
namespace Go.Proofs.YtcepgedbmffkdaaGreat
open Go.RowKit
set_option linter.unusedVariables false
set_option linter.unusedSimpArgs false
def SaidEq (d:Nat):Prop:=∀ (L B L' B':Nat) (k n:Int) (ao:Option Addr) (len cap:Nat) (ao':Option Addr) (len' cap':Nat) (ts:List Tr) (w:World),B≤w.heap.size→B'≤w.heap.size→Hs L B w d ao len ts→Hs L' B' w d ao' len' ts →
    Calls Tryz.prog 29 #[.agg #[.int .i64 k,.int .i64 n,.slice ao len cap],.agg #[.int .i64 k,.int .i64 n,.slice ao' len' cap']] w fun e w'=>e=.returned (.bool true)∧Below w.heap.size w w'
def SaidEqS (d:Nat):Prop:=∀ (L B L' B':Nat) (ao:Option Addr) (len cap:Nat) (ao':Option Addr) (len' cap':Nat) (ts:List Tr) (w:World),B≤w.heap.size→B'≤w.heap.size→Hs L B w d ao len ts→Hs L' B' w d ao' len' ts →
    Calls Tryz.prog 30 #[.slice ao len cap,.slice ao' len' cap'] w fun e w'=>e=.returned (.bool true)∧Below w.heap.size w w'
set_option maxHeartbeats 400000 in
theorem eqTyS_succ (d:Nat) (IH:SaidEq d):SaidEqS (d+1):=by
  intro L B L' B' ao len cap ao' len' cap' ts w hB hB' hs hs'
  have hl:=hs.2.1
  have HL:Hid (len=ts.length):=hs.1
  obtain rfl:len'=len:=by rw [hs.1,hs'.1]
  go_enter Tryz.func30,Tryz.ntmps30
  go_wp2_with fail
  go_loopw [5] (fun i wr=>∃ k:Nat,k≤len'∧i=.int .i64 k∧Below w.heap.size w wr) (fun i _=>len' - (intOf i).toNat)
  case atStart=>exact ⟨0,by omega,rfl,Below.refl _ _⟩
  case round =>
    obtain ⟨k,hk,rfl,hbel⟩:=hrel
    have hsz:=hbel.size
    by_cases hlt:k < len'
    · have hlt':k < ts.length:=by have:=HL.out;omega
      obtain ⟨b,o,rfl,_,hbB,ao1,len1,cap1,c0,c1,c2,hs1⟩:=hs.2.2 k hlt'
      obtain ⟨b',o',rfl,_,hbB',ao2,len2,cap2,c0',c1',c2',hs2⟩:=hs'.2.2 k hlt'
      have e0:=(bcell hbel (by omega) _).trans c0
      have e1:=(bcell hbel (by omega) _).trans c1
      have e2:=(bcell hbel (by omega) _).trans c2
      have e0':=(bcell hbel (by omega) _).trans c0'
      have e1':=(bcell hbel (by omega) _).trans c1'
      have e2':=(bcell hbel (by omega) _).trans c2'
      have hs1:=hs1.below hbel hB
      have hs2:=hs2.below hbel hB'
      go_wp2_with fail
      go_region_with (go_at_call 29;refine (IH L B L' B' _ _ _ _ _ _ _ _ (ts[k]'hlt').A _ ?_ ?_ ?_ ?_).mono ?_;(show B≤wr.heap.size;omega);(show B'≤wr.heap.size;omega);exact hs1.drew;exact hs2.drew;rintro e w1 ⟨rfl,hb1⟩)
      all_goals
        have hbel1:Below w.heap.size w w1:=hbel.drew.trans (hb1.mono hsz)
        go_wp2_with fail
        go_roundw
        case rel=>exact ⟨k+1,by omega,by go_num,hbel1⟩
        case measure=>simp [intOf];omega
    · go_wp2_with fail
      go_ret
      exact ⟨rfl,hbel⟩
set_option maxHeartbeats 400000 in
theorem eqTyS_zero:SaidEqS 0:=by
  intro L B L' B' ao len cap ao' len' cap' ts w hB hB' hs hs'
  obtain ⟨rfl,rfl⟩:=hs
  obtain ⟨rfl,_⟩:=hs'
  go_enter Tryz.func30,Tryz.ntmps30
  go_wp2_with fail
  refine wp_loop_rounds 1 ?_;rw [rounds_succ]
  go_wp2_with fail
  go_ret
  exact ⟨rfl,Below.refl _ _⟩
set_option maxHeartbeats 400000 in
theorem eqTy_of (d:Nat) (h:SaidEqS d):SaidEq d:=by
  intro L B L' B' k n ao len cap ao' len' cap' ts w hB hB' hs hs'
  have hb:Below w.heap.size w ((w.alloc (.cells #[.int .i64 k,.int .i64 n,.slice ao len cap] 31)).alloc (.cells #[.int .i64 k,.int .i64 n,.slice ao' len' cap'] 31)):=((Below.refl _ _).alloc (Nat.le_refl _) _).alloc (by simp) _
  have hs1:=hs.below hb hB
  have hs1':=hs'.below hb hB'
  go_enter Tryz.func29,Tryz.ntmps29
  go_wp2_with fail
  refine (h _ _ _ _ _ _ _ _ _ _ _ _ (by simp;omega) (by simp;omega) hs1 hs1').mono ?_
  rintro e w1 ⟨rfl,hb1⟩
  go_wp2_with fail
  go_ret
  exact ⟨rfl,hb.trans (hb1.mono (by simp;omega))⟩
theorem eqTyS_any:∀ d,SaidEqS d:=by
  intro d
  induction d with
  | zero=>exact eqTyS_zero
  | succ d ih=>exact eqTyS_succ d (eqTy_of d ih)
theorem eqTy_any (d:Nat):SaidEq d:=eqTy_of d (eqTyS_any d)
end Go.Proofs.YtcepgedbmffkdaaGreat

/-
  What 'eqTerm', 'eqTermS' come to where both hold one tree: true.
-/
namespace Go.Proofs.YtcepgedbmffkdaaGreat
open Go.RowKit
set_option linter.unusedVariables false
set_option linter.unusedSimpArgs false
def SaidEqM (D d:Nat):Prop:=∀ (L B L' B':Nat) (t:Tm) (a1:Option Addr) (l1 c1:Nat) (a2:Option Addr) (l2 c2:Nat) (a3:Option Addr) (l3 c3:Nat) (a1':Option Addr) (l1' c1':Nat) (a2':Option Addr) (l2' c2':Nat) (a3':Option Addr) (l3' c3':Nat) (w:World),B≤w.heap.size→B'≤w.heap.size→Fm L B w D d t a1 l1 a2 l2 a3 l3→Fm L' B' w D d t a1' l1' a2' l2' a3' l3' →
    Calls Tryz.prog 9 #[.agg #[.int .i64 t.K,.int .i64 t.N,.string t.S,.string t.Z,.int .i64 t.T.K,.int .i64 t.T.N,.slice a1 l1 c1,.slice a2 l2 c2,.slice a3 l3 c3],.agg #[.int .i64 t.K,.int .i64 t.N,.string t.S,.string t.Z,.int .i64 t.T.K,.int .i64 t.T.N,.slice a1' l1' c1',.slice a2' l2' c2',.slice a3' l3' c3']] w fun e w'=>e=.returned (.bool true)∧Below w.heap.size w w'
def SaidEqMS (D d:Nat):Prop:=∀ (L B L' B':Nat) (ao:Option Addr) (len cap:Nat) (ao':Option Addr) (len' cap':Nat) (ts:List Tm) (w:World),B≤w.heap.size→B'≤w.heap.size→Hm L B w D d ao len ts→Hm L' B' w D d ao' len' ts →
    Calls Tryz.prog 31 #[.slice ao len cap,.slice ao' len' cap'] w fun e w'=>e=.returned (.bool true)∧Below w.heap.size w w'
set_option maxHeartbeats 400000 in
theorem eqTermS_succ (D d:Nat) (IH:SaidEqM D d):SaidEqMS D (d+1):=by
  intro L B L' B' ao len cap ao' len' cap' ts w hB hB' hs hs'
  have hl:=hs.2.1
  have HL:Hid (len=ts.length):=hs.1
  obtain rfl:len'=len:=by rw [hs.1,hs'.1]
  go_enter Tryz.func31,Tryz.ntmps31
  go_wp2_with fail
  go_loopw [5] (fun i wr=>∃ k:Nat,k≤len'∧i=.int .i64 k∧Below w.heap.size w wr) (fun i _=>len' - (intOf i).toNat)
  case atStart=>exact ⟨0,by omega,rfl,Below.refl _ _⟩
  case round =>
    obtain ⟨k,hk,rfl,hbel⟩:=hrel
    have hsz:=hbel.size
    by_cases hlt:k < len'
    · have hlt':k < ts.length:=by have:=HL.out;omega
      obtain ⟨b,o,rfl,_,hbB,a1,l1,c1,a2,l2,c2,a3,l3,c3,h9,hf⟩:=hs.2.2 k hlt'
      obtain ⟨b',o',rfl,_,hbB',a1',l1',c1',a2',l2',c2',a3',l3',c3',h9',hf'⟩:=hs'.2.2 k hlt'
      obtain ⟨e0,e1,e2,e3,e4,e5,e6,e7,e8⟩:=h9.below hbel (by omega)
      obtain ⟨e0',e1',e2',e3',e4',e5',e6',e7',e8'⟩:=h9'.below hbel (by omega)
      have hs1:=Fm.below hbel hB hf
      have hs2:=Fm.below hbel hB' hf'
      go_wp2_with fail
      go_region_with (go_at_call 9;refine (IH L B L' B' (ts[k]'hlt') _ _ _ _ _ _ _ _ _ _ _ _ _ _ _ _ _ _ _ ?_ ?_ ?_ ?_).mono ?_;(show B≤wr.heap.size;omega);(show B'≤wr.heap.size;omega);exact Fm.drew hs1;exact Fm.drew hs2;rintro e w1 ⟨rfl,hb1⟩)
      all_goals
        have hbel1:Below w.heap.size w w1:=hbel.drew.trans (hb1.mono hsz)
        go_wp2_with fail
        go_roundw
        case rel=>exact ⟨k+1,by omega,by go_num,hbel1⟩
        case measure=>simp [intOf];omega
    · go_wp2_with fail
      go_ret
      exact ⟨rfl,hbel⟩
set_option maxHeartbeats 400000 in
theorem eqTermS_zero (D:Nat):SaidEqMS D 0:=by
  intro L B L' B' ao len cap ao' len' cap' ts w hB hB' hs hs'
  obtain ⟨rfl,rfl⟩:=hs
  obtain ⟨rfl,_⟩:=hs'
  go_enter Tryz.func31,Tryz.ntmps31
  go_wp2_with fail
  refine wp_loop_rounds 1 ?_;rw [rounds_succ]
  go_wp2_with fail
  go_ret
  exact ⟨rfl,Below.refl _ _⟩
set_option maxHeartbeats 800000 in
theorem eqTerm_of (D d:Nat) (h:SaidEqMS D d):SaidEqM D d:=by
  intro L B L' B' t a1 l1 c1 a2 l2 c2 a3 l3 c3 a1' l1' c1' a2' l2' c2' a3' l3' c3' w hB hB' hf hf'
  have hb0:Below w.heap.size w ((w.alloc (.cells #[.int .i64 t.K,.int .i64 t.N,.string t.S,.string t.Z,.int .i64 t.T.K,.int .i64 t.T.N,.slice a1 l1 c1,.slice a2 l2 c2,.slice a3 l3 c3] 34)).alloc (.cells #[.int .i64 t.K,.int .i64 t.N,.string t.S,.string t.Z,.int .i64 t.T.K,.int .i64 t.T.N,.slice a1' l1' c1',.slice a2' l2' c2',.slice a3' l3' c3'] 34)):=((Below.refl _ _).alloc (Nat.le_refl _) _).alloc (by simp) _
  have hs:=hf.s
  have hz:=hf.z
  obtain ⟨X,hX⟩:∃ X,X=((w.alloc (.cells #[.int .i64 t.K,.int .i64 t.N,.string t.S,.string t.Z,.int .i64 t.T.K,.int .i64 t.T.N,.slice a1 l1 c1,.slice a2 l2 c2,.slice a3 l3 c3] 34)).alloc (.cells #[.int .i64 t.K,.int .i64 t.N,.string t.S,.string t.Z,.int .i64 t.T.K,.int .i64 t.T.N,.slice a1' l1' c1',.slice a2' l2' c2',.slice a3' l3' c3'] 34)):=⟨_,rfl⟩
  have hXs:X.heap.size=w.heap.size+2:=by rw [hX];simp
  have hX1:X.heap[w.heap.size]?=some (.cells #[.int .i64 t.K,.int .i64 t.N,.string t.S,.string t.Z,.int .i64 t.T.K,.int .i64 t.T.N,.slice a1 l1 c1,.slice a2 l2 c2,.slice a3 l3 c3] 34 (0,0)):=by rw [hX,Below.heap_alloc _ _ _ (by simp)];exact heap_new rfl
  have hX2:X.heap[w.heap.size+1]?=some (.cells #[.int .i64 t.K,.int .i64 t.N,.string t.S,.string t.Z,.int .i64 t.T.K,.int .i64 t.T.N,.slice a1' l1' c1',.slice a2' l2' c2',.slice a3' l3' c3'] 34 (0,0)):=by rw [hX];exact heap_new (by simp)
  rw [← hX] at hb0
  have hf1:=Fm.below hb0 hB hf
  have hf1':=Fm.below hb0 hB' hf'
  have HX:Hid (X=_):=hX
  clear hX
  go_enter Tryz.func9,Tryz.ntmps9
  go_wp2_with fail
  rw [← HX.out]
  refine (eqTy_any D L B L' B' _ _ _ _ _ _ _ _ t.T.A _ (by omega) (by omega) hf1.t1 hf1'.t1).mono ?_
  rintro e w1 ⟨rfl,hb1⟩
  have hz1:=hb1.size
  have hbw1:Below w.heap.size w w1:=hb0.trans (hb1.mono (by omega))
  have y1:=(hb1.block _ (by omega)).trans hX1
  have y1':=(hb1.block _ (by omega)).trans hX2
  obtain ⟨f0,f1,f2,f3,f4,f5,f6,f7,f8⟩:=Nine.box y1
  obtain ⟨f0',f1',f2',f3',f4',f5',f6',f7',f8'⟩:=Nine.box y1'
  go_wp2_with fail
  have hf2:=Fm.below hbw1 hB hf
  have hf2':=Fm.below hbw1 hB' hf'
  refine (eqTyS_any D L B L' B' _ _ _ _ _ _ t.Ts _ (by omega) (by omega) hf2.t2 hf2'.t2).mono ?_
  rintro e w2 ⟨rfl,hb2⟩
  have hz2:=hb2.size
  have hbw2:Below w.heap.size w w2:=hbw1.trans (hb2.mono (by omega))
  have y2:=(hb2.block _ (by omega)).trans y1
  have y2':=(hb2.block _ (by omega)).trans y1'
  clear f0 f1 f2 f3 f4 f5 f6 f7 f8 f0' f1' f2' f3' f4' f5' f6' f7' f8'
  obtain ⟨f0,f1,f2,f3,f4,f5,f6,f7,f8⟩:=Nine.box y2
  obtain ⟨f0',f1',f2',f3',f4',f5',f6',f7',f8'⟩:=Nine.box y2'
  go_wp2_with fail
  have hf3:=Fm.below hbw2 hB hf
  have hf3':=Fm.below hbw2 hB' hf'
  refine (h L B L' B' _ _ _ _ _ _ t.A _ (by omega) (by omega) hf3.m hf3'.m).mono ?_
  rintro e w3 ⟨rfl,hb3⟩
  go_wp2_with fail
  go_ret
  exact ⟨rfl,hbw2.trans (hb3.mono (by omega))⟩
theorem eqTermS_any (D:Nat):∀ d,SaidEqMS D d:=by
  intro d
  induction d with
  | zero=>exact eqTermS_zero D
  | succ d ih=>exact eqTermS_succ D d (eqTerm_of D d ih)
theorem eqTerm_any (D d:Nat):SaidEqM D d:=eqTerm_of D d (eqTermS_any D d)
end Go.Proofs.YtcepgedbmffkdaaGreat
