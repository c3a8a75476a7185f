/-
  What 'toTerm', 'toTermS' (a copy in the program's own type) come to: the same tree in new memory.
-/
import Derived.Test.YtcepgedbmffkdaaGreatFbaZ5
import Derived.Test.YtcepgedbmffkdaaGreatFbaZ45
import Derived.Test.YtcepgedbmffkdaaGreatFbaZ3
namespace Go.Proofs.YtcepgedbmffkdaaGreat
open Go.RowKit
set_option linter.unusedVariables false
set_option linter.unusedSimpArgs false
def SaidToM (D d:Nat):Prop:=∀ (L B:Nat) (t:Tm) (a1:Option Addr) (l1 c1:Nat) (a2:Option Addr) (l2 c2:Nat) (a3:Option Addr) (l3 c3:Nat) (w:World),B≤w.heap.size→Fm L B w D d t a1 l1 a2 l2 a3 l3→cntM t≤1048576 →
    Calls Tryz.prog 7 #[.agg #[.int .i64 t.K,.int .i64 t.N,.string t.S,.string t.Z,.int .i64 t.T.K,.int .i64 t.T.N,.slice a1 l1 c1,.slice a2 l2 c2,.slice a3 l3 c3]] w fun e w'=>∃ g1 g2 g3,e=.returned (.agg #[.int .i64 t.K,.int .i64 t.N,.string t.S,.string t.Z,.int .i64 t.T.K,.int .i64 t.T.N,.slice (some ⟨g1,0,none⟩) l1 l1,.slice (some ⟨g2,0,none⟩) l2 l2,.slice (some ⟨g3,0,none⟩) l3 l3])∧Below w.heap.size w w'∧Fm w.heap.size w'.heap.size w' D d t (some ⟨g1,0,none⟩) l1 (some ⟨g2,0,none⟩) l2 (some ⟨g3,0,none⟩) l3
def SaidToMS (D d:Nat):Prop:=∀ (L B:Nat) (ao:Option Addr) (len cap:Nat) (ts:List Tm) (w:World),B≤w.heap.size→Hm L B w D d ao len ts→cntMS ts≤1048576 →
    Calls Tryz.prog 23 #[.slice ao len cap] w fun e w'=>∃ g,e=.returned (.slice (some ⟨g,0,none⟩) len len)∧Below w.heap.size w w'∧Hm w.heap.size w'.heap.size w' D d (some ⟨g,0,none⟩) len ts
set_option maxHeartbeats 800000 in
theorem toTerm_of (D d:Nat) (h:SaidToMS D d):SaidToM D d:=by
  intro L B t a1 l1 c1 a2 l2 c2 a3 l3 c3 w hB hf hcnt
  have HC:Hid (cntM t=t.S.size+t.Z.size+cntS t.T.A+cntS t.Ts+cntMS t.A):=cntM_eq t
  obtain ⟨X,hX⟩:∃ X,X=(((w.alloc (.cells #[.int .i64 t.K,.int .i64 t.N,.string t.S,.string t.Z,.int .i64 t.T.K,.int .i64 t.T.N,.slice a1 l1 c1,.slice a2 l2 c2,.slice a3 l3 c3] 27)).alloc (.cells #[.int .i64 0,.int .i64 0,.string ⟨#[]⟩,.string ⟨#[]⟩,.int .i64 0,.int .i64 0,.slice none 0 0,.slice none 0 0,.slice none 0 0] 34)).alloc (.cells #[.int .i64 t.K,.int .i64 t.N,.string t.S,.string t.Z,.int .i64 0,.int .i64 0,.slice none 0 0,.slice none 0 0,.slice none 0 0] 34)):=⟨_,rfl⟩
  have hXs:X.heap.size=w.heap.size+3:=by rw [hX];simp
  have hXb:Below w.heap.size w X:=by rw [hX];exact (((Below.refl _ _).alloc (Nat.le_refl _) _).alloc (by simp) _).alloc (by simp;omega) _
  have hX0:X.heap[w.heap.size]?=some (.cells #[.int .i64 t.K,.int .i64 t.N,.string t.S,.string t.Z,.int .i64 t.T.K,.int .i64 t.T.N,.slice a1 l1 c1,.slice a2 l2 c2,.slice a3 l3 c3] 27 (0,0)):=by
    rw [hX,Below.heap_alloc _ _ _ (by simp;omega),Below.heap_alloc _ _ _ (by simp)];exact heap_new rfl
  have hX1:X.heap[w.heap.size+1]?=some (.cells #[.int .i64 0,.int .i64 0,.string ⟨#[]⟩,.string ⟨#[]⟩,.int .i64 0,.int .i64 0,.slice none 0 0,.slice none 0 0,.slice none 0 0] 34 (0,0)):=by
    rw [hX,Below.heap_alloc _ _ _ (by simp)];exact heap_new (by simp)
  have hX2:X.heap[w.heap.size+1+1]?=some (.cells #[.int .i64 t.K,.int .i64 t.N,.string t.S,.string t.Z,.int .i64 0,.int .i64 0,.slice none 0 0,.slice none 0 0,.slice none 0 0] 34 (0,0)):=by
    rw [hX];exact heap_new (by simp)
  have hf1:=Fm.below hXb hB hf
  have HX:Hid (X=_):=hX
  clear hX
  go_enter Tryz.func7,Tryz.ntmps7
  go_wp2_with fail
  rw [← HX.out]
  refine (toTy_any D L B _ _ _ _ _ t.T.A X (by omega) hf1.t1 (by have:=HC.out;omega)).mono ?_
  rintro e w1 ⟨g1,rfl,hb1,hs1⟩
  have hz1:=hb1.size
  have hbw1:Below w.heap.size w w1:=hXb.trans (hb1.mono (by omega))
  have y0:=(hb1.block _ (by omega)).trans hX0
  have y1:=(hb1.block _ (by omega)).trans hX1
  have y2:=(hb1.block _ (by omega)).trans hX2
  obtain ⟨f0,f1,f2,f3,f4,f5,f6,f7,f8⟩:=Nine.box y0
  obtain ⟨_,_,_,_,q4,q5,q6,q7,q8⟩:=Nine.box y2
  have r2:=row_free y2
  go_wp2_with fail
  have hXc:Below w.heap.size w (set3 w1 (w.heap.size+1+1) 4 (.int .i64 t.T.K) (.int .i64 t.T.N) (.slice (some ⟨g1,0,none⟩) l1 l1)):=set3_below hbw1 (by omega)
  have hf2:=Fm.below hXc hB hf
  have hzc:(set3 w1 (w.heap.size+1+1) 4 (.int .i64 t.T.K) (.int .i64 t.T.N) (.slice (some ⟨g1,0,none⟩) l1 l1)).heap.size=w1.heap.size:=set3_size _ _ _ _ _ _
  refine (toTyS_any D L B _ _ _ t.Ts (set3 w1 (w.heap.size+1+1) 4 (.int .i64 t.T.K) (.int .i64 t.T.N) (.slice (some ⟨g1,0,none⟩) l1 l1)) (by omega) hf2.t2 (by have:=HC.out;omega)).mono ?_
  rintro e w2 ⟨g2,rfl,hb2,hs2⟩
  have hz2:=hb2.size
  have hbw2:Below w.heap.size w w2:=hXc.trans (hb2.mono (by omega))
  have z0:=(hb2.block w.heap.size (by omega)).trans ((set3_other _ (by omega)).trans y0)
  have z1:=(hb2.block (w.heap.size+1) (by omega)).trans ((set3_other _ (by omega)).trans y1)
  have z2:w2.heap[w.heap.size+1+1]?=some (.cells #[.int .i64 t.K,.int .i64 t.N,.string t.S,.string t.Z,.int .i64 t.T.K,.int .i64 t.T.N,.slice (some ⟨g1,0,none⟩) l1 l1,.slice none 0 0,.slice none 0 0] 34 (0,0)):=(hb2.block (w.heap.size+1+1) (by omega)).trans (set3_row y2)
  have hs1':Hs (w.heap.size+3) w2.heap.size w2 D (some ⟨g1,0,none⟩) l1 t.T.A:=hs1.keep (fun j hj1 hj2=>(hb2.block j (by omega)).trans (set3_other j (by omega))) (by omega) (by omega)
  have hs2':Hs (w.heap.size+3) w2.heap.size w2 D (some ⟨g2,0,none⟩) l2 t.Ts:=hs2.keep (fun j hj1 hj2=>rfl) (by omega) (by omega)
  clear f0 f1 f2 f3 f4 f5 f6 f7 f8 q4 q5 q6 q7 q8 r2 y0 y1 y2 hs1 hs2 hX0 hX1 hX2 hf1 hf2
  obtain ⟨f0,f1,f2,f3,f4,f5,f6,f7,f8⟩:=Nine.box z0
  obtain ⟨_,_,_,_,q4,q5,q6,q7,q8⟩:=Nine.box z2
  have r2:=row_free z2
  go_wp2_with fail
  have hXd:Below w.heap.size w (w2.setCell ⟨w.heap.size+1+1,7,none⟩ (.slice (some ⟨g2,0,none⟩) l2 l2)):=hbw2.setCell (p:=⟨w.heap.size+1+1,7,none⟩) (by show _≤w.heap.size+1+1;omega) _
  have hzd:(w2.setCell ⟨w.heap.size+1+1,7,none⟩ (.slice (some ⟨g2,0,none⟩) l2 l2)).heap.size=w2.heap.size:=by simp
  have hf3:=Fm.below hXd hB hf
  refine (h L B _ _ _ t.A _ (by omega) hf3.m (by have:=HC.out;omega)).mono ?_
  rintro e w3 ⟨g3,rfl,hb3,hs3⟩
  have hz3:=hb3.size
  have hbw3:Below w.heap.size w w3:=hXd.trans (hb3.mono (by omega))
  have u1:w3.heap[w.heap.size+1]?=some (.cells #[.int .i64 0,.int .i64 0,.string ⟨#[]⟩,.string ⟨#[]⟩,.int .i64 0,.int .i64 0,.slice none 0 0,.slice none 0 0,.slice none 0 0] 34 (0,0)):=(hb3.block (w.heap.size+1) (by omega)).trans ((row_other _ _ _ (by omega)).trans z1)
  have u2:w3.heap[w.heap.size+1+1]?=some (.cells #[.int .i64 t.K,.int .i64 t.N,.string t.S,.string t.Z,.int .i64 t.T.K,.int .i64 t.T.N,.slice (some ⟨g1,0,none⟩) l1 l1,.slice (some ⟨g2,0,none⟩) l2 l2,.slice none 0 0] 34 (0,0)):=(hb3.block (w.heap.size+1+1) (by omega)).trans (row_set z2 _ _)
  have hs1:Hs (w.heap.size+3) w3.heap.size w3 D (some ⟨g1,0,none⟩) l1 t.T.A:=hs1'.keep (fun j hj1 hj2=>(hb3.block j (by omega)).trans (row_other _ _ _ (by omega))) (by omega) (by omega)
  have hs2:Hs (w.heap.size+3) w3.heap.size w3 D (some ⟨g2,0,none⟩) l2 t.Ts:=hs2'.keep (fun j hj1 hj2=>(hb3.block j (by omega)).trans (row_other _ _ _ (by omega))) (by omega) (by omega)
  have hs3':Hm (w.heap.size+3) w3.heap.size w3 D d (some ⟨g3,0,none⟩) l3 t.A:=hs3.keep (fun j hj1 hj2=>rfl) (by omega) (by omega)
  clear f0 f1 f2 f3 f4 f5 f6 f7 f8 q4 q5 q6 q7 q8 r2 z0 z1 z2 hs3 hf3 hs1' hs2'
  obtain ⟨p0,p1,p2,p3,p4,p5,p6,p7,p8⟩:=Nine.box u1
  obtain ⟨q0,q1,q2,q3,q4,q5,q6,q7,q8⟩:=Nine.box u2
  have r1:=row_free u1
  have r2:=row_free u2
  go_wp2_with fail
  refine bodyPost_ret (v:=.agg #[.int .i64 t.K,.int .i64 t.N,.string t.S,.string t.Z,.int .i64 t.T.K,.int .i64 t.T.N,.slice (some ⟨g1,0,none⟩) l1 l1,.slice (some ⟨g2,0,none⟩) l2 l2,.slice (some ⟨g3,0,none⟩) l3 l3]) (by simp [results,Tryz.results7,go_sem,p0,p1,p2,p3,p4,p5,p6,p7,p8]) rfl ⟨g1,g2,g3,rfl,?_,?_⟩
  · exact set9_below (o:=0) (hbw3.setCell (p:=⟨w.heap.size+1+1,8,none⟩) (by show _≤w.heap.size+1+1;omega) _) (by omega)
  · have keep:∀ j,w.heap.size+3≤j→j < w3.heap.size→(set9 (w3.setCell ⟨w.heap.size+1+1,8,none⟩ (.slice (some ⟨g3,0,none⟩) l3 l3)) (w.heap.size+1) 0 (.int .i64 t.K) (.int .i64 t.N) (.string t.S) (.string t.Z) (.int .i64 t.T.K) (.int .i64 t.T.N) (.slice (some ⟨g1,0,none⟩) l1 l1) (.slice (some ⟨g2,0,none⟩) l2 l2) (.slice (some ⟨g3,0,none⟩) l3 l3)).heap[j]?=w3.heap[j]? :=
      fun j hj _=>(set9_other j (by omega)).trans (row_other _ _ _ (by omega))
    have hsz:(set9 (w3.setCell ⟨w.heap.size+1+1,8,none⟩ (.slice (some ⟨g3,0,none⟩) l3 l3)) (w.heap.size+1) 0 (.int .i64 t.K) (.int .i64 t.N) (.string t.S) (.string t.Z) (.int .i64 t.T.K) (.int .i64 t.T.N) (.slice (some ⟨g1,0,none⟩) l1 l1) (.slice (some ⟨g2,0,none⟩) l2 l2) (.slice (some ⟨g3,0,none⟩) l3 l3)).heap.size=w3.heap.size:=by rw [set9_size];simp
    exact ⟨hf.s,hf.z,hs1.keep keep (by omega) (Nat.le_of_eq hsz.symm),hs2.keep keep (by omega) (Nat.le_of_eq hsz.symm),hs3'.keep keep (by omega) (Nat.le_of_eq hsz.symm)⟩
structure ToRelM (w wr:World) (D d len k:Nat) (ts:List Tm):Prop where
  bel:Below w.heap.size w wr
  row:∃ cs:Array Value,wr.heap[w.heap.size]?=some (.cells cs 34 (0,0))∧cs.size=len * 9
  els:∀ i (_:i < k) (h:i < ts.length),El9 wr (Hs (w.heap.size+1) wr.heap.size wr D) (Hm (w.heap.size+1) wr.heap.size wr D d) w.heap.size (i * 9) ts[i]
theorem tom_lt {w wr:World} {D d len k:Nat} {ts:List Tm} (h:ToRelM w wr D d len k ts):w.heap.size < wr.heap.size:=by
  obtain ⟨cs,hr,_⟩:=h.row
  exact (Array.getElem?_eq_some_iff.1 hr).1
theorem tom_row {w wr w1:World} {D d len k:Nat} {ts:List Tm} (h:ToRelM w wr D d len k ts) (hb:Below wr.heap.size wr w1):∃ cs:Array Value,w1.heap[w.heap.size]?=some (.cells cs 34 (0,0))∧cs.size=len * 9:=by
  obtain ⟨cs,hr,hc⟩:=h.row
  exact ⟨cs,(hb.block _ (tom_lt h)).trans hr,hc⟩
theorem tom_next {w wr w1:World} {D d len k:Nat} {ts:List Tm} (h:ToRelM w wr D d len k ts) (hk:k < len) (hk':k < ts.length) (hb:Below wr.heap.size wr w1) {a1 a2 a3:Option Addr} {l1 l2 l3 c1 c2 c3:Nat}
    (hs:Fm wr.heap.size w1.heap.size w1 D d ts[k] a1 l1 a2 l2 a3 l3) :
    ToRelM w (set9 w1 w.heap.size (k * 9) (.int .i64 ts[k].K) (.int .i64 ts[k].N) (.string ts[k].S) (.string ts[k].Z) (.int .i64 ts[k].T.K) (.int .i64 ts[k].T.N) (.slice a1 l1 c1) (.slice a2 l2 c2) (.slice a3 l3 c3)) D d len (k+1) ts:=by
  obtain ⟨cs,hr,hc⟩:=tom_row h hb
  have hlt:=tom_lt h
  have hsz:=hb.size
  obtain ⟨Y,hY⟩:∃ Y,Y=set9 w1 w.heap.size (k * 9) (.int .i64 ts[k].K) (.int .i64 ts[k].N) (.string ts[k].S) (.string ts[k].Z) (.int .i64 ts[k].T.K) (.int .i64 ts[k].T.N) (.slice a1 l1 c1) (.slice a2 l2 c2) (.slice a3 l3 c3):=⟨_,rfl⟩
  have ho:∀ j,j≠w.heap.size→Y.heap[j]?=w1.heap[j]?:=fun j hj=>by rw [hY];exact set9_other j hj
  have hYs:Y.heap.size=w1.heap.size:=by rw [hY];exact set9_size _ _ _ _ _ _ _ _ _ _ _ _
  have h9:Nine Y w.heap.size (k * 9) ts[k].K ts[k].N ts[k].S ts[k].Z ts[k].T.K ts[k].T.N (.slice a1 l1 c1) (.slice a2 l2 c2) (.slice a3 l3 c3):=by rw [hY];exact set9_cells hr (by omega)
  have hrow:∃ cs:Array Value,Y.heap[w.heap.size]?=some (.cells cs 34 (0,0))∧cs.size=len * 9:=by
    rw [hY];obtain ⟨cs',e1,e2⟩:=set9_row (o:=k * 9) (a0:=.int .i64 ts[k].K) (a1:=.int .i64 ts[k].N) (a2:=.string ts[k].S) (a3:=.string ts[k].Z) (a4:=.int .i64 ts[k].T.K) (a5:=.int .i64 ts[k].T.N) (a6:=.slice a1 l1 c1) (a7:=.slice a2 l2 c2) (a8:=.slice a3 l3 c3) hr
    exact ⟨cs',e1,e2.trans hc⟩
  have hbel:Below w.heap.size w Y:=by rw [hY];exact set9_below (h.bel.trans (hb.mono (by omega))) (Nat.le_refl _)
  have far:∀ p,p < k * 9→Y.cell? ⟨w.heap.size,p,none⟩=wr.cell? ⟨w.heap.size,p,none⟩ :=
    fun p hp=>by rw [hY];exact (set9_far hr p (Or.inl hp)).trans (bcell hb hlt p)
  rw [← hY]
  clear hY
  refine ⟨hbel,hrow,?_⟩
  intro i hi hi'
  by_cases hik:i=k
  · subst hik
    exact ⟨_,_,_,_,_,_,_,_,_,h9,Fm.keep (fun j hj _=>ho j (by omega)) (by omega) (by omega) hs⟩
  · obtain ⟨b1,m1,d1,b2,m2,d2,b3,m3,d3,g9,hh⟩:=h.els i (by omega) hi'
    refine ⟨b1,m1,d1,b2,m2,d2,b3,m3,d3,g9.of_cells fun j hj=>far _ (by omega),?_⟩
    exact Fm.keep (fun j hj hj2=>(ho j (by omega)).trans (hb.block j hj2)) (Nat.le_refl _) (by omega) hh
set_option maxHeartbeats 800000 in
theorem toTermS_succ (D d:Nat) (IH:SaidToM D d):SaidToMS D (d+1):=by
  intro L B ao len cap ts w hB hs hcnt
  have hl:len≤1048576:=by have:=hs.1;have:=cntMS_eq ts;omega
  have HL:Hid (len=ts.length):=hs.1
  obtain ⟨i0,hi,hz0,hz1,hz2⟩:=info_parts Tryz.infoTerm
  have hmk:∃ C:Array Value,C.size=len * 9∧∀ w:World,(Instr.makeSlice 32 (.int .i64 (len:Int)) (.int .i64 (len:Int))).run Tryz.prog w=.ok (.slice (some ⟨w.heap.size,0,none⟩) len len) (w.alloc (.cells C 34)):=by
    refine ⟨madeCells (Value.cells (.agg #[.int .i64 0,.int .i64 0,.string ⟨#[]⟩,.string ⟨#[]⟩,.int .i64 0,.int .i64 0,.slice none 0 0,.slice none 0 0,.slice none 0 0])) (len * 9),?_,fun w=>?_⟩
    · exact size_madeCells _ _
    · have:=run_make (P:=Tryz.prog) (w:=w) 32 34 i0 _ Tryz.underlying32 hi hz0 .i64 .i64 (len:Int) (len:Int) (by omega) (by omega) (by rw [hz2];omega) (by omega)
      rw [hz1] at this
      simpa using this
  obtain ⟨C,hC,hmk⟩:=hmk
  go_enter Tryz.func23,Tryz.ntmps23
  go_wp2_with fail
  go_loopw [4] (fun i wr=>∃ k:Nat,k≤len∧i=.int .i64 k∧ToRelM w wr D d len k ts) (fun i _=>len - (intOf i).toNat)
  case atStart=>exact ⟨0,by omega,rfl,⟨(Below.refl _ _).alloc (Nat.le_refl _) _,⟨C,heap_alloc_new _ _,hC⟩,fun i hi=>by omega⟩⟩
  case round =>
    obtain ⟨k,hk,rfl,hR⟩:=hrel
    have hbel:=hR.bel
    have hsz:=hbel.size
    have hlt0:=tom_lt hR
    clear hmk
    by_cases hlt:k < len
    · have hlt':k < ts.length:=by have:=HL.out;omega
      obtain ⟨b,o,rfl,_,hbB,a1,l1,c1,a2,l2,c2,a3,l3,c3,h9,hf⟩:=hs.2.2 k hlt'
      obtain ⟨e0,e1,e2,e3,e4,e5,e6,e7,e8⟩:=h9.below hbel (by omega)
      have hs1:=Fm.below hbel hB hf
      have hc1:=cntMS_get ts k hlt'
      go_wp2_with fail
      refine (IH L B ts[k] _ _ _ _ _ _ _ _ _ _ (by omega) hs1 (by omega)).mono ?_
      rintro e w1 ⟨g1,g2,g3,rfl,hb1,hs2⟩
      have hN:=tom_next (c1:=l1) (c2:=l2) (c3:=l3) hR hlt hlt' hb1 hs2
      obtain ⟨cs,hrow,hcsz⟩:=tom_row hR hb1
      have f0:=row_cell hrow (k * 9)
      have f1:=row_cell hrow (k * 9+1)
      have f2:=row_cell hrow (k * 9+2)
      have f3:=row_cell hrow (k * 9+3)
      have f4:=row_cell hrow (k * 9+4)
      have f5:=row_cell hrow (k * 9+5)
      have f6:=row_cell hrow (k * 9+6)
      have f7:=row_cell hrow (k * 9+7)
      have f8:=row_cell hrow (k * 9+8)
      rw [Array.getElem?_eq_getElem (by omega)] at f0 f1 f2 f3 f4 f5 f6 f7 f8
      have r0:=row_free hrow
      clear hrow hs2 hR e0 e1 e2 e3 e4 e5 e6 e7 e8
      go_wp2_with fail
      go_roundw
      case rel=>exact ⟨k+1,by omega,by go_num,hN⟩
      case measure=>simp [intOf];omega
    · go_wp2_with fail
      go_ret
      refine ⟨_,rfl,hR.bel,?_⟩
      have:=HL.out
      refine ⟨this,by omega,fun i hi=>⟨_,_,rfl,Nat.le_refl _,tom_lt hR,?_⟩⟩
      rw [Nat.zero_add]
      exact (hR.els i (by omega) hi).wider (fun _ _ _ h=>h.keep (fun _ _ _=>rfl) (by omega) (Nat.le_refl _)) (fun _ _ _ h=>h.keep (fun _ _ _=>rfl) (by omega) (Nat.le_refl _))
set_option maxHeartbeats 400000 in
theorem toTermS_zero (D:Nat):SaidToMS D 0:=by
  intro L B ao len cap ts w hB hs hcnt
  obtain ⟨rfl,rfl⟩:=hs
  obtain ⟨i0,hi,hz0,hz1,hz2⟩:=info_parts Tryz.infoTerm
  have hmk:∃ C:Array Value,∀ w:World,(Instr.makeSlice 32 (.int .i64 0) (.int .i64 0)).run Tryz.prog w=.ok (.slice (some ⟨w.heap.size,0,none⟩) 0 0) (w.alloc (.cells C 34)):=by
    refine ⟨madeCells (Value.cells (.agg #[.int .i64 0,.int .i64 0,.string ⟨#[]⟩,.string ⟨#[]⟩,.int .i64 0,.int .i64 0,.slice none 0 0,.slice none 0 0,.slice none 0 0])) (0 * 9),fun w=>?_⟩
    have:=run_make (P:=Tryz.prog) (w:=w) 32 34 i0 _ Tryz.underlying32 hi hz0 .i64 .i64 0 0 (by omega) (by omega) (by omega) (by omega)
    rw [hz1] at this
    simpa using this
  obtain ⟨C,hmk⟩:=hmk
  go_enter Tryz.func23,Tryz.ntmps23
  go_wp2_with fail
  refine wp_loop_rounds 1 ?_;rw [rounds_succ]
  go_wp2_with fail
  go_ret
  exact ⟨_,rfl,(Below.refl _ _).alloc (Nat.le_refl _) _,rfl,rfl⟩
theorem toTermS_any (D:Nat):∀ d,SaidToMS D d:=by
  intro d
  induction d with
  | zero=>exact toTermS_zero D
  | succ d ih=>exact toTermS_succ D d (toTerm_of D d ih)
theorem toTerm_any (D d:Nat):SaidToM D d:=toTerm_of D d (toTermS_any D d)
end Go.Proofs.YtcepgedbmffkdaaGreat
