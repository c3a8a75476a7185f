/-
  Terms that are left to be compared, as a list, and the types that are; what lies in memory of them: no walk.
-/
import Derived.Test.YtleghjgpnefliaaFnoZ43
import Derived.Test.YtleghjgpnefliaaFnoZ44
import Derived.Test.YtleghjgpnefliaaFnoAg2
namespace Go.Proofs.Ytleghjgpnefliaa
open Go.RowKit
set_option linter.unusedVariables false
set_option linter.unusedSimpArgs false
theorem Try.infoTwoM:(Try.prog.info? 67).map (fun i=>(i.zero.map fun z=>z.cells.size,i.size,i.bytes))=some (some 18,18,272):=by kernel_rfl
theorem Try.infoTwoS:(Try.prog.info? 67).map (fun i=>i.size)=some 18:=by kernel_rfl
structure Im where
 t:Tm
 a1:Option Addr
 l1:Nat
 c1:Nat
 a2:Option Addr
 l2:Nat
 c2:Nat
 a3:Option Addr
 l3:Nat
 c3:Nat
 p1:List Nat
 p2:List Nat
 p3:List Nat
 t':Tm
 b1:Option Addr
 m1:Nat
 d1:Nat
 b2:Option Addr
 m2:Nat
 d2:Nat
 b3:Option Addr
 m3:Nat
 d3:Nat
def Im.bs (i:Im):List Nat:=i.p1++i.p2++i.p3
abbrev Im.vs (i:Im):Array Value:=#[.int .i64 i.t.K,.int .i64 i.t.N,.string i.t.S,.string i.t.Z,.int .i64 i.t.T.K,.int .i64 i.t.T.N,.slice i.a1 i.l1 i.c1,.slice i.a2 i.l2 i.c2,.slice i.a3 i.l3 i.c3,.int .i64 i.t'.K,.int .i64 i.t'.N,.string i.t'.S,.string i.t'.Z,.int .i64 i.t'.T.K,.int .i64 i.t'.T.N,.slice i.b1 i.m1 i.d1,.slice i.b2 i.m2 i.d2,.slice i.b3 i.m3 i.d3]
def Im.cells (i:Im):List Value:=i.vs.toList
def Im.ty (i:Im):It:=⟨i.t.T.K,i.t.T.N,i.a1,i.l1,i.c1,i.t.T.A,i.p1,i.t'.T.K,i.t'.T.N,i.b1,i.m1,i.d1,i.t'.T.A⟩
def Im.tys (i:Im):It:=⟨0,0,i.a2,i.l2,i.c2,i.t.Ts,i.p2,0,0,i.b2,i.m2,i.d2,i.t'.Ts⟩
structure ImOk (w:World) (D d L' B':Nat) (i:Im):Prop where
 s:i.t.S.size≤9223372036854775807
 z:i.t.Z.size≤9223372036854775807
 o1:Ow w D i.a1 i.l1 i.t.T.A i.p1
 o2:Ow w D i.a2 i.l2 i.t.Ts i.p2
 o3:OwM w D d i.a3 i.l3 i.t.A i.p3
 f:Fm L' B' w D d i.t' i.b1 i.m1 i.b2 i.m2 i.b3 i.m3
structure MSt (w:World) (D d L' B':Nat) (ms:List Im) (its:List It) (cs:List Nat):Prop where
 ow:∀ i∈ms,ImOk w D d L' B' i
 owT:∀ i∈its,Ow w D i.ao i.len i.ts i.bs∧Hs L' B' w D i.ao' i.len' i.ts'
 nodup:(ms.flatMap Im.bs++its.flatMap It.bs++cs).Nodup
 bnd:∀ b∈ms.flatMap Im.bs++its.flatMap It.bs++cs,b<w.heap.size
 fro:∀ b∈cs,∃ a t,w.heap[b]?=some (.cells a t (0,0))
structure MDyn (w wr:World) (mp:Nat) (v:Value) (ms:List Im) (u:Value) (its:List It) (cs:List Nat):Prop where
 bel:Below w.heap.size w wr
 row:wr.ownsRow 0 67 18 v ms.length (ms.flatMap Im.cells)
 rowT:wr.ownsRow 0 70 6 u its.length (its.flatMap It.cells)
 blk:∀ x,v.ownBlock=some x->w.heap.size≤x
 blkT:∀ x,u.ownBlock=some x->w.heap.size≤x
 map:∃ es clock,wr.heap[mp]?=some (.map es clock)∧KeysInM es cs
theorem m_below {w wr w1:World} {mp:Nat} {v u:Value} {ms:List Im} {its:List It} {cs:List Nat} (h:MDyn w wr mp v ms u its cs) (hb:Below wr.heap.size wr w1):MDyn w w1 mp v ms u its cs:=by
 refine⟨h.bel.trans (hb.mono h.bel.size),own_keep h.row fun g hg=>hb.block g (Qcw h.row hg).1,own_keep h.rowT fun g hg=>hb.block g (Qcw h.rowT hg).1,h.blk,h.blkT,?_⟩
 obtain⟨es,clock,hm,hk⟩:=h.map
 exact⟨es,clock,(hb.block mp (Array.getElem?_eq_some_iff.1 hm).1).trans hm,hk⟩
theorem cellsM_len (i:Im):i.cells.length=18:=rfl
theorem cellsM_flat (ms:List Im):(ms.flatMap Im.cells).length=ms.length*18:=by
 induction ms with
 | nil=>rfl
 | cons i l ih=>simp only [List.flatMap_cons,List.length_append,ih,cellsM_len,List.length_cons];omega
theorem m_pop {w wr:World} {mp:Nat} {v u:Value} {init:List Im} {it:Im} {its:List It} {cs:List Nat} (h:MDyn w wr mp v (init++[it]) u its cs) :
 ∃ g cap,v=.slice (some ⟨g,0,none⟩) (init.length+1) cap∧g<wr.heap.size∧w.heap.size≤g∧init.length+1≤cap∧cap≤9223372036854775807 ∧
   (∀ j,j<18->wr.cell? ⟨g,init.length*18+j,none⟩=it.vs[j]?) ∧
   MDyn w wr mp (.slice (some ⟨g,0,none⟩) init.length cap) init u its cs:=by
 have hrow:=h.row
 rw [List.length_append,List.flatMap_append] at hrow
 simp only [List.length_singleton,List.flatMap_cons,List.flatMap_nil,List.append_nil] at hrow
 rcases hrow.2 with ⟨_,hn⟩|⟨g,cap,cur,rfl,hg,hh,hc1,hc2,hc3,ht⟩
 · omega
 · have hl:=cellsM_flat init
   have look:∀ j,j<18->wr.cell? ⟨g,init.length*18+j,none⟩=it.vs[j]?:=by
    intro j hj
    rw [Qaa hh]
    have e:(cur.toList.take ((init.length+1)*18))[init.length*18+j]?=it.cells[j]?:=by
     rw [ht,List.getElem?_append_right (by omega),hl];congr 1;omega
    rw [List.getElem?_take,if_pos (by omega)] at e
    rw [← Array.getElem?_toList,e]
    unfold Im.cells
    exact Array.getElem?_toList
   refine⟨g,cap,rfl,(Array.getElem?_eq_some_iff.1 hh).1,h.blk g rfl,hc1,by unfold maxLen at hc2;omega,look,h.bel,⟨hl,Or.inr ⟨g,cap,cur,rfl,hg,hh,by omega,hc2,hc3,?_⟩⟩,h.rowT,fun x hx=>h.blk x hx,h.blkT,h.map⟩
   have e2:cur.toList.take (init.length*18)=(cur.toList.take ((init.length+1)*18)).take (init.length*18):=by rw [List.take_take];congr 1;omega
   rw [e2,ht,List.take_append_of_le_length (by omega),List.take_of_length_le (by omega)]
theorem m_apart {w wr:World} {mp:Nat} {v u:Value} {ms:List Im} {its:List It} {cs:List Nat} (h:MDyn w wr mp v ms u its cs):(∀ g,v.ownBlock=some g->u.ownBlock≠some g)∧v.ownBlock≠some mp∧u.ownBlock≠some mp:=by
 obtain⟨es,clock,hm,_⟩:=h.map
 refine⟨fun g hg hg'=>?_,fun e=>?_,fun e=>?_⟩
 · obtain⟨_,cur,fr,e1⟩:=Qcw h.row hg
   obtain⟨_,cur',fr',e2⟩:=Qcw h.rowT hg'
   rw [e1] at e2
   cases e2
 · obtain⟨_,cur,fr,e1⟩:=Qcw h.row e
   rw [hm] at e1;cases e1
 · obtain⟨_,cur,fr,e1⟩:=Qcw h.rowT e
   rw [hm] at e1;cases e1
theorem m_push {w wr:World} {mp:Nat} {v u:Value} {ms:List Im} {its:List It} {cs:List Nat} (h:MDyn w wr mp v ms u its cs) (hsz:ms.length≤1048577) (it:Im) :
 ∃ g cap w2,(Builtin.append_ #[68,68] 68 #[v,.slice (some ⟨wr.heap.size,0,none⟩) 1 1]).run Try.prog (wr.alloc (.cells it.vs 67))=.ok (.slice (some ⟨g,0,none⟩) (ms.length+1) cap) w2 ∧
   MDyn w w2 mp (.slice (some ⟨g,0,none⟩) (ms.length+1) cap) (ms++[it]) u its cs∧wr.grownBy w2 v.ownBlock∧(v.ownBlock=some g∨g=wr.heap.size+1):=by
 obtain⟨i0,hi,hz⟩:=Option.map_eq_some_iff.1 Try.infoTwoM
 simp only [Prod.mk.injEq] at hz
 obtain⟨z0,hz0,hzc⟩:=Option.map_eq_some_iff.1 hz.1
 have hX:Below wr.heap.size wr (wr.alloc (.cells it.vs 67)):=(Below.refl _ _).alloc (Nat.le_refl _) _
 have h1:=m_below h hX
 have hgw:=h.bel.size
 obtain⟨g,cap,w2,hrun,hown2,hgrow,hat,hlt⟩:=run_append_lies (P:=Try.prog) (wr.alloc (.cells it.vs 67)) 68 68 0 67 i0 _ 18 272 Try.underlying68 hi hz0 hz.2.1 hz.2.2 hzc (by omega) v ms.length _ h1.row
  ⟨wr.heap.size,0,none⟩ 1 1 it.cells rfl (World.news_of_block (cs:=it.vs) (t:=67) (fr:=(0,0)) (heap_alloc_new wr _)) (by simp [Value.oneCell',Im.cells])
  (by omega) (by unfold maxLen;omega) (by omega) (by simp) _ rfl
 have hap:=m_apart h1
 have hkeep:∀ i,i<(wr.alloc (.cells it.vs 67)).heap.size->v.ownBlock≠some i->w2.heap[i]?=(wr.alloc (.cells it.vs 67)).heap[i]?:=fun i hi hr=>hgrow.block i hi (fun e=>hr e.symm)
 refine⟨g,cap,w2,hrun,⟨⟨hgrow.os.trans h1.bel.os,hgrow.tape.trans h1.bel.tape,hgrow.output.trans h1.bel.output,Nat.le_trans h1.bel.size hgrow.size,fun i hi=>?_⟩,?_,own_keep h1.rowT fun x hx=>hkeep x (Qcw h1.rowT hx).1 (fun e=>hap.1 x e hx),?_,h1.blkT,?_⟩,⟨hgrow.os,hgrow.tape,hgrow.output,Nat.le_trans (by simp) hgrow.size,fun i hi hr=>?_⟩,by simpa using hat⟩
 · have hne:v.ownBlock≠some i:=fun e=>by have:=h1.blk i e;omega
   exact (hkeep i (Nat.lt_of_lt_of_le hi h1.bel.size) hne).trans (h1.bel.block i hi)
 · rw [List.length_append,List.flatMap_append]
   simpa using hown2
 · intro x hx
   have hx':g=x:=by simpa [Value.ownBlock] using hx
   subst hx'
   rcases hat with hat|hat
   · exact h1.blk g hat
   · simp at hat;omega
 · obtain⟨es,clock,hm,hk⟩:=h1.map
   exact⟨es,clock,(hkeep mp (Array.getElem?_eq_some_iff.1 hm).1 hap.2.1).trans hm,hk⟩
 · exact (hgrow.block i (by simp;omega) hr).trans (Below.heap_alloc _ _ _ hi)
theorem m_pushT {w wr:World} {mp:Nat} {v u:Value} {ms:List Im} {its:List It} {cs:List Nat} (h:MDyn w wr mp v ms u its cs) (hsz:its.length≤1048577) (it:It) :
 ∃ g cap w2,(Builtin.append_ #[64,64] 64 #[u,.slice (some ⟨wr.heap.size,0,none⟩) 1 1]).run Try.prog (wr.alloc (.cells #[.int .i64 it.k,.int .i64 it.n,.slice it.ao it.len it.cap,.int .i64 it.k',.int .i64 it.n',.slice it.ao' it.len' it.cap'] 70))=.ok (.slice (some ⟨g,0,none⟩) (its.length+1) cap) w2 ∧
   MDyn w w2 mp v ms (.slice (some ⟨g,0,none⟩) (its.length+1) cap) (its++[it]) cs∧wr.grownBy w2 u.ownBlock∧(u.ownBlock=some g∨g=wr.heap.size+1):=by
 obtain⟨i0,hi,hz0,hz1,hz2⟩:=info_parts Try.infoTwo
 have hX:Below wr.heap.size wr (wr.alloc (.cells #[.int .i64 it.k,.int .i64 it.n,.slice it.ao it.len it.cap,.int .i64 it.k',.int .i64 it.n',.slice it.ao' it.len' it.cap'] 70)):=(Below.refl _ _).alloc (Nat.le_refl _) _
 have h1:=m_below h hX
 have hgw:=h.bel.size
 obtain⟨g,cap,w2,hrun,hown2,hgrow,hat,hlt⟩:=run_append_lies (P:=Try.prog) (wr.alloc (.cells #[.int .i64 it.k,.int .i64 it.n,.slice it.ao it.len it.cap,.int .i64 it.k',.int .i64 it.n',.slice it.ao' it.len' it.cap'] 70)) 64 64 0 70 i0 _ 6 80 Try.underlying64 hi hz0 hz1 hz2 rfl (by omega) u its.length _ h1.rowT
  ⟨wr.heap.size,0,none⟩ 1 1 it.cells rfl (World.news_of_block (cs:=#[.int .i64 it.k,.int .i64 it.n,.slice it.ao it.len it.cap,.int .i64 it.k',.int .i64 it.n',.slice it.ao' it.len' it.cap']) (t:=70) (fr:=(0,0)) (heap_alloc_new wr _)) (by simp [Value.oneCell',It.cells])
  (by omega) (by unfold maxLen;omega) (by omega) (by simp) _ rfl
 have hap:=m_apart h1
 have hkeep:∀ i,i<(wr.alloc (.cells #[.int .i64 it.k,.int .i64 it.n,.slice it.ao it.len it.cap,.int .i64 it.k',.int .i64 it.n',.slice it.ao' it.len' it.cap'] 70)).heap.size->u.ownBlock≠some i->w2.heap[i]?=(wr.alloc (.cells #[.int .i64 it.k,.int .i64 it.n,.slice it.ao it.len it.cap,.int .i64 it.k',.int .i64 it.n',.slice it.ao' it.len' it.cap'] 70)).heap[i]?:=fun i hi hr=>hgrow.block i hi (fun e=>hr e.symm)
 refine⟨g,cap,w2,hrun,⟨⟨hgrow.os.trans h1.bel.os,hgrow.tape.trans h1.bel.tape,hgrow.output.trans h1.bel.output,Nat.le_trans h1.bel.size hgrow.size,fun i hi=>?_⟩,own_keep h1.row fun x hx=>hkeep x (Qcw h1.row hx).1 (fun e=>hap.1 x hx e),?_,h1.blk,?_,?_⟩,⟨hgrow.os,hgrow.tape,hgrow.output,Nat.le_trans (by simp) hgrow.size,fun i hi hr=>?_⟩,by simpa using hat⟩
 · have hne:u.ownBlock≠some i:=fun e=>by have:=h1.blkT i e;omega
   exact (hkeep i (Nat.lt_of_lt_of_le hi h1.bel.size) hne).trans (h1.bel.block i hi)
 · rw [List.length_append,List.flatMap_append]
   simpa using hown2
 · intro x hx
   have hx':g=x:=by simpa [Value.ownBlock] using hx
   subst hx'
   rcases hat with hat|hat
   · exact h1.blkT g hat
   · simp at hat;omega
 · obtain⟨es,clock,hm,hk⟩:=h1.map
   exact⟨es,clock,(hkeep mp (Array.getElem?_eq_some_iff.1 hm).1 hap.2.2).trans hm,hk⟩
 · exact (hgrow.block i (by simp;omega) hr).trans (Below.heap_alloc _ _ _ hi)
theorem m_key {w wr:World} {mp:Nat} {v u:Value} {ms:List Im} {its:List It} {cs:List Nat} (h:MDyn w wr mp v ms u its cs) (hmp:w.heap.size≤mp) {es:Array MapEntry} {clock:Nat} (hm:wr.heap[mp]?=some (.map es clock)) (hk:KeysInM es cs) (c:Nat) (q:Option Addr) (n:Int) :
 MDyn w { wr with heap:=wr.heap.setIfInBounds mp (.map (es.push { key:=keyVM c q n,val:=.agg #[],born:=clock }) (clock+1)) } mp v ms u its (c::cs):=by
 have hlt:mp<wr.heap.size:=(Array.getElem?_eq_some_iff.1 hm).1
 have hap:=m_apart h
 have other:∀ i,i≠mp->(wr.heap.setIfInBounds mp (.map (es.push { key:=keyVM c q n,val:=.agg #[],born:=clock }) (clock+1)))[i]?=wr.heap[i]?:=fun i hi=>by
  rw [Array.getElem?_setIfInBounds];rw [if_neg (fun e=>hi e.symm)]
 refine⟨⟨h.bel.os,h.bel.tape,h.bel.output,by simpa using h.bel.size,fun i hi=>(other i (by omega)).trans (h.bel.block i hi)⟩,own_keep h.row fun g hg=>other g (fun e=>hap.2.1 (e ▸ hg)),own_keep h.rowT fun g hg=>other g (fun e=>hap.2.2 (e ▸ hg)),h.blk,h.blkT,?_⟩
 refine⟨es.push { key:=keyVM c q n,val:=.agg #[],born:=clock },clock+1,by rw [Array.getElem?_setIfInBounds];simp [hlt],?_⟩
 intro e he
 rw [Array.toList_push,List.mem_append] at he
 rcases he with he|he
 · obtain⟨c',q',n',h1,h2⟩:=hk e he
   exact⟨c',q',n',List.mem_cons_of_mem _ h1,h2⟩
 · simp at he
   subst he
   exact⟨c,q,n,by simp,rfl⟩
theorem choose_im {n:Nat} {p:Nat->Im->Prop} (h:∀ i,i<n->∃ x,p i x):∃ l:List Im,l.length=n∧∀ i (hi:i<l.length),p i l[i]:=by
 classical
 refine⟨(List.range n).attach.map fun i=>Classical.choose (h i.1 (List.mem_range.1 i.2)),by simp,fun i hi=>?_⟩
 have hi':i<n:=by simpa using hi
 have:=Classical.choose_spec (h i hi')
 simpa using this
def Im.Nines (w:World) (c o c' o':Nat) (x:Im):Prop :=
 Nine w c o x.t.K x.t.N x.t.S x.t.Z x.t.T.K x.t.T.N (.slice x.a1 x.l1 x.c1) (.slice x.a2 x.l2 x.c2) (.slice x.a3 x.l3 x.c3) ∧
 Nine w c' o' x.t'.K x.t'.N x.t'.S x.t'.Z x.t'.T.K x.t'.T.N (.slice x.b1 x.m1 x.d1) (.slice x.b2 x.m2 x.d2) (.slice x.b3 x.m3 x.d3)
theorem m_parts {w:World} {D d L' B':Nat} {it:Im} (h:ImOk w D d L' B' it) (hlen:it.l3=it.m3) (hpos:0<it.l3) :
 ∃ (c c' o':Nat) (ch:List Im),it.a3=some ⟨c,0,none⟩∧it.b3=some ⟨c',o',none⟩∧L'≤c'∧c'<B'∧ch.length=it.l3∧(∃ a t,w.heap[c]?=some (.cells a t (0,0)))∧it.p3=c::ch.flatMap Im.bs∧it.l3=it.t.A.length∧it.m3=it.t'.A.length ∧
  (∀ i (hi:i<ch.length) (h1:i<it.t.A.length) (h2:i<it.t'.A.length),ch[i].t=it.t.A[i]∧ch[i].t'=it.t'.A[i]∧ImOk w D d L' B' ch[i]∧Im.Nines w c (i*9) c' (o'+i*9) ch[i]):=by
 have hw:=h.o3
 have hh:=h.f.m
 cases d with
 | zero=>have:=hw.1;omega
 | succ d =>
   rcases hw with ⟨h0,_,_⟩|⟨c,a,bss,e,hl,hm,hg,hc,hbl,hbs,hE⟩
   · omega
   · have hl':=hh.1
     obtain⟨c',o',e',hLc,hB,_⟩:=hh.2.2 0 (by omega)
     have key:∀ i,i<it.l3->∃ x:Im,∀ (h1:i<it.t.A.length) (h2:i<it.t'.A.length) (h3:i<bss.length),x.t=it.t.A[i]∧x.t'=it.t'.A[i]∧x.bs=bss[i]∧ImOk w D (d+1) L' B' x∧Im.Nines w c (i*9) c' (o'+i*9) x:=by
      intro i hi
      obtain⟨a1,l1,c1,a2,l2,c2,a3,l3,c3,h9,p1,p2,p3,hp,s1,s2,s3,s4,s5⟩:=hE i (by omega) (by omega)
      obtain⟨c2',o2,e2,_,_,b1,m1,d1,b2,m2,d2,b3,m3,d3,g9,hs⟩:=hh.2.2 i (by omega)
      rw [e'] at e2
      cases e2
      refine⟨⟨it.t.A[i],a1,l1,c1,a2,l2,c2,a3,l3,c3,p1,p2,p3,it.t'.A[i],b1,m1,d1,b2,m2,d2,b3,m3,d3⟩,fun h1 h2 h3=>⟨rfl,rfl,hp.symm,⟨s1,s2,s3,s4,s5.deeper (by omega),hs.wider (fun _ _ _ hr=>hr) (fun _ _ _ hr=>hr.deeper (by omega) (Nat.le_refl _))⟩,h9,g9⟩⟩
     obtain⟨ch,hcl,hch⟩:=choose_im key
     have hbss:ch.map Im.bs=bss:=by
      apply List.ext_getElem
      · simp;omega
      · intro i h1 h2
        simp only [List.getElem_map]
        exact (hch i (by simpa using h1) (by omega) (by omega) h2).2.2.1
     refine⟨c,c',o',ch,e,e',hLc,hB,hcl,⟨a,_,hg⟩,by rw [hbs,← hbss,List.flatMap_def],hl,hl',fun i hi h1 h2=>?_⟩
     obtain⟨q1,q2,q3,q4⟩:=hch i hi h1 h2 (by omega)
     exact⟨q1,q2,q4⟩
theorem m_tys {w:World} {D d L' B':Nat} {it:Im} (h:ImOk w D d L' B' it) (hlen:it.l2=it.m2) :
 ∃ (c c' o':Nat) (ch:List It),(0<it.l2->it.a2=some ⟨c,0,none⟩∧it.b2=some ⟨c',o',none⟩∧c'<B'∧c<w.heap.size)∧ch.length=it.l2∧(∀ x,(ch.flatMap It.bs).count x≤it.p2.count x)∧it.l2=it.t.Ts.length∧it.m2=it.t'.Ts.length ∧
  (∀ i (hi:i<ch.length) (h1:i<it.t.Ts.length) (h2:i<it.t'.Ts.length),ch[i].x=it.t.Ts[i]∧ch[i].y=it.t'.Ts[i]∧Ow w D ch[i].ao ch[i].len ch[i].ts ch[i].bs∧Hs L' B' w D ch[i].ao' ch[i].len' ch[i].ts' ∧
    w.cell? ⟨c,i*3,none⟩=some (.int .i64 ch[i].k)∧w.cell? ⟨c,i*3+1,none⟩=some (.int .i64 ch[i].n)∧w.cell? ⟨c,i*3+2,none⟩=some (.slice ch[i].ao ch[i].len ch[i].cap) ∧
    w.cell? ⟨c',o'+i*3,none⟩=some (.int .i64 ch[i].k')∧w.cell? ⟨c',o'+i*3+1,none⟩=some (.int .i64 ch[i].n')∧w.cell? ⟨c',o'+i*3+2,none⟩=some (.slice ch[i].ao' ch[i].len' ch[i].cap')):=by
 by_cases hpos:0<it.l2
 · obtain⟨c,c',o',ch,e,e',hLc,hB,hcl,⟨a,t,hfr⟩,hbs,hl,hl',hch⟩:=any_parts (it:=it.tys) h.o2 h.f.t2 hlen hpos
   refine⟨c,c',o',ch,fun _=>⟨e,e',hB,(Array.getElem?_eq_some_iff.1 hfr).1⟩,hcl,fun x=>?_,hl,hl',hch⟩
   have hbs':it.p2=c::ch.flatMap It.bs:=hbs
   rw [hbs',List.count_cons];omega
 · have e1:=h.o2.len.1
   have e2:=h.f.t2.len.1
   exact⟨0,0,0,[],fun h=>(hpos h).elim,by simp;omega,fun x=>by simp,e1,e2,fun i hi=>by simp at hi⟩
theorem mst_step {w:World} {D d L' B':Nat} {init:List Im} {it:Im} {its:List It} {cs:List Nat} (h:MSt w D d L' B' (init++[it]) its cs) (chT:List It) (chM:List Im) (extra:List Nat)
 (hT:∀ i∈chT,Ow w D i.ao i.len i.ts i.bs∧Hs L' B' w D i.ao' i.len' i.ts') (hM:∀ i∈chM,ImOk w D d L' B' i) (hcT:∀ x,(chT.flatMap It.bs).count x≤it.p2.count x) (hcM:∀ x,(chM.flatMap Im.bs).count x+extra.count x≤it.p3.count x)
 (hfr:∀ b∈extra,∃ a t,w.heap[b]?=some (.cells a t (0,0))):MSt w D d L' B' (init++chM) (its++[it.ty]++chT) (extra++cs):=by
 have key:∀ x,((init++chM).flatMap Im.bs++(its++[it.ty]++chT).flatMap It.bs++(extra++cs)).count x≤((init++[it]).flatMap Im.bs++its.flatMap It.bs++cs).count x:=by
  intro x
  have h1:=hcT x
  have h2:=hcM x
  have e:(([it].flatMap Im.bs).count x)=it.p1.count x+it.p2.count x+it.p3.count x:=by
   simp [Im.bs,List.count_append];omega
  have e2:([it.ty].flatMap It.bs).count x=it.p1.count x:=by simp [Im.ty]
  simp only [List.flatMap_append,List.count_append,e,e2]
  omega
 have hit:=h.ow it (by simp)
 refine⟨fun i hi=>?_,fun i hi=>?_,?_,fun b hb=>?_,fun b hb=>?_⟩
 · rw [List.mem_append] at hi
   rcases hi with hi|hi
   · exact h.ow i (by simp [hi])
   · exact hM i hi
 · rw [List.mem_append,List.mem_append] at hi
   rcases hi with (hi|hi)|hi
   · exact h.owT i hi
   · simp at hi
     subst hi
     exact⟨hit.o1,hit.f.t1⟩
   · exact hT i hi
 · rw [List.nodup_iff_count]
   exact fun x=>Nat.le_trans (key x) (List.nodup_iff_count.1 h.nodup x)
 · have:=List.count_pos_iff.2 hb
   exact h.bnd b (List.count_pos_iff.1 (Nat.lt_of_lt_of_le this (key b)))
 · rw [List.mem_append] at hb
   rcases hb with hb|hb
   · exact hfr b hb
   · exact h.fro b hb
theorem all_like {ch:List It} {l l':List Tr} (ex:ch.map It.x=l) (ey:ch.map It.y=l'):l=l'↔∀ i∈ch,i.x=i.y:=by
 rw [← ex,← ey]
 constructor
 · intro h i hi
   obtain⟨q,hq,rfl⟩:=List.getElem_of_mem hi
   have:=congrArg (fun l=>l[q]?) h
   simpa [hq] using this
 · intro h
   exact List.map_congr_left h
theorem all_likeM {ch:List Im} {l l':List Tm} (ex:ch.map Im.t=l) (ey:ch.map Im.t'=l'):l=l'↔∀ i∈ch,i.t=i.t':=by
 rw [← ex,← ey]
 constructor
 · intro h i hi
   obtain⟨q,hq,rfl⟩:=List.getElem_of_mem hi
   have:=congrArg (fun l=>l[q]?) h
   simpa [hq] using this
 · intro h
   exact List.map_congr_left h
theorem like_step {it:Im} {chT:List It} {chM:List Im} (hQ:it.t.K=it.t'.K∧it.t.N=it.t'.N∧it.t.S=it.t'.S∧it.t.Z=it.t'.Z)
 (exT:chT.map It.x=it.t.Ts) (eyT:chT.map It.y=it.t'.Ts) (exM:chM.map Im.t=it.t.A) (eyM:chM.map Im.t'=it.t'.A) :
 it.t=it.t'↔it.ty.x=it.ty.y∧(∀ i∈chT,i.x=i.y)∧(∀ i∈chM,i.t=i.t'):=by
 rw [← all_like exT eyT,← all_likeM exM eyM]
 have e1:it.ty.x=it.t.T:=Qap _
 have e2:it.ty.y=it.t'.T:=Qap _
 rw [e1,e2]
 constructor
 · intro h;rw [h];exact⟨rfl,rfl,rfl⟩
 · intro h
   have h1:=h.1
   have h2:=h.2.1
   have h3:=h.2.2
   generalize it.t=t at *
   generalize it.t'=t' at *
   cases t;cases t';simp_all
theorem all_step {b:Bool} {init:List Im} {it:Im} {its:List It} {chT:List It} {chM:List Im} (h:b=true↔(∀ i∈init++[it],i.t=i.t')∧∀ i∈its,i.x=i.y)
 (hs:it.t=it.t'↔it.ty.x=it.ty.y∧(∀ i∈chT,i.x=i.y)∧(∀ i∈chM,i.t=i.t')) :
 b=true↔(∀ i∈init++chM,i.t=i.t')∧∀ i∈its++[it.ty]++chT,i.x=i.y:=by
 rw [h]
 constructor
 · intro ⟨h1,h2⟩
   have h3:=hs.1 (h1 it (by simp))
   refine⟨fun i hi=>?_,fun i hi=>?_⟩
   · rw [List.mem_append] at hi
     rcases hi with hi|hi
     · exact h1 i (by simp [hi])
     · exact h3.2.2 i hi
   · rw [List.mem_append,List.mem_append] at hi
     rcases hi with (hi|hi)|hi
     · exact h2 i hi
     · simp at hi;rw [hi];exact h3.1
     · exact h3.2.1 i hi
 · intro ⟨h1,h2⟩
   refine⟨fun i hi=>?_,fun i hi=>h2 i (by simp [hi])⟩
   rw [List.mem_append] at hi
   rcases hi with hi|hi
   · exact h1 i (by simp [hi])
   · simp at hi
     rw [hi]
     exact hs.2 ⟨h2 it.ty (by simp),fun i hi=>h2 i (by simp [hi]),fun i hi=>h1 i (by simp [hi])⟩
theorem sum_step {init:List Im} {it:Im} {its:List It} {chT:List It} {chM:List Im} (exT:chT.map It.x=it.t.Ts) (exM:chM.map Im.t=it.t.A) :
 ((init++chM).map fun i=>1+cntM i.t).sum+((its++[it.ty]++chT).map fun i=>cnt i.x).sum≤((init++[it]).map fun i=>1+cntM i.t).sum+(its.map fun i=>cnt i.x).sum ∧
 ((init++chM).map fun i=>1+cntM i.t).sum<((init++[it]).map fun i=>1+cntM i.t).sum:=by
 have h1:=Qav it.t
 have h2:(chT.map fun i=>cnt i.x).sum=cntS it.t.Ts:=by unfold cntS;rw [← exT,List.map_map];rfl
 have h3:cnt it.ty.x=1+cntS it.t.T.A:=Qdd it.ty.x
 have h4:(chM.map fun i=>1+cntM i.t).sum=Qci it.t.A:=by
  rw [← exM]
  unfold Qci
  rw [List.map_map,List.length_map]
  clear h1 h2 h3 exM exT
  induction chM with
  | nil=>rfl
  | cons i l ih=>simp only [List.map_cons,List.sum_cons,List.length_cons,ih,Function.comp_apply];omega
 unfold ownM at h1
 simp only [List.map_append,List.sum_append,List.map_cons,List.map_nil,List.sum_cons,List.sum_nil,h2,h3,h4]
 omega
theorem lenT_le {ms:List Im} {its:List It} {n:Nat} (h:(ms.map fun i=>1+cntM i.t).sum+(its.map fun i=>cnt i.x).sum≤n):its.length≤n∧ms.length≤n:=by
 have h1:=sum_le_len (fun i=>cnt i.x) (fun i=>cnt_pos _) its
 have h2:ms.length≤(ms.map fun i=>1+cntM i.t).sum:=by
  clear h h1
  induction ms with
  | nil=>simp
  | cons i l ih=>simp only [List.map_cons,List.sum_cons,List.length_cons];omega
 omega
theorem below_grown {w wr w':World} {r:Option Nat} (hb:Below w.heap.size w wr) (hg:wr.grownBy w' r) (hr:∀ x,r=some x->w.heap.size≤x):Below w.heap.size w w' :=
 ⟨hg.os.trans hb.os,hg.tape.trans hb.tape,hg.output.trans hb.output,Nat.le_trans hb.size hg.size,fun i hi=>(hg.block i (Nat.lt_of_lt_of_le hi hb.size) (fun e=>by have:=hr i e.symm;omega)).trans (hb.block i hi)⟩
theorem mst_types {w wr:World} {D d L' B' mp:Nat} {v u:Value} {its:List It} {cs:List Nat} (hD:MDyn w wr mp v [] u its cs) (h:MSt w D d L' B' [] its cs) (hB':B'≤w.heap.size):AnySt wr D L' B' u.ownBlock its []:=by
 have hin:∀ b∈its.flatMap It.bs,b<w.heap.size:=fun b hb=>h.bnd b (by simp only [List.mem_append];exact Or.inl (Or.inr hb))
 refine⟨fun i hi=>⟨(h.owT i hi).1.keep fun b hb=>hD.bel.block b (hin b (List.mem_flatMap.2 ⟨i,hi,hb⟩)),(h.owT i hi).2.keep (fun k _ hk=>hD.bel.block k (by omega)) (Nat.le_refl _) (Nat.le_refl _)⟩,?_,fun b hb=>?_,fun b hb=>by simp at hb⟩
 · have hn:=h.nodup
   rw [List.append_nil]
   refine hn.sublist ?_
   simp only [List.flatMap_nil,List.nil_append]
   exact List.sublist_append_left _ _
 · rw [List.append_nil] at hb
   have h1:=hin b hb
   have h2:=hD.bel.size
   exact⟨by omega,fun e=>by have:=hD.blkT b e;omega⟩
end Go.Proofs.Ytleghjgpnefliaa
