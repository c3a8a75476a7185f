/-
  Terms that own their memory: no walk.
-/
import Derived.Test.YtleghjgpnefliaaFnoZ2
import Derived.Test.YtleghjgpnefliaaFnoZ4
import Derived.Test.YtleghjgpnefliaaFnoZ6
import Derived.Test.YtleghjgpnefliaaFnoZ1
import Derived.Deep.RegionLaw
namespace Go.Proofs.Ytleghjgpnefliaa
open Go.RowKit
set_option linter.unusedVariables false
set_option linter.unusedSimpArgs false
def FldO (w:World) (D:Nat) (rM:Option Addr->Nat->List Tm->List Nat->Prop) (t:Tm) (a1:Option Addr) (l1:Nat) (a2:Option Addr) (l2:Nat) (a3:Option Addr) (l3:Nat) (bs:List Nat):Prop :=
 ∃ p1 p2 p3,bs=p1++p2++p3∧t.S.size≤9223372036854775807∧t.Z.size≤9223372036854775807∧Ow w D a1 l1 t.T.A p1∧Ow w D a2 l2 t.Ts p2∧rM a3 l3 t.A p3
def OwM (w:World) (D:Nat):Nat->Option Addr->Nat->List Tm->List Nat->Prop
 | 0,_,len,ts,bs=>len=0∧ts=[]∧bs=[]
 | d+1,ao,len,ts,bs=>(len=0∧ts=[]∧bs=[]) ∨
    ∃ (g:Nat) (cs:Array Value) (bss:List (List Nat)),ao=some ⟨g,0,none⟩∧len=ts.length∧len≤9223372036854775807∧w.heap[g]?=some (.cells cs 29 (0,0))∧len*9≤cs.size∧bss.length=ts.length∧bs=g::bss.flatten ∧
     ∀ i (_:i<ts.length) (_:i<bss.length),∃ a1 l1 c1 a2 l2 c2 a3 l3 c3,Nine w g (i*9) ts[i].K ts[i].N ts[i].S ts[i].Z ts[i].T.K ts[i].T.N (.slice a1 l1 c1) (.slice a2 l2 c2) (.slice a3 l3 c3)∧FldO w D (OwM w D d) ts[i] a1 l1 a2 l2 a3 l3 bss[i]
theorem FldO.map {w w':World} {D D':Nat} {rM rM':Option Addr->Nat->List Tm->List Nat->Prop} {t:Tm} {a1 a2 a3:Option Addr} {l1 l2 l3:Nat} {bs:List Nat} (h:FldO w D rM t a1 l1 a2 l2 a3 l3 bs)
 (kT:∀ ao len ts p,(∀ b∈p,b∈bs)->Ow w D ao len ts p->Ow w' D' ao len ts p) (kM:∀ ao len ts p,(∀ b∈p,b∈bs)->rM ao len ts p->rM' ao len ts p):FldO w' D' rM' t a1 l1 a2 l2 a3 l3 bs:=by
 obtain⟨p1,p2,p3,rfl,h1,h2,h3,h4,h5⟩:=h
 exact⟨p1,p2,p3,rfl,h1,h2,kT _ _ _ _ (fun b hb=>by simp [hb]) h3,kT _ _ _ _ (fun b hb=>by simp [hb]) h4,kM _ _ _ _ (fun b hb=>by simp [hb]) h5⟩
theorem OwM.keep {w w':World} {D:Nat}:∀ {d:Nat} {ao:Option Addr} {len:Nat} {ts:List Tm} {bs:List Nat},(∀ b∈bs,w'.heap[b]?=w.heap[b]?)->OwM w D d ao len ts bs->OwM w' D d ao len ts bs:=by
 intro d
 induction d with
 | zero=>intro ao len ts bs _ h;exact h
 | succ d ih =>
   intro ao len ts bs hb h
   rcases h with h|⟨g,cs,bss,e,hl,hm,hg,hc,hbl,rfl,hE⟩
   · exact Or.inl h
   · have hgg:=hb g (by simp)
     refine Or.inr ⟨g,cs,bss,e,hl,hm,hgg.trans hg,hc,hbl,rfl,fun i hi hi'=>?_⟩
     obtain⟨a1,l1,c1,a2,l2,c2,a3,l3,c3,h9,hf⟩:=hE i hi hi'
     have hin:∀ b∈bss[i],w'.heap[b]?=w.heap[b]?:=fun b hb'=>hb b (List.mem_cons_of_mem _ (Qbj hi' hb'))
     exact⟨a1,l1,c1,a2,l2,c2,a3,l3,c3,h9.world hgg,hf.map (fun _ _ _ p hp hr=>hr.keep fun b hb'=>hin b (hp b hb')) (fun _ _ _ p hp hr=>ih (fun b hb'=>hin b (hp b hb')) hr)⟩
theorem FldO.keep {w w':World} {D d:Nat} {t:Tm} {a1 a2 a3:Option Addr} {l1 l2 l3:Nat} {bs:List Nat} (hb:∀ b∈bs,w'.heap[b]?=w.heap[b]?) (h:FldO w D (OwM w D d) t a1 l1 a2 l2 a3 l3 bs):FldO w' D (OwM w' D d) t a1 l1 a2 l2 a3 l3 bs :=
 h.map (fun _ _ _ p hp hr=>hr.keep fun b hb'=>hb b (hp b hb')) (fun _ _ _ p hp hr=>hr.keep fun b hb'=>hb b (hp b hb'))
theorem OwM.hm {w:World} {L B D:Nat}:∀ {d:Nat} {ao:Option Addr} {len:Nat} {ts:List Tm} {bs:List Nat},(∀ b∈bs,L≤b∧b<B)->OwM w D d ao len ts bs->Hm L B w D d ao len ts:=by
 intro d
 induction d with
 | zero=>intro ao len ts bs _ h;exact⟨h.1,h.2.1⟩
 | succ d ih =>
   intro ao len ts bs hb h
   rcases h with ⟨rfl,rfl,_⟩|⟨g,cs,bss,e,hl,hm,hg,hc,hbl,rfl,hE⟩
   · exact⟨rfl,by omega,fun i hi=>by simp at hi⟩
   · refine⟨hl,hm,fun i hi=>⟨g,0,e,(hb g (by simp)).1,(hb g (by simp)).2,?_⟩⟩
     rw [Nat.zero_add]
     obtain⟨a1,l1,c1,a2,l2,c2,a3,l3,c3,h9,p1,p2,p3,hp,h1,h2,h3,h4,h5⟩:=hE i hi (by omega)
     have hin:∀ b∈bss[i]'(by omega),L≤b∧b<B:=fun b hb'=>hb b (List.mem_cons_of_mem _ (Qbj (by omega) hb'))
     rw [hp] at hin
     exact⟨a1,l1,c1,a2,l2,c2,a3,l3,c3,h9,h1,h2,h3.hs fun b hb'=>hin b (by simp [hb']),h4.hs fun b hb'=>hin b (by simp [hb']),ih (fun b hb'=>hin b (by simp [hb'])) h5⟩
def FmO (L B:Nat) (w:World) (D d:Nat) (t:Tm) (a1:Option Addr) (l1:Nat) (a2:Option Addr) (l2:Nat) (a3:Option Addr) (l3:Nat):Prop:=∃ bs,FldO w D (OwM w D d) t a1 l1 a2 l2 a3 l3 bs∧bs.Nodup∧∀ b∈bs,L≤b∧b<B
def OwMR (L B:Nat) (w:World) (D d:Nat) (ao:Option Addr) (len:Nat) (ts:List Tm):Prop:=∃ bs,OwM w D d ao len ts bs∧bs.Nodup∧∀ b∈bs,L≤b∧b<B
theorem FmO.fm {L B:Nat} {w:World} {D d:Nat} {t:Tm} {a1 a2 a3:Option Addr} {l1 l2 l3:Nat} (h:FmO L B w D d t a1 l1 a2 l2 a3 l3):Fm L B w D d t a1 l1 a2 l2 a3 l3:=by
 obtain⟨bs,⟨p1,p2,p3,rfl,h1,h2,h3,h4,h5⟩,_,hin⟩:=h
 exact⟨h1,h2,h3.hs fun b hb'=>hin b (by simp [hb']),h4.hs fun b hb'=>hin b (by simp [hb']),h5.hm fun b hb'=>hin b (by simp [hb'])⟩
theorem FmO.keep {L B L' B':Nat} {w w':World} {D d:Nat} {t:Tm} {a1 a2 a3:Option Addr} {l1 l2 l3:Nat} (h:FmO L B w D d t a1 l1 a2 l2 a3 l3) (hb:∀ k,L≤k->k<B->w'.heap[k]?=w.heap[k]?) (hL:L'≤L) (hB:B≤B'):FmO L' B' w' D d t a1 l1 a2 l2 a3 l3:=by
 obtain⟨bs,h1,h2,h3⟩:=h
 exact⟨bs,h1.keep (fun b hb'=>hb b (h3 b hb').1 (h3 b hb').2),h2,fun b hb'=>⟨Nat.le_trans hL (h3 b hb').1,Nat.lt_of_lt_of_le (h3 b hb').2 hB⟩⟩
theorem FmO.below {L B:Nat} {w w':World} {D d:Nat} {t:Tm} {a1 a2 a3:Option Addr} {l1 l2 l3:Nat} (h:FmO L B w D d t a1 l1 a2 l2 a3 l3) (hb:Below w.heap.size w w') (hB:B≤w.heap.size):FmO L B w' D d t a1 l1 a2 l2 a3 l3 :=
 h.keep (fun k _ hk=>hb.block k (by omega)) (Nat.le_refl _) (Nat.le_refl _)
theorem OwMR.keep {L B L' B':Nat} {w w':World} {D d:Nat} {ao:Option Addr} {len:Nat} {ts:List Tm} (h:OwMR L B w D d ao len ts) (hb:∀ k,L≤k->k<B->w'.heap[k]?=w.heap[k]?) (hL:L'≤L) (hB:B≤B'):OwMR L' B' w' D d ao len ts:=by
 obtain⟨bs,h1,h2,h3⟩:=h
 exact⟨bs,h1.keep (fun b hb'=>hb b (h3 b hb').1 (h3 b hb').2),h2,fun b hb'=>⟨Nat.le_trans hL (h3 b hb').1,Nat.lt_of_lt_of_le (h3 b hb').2 hB⟩⟩
theorem OwMR.nil (L B:Nat) (w:World) (D d:Nat) (ao:Option Addr):OwMR L B w D d ao 0 []:=by
 refine⟨[],?_,by simp,by simp⟩
 cases d with
 | zero=>exact⟨rfl,rfl,rfl⟩
 | succ d=>exact Or.inl ⟨rfl,rfl,rfl⟩
theorem FmO.mk {L M1 M2 B:Nat} {w:World} {D d:Nat} {t:Tm} {a1 a2 a3:Option Addr} {l1 l2 l3:Nat} (h1:t.S.size≤9223372036854775807) (h2:t.Z.size≤9223372036854775807) (hT:OwR L M1 w D a1 l1 t.T.A) (hTs:OwR M1 M2 w D a2 l2 t.Ts) (hA:OwMR M2 B w D d a3 l3 t.A) (hm1:L≤M1) (hm2:M1≤M2) (hm3:M2≤B):FmO L B w D d t a1 l1 a2 l2 a3 l3:=by
 obtain⟨p1,q1,n1,r1⟩:=hT
 obtain⟨p2,q2,n2,r2⟩:=hTs
 obtain⟨p3,q3,n3,r3⟩:=hA
 refine⟨p1++p2++p3,⟨p1,p2,p3,rfl,h1,h2,q1,q2,q3⟩,?_,?_⟩
 · rw [List.nodup_append,List.nodup_append]
   refine⟨⟨n1,n2,fun a ha b hb=>?_⟩,n3,fun a ha b hb=>?_⟩
   · have:=(r1 a ha).2;have:=(r2 b hb).1;omega
   · have h3:=(r3 b hb).1
     rw [List.mem_append] at ha
     rcases ha with ha|ha
     · have:=(r1 a ha).2;omega
     · have:=(r2 a ha).2;omega
 · intro b hb
   rw [List.mem_append,List.mem_append] at hb
   rcases hb with (hb|hb)|hb
   · have:=r1 b hb;omega
   · have:=r2 b hb;omega
   · have:=r3 b hb;omega
def Qbr (base:Nat) (wr:World) (D d:Nat) (v:Value) (k:Nat) (ts:List Tm):Prop :=
 ∃ xs,wr.ownsRow base 29 9 v k xs∧∃ bss:List (List Nat),bss.length=k∧bss.flatten.Nodup∧(∀ b∈bss.flatten,base≤b∧b<wr.heap.size∧v.ownBlock≠some b) ∧
   ∀ i (_:i<bss.length) (_:i<ts.length),∃ a1 l1 c1 a2 l2 c2 a3 l3 c3,(∀ j,j<9->xs[i*9+j]?=(c9 ts[i] a1 l1 c1 a2 l2 c2 a3 l3 c3)[j]?)∧FldO wr D (OwM wr D d) ts[i] a1 l1 a2 l2 a3 l3 bss[i]
theorem apm_nil (base:Nat) (w:World) (D d:Nat) (ts:List Tm):Qbr base w D d (.slice none 0 0) 0 ts :=
 ⟨[],World.ownsRow_nil _ _ _ _,[],rfl,by simp,by simp,fun i hi=>by simp at hi⟩
theorem apm_emp {base:Nat} {w:World} {D d b:Nat} (ts:List Tm) (h:w.heap[b]?=some (.cells #[] 29 (0,0))) (hb:base≤b):Qbr base w D d (.slice (some ⟨b,0,none⟩) 0 0) 0 ts :=
 ⟨[],⟨by simp,Or.inr ⟨b,0,#[],by simp,hb,h,by simp,by simp,by simp,by simp⟩⟩,[],rfl,by simp,by simp,fun i hi=>by simp at hi⟩
theorem Qea {base e size:Nat} {w:World} {v:Value} {n:Nat} {xs:List Value} (h:w.ownsRow base e size v n xs) {g:Nat} (hg:v.ownBlock=some g):base≤g∧g<w.heap.size:=by
 rcases h.2 with ⟨rfl,_⟩|⟨g',cap,cur,rfl,hb,hh,_⟩
 · cases hg
 · have e:g'=g:=by simpa [Value.ownBlock] using hg
   subst e
   exact⟨hb,(Array.getElem?_eq_some_iff.1 hh).1⟩
theorem apm_block {base:Nat} {wr:World} {D d:Nat} {v:Value} {k:Nat} {ts:List Tm} (h:Qbr base wr D d v k ts) {g:Nat} (hg:v.ownBlock=some g):base≤g∧g<wr.heap.size:=by
 obtain⟨xs,hown,_⟩:=h
 exact Qea hown hg
theorem apm_keep {base:Nat} {wr w1:World} {D d:Nat} {v:Value} {k:Nat} {ts:List Tm} (h:Qbr base wr D d v k ts) (hb:∀ b,base≤b->b<wr.heap.size->w1.heap[b]?=wr.heap[b]?) (hz:wr.heap.size≤w1.heap.size):Qbr base w1 D d v k ts:=by
 have hbk:=fun g hg=>apm_block h (g:=g) hg
 obtain⟨xs,hown,bss,hbl,hnd,hrng,hE⟩:=h
 refine⟨xs,Qck hown (fun g hg=>hb g (hbk g hg).1 (hbk g hg).2),bss,hbl,hnd,fun b hb'=>⟨(hrng b hb').1,Nat.lt_of_lt_of_le (hrng b hb').2.1 hz,(hrng b hb').2.2⟩,fun i hi hi'=>?_⟩
 obtain⟨a1,l1,c1,a2,l2,c2,a3,l3,c3,h1,h2⟩:=hE i hi hi'
 exact⟨a1,l1,c1,a2,l2,c2,a3,l3,c3,h1,h2.keep fun b hb'=>hb b (hrng b (Qbj hi hb')).1 (hrng b (Qbj hi hb')).2.1⟩
theorem apm_below {base:Nat} {wr w1:World} {D d:Nat} {v:Value} {k:Nat} {ts:List Tm} (h:Qbr base wr D d v k ts) (hb:Below wr.heap.size wr w1):Qbr base w1 D d v k ts :=
 apm_keep h (fun b _ hb'=>hb.block b hb') hb.size
theorem apm_set {base:Nat} {wr:World} {D d:Nat} {v:Value} {k:Nat} {ts:List Tm} (h:Qbr base wr D d v k ts) {o j:Nat} (ho:o<base) (u:Value):Qbr base (wr.setCell ⟨o,j,none⟩ u) D d v k ts :=
 apm_keep h (fun b hb _=>Qah _ _ _ (by omega)) (by simp)
theorem apm_run {base:Nat} {wr w1:World} {D d:Nat} {v:Value} {k:Nat} {ts:List Tm} (h:Qbr base wr D d v k ts) (hk:k<ts.length) (hk2:k≤1048576) (hb:Below wr.heap.size wr w1) (hbase:base≤wr.heap.size) {a1:Option Addr} {l1 c1:Nat} {a2:Option Addr} {l2 c2:Nat} {a3:Option Addr} {l3 c3:Nat}
 (ho:FmO wr.heap.size w1.heap.size w1 D d ts[k] a1 l1 a2 l2 a3 l3) :
 ∃ g cap w2,(Builtin.append_ #[27,27] 27 #[v,.slice (some ⟨w1.heap.size,0,none⟩) 1 1]).run Try.prog (w1.alloc (.cells #[.int .i64 ts[k].K,.int .i64 ts[k].N,.string ts[k].S,.string ts[k].Z,.int .i64 ts[k].T.K,.int .i64 ts[k].T.N,.slice a1 l1 c1,.slice a2 l2 c2,.slice a3 l3 c3] 29))=.ok (.slice (some ⟨g,0,none⟩) (k+1) cap) w2 ∧
   Qbr base w2 D d (.slice (some ⟨g,0,none⟩) (k+1) cap) (k+1) ts∧Below base wr w2:=by
 obtain⟨i0,hi,hz0,hz1,hz2⟩:=info_parts Try.infoTerm
 obtain⟨X,hXe⟩:∃ X,X=w1.alloc (.cells #[.int .i64 ts[k].K,.int .i64 ts[k].N,.string ts[k].S,.string ts[k].Z,.int .i64 ts[k].T.K,.int .i64 ts[k].T.N,.slice a1 l1 c1,.slice a2 l2 c2,.slice a3 l3 c3] 29):=⟨_,rfl⟩
 have hX1:Below w1.heap.size w1 X:=by rw [hXe];exact (Below.refl _ _).alloc (Nat.le_refl _) _
 have hX:Below wr.heap.size wr X:=hb.trans (hX1.mono hb.size)
 have hXs:X.heap.size=w1.heap.size+1:=by rw [hXe];simp
 have hbk:=fun g hg=>apm_block h (g:=g) hg
 obtain⟨xs,hown,bss,hbl,hnd,hrng,hE⟩:=h
 have hownX:=Qck hown (fun g hg=>hX.block g (hbk g hg).2)
 have hsz:=hb.size
 obtain⟨g,cap,w2,hrun,hown2,hgrow,hat,hlt⟩:=run_append_lies (P:=Try.prog) X 27 27 base 29 i0 _ 9 136 Try.underlying27 hi hz0 hz1 hz2 rfl (by omega) v k xs hownX
  ⟨w1.heap.size,0,none⟩ 1 1 (c9 ts[k] a1 l1 c1 a2 l2 c2 a3 l3 c3) rfl (by rw [hXe];exact World.news_of_block (cs:=#[.int .i64 ts[k].K,.int .i64 ts[k].N,.string ts[k].S,.string ts[k].Z,.int .i64 ts[k].T.K,.int .i64 ts[k].T.N,.slice a1 l1 c1,.slice a2 l2 c2,.slice a3 l3 c3]) (t:=29) (fr:=(0,0)) (heap_alloc_new w1 _)) (one9 _ _ _ _ _ _ _ _ _ _)
  (by omega) (by unfold maxLen;omega) (by omega) (by omega) _ rfl
 have hgz:=hgrow.size
 have hlx:xs.length=k*9:=hown.1
 obtain⟨bs,hO,hnd2,hrng2⟩:=ho
 have keepOld:∀ b,b<X.heap.size->v.ownBlock≠some b->w2.heap[b]?=X.heap[b]?:=fun b hb' hne=>hgrow.block b hb' (fun e=>hne e.symm)
 have hnew:∀ b∈bs,v.ownBlock≠some b:=fun b hb' e=>by have h1:=(hbk b e).2;have h2:=(hrng2 b hb').1;omega
 rw [← hXe]
 refine⟨g,cap,w2,hrun,⟨_,hown2,bss++[bs],by simp [hbl],nodup_snoc hnd hnd2 (fun b hb'=>(hrng b hb').2.1) (fun b hb'=>(hrng2 b hb').1),?_,?_⟩,?_⟩
 · intro b hb'
   rw [List.flatten_append,List.mem_append] at hb'
   rcases hb' with hb'|hb'
   · obtain⟨h1,h2,h3⟩:=hrng b hb'
     refine⟨h1,by omega,fun e=>?_⟩
     have e':g=b:=by simpa [Value.ownBlock] using e
     subst e'
     rcases hat with hat|hat
     · exact h3 hat
     · omega
   · have hb2:=hrng2 b (by simpa using hb')
     refine⟨by omega,by omega,fun e=>?_⟩
     have e':g=b:=by simpa [Value.ownBlock] using e
     subst e'
     rcases hat with hat|hat
     · have:=(hbk g hat).2;omega
     · omega
 · intro i hi hi'
   by_cases hik:i=k
   · subst hik
     refine⟨a1,l1,c1,a2,l2,c2,a3,l3,c3,fun j hj=>?_,?_⟩
     · rw [List.getElem?_append_right (by omega),hlx,Nat.add_sub_cancel_left]
     · have e:(bss++[bs])[i]=bs:=by simp [List.getElem_append_right,hbl]
       rw [e]
       exact hO.keep fun b hb'=>(keepOld b (by have:=(hrng2 b hb').2;omega) (hnew b hb')).trans (hX1.block b (hrng2 b hb').2)
   · have hik':i<bss.length:=by simp at hi;omega
     obtain⟨b1,m1,d1,b2,m2,d2,b3,m3,d3,h1,h2⟩:=hE i hik' hi'
     refine⟨b1,m1,d1,b2,m2,d2,b3,m3,d3,fun j hj=>?_,?_⟩
     · rw [List.getElem?_append_left (by omega)];exact h1 j hj
     · have e:(bss++[bs])[i]=bss[i]:=by simp [List.getElem_append_left,hik']
       rw [e]
       refine h2.keep fun b hb'=>?_
       obtain⟨h3,h4,h5⟩:=hrng b (Qbj hik' hb')
       exact (keepOld b (by omega) h5).trans (hX.block b h4)
 · refine⟨hgrow.os.trans hX.os,hgrow.tape.trans hX.tape,hgrow.output.trans hX.output,by omega,fun b hb'=>(keepOld b (by omega) (fun e=>by have:=(hbk b e).1;omega)).trans (hX.block b (by omega))⟩
theorem apm_done {base:Nat} {wr:World} {D d:Nat} {v:Value} {k:Nat} {ts:List Tm} (h:Qbr base wr D d v k ts) (hk:k=ts.length) (hm:k≤9223372036854775807):∃ ao cap,v=.slice ao k cap∧OwMR base wr.heap.size wr D (d+1) ao k ts:=by
 have hbk:=fun g hg=>apm_block h (g:=g) hg
 obtain⟨xs,hown,bss,hbl,hnd,hrng,hE⟩:=h
 rcases hown.2 with ⟨rfl,rfl⟩|⟨g,cap,cur,rfl,hg,hh,hc1,hc2,hc3,ht⟩
 · have:ts=[]:=List.length_eq_zero_iff.1 hk.symm
   subst this
   exact⟨none,0,rfl,OwMR.nil _ _ _ _ _ _⟩
 · refine⟨_,cap,rfl,?_⟩
   by_cases hk0:k=0
   · subst hk0
     have:ts=[]:=List.length_eq_zero_iff.1 hk.symm
     subst this
     exact OwMR.nil _ _ _ _ _ _
   refine⟨g::bss.flatten,Or.inr ⟨g,cur,bss,rfl,hk,hm,hh,?_,by omega,rfl,fun i hi hi'=>?_⟩,?_,?_⟩
   · rw [hc3];exact Nat.mul_le_mul_right _ hc1
   · obtain⟨a1,l1,c1,a2,l2,c2,a3,l3,c3,h1,h2⟩:=hE i hi' hi
     have look:∀ j,j<9->wr.cell? ⟨g,i*9+j,none⟩=(c9 ts[i] a1 l1 c1 a2 l2 c2 a3 l3 c3)[j]?:=fun j hj=>by
      rw [← h1 j hj,Qaa hh,← ht,List.getElem?_take,if_pos (by omega)]
      simp
     exact⟨a1,l1,c1,a2,l2,c2,a3,l3,c3,⟨look 0 (by omega),look 1 (by omega),look 2 (by omega),look 3 (by omega),look 4 (by omega),look 5 (by omega),look 6 (by omega),look 7 (by omega),look 8 (by omega)⟩,h2⟩
   · rw [List.nodup_cons]
     exact⟨fun hmem=>(hrng _ hmem).2.2 rfl,hnd⟩
   · intro b hb
     rw [List.mem_cons] at hb
     rcases hb with rfl|hb
     · exact hbk b rfl
     · exact⟨(hrng b hb).1,(hrng b hb).2.1⟩
theorem Qee (p D:Nat) (w:World) (hp:p<w.heap.size):Calls Try.prog 35 #[] w fun e w'=>∃ v,e=.returned v∧TyV w' p D v ⟨1,0,[]⟩∧Below w.heap.size w w':=by
 go_enter Try.func35,Try.ntmps35
 go_wp2_with fail
 exact bodyPost_ret (v:=.agg #[.int .i64 1,.int .i64 0,.slice none 0 0]) (by simp [results,Try.results35,go_sem]) rfl ⟨_,rfl,⟨none,0,0,rfl,Hs.nil _ _ _ _ _⟩,(Below.refl _ _).alloc (Nat.le_refl _) _⟩
theorem l3Bool_any (p D:Nat) (w:World) (hp:p<w.heap.size):Calls Try.prog 36 #[] w fun e w'=>∃ v,e=.returned v∧TyV w' p D v ⟨2,0,[]⟩∧Below w.heap.size w w':=by
 go_enter Try.func36,Try.ntmps36
 go_wp2_with fail
 exact bodyPost_ret (v:=.agg #[.int .i64 2,.int .i64 0,.slice none 0 0]) (by simp [results,Try.results36,go_sem]) rfl ⟨_,rfl,⟨none,0,0,rfl,Hs.nil _ _ _ _ _⟩,(Below.refl _ _).alloc (Nat.le_refl _) _⟩
theorem hs_up {w X:World} {p D:Nat} {ao:Option Addr} {len:Nat} {ts:List Tr} (h:Hs (p+1) w.heap.size w D ao len ts) (hb:Below w.heap.size w X):Hs (p+1) X.heap.size X D ao len ts:=h.keep (fun k _ hk=>hb.block k hk) (Nat.le_refl _) hb.size
theorem Qcr (p D:Nat) (t:Tr) (v:Value) (w:World) (hp:p<w.heap.size) (hv:TyV w p D v t):Calls Try.prog 37 #[v] w fun e w'=>∃ v',e=.returned v'∧TyV w' p (D+1) v' ⟨6,0,[t]⟩∧Below w.heap.size w w':=by
 obtain⟨ao,len,cap,rfl,hs⟩:=hv
 go_enter Try.func37,Try.ntmps37
 go_wp2_with fail
 have hb:Below w.heap.size w (((w.alloc (.cells #[.int .i64 t.K,.int .i64 t.N,.slice ao len cap] 26)).alloc (.cells #[.int .i64 6,.int .i64 0,.slice (some ⟨w.heap.size+1+1,0,none⟩) 1 1] 26)).alloc (.cells #[.int .i64 t.K,.int .i64 t.N,.slice ao len cap] 26)):=(((Below.refl _ _).alloc (Nat.le_refl _) _).alloc (by simp) _).alloc (by simp;omega) _
 refine bodyPost_ret (v:=.agg #[.int .i64 6,.int .i64 0,.slice (some ⟨w.heap.size+1+1,0,none⟩) 1 1]) (by simp [results,Try.results37,go_sem]) rfl ⟨_,rfl,⟨_,_,_,rfl,?_⟩,hb⟩
 exact hs_lit1 (b:=w.heap.size+1+1) (Qac (by simp)) (by omega) (by simp) (hs_up hs hb)
theorem Qbw (p D:Nat) (k:Int) (t t':Tr) (v v':Value) (w:World) (hp:p<w.heap.size) (hv:TyV w p D v t) (hv':TyV w p D v' t'):Calls Try.prog 55 #[.int .i64 k,v,v'] w fun e w'=>∃ v',e=.returned v'∧TyV w' p (D+1) v' ⟨k,0,[t,t']⟩∧Below w.heap.size w w':=by
 obtain⟨ao,len,cap,rfl,hs⟩:=hv
 obtain⟨ao',len',cap',rfl,hs'⟩:=hv'
 go_enter Try.func55,Try.ntmps55
 go_wp2_with fail
 have hb:Below w.heap.size w ((((w.alloc (.cells #[.int .i64 t.K,.int .i64 t.N,.slice ao len cap] 26)).alloc (.cells #[.int .i64 t'.K,.int .i64 t'.N,.slice ao' len' cap'] 26)).alloc (.cells #[.int .i64 k,.int .i64 0,.slice (some ⟨w.heap.size+1+1+1,0,none⟩) 2 2] 26)).alloc (.cells #[.int .i64 t.K,.int .i64 t.N,.slice ao len cap,.int .i64 t'.K,.int .i64 t'.N,.slice ao' len' cap'] 26)):=((((Below.refl _ _).alloc (Nat.le_refl _) _).alloc (by simp) _).alloc (by simp;omega) _).alloc (by simp;omega) _
 refine bodyPost_ret (v:=.agg #[.int .i64 k,.int .i64 0,.slice (some ⟨w.heap.size+1+1+1,0,none⟩) 2 2]) (by simp [results,Try.results55,go_sem]) rfl ⟨_,rfl,⟨_,_,_,rfl,?_⟩,hb⟩
 exact hs_lit2 (b:=w.heap.size+1+1+1) (Qac (by simp)) (by omega) (by simp) (hs_up hs hb) (hs_up hs' hb)
theorem l3V_any (L D d:Nat) (s:ByteArray) (w:World) (hs:s.size≤1000):Calls Try.prog 56 #[.string s] w fun e w'=>∃ v,e=.returned v∧TmV w' L D d v ⟨3,0,s,⟨#[]⟩,⟨0,0,[]⟩,[],[]⟩∧Below w.heap.size w w':=by
 go_enter Try.func56,Try.ntmps56
 go_wp2_with fail
 refine bodyPost_ret (v:=.agg #[.int .i64 3,.int .i64 0,.string s,.string ⟨#[]⟩,.int .i64 0,.int .i64 0,.slice none 0 0,.slice none 0 0,.slice none 0 0]) (by simp [results,Try.results56,go_sem]) rfl ⟨_,rfl,⟨none,0,0,none,0,0,none,0,0,rfl,?_⟩,(Below.refl _ _).alloc (Nat.le_refl _) _⟩
 exact⟨by show s.size≤_;omega,Nat.zero_le _,Hs.nil _ _ _ _ _,Hs.nil _ _ _ _ _,Hm.nil _ _ _ _ _ _⟩
theorem l3N_any (L D d:Nat) (n:Int) (w:World):Calls Try.prog 57 #[.int .i64 n] w fun e w'=>∃ v,e=.returned v∧TmV w' L D d v ⟨1,n,⟨#[]⟩,⟨#[]⟩,⟨0,0,[]⟩,[],[]⟩∧Below w.heap.size w w':=by
 go_enter Try.func57,Try.ntmps57
 go_wp2_with fail
 refine bodyPost_ret (v:=.agg #[.int .i64 1,.int .i64 n,.string ⟨#[]⟩,.string ⟨#[]⟩,.int .i64 0,.int .i64 0,.slice none 0 0,.slice none 0 0,.slice none 0 0]) (by simp [results,Try.results57,go_sem]) rfl ⟨_,rfl,⟨none,0,0,none,0,0,none,0,0,rfl,?_⟩,(Below.refl _ _).alloc (Nat.le_refl _) _⟩
 exact⟨Nat.zero_le _,Nat.zero_le _,Hs.nil _ _ _ _ _,Hs.nil _ _ _ _ _,Hm.nil _ _ _ _ _ _⟩
theorem l1Str_any (p:Nat) (cao:Option Addr) (clen ccap g len cap:Nat) (zs:List ByteArray) (w:World) (hc:Cur w p cao clen ccap) (hg:w.heap[g]?=some (.cells ((zs.map Value.string).toArray) 9 (0,0))) (hgp:g≠p) (hl:len=zs.length) (h1:0<len) (h2:len≤256) :
 Calls Try.prog 48 #[.pointer (some ⟨p,0,none⟩),.slice (some ⟨g,0,none⟩) len cap] w fun e w'=>∃ x,e=.returned (.string x)∧x∈zs∧Drw w w' p cao clen ccap:=by
 have hgl:g<w.heap.size:=(Array.getElem?_eq_some_iff.1 hg).1
 have HL:Hid (len=zs.length):=hl
 clear hl
 go_enter Try.func48,Try.ntmps48
 go_wp2_with fail
 refine (Qat p cao clen ccap len _ hc (by omega) (by omega)).mono ?_
 rintro e w1 ⟨x,rfl,hx0,hx1,hD⟩
 have hg1:=(hD.grown.block g hgl (by simpa using hgp)).trans hg
 have hxl:x.toNat<zs.length:=by have:=HL.out;omega
 have hc1:w1.cell? ⟨g,x.toNat,none⟩=some (.string (zs[x.toNat]'hxl)):=by
  rw [Qaa hg1]
  simp [hxl]
 have hm:zs[x.toNat]'hxl∈zs:=List.getElem_mem hxl
 clear hg1 hg
 generalize zs[x.toNat]'hxl=z at hc1 hm
 have HM:Hid (z∈zs):=hm
 clear hm
 go_wp2_with fail
 go_ret
 exact⟨_,rfl,HM.out,hD⟩
theorem l3Fresh_any (p:Nat) (cao:Option Addr) (clen ccap:Nat) (w:World) (hc:Cur w p cao clen ccap) :
 Calls Try.prog 66 #[.pointer (some ⟨p,0,none⟩)] w fun e w'=>∃ x:ByteArray,e=.returned (.string x)∧x.size=1∧Drw w w' p cao clen ccap:=by
 have hp:=hc.lt
 obtain⟨X,hX⟩:∃ X,X=w.alloc (.cells #[.string ⟨#[120]⟩,.string ⟨#[121]⟩,.string ⟨#[122]⟩,.string ⟨#[119]⟩,.string ⟨#[120]⟩] 9):=⟨_,rfl⟩
 have hXb:Below w.heap.size w X:=by rw [hX];exact (Below.refl _ _).alloc (Nat.le_refl _) _
 have hX1:X.heap[w.heap.size]?=some (.cells #[.string ⟨#[120]⟩,.string ⟨#[121]⟩,.string ⟨#[122]⟩,.string ⟨#[119]⟩,.string ⟨#[120]⟩] 9 (0,0)):=by rw [hX];exact Qac rfl
 have HX:Hid (X=_):=hX
 clear hX
 go_enter Try.func66,Try.ntmps66
 go_wp2_with fail
 rw [← HX.out]
 refine (l1Str_any p cao clen ccap w.heap.size 5 5 [⟨#[120]⟩,⟨#[121]⟩,⟨#[122]⟩,⟨#[119]⟩,⟨#[120]⟩] _ (hc.below hXb) hX1 (by omega) rfl (by omega) (by omega)).mono ?_
 rintro e w1 ⟨x,rfl,hx,hD⟩
 have HXS:Hid (x.size=1):=by
  show _=_
  simp at hx
  rcases hx with rfl|rfl|rfl|rfl|rfl <;> rfl
 clear hx
 go_wp2_with fail
 go_ret
 exact⟨_,rfl,HXS.out,⟨Qab (Qae _ hXb) hD.grown,hD.cur⟩⟩
set_option maxHeartbeats 1000000 in
theorem l3With_any (p D:Nat) (v:Value) (es:List Ev) (s:ByteArray) (n:Int) (tv:Value) (t:Tr) (w:World) (hp:p<w.heap.size) (hv:EnV w p D v es) (ht:TyV w p D tv t) (hl:es.length≤900) :
 Calls Try.prog 59 #[v,.string s,.int .i64 n,tv] w fun e w'=>∃ v',e=.returned v'∧EnV w' p D v' (es++[⟨s,n,t⟩])∧Below w.heap.size w w':=by
 obtain⟨ao,len,cap,rfl,hs⟩:=ht
 obtain⟨X,hX⟩:∃ X,X=w.alloc (.cells #[.int .i64 t.K,.int .i64 t.N,.slice ao len cap] 26):=⟨_,rfl⟩
 have hXb:Below w.heap.size w X:=by rw [hX];exact (Below.refl _ _).alloc (Nat.le_refl _) _
 have hXz:w.heap.size<X.heap.size:=by rw [hX];simp
 have hX1:X.heap[w.heap.size]?=some (.cells #[.int .i64 t.K,.int .i64 t.N,.slice ao len cap] 26 (0,0)):=by rw [hX];exact Qac rfl
 obtain⟨x0,x1,x2⟩:=Qaf hX1
 have HX:Hid (X=_):=hX
 obtain⟨ae,ce,rfl⟩:=hv.form
 clear hX
 have hpX:p<X.heap.size:=by omega
 have hvX:EnV X p D (.slice ae es.length ce) es:=hv.grown (Qae _ hXb)
 have hev:EvC X p D ⟨s,n,t⟩ [.string s,.int .i64 n,.int .i64 t.K,.int .i64 t.N,.slice ao len cap]:=⟨ao,len,cap,rfl,hs_up hs hXb⟩
 have HB:Hid (∀ (W:World) (b:Nat),W.heap[b]?=some (.cells #[] 93 (0,0))->X.heap.size≤b->Below X.heap.size X W->∃ r w2,(Builtin.append_ #[59,59] 59 #[.slice (some ⟨b,0,none⟩) 0 0,.slice ae es.length ce]).run Try.prog W=.ok r w2 ∧
  (∃ ao' cap' xs,r=.slice ao' es.length cap'∧EnC X p D es xs∧w2.ownsRow b 93 5 (.slice ao' es.length cap') es.length xs∧Below X.heap.size X w2∧W.heap.size≤w2.heap.size∧∀ q,q<W.heap.size->q≠b->w2.heap[q]?=W.heap[q]?)):=by
  intro W b h0 hb hW
  obtain⟨ao1,len1,cap1,xs1,e1,e2,g1,g2⟩:=hvX
  injection e1 with e11 e12 e13
  subst e11 e13
  obtain⟨ao',cap',w2,q1,q3,q4⟩:=env_copy (ao:=ae) ce h0 g1.len g1.one (fun j u hu=>by
   obtain⟨b',o',e,h1,h2,h3⟩:=g2 j u hu
   exact⟨b',o',e,(Qag hW h2 _).trans h3⟩) (by omega)
  have hz:=hW.size
  have hbl:b<W.heap.size:=(Array.getElem?_eq_some_iff.1 h0).1
  refine⟨_,w2,q1,ao',cap',xs1,rfl,g1,q3,?_,q4.size,fun q hq hne=>q4.block q hq (by simpa using hne)⟩
  exact⟨q4.os.trans hW.os,q4.tape.trans hW.tape,q4.output.trans hW.output,Nat.le_trans hz q4.size,fun q hq=>(q4.block q (by omega) (by simp;omega)).trans (hW.block q hq)⟩
 have HE:Hid (∀ (W:World) (base sb:Nat) (r:Value) (xs:List Value),EnC X p D es xs->W.ownsRow base 93 5 r es.length xs->Below X.heap.size X W->X.heap.size≤base->base≤W.heap.size->W.heap[sb]?=some (.cells #[.string s,.int .i64 n,.int .i64 t.K,.int .i64 t.N,.slice ao len cap] 93 (0,0)) →
  ∃ r' w2,(Builtin.append_ #[59,59] 59 #[r,.slice (some ⟨sb,0,none⟩) 1 1]).run Try.prog W=.ok r' w2∧(EnV w2 p D r' (es++[⟨s,n,t⟩])∧Below X.heap.size X w2)):=by
  intro W base sb r xs h3 hown hW hb hbw hsb
  obtain⟨g,cp,w2,q1,q2,q3⟩:=env_push h3 hev hW hb hpX hbw hown hsb (by omega)
  exact⟨_,w2,q1,q2,q3⟩
 go_enter Try.func59,Try.ntmps59
 go_wp2_with fail
 rw [← HX.out]
 go_region_law (first
  | (refine step_ex (by rfl) (.tmp 9) (.tmp 10) (by rfl) (by rfl) (by rfl) (by rfl) (HB.out _ _ (by first|exact Qac (by simp)|(refine (Below.heap_alloc _ _ _ (by simp)).trans ?_;exact Qac (by simp))) (by first|exact Nat.le_refl _|(simp;done)|(simp;omega)) (by first|exact ((Below.refl _ _).alloc (Nat.le_refl _) _).drew|exact (((Below.refl _ _).alloc (Nat.le_refl _) _).alloc (by simp) _).drew)) ?_;rintro r w2 ⟨ao',cap',xs,rfl,h3,hown,hbX,hzW,hoth⟩;have z0:=(Qag hbX hXz 0).trans x0;have z1:=(Qag hbX hXz 1).trans x1;have z2:=(Qag hbX hXz 2).trans x2;have hzW2:X.heap.size+1≤w2.heap.size:=(by have hq:=hzW;simp at hq;omega))
  | (refine step_ex (by rfl) (.tmp 11) (.tmp 16) (by rfl) (by rfl) (by rfl) (by rfl) (HE.out _ _ _ _ _ h3 (by first|exact hown|exact Qck hown (fun g hg=>Below.heap_alloc _ _ _ (Qea hown hg).2)) (by first|exact hbX|exact hbX.alloc hbX.size _) (by first|exact Nat.le_refl _|(simp;done)|(simp;omega)) (by first|omega|(rw [World.size_alloc];omega)|(simp;done)) (by first|exact Qac rfl|(refine (hoth _ (by first|(simp;done)|(simp;omega)) (by first|(simp;done)|(simp;omega))).trans ?_;first|exact Qac (by simp)|(refine (Below.heap_alloc _ _ _ (by simp)).trans ?_;exact Qac (by simp))))) ?_;rintro r w3 ⟨hE3,hb3⟩))
 all_goals
  go_wp2_with fail
  go_ret
  exact⟨_,rfl,hE3,hXb.trans (hb3.mono (by omega))⟩
def fndK (es:List Ev) (s:ByteArray):Nat->Int
 | 0=>-1
 | k+1=>if h:k<es.length then (if es[k].s=s then (k:Int) else fndK es s k) else fndK es s k
set_option maxHeartbeats 400000 in
theorem l3Find_any (p D:Nat) (v:Value) (es:List Ev) (s:ByteArray) (w:World) (hv:EnV w p D v es) (hl:es.length≤900) :
 Calls Try.prog 65 #[v,.string s] w fun e w'=>e=.returned (.int .i64 (fndK es s es.length))∧w'=w:=by
 obtain⟨ao,cap,rfl⟩:=hv.form
 obtain⟨n,hn⟩:∃ n,n=es.length:=⟨_,rfl⟩
 have HN:Hid (n=es.length):=hn
 rw [← hn] at hl ⊢
 clear hn
 go_enter Try.func65,Try.ntmps65
 go_wp2_with fail
 go_loopw [5] (fun i wr=>∃ k:Nat,k≤n∧i=.int .i64 ((k:Int) - 1)∧Hid (fndK es s n=fndK es s k)∧wr=w) (fun i _=>(intOf i+1).toNat)
 case atStart=>exact⟨n,Nat.le_refl _,rfl,rfl,rfl⟩
 case round =>
  obtain⟨k,hk,rfl,HF,rfl⟩:=hrel
  cases k with
  | zero =>
    go_wp2_with fail
    go_ret
    exact⟨ret_int (by rw [HF.out];rfl),rfl⟩
  | succ k =>
    have hk':k<es.length:=by have:=HN.out;omega
    obtain⟨b,o,cp,a1,l1,c1,e,hb1,hb2,c0,_,_,_,_,_⟩:=hv.get k hk'
    injection e with e1 e2 e3
    subst e1 e3
    have hw1:((k+1:Nat):Int) - 1=(k:Int):=by omega
    rw [hw1]
    have hge:0≤(k:Int):=by omega
    by_cases hs:es[k].s=s
    · have HR:Hid (fndK es s n=(k:Int)):=by show _=_;rw [HF.out,fndK,dif_pos hk',if_pos hs]
      have hb:(es[k].s.toList==s.toList)=true:=by rw [hs];simp
      generalize es[k].s=z at *
      clear hs
      go_wp2_with fail
      go_ret
      exact⟨ret_int (by rw [HR.out]),rfl⟩
    · have HR:Hid (fndK es s n=fndK es s k):=by show _=_;rw [HF.out,fndK,dif_pos hk',if_neg hs]
      have hb:(es[k].s.toList==s.toList)=false:=by
       rw [beq_eq_false_iff_ne]
       intro e
       rw [ByteArray.toList_eq,ByteArray.toList_eq] at e
       exact hs (ByteArray.ext (Array.toList_inj.1 e))
      generalize es[k].s=z at *
      clear hs
      go_wp2_with fail
      go_roundw
      case rel=>exact⟨k,by omega,by go_num,HR,by first|rfl|trivial⟩
      case measure=>simp [intOf]
end Go.Proofs.Ytleghjgpnefliaa
