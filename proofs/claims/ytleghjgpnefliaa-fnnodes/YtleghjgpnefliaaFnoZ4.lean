/-
  Trees that own their memory: which blocks a slice's tree lies in, no block twice; rows that are filled one by one, rows that are appended to.
-/
import Derived.Test.YtleghjgpnefliaaFnoZ1
import Derived.Deep.AppendLies
import Derived.Deep.RegionHeld3
import Derived.Deep.RegionWith
import Derived.Deep.RegionLaw
import Derived.Deep.QuietTactic
import Derived.BigQuiet
namespace Go.Proofs.Ytleghjgpnefliaa
open Go.RowKit
set_option linter.unusedVariables false
set_option linter.unusedSimpArgs false
def Ow (w:World):Nat->Option Addr->Nat->List Tr->List Nat->Prop
 | 0,_,len,ts,bs=>len=0∧ts=[]∧bs=[]
 | d+1,ao,len,ts,bs=>(len=0∧ts=[]∧bs=[]) ∨
    ∃ (g:Nat) (cs:Array Value) (bss:List (List Nat)),ao=some ⟨g,0,none⟩∧len=ts.length∧len≤9223372036854775807∧w.heap[g]?=some (.cells cs 26 (0,0))∧len*3≤cs.size∧bss.length=ts.length∧bs=g::bss.flatten ∧
     ∀ i (_:i<ts.length) (_:i<bss.length),El w (fun ao' len' l=>Ow w d ao' len' l bss[i]) g (i*3) ts[i]
theorem Qbj {bss:List (List Nat)} {i:Nat} (hi:i<bss.length) {b:Nat} (hb:b∈bss[i]):b∈bss.flatten :=
 List.mem_flatten.2 ⟨_,List.getElem_mem hi,hb⟩
theorem Ow.keep {w w':World}:∀ {d:Nat} {ao:Option Addr} {len:Nat} {ts:List Tr} {bs:List Nat},(∀ b∈bs,w'.heap[b]?=w.heap[b]?)->Ow w d ao len ts bs->Ow w' d ao len ts bs:=by
 intro d
 induction d with
 | zero=>intro ao len ts bs _ h;exact h
 | succ d ih =>
   intro ao len ts bs hb h
   rcases h with h|⟨g,cs,bss,e,hl,hm,hg,hc,hbl,rfl,hE⟩
   · exact Or.inl h
   · have hgg:=hb g (by simp)
     refine Or.inr ⟨g,cs,bss,e,hl,hm,hgg.trans hg,hc,hbl,rfl,fun i hi hi'=>?_⟩
     exact ((hE i hi hi').world hgg).wider fun _ _ _ hr=>ih (fun b hb'=>hb b (List.mem_cons_of_mem _ (Qbj hi' hb'))) hr
theorem Ow.hs {w:World} {L B:Nat}:∀ {d:Nat} {ao:Option Addr} {len:Nat} {ts:List Tr} {bs:List Nat},(∀ b∈bs,L≤b∧b<B)->Ow w d ao len ts bs->Hs L B w d ao len ts:=by
 intro d
 induction d with
 | zero=>intro ao len ts bs _ h;exact⟨h.1,h.2.1⟩
 | succ d ih =>
   intro ao len ts bs hb h
   rcases h with ⟨rfl,rfl,_⟩|⟨g,cs,bss,e,hl,hm,hg,hc,hbl,rfl,hE⟩
   · exact⟨rfl,by omega,fun i hi=>by simp at hi⟩
   · refine⟨hl,hm,fun i hi=>⟨g,0,e,(hb g (by simp)).1,(hb g (by simp)).2,?_⟩⟩
     rw [Nat.zero_add]
     exact (hE i hi (by omega)).wider fun _ _ _ hr=>ih (fun b hb'=>hb b (List.mem_cons_of_mem _ (Qbj (by omega) hb'))) hr
theorem Ow.deeper {w:World}:∀ {d d':Nat} {ao:Option Addr} {len:Nat} {ts:List Tr} {bs:List Nat},d≤d'->Ow w d ao len ts bs->Ow w d' ao len ts bs:=by
 intro d
 induction d with
 | zero =>
   intro d' ao len ts bs _ h
   cases d' with
   | zero=>exact h
   | succ d'=>exact Or.inl h
 | succ d ih =>
   intro d' ao len ts bs hd h
   cases d' with
   | zero=>omega
   | succ d' =>
     rcases h with h|⟨g,cs,bss,e,hl,hm,hg,hc,hbl,hbs,hE⟩
     · exact Or.inl h
     · exact Or.inr ⟨g,cs,bss,e,hl,hm,hg,hc,hbl,hbs,fun i hi hi'=>(hE i hi hi').wider fun _ _ _ hr=>ih (by omega) hr⟩
def OwR (L B:Nat) (w:World) (d:Nat) (ao:Option Addr) (len:Nat) (ts:List Tr):Prop:=∃ bs,Ow w d ao len ts bs∧bs.Nodup∧∀ b∈bs,L≤b∧b<B
theorem OwR.hs {L B:Nat} {w:World} {d:Nat} {ao:Option Addr} {len:Nat} {ts:List Tr} (h:OwR L B w d ao len ts):Hs L B w d ao len ts:=by
 obtain⟨bs,h1,_,h3⟩:=h
 exact h1.hs h3
theorem OwR.keep {L B L' B':Nat} {w w':World} {d:Nat} {ao:Option Addr} {len:Nat} {ts:List Tr} (h:OwR L B w d ao len ts) (hb:∀ k,L≤k->k<B->w'.heap[k]?=w.heap[k]?) (hL:L'≤L) (hB:B≤B'):OwR L' B' w' d ao len ts:=by
 obtain⟨bs,h1,h2,h3⟩:=h
 exact⟨bs,h1.keep (fun b hb'=>hb b (h3 b hb').1 (h3 b hb').2),h2,fun b hb'=>⟨Nat.le_trans hL (h3 b hb').1,Nat.lt_of_lt_of_le (h3 b hb').2 hB⟩⟩
theorem OwR.below {L B:Nat} {w w':World} {d:Nat} {ao:Option Addr} {len:Nat} {ts:List Tr} (h:OwR L B w d ao len ts) (hb:Below w.heap.size w w') (hB:B≤w.heap.size):OwR L B w' d ao len ts :=
 h.keep (fun k _ hk=>hb.block k (by omega)) (Nat.le_refl _) (Nat.le_refl _)
theorem OwR.deeper {L B:Nat} {w:World} {d d':Nat} {ao:Option Addr} {len:Nat} {ts:List Tr} (h:OwR L B w d ao len ts) (hd:d≤d'):OwR L B w d' ao len ts:=by
 obtain⟨bs,h1,h2,h3⟩:=h
 exact⟨bs,h1.deeper hd,h2,h3⟩
theorem OwR.nil (L B:Nat) (w:World) (d:Nat) (ao:Option Addr):OwR L B w d ao 0 []:=by
 refine⟨[],?_,by simp,by simp⟩
 cases d with
 | zero=>exact⟨rfl,rfl,rfl⟩
 | succ d=>exact Or.inl ⟨rfl,rfl,rfl⟩
structure RowRel (w wr:World) (d len k:Nat) (ts:List Tr):Prop where
 bel:Below w.heap.size w wr
 row:∃ cs:Array Value,wr.heap[w.heap.size]?=some (.cells cs 26 (0,0))∧cs.size=len*3
 els:∃ bss:List (List Nat),bss.length=k∧bss.flatten.Nodup∧(∀ b∈bss.flatten,w.heap.size<b∧b<wr.heap.size) ∧
  ∀ i (_:i<bss.length) (_:i<ts.length),El wr (fun ao len l=>Ow wr d ao len l bss[i]) w.heap.size (i*3) ts[i]
theorem rr_lt {w wr:World} {d len k:Nat} {ts:List Tr} (h:RowRel w wr d len k ts):w.heap.size<wr.heap.size:=by
 obtain⟨cs,hr,_⟩:=h.row
 exact (Array.getElem?_eq_some_iff.1 hr).1
theorem rr_row {w wr w1:World} {d len k:Nat} {ts:List Tr} (h:RowRel w wr d len k ts) (hb:Below wr.heap.size wr w1):∃ cs:Array Value,w1.heap[w.heap.size]?=some (.cells cs 26 (0,0))∧cs.size=len*3:=by
 obtain⟨cs,hr,hc⟩:=h.row
 exact⟨cs,(hb.block _ (rr_lt h)).trans hr,hc⟩
theorem nodup_snoc {bss:List (List Nat)} {bs:List Nat} {M:Nat} (h1:bss.flatten.Nodup) (h2:bs.Nodup) (h3:∀ b∈bss.flatten,b<M) (h4:∀ b∈bs,M≤b):(bss++[bs]).flatten.Nodup:=by
 rw [List.flatten_append,List.nodup_append]
 refine⟨h1,by simpa using h2,fun a ha b hb=>?_⟩
 have h5:=h3 a ha
 have h6:=h4 b (by simpa using hb)
 omega
theorem rr_next {w wr w1:World} {d len k:Nat} {ts:List Tr} (h:RowRel w wr d len k ts) (hk:k<len) (hk':k<ts.length) (hb:Below wr.heap.size wr w1) {ao1:Option Addr} {len1 cap1:Nat}
 (hs:OwR wr.heap.size w1.heap.size w1 d ao1 len1 ts[k].A) :
 RowRel w (set3 w1 w.heap.size (k*3) (.int .i64 ts[k].K) (.int .i64 ts[k].N) (.slice ao1 len1 cap1)) d len (k+1) ts:=by
 obtain⟨cs,hr,hc⟩:=rr_row h hb
 have hlt:=rr_lt h
 have hsz:=hb.size
 obtain⟨bss,hbl,hnd,hrng,hE⟩:=h.els
 obtain⟨bs,ho,hnd2,hrng2⟩:=hs
 refine⟨?_,?_,bss++[bs],by simp [hbl],nodup_snoc hnd hnd2 (fun b hb'=>(hrng b hb').2) (fun b hb'=>(hrng2 b hb').1),?_,?_⟩
 · exact Qbg (h.bel.trans (hb.mono (by omega))) (Nat.le_refl _)
 · exact⟨_,Qbt hr,by simp [hc]⟩
 · intro b hb'
   rw [Qbp]
   rw [List.flatten_append,List.mem_append] at hb'
   rcases hb' with hb'|hb'
   · exact⟨(hrng b hb').1,Nat.lt_of_lt_of_le (hrng b hb').2 hsz⟩
   · have:=hrng2 b (by simpa using hb')
     exact⟨by omega,this.2⟩
 · intro i hi hi'
   by_cases hik:i=k
   · subst hik
     obtain⟨x0,x1,x2⟩:=Qdz (a:=.int .i64 ts[i].K) (b:=.int .i64 ts[i].N) (c:=.slice ao1 len1 cap1) hr (show i*3+2<cs.size by omega)
     refine⟨_,_,_,x0,x1,x2,?_⟩
     have e:(bss++[bs])[i]=bs:=by simp [List.getElem_append_right,hbl]
     rw [e]
     exact ho.keep fun b hb'=>Qau b (by have:=(hrng2 b hb').1;omega)
   · have hik':i<bss.length:=by simp at hi;omega
     obtain⟨ao',len',cap',c0,c1,c2,hh⟩:=hE i hik' hi'
     have hcell:∀ p,w1.cell? ⟨w.heap.size,p,none⟩=wr.cell? ⟨w.heap.size,p,none⟩:=fun p=>Qag hb hlt p
     have far:∀ p,p<k*3->(set3 w1 w.heap.size (k*3) (.int .i64 ts[k].K) (.int .i64 ts[k].N) (.slice ao1 len1 cap1)).cell? ⟨w.heap.size,p,none⟩=wr.cell? ⟨w.heap.size,p,none⟩ :=
      fun p hp=>(Qcc hr p (Or.inl hp)).trans (hcell p)
     refine⟨ao',len',cap',(far _ (by omega)).trans c0,(far _ (by omega)).trans c1,(far _ (by omega)).trans c2,?_⟩
     have e:(bss++[bs])[i]=bss[i]:=by simp [List.getElem_append_left,hik']
     rw [e]
     refine hh.keep fun b hb'=>?_
     have hb2:=hrng b (Qbj hik' hb')
     rw [Qau b (by omega)]
     exact hb.block b hb2.2
theorem rr_done {w wr:World} {d len:Nat} {ts:List Tr} (h:RowRel w wr d len len ts) (hl:len=ts.length) (hm:len≤9223372036854775807):OwR w.heap.size wr.heap.size wr (d+1) (some ⟨w.heap.size,0,none⟩) len ts:=by
 obtain⟨cs,hr,hc⟩:=h.row
 obtain⟨bss,hbl,hnd,hrng,hE⟩:=h.els
 refine⟨w.heap.size::bss.flatten,Or.inr ⟨w.heap.size,cs,bss,rfl,hl,hm,hr,by omega,by omega,rfl,fun i hi hi'=>hE i hi' hi⟩,?_,?_⟩
 · rw [List.nodup_cons]
   exact⟨fun hmem=>by have:=(hrng _ hmem).1;omega,hnd⟩
 · intro b hb
   rw [List.mem_cons] at hb
   rcases hb with rfl|hb
   · exact⟨Nat.le_refl _,rr_lt h⟩
   · exact⟨Nat.le_of_lt (hrng b hb).1,(hrng b hb).2⟩
theorem rr_start {w:World} {C:Array Value} {d len:Nat} {ts:List Tr} (hC:C.size=len*3):RowRel w (w.alloc (.cells C 26)) d len 0 ts :=
 ⟨(Below.refl _ _).alloc (Nat.le_refl _) _,⟨C,heap_alloc_new _ _,hC⟩,[],rfl,by simp,by simp,fun i hi=>by simp at hi⟩
structure Qbu (base:Nat) (wr:World) (d:Nat) (v:Value) (k:Nat) (ts:List Tr):Prop where
 own:∃ xs,wr.ownsRow base 26 3 v k xs∧∃ bss:List (List Nat),bss.length=k∧bss.flatten.Nodup∧(∀ b∈bss.flatten,base≤b∧b<wr.heap.size∧v.ownBlock≠some b) ∧
  ∀ i (_:i<bss.length) (_:i<ts.length),∃ ao len cap,xs[i*3]?=some (.int .i64 ts[i].K)∧xs[i*3+1]?=some (.int .i64 ts[i].N)∧xs[i*3+2]?=some (.slice ao len cap)∧Ow wr d ao len ts[i].A bss[i]
theorem ap_nil (base:Nat) (w:World) (d:Nat) (ts:List Tr):Qbu base w d (.slice none 0 0) 0 ts :=
 ⟨[],World.ownsRow_nil _ _ _ _,[],rfl,by simp,by simp,fun i hi=>by simp at hi⟩
theorem Qdw {base:Nat} {wr:World} {d:Nat} {v:Value} {k:Nat} {ts:List Tr} (h:Qbu base wr d v k ts) {o j:Nat} (ho:o<base) (u:Value):Qbu base (wr.setCell ⟨o,j,none⟩ u) d v k ts:=by
 obtain⟨xs,hown,bss,hbl,hnd,hrng,hE⟩:=h.own
 refine⟨xs,ownsRow_setCell_below hown ho u,bss,hbl,hnd,fun b hb=>by simpa using hrng b hb,fun i hi hi'=>?_⟩
 obtain⟨ao,len,cap,c0,c1,c2,hh⟩:=hE i hi hi'
 exact⟨ao,len,cap,c0,c1,c2,hh.keep fun b hb=>Qah _ _ _ (by have:=(hrng b (Qbj hi hb)).1;omega)⟩
theorem Qdx {base:Nat} {wr:World} {d:Nat} {v:Value} {k:Nat} {ts:List Tr} (h:Qbu base wr d v k ts) {g:Nat} (hg:v.ownBlock=some g):base≤g∧g<wr.heap.size:=by
 obtain⟨xs,hown,_⟩:=h.own
 rcases hown.2 with ⟨rfl,_⟩|⟨g',cap,cur,rfl,hb,hh,_⟩
 · simp [Value.ownBlock] at hg
 · simp [Value.ownBlock] at hg
   subst hg
   exact⟨hb,(Array.getElem?_eq_some_iff.1 hh).1⟩
theorem ap_below {base:Nat} {wr w1:World} {d:Nat} {v:Value} {k:Nat} {ts:List Tr} (h:Qbu base wr d v k ts) (hb:Below wr.heap.size wr w1):Qbu base w1 d v k ts:=by
 have hbk:=fun g hg=>Qdx h (g:=g) hg
 obtain⟨xs,hown,bss,hbl,hnd,hrng,hE⟩:=h.own
 refine⟨xs,?_,bss,hbl,hnd,fun b hb'=>⟨(hrng b hb').1,Nat.lt_of_lt_of_le (hrng b hb').2.1 hb.size,(hrng b hb').2.2⟩,fun i hi hi'=>?_⟩
 · refine⟨hown.1,?_⟩
   rcases hown.2 with hn|⟨g,cap,cur,rfl,hg,hh,r⟩
   · exact Or.inl hn
   · exact Or.inr ⟨g,cap,cur,rfl,hg,(hb.block g (hbk g rfl).2).trans hh,r⟩
 · obtain⟨ao,len,cap,c0,c1,c2,hh⟩:=hE i hi hi'
   exact⟨ao,len,cap,c0,c1,c2,hh.keep fun b hb'=>hb.block b (hrng b (Qbj hi hb')).2.1⟩
theorem ap_next {base:Nat} {wr X w2:World} {d:Nat} {v:Value} {k:Nat} {ts:List Tr} (h:Qbu base wr d v k ts) (hk:k<ts.length) (hX:Below wr.heap.size wr X) (hbase:base≤wr.heap.size) {ao1:Option Addr} {len1 cap1:Nat}
 (hs:OwR wr.heap.size X.heap.size X d ao1 len1 ts[k].A) {g cap:Nat} {xs:List Value} (hxs:wr.ownsRow base 26 3 v k xs)
 (hown:w2.ownsRow base 26 3 (.slice (some ⟨g,0,none⟩) (k+1) cap) (k+1) (xs++[.int .i64 ts[k].K,.int .i64 ts[k].N,.slice ao1 len1 cap1])) (hgrow:X.grownBy w2 v.ownBlock) (hat:v.ownBlock=some g∨g=X.heap.size) :
 Qbu base w2 d (.slice (some ⟨g,0,none⟩) (k+1) cap) (k+1) ts:=by
 have hbk:=fun g hg=>Qdx h (g:=g) hg
 have hsz:=hX.size
 obtain⟨xs',hown',bss,hbl,hnd,hrng,hE⟩:=h.own
 have hxx:xs'=xs:=by
  rcases hown'.2 with ⟨hv,hn⟩|⟨g1,cap1',cur1,hv,_,hh,_,_,_,ht⟩
  · have h1:=hown'.1
    have h2:=hxs.1
    rw [hn] at h1 h2
    simp at h1 h2
    rw [h1,h2]
  · rcases hxs.2 with ⟨hv2,_⟩|⟨g2,cap2,cur2,hv2,_,hh2,_,_,_,ht2⟩
    · rw [hv] at hv2;cases hv2
    · rw [hv] at hv2
      cases hv2
      rw [hh] at hh2
      cases hh2
      rw [← ht,← ht2]
 subst hxx
 have hlx:xs'.length=k*3:=hown'.1
 obtain⟨bs,ho,hnd2,hrng2⟩:=hs
 have keepOld:∀ b,b<X.heap.size->v.ownBlock≠some b->w2.heap[b]?=X.heap[b]?:=fun b hb hne=>hgrow.block b hb (fun e=>hne e.symm)
 have hnew:∀ b∈bs,v.ownBlock≠some b:=fun b hb e=>by have h1:=(hbk b e).2;have h2:=(hrng2 b hb).1;omega
 refine⟨_,hown,bss++[bs],by simp [hbl],nodup_snoc hnd hnd2 (fun b hb'=>(hrng b hb').2.1) (fun b hb'=>(hrng2 b hb').1),?_,?_⟩
 · intro b hb'
   rw [List.flatten_append,List.mem_append] at hb'
   have hg2:=hgrow.size
   rcases hb' with hb'|hb'
   · obtain⟨h1,h2,h3⟩:=hrng b hb'
     refine⟨h1,by omega,?_⟩
     simp only [Value.ownBlock]
     intro e
     have e':g=b:=by simpa using e
     subst e'
     rcases hat with hat|hat
     · exact h3 hat
     · omega
   · have hb2:=hrng2 b (by simpa using hb')
     refine⟨by omega,by omega,?_⟩
     simp only [Value.ownBlock]
     intro e
     have e':g=b:=by simpa using e
     subst e'
     rcases hat with hat|hat
     · have:=(hbk g hat).2;omega
     · omega
 · intro i hi hi'
   by_cases hik:i=k
   · subst hik
     refine⟨ao1,len1,cap1,?_,?_,?_,?_⟩
     · rw [List.getElem?_append_right (by omega),hlx];simp
     · rw [List.getElem?_append_right (by omega),hlx];simp [Nat.add_sub_cancel_left]
     · rw [List.getElem?_append_right (by omega),hlx];simp [Nat.add_sub_cancel_left]
     · have e:(bss++[bs])[i]=bs:=by simp [List.getElem_append_right,hbl]
       rw [e]
       exact ho.keep fun b hb'=>keepOld b (hrng2 b hb').2 (hnew b hb')
   · have hik':i<bss.length:=by simp at hi;omega
     obtain⟨ao',len',cap',c0,c1,c2,hh⟩:=hE i hik' hi'
     refine⟨ao',len',cap',?_,?_,?_,?_⟩
     · rw [List.getElem?_append_left (by omega)];exact c0
     · rw [List.getElem?_append_left (by omega)];exact c1
     · rw [List.getElem?_append_left (by omega)];exact c2
     · have e:(bss++[bs])[i]=bss[i]:=by simp [List.getElem_append_left,hik']
       rw [e]
       refine hh.keep fun b hb'=>?_
       obtain⟨h1,h2,h3⟩:=hrng b (Qbj hik' hb')
       rw [keepOld b (by omega) h3]
       exact hX.block b h2
theorem Qdm {base:Nat} {wr:World} {d:Nat} {v:Value} {k:Nat} {ts:List Tr} (h:Qbu base wr d v k ts) (hk:k=ts.length) (hm:k≤9223372036854775807):∃ ao cap,v=.slice ao k cap∧OwR base wr.heap.size wr (d+1) ao k ts:=by
 have hbk:=fun g hg=>Qdx h (g:=g) hg
 obtain⟨xs,hown,bss,hbl,hnd,hrng,hE⟩:=h.own
 rcases hown.2 with ⟨rfl,rfl⟩|⟨g,cap,cur,rfl,hg,hh,hc1,hc2,hc3,ht⟩
 · have:ts=[]:=List.length_eq_zero_iff.1 hk.symm
   subst this
   exact⟨none,0,rfl,OwR.nil _ _ _ _ _⟩
 · refine⟨_,cap,rfl,?_⟩
   by_cases hk0:k=0
   · subst hk0
     have:ts=[]:=List.length_eq_zero_iff.1 hk.symm
     subst this
     exact OwR.nil _ _ _ _ _
   refine⟨g::bss.flatten,Or.inr ⟨g,cur,bss,rfl,hk,hm,hh,?_,by omega,rfl,fun i hi hi'=>?_⟩,?_,?_⟩
   · rw [hc3];exact Nat.mul_le_mul_right _ hc1
   · obtain⟨ao',len',cap',c0,c1,c2,hh'⟩:=hE i hi' hi
     have look:∀ p u,xs[p]?=some u->wr.cell? ⟨g,p,none⟩=some u:=by
      intro p u hu
      rw [Qaa hh]
      rw [← ht] at hu
      rw [List.getElem?_take] at hu
      split at hu
      · simpa using hu
      · cases hu
     exact⟨ao',len',cap',look _ _ c0,look _ _ c1,look _ _ c2,hh'⟩
   · rw [List.nodup_cons]
     exact⟨fun hmem=>(hrng _ hmem).2.2 rfl,hnd⟩
   · intro b hb
     rw [List.mem_cons] at hb
     rcases hb with rfl|hb
     · exact hbk b rfl
     · exact⟨(hrng b hb).1,(hrng b hb).2.1⟩
theorem ap_more {base:Nat} {w:World} {d:Nat} {v:Value} {k:Nat} {us:List Tr} (h:Qbu base w d v k us) (hk:k=us.length) (t:Tr):Qbu base w d v k (us++[t]):=by
 obtain⟨xs,hown,bss,hbl,hnd,hrng,hE⟩:=h.own
 refine⟨xs,hown,bss,hbl,hnd,hrng,fun i hi hi'=>?_⟩
 have hiu:i<us.length:=by omega
 obtain⟨ao,len,cap,c0,c1,c2,hh⟩:=hE i hi hiu
 have e:(us++[t])[i]=us[i]:=by simp [List.getElem_append_left,hiu]
 rw [e]
 exact⟨ao,len,cap,c0,c1,c2,hh⟩
theorem Try.infoTy3:(Try.prog.info? 26).map (fun i=>(i.zero,i.size,i.bytes))=some (some (.agg #[.int .i64 0,.int .i64 0,.slice none 0 0]),3,40):=by kernel_rfl
theorem make_ty (len:Nat) (hl:len≤1048576):∃ C:Array Value,C.size=len*3∧∀ w:World,(Instr.makeSlice 24 (.int .i64 (len:Int)) (.int .i64 (len:Int))).run Try.prog w=.ok (.slice (some ⟨w.heap.size,0,none⟩) len len) (w.alloc (.cells C 26)):=by
 obtain⟨i0,hi,hz0,hz1,hz2⟩:=info_parts Try.infoTy3
 refine⟨madeCells (Value.cells (.agg #[.int .i64 0,.int .i64 0,.slice none 0 0])) (len*3),size_madeCells _ _,fun w=>?_⟩
 have:=run_make (P:=Try.prog) (w:=w) 24 26 i0 _ Try.underlying24 hi hz0 .i64 .i64 (len:Int) (len:Int) (by omega) (by omega) (by rw [hz2];omega) (by omega)
 rw [hz1] at this
 simpa using this
theorem Hs.up {L B:Nat} {w:World} {d:Nat} {ao:Option Addr} {len:Nat} {ts:List Tr} (h:Hs L B w 0 ao len ts):Hs L B w (d+1) ao len ts:=by
 obtain⟨rfl,rfl⟩:=h
 exact⟨rfl,by omega,fun i hi=>by simp at hi⟩
theorem OwR.len0 {L B:Nat} {w:World} {d:Nat} {ao:Option Addr} {len:Nat} (h:OwR L B w d ao len []):len=0:=by
 obtain⟨bs,h1,_⟩:=h
 cases d with
 | zero=>exact h1.1
 | succ d =>
   rcases h1 with h1|⟨_,_,_,_,hl,_⟩
   · exact h1.1
   · simpa using hl
theorem ap_form {base:Nat} {wr:World} {d:Nat} {v:Value} {k:Nat} {ts:List Tr} (h:Qbu base wr d v k ts):∃ ao cap,v=.slice ao k cap:=by
 obtain⟨xs,hown,_⟩:=h.own
 rcases hown.2 with ⟨rfl,rfl⟩|⟨g,cap,cur,rfl,_⟩
 · exact⟨none,0,rfl⟩
 · exact⟨_,cap,rfl⟩
theorem ap_run {base:Nat} {wr w1:World} {d:Nat} {v:Value} {k:Nat} {ts:List Tr} (h:Qbu base wr d v k ts) (hk:k<ts.length) (hk2:ts.length≤1048576) (hb:Below wr.heap.size wr w1) (hbase:base≤wr.heap.size) {ao1:Option Addr} {len1 cap1:Nat}
 (ho:OwR wr.heap.size w1.heap.size w1 d ao1 len1 ts[k].A) :
 ∃ g cap w2,(Builtin.append_ #[24,24] 24 #[v,.slice (some ⟨w1.heap.size,0,none⟩) 1 1]).run Try.prog (w1.alloc (.cells #[.int .i64 ts[k].K,.int .i64 ts[k].N,.slice ao1 len1 cap1] 26))=.ok (.slice (some ⟨g,0,none⟩) (k+1) cap) w2 ∧
   Qbu base w2 d (.slice (some ⟨g,0,none⟩) (k+1) cap) (k+1) ts∧Below base wr w2:=by
 obtain⟨i0,hi,hz0,hz1,hz2⟩:=info_parts Try.infoTy3
 have hX:Below wr.heap.size wr (w1.alloc (.cells #[.int .i64 ts[k].K,.int .i64 ts[k].N,.slice ao1 len1 cap1] 26)):=hb.alloc hb.size _
 have h1:=ap_below h hX
 obtain⟨xs,hown,_⟩:=h1.own
 obtain⟨xs0,hown0,_⟩:=h.own
 have hsz:=hb.size
 obtain⟨g,cap,w2,hrun,hown2,hgrow,hat,hlt⟩:=run_append_lies (P:=Try.prog) (w1.alloc (.cells #[.int .i64 ts[k].K,.int .i64 ts[k].N,.slice ao1 len1 cap1] 26)) 24 24 base 26 i0 _ 3 40 Try.underlying24 hi hz0 hz1 hz2 rfl (by omega) v k xs hown
  ⟨w1.heap.size,0,none⟩ 1 1 [.int .i64 ts[k].K,.int .i64 ts[k].N,.slice ao1 len1 cap1] rfl (World.news_of_block (cs:=#[.int .i64 ts[k].K,.int .i64 ts[k].N,.slice ao1 len1 cap1]) (t:=26) (fr:=(0,0)) (heap_alloc_new w1 _)) (by simp [Value.oneCell'])
  (by omega) (by unfold maxLen;omega) (by omega) (by simp;omega) _ rfl
 refine⟨g,cap,w2,hrun,?_,?_⟩
 · have hxx:xs=xs0:=by
    rcases hown.2 with ⟨hv,hn⟩|⟨g1,cap1',cur1,hv,_,hh,_,_,_,ht⟩
    · have q1:=hown.1
      have q2:=hown0.1
      rw [hn] at q1 q2
      simp at q1 q2
      rw [q1,q2]
    · rcases hown0.2 with ⟨hv2,_⟩|⟨g2,cap2,cur2,hv2,_,hh2,_,_,_,ht2⟩
      · rw [hv] at hv2;cases hv2
      · rw [hv] at hv2
        cases hv2
        rw [hX.block g1 (Array.getElem?_eq_some_iff.1 hh2).1,hh2] at hh
        cases hh
        rw [← ht,← ht2]
   subst hxx
   exact ap_next h hk hX hbase (ho.keep (fun q _ hq=>Below.heap_alloc _ _ _ hq) (Nat.le_refl _) (by simp)) hown0 hown2 hgrow hat
 · exact (hX.mono hbase).grown hgrow (by simp;omega) (fun q hq=>(Qdx h1 hq).1)
structure Sm (base:Nat) (w w':World):Prop where
 size:w.heap.size≤w'.heap.size
 block:∀ k,base≤k->k<w.heap.size->w'.heap[k]?=w.heap[k]?
theorem Sm.alloc {base:Nat} {w w':World} (h:Sm base w w') (o:Obj):Sm base w (w'.alloc o) :=
 ⟨Nat.le_trans h.size (by simp),fun k hk hk'=>(Below.heap_alloc _ _ _ (Nat.lt_of_lt_of_le hk' h.size)).trans (h.block k hk hk')⟩
theorem Sm.grown {base p:Nat} {w w':World} (h:w.grownBy w' (some p)) (hp:p<base):Sm base w w':=⟨h.size,fun k hk hk'=>h.block k hk' (by simp;omega)⟩
theorem Sm.drew {base:Nat} {w w':World} (h:Sm base w.drew w'):Sm base w w':=⟨h.size,h.block⟩
structure Lo (base:Nat) (w w':World):Prop where
 os:w'.os=w.os
 tape:w'.tape=w.tape
 output:w'.output=w.output
 size:w.heap.size≤w'.heap.size
 block:∀ k,k<base->w'.heap[k]?=w.heap[k]?
theorem ap_moved {base:Nat} {wr w1:World} {d:Nat} {v:Value} {k:Nat} {ts:List Tr} (h:Qbu base wr d v k ts) (hb:Sm base wr w1):Qbu base w1 d v k ts:=by
 have hbk:=fun g hg=>Qdx h (g:=g) hg
 obtain⟨xs,hown,bss,hbl,hnd,hrng,hE⟩:=h.own
 refine⟨xs,?_,bss,hbl,hnd,fun b hb'=>⟨(hrng b hb').1,Nat.lt_of_lt_of_le (hrng b hb').2.1 hb.size,(hrng b hb').2.2⟩,fun i hi hi'=>?_⟩
 · refine⟨hown.1,?_⟩
   rcases hown.2 with hn|⟨g,cap,cur,rfl,hg,hh,r⟩
   · exact Or.inl hn
   · exact Or.inr ⟨g,cap,cur,rfl,hg,(hb.block g (hbk g rfl).1 (hbk g rfl).2).trans hh,r⟩
 · obtain⟨ao,len,cap,c0,c1,c2,hh⟩:=hE i hi hi'
   exact⟨ao,len,cap,c0,c1,c2,hh.keep fun b hb'=>hb.block b (hrng b (Qbj hi hb')).1 (hrng b (Qbj hi hb')).2.1⟩
theorem ap_next2 {base:Nat} {wr X w2:World} {d:Nat} {v:Value} {k:Nat} {ts:List Tr} (h:Qbu base wr d v k ts) (hk:k<ts.length) (hX:Sm base wr X) (hbase:base≤wr.heap.size) {ao1:Option Addr} {len1 cap1:Nat}
 (hs:OwR wr.heap.size X.heap.size X d ao1 len1 ts[k].A) {g cap:Nat} {xs:List Value} (hxs:wr.ownsRow base 26 3 v k xs)
 (hown:w2.ownsRow base 26 3 (.slice (some ⟨g,0,none⟩) (k+1) cap) (k+1) (xs++[.int .i64 ts[k].K,.int .i64 ts[k].N,.slice ao1 len1 cap1])) (hgrow:X.grownBy w2 v.ownBlock) (hat:v.ownBlock=some g∨g=X.heap.size) :
 Qbu base w2 d (.slice (some ⟨g,0,none⟩) (k+1) cap) (k+1) ts:=by
 have hbk:=fun g hg=>Qdx h (g:=g) hg
 have hsz:=hX.size
 obtain⟨xs',hown',bss,hbl,hnd,hrng,hE⟩:=h.own
 have hxx:xs'=xs:=by
  rcases hown'.2 with ⟨hv,hn⟩|⟨g1,cap1',cur1,hv,_,hh,_,_,_,ht⟩
  · have h1:=hown'.1
    have h2:=hxs.1
    rw [hn] at h1 h2
    simp at h1 h2
    rw [h1,h2]
  · rcases hxs.2 with ⟨hv2,_⟩|⟨g2,cap2,cur2,hv2,_,hh2,_,_,_,ht2⟩
    · rw [hv] at hv2;cases hv2
    · rw [hv] at hv2
      cases hv2
      rw [hh] at hh2
      cases hh2
      rw [← ht,← ht2]
 subst hxx
 have hlx:xs'.length=k*3:=hown'.1
 obtain⟨bs,ho,hnd2,hrng2⟩:=hs
 have keepOld:∀ b,b<X.heap.size->v.ownBlock≠some b->w2.heap[b]?=X.heap[b]?:=fun b hb hne=>hgrow.block b hb (fun e=>hne e.symm)
 have hnew:∀ b∈bs,v.ownBlock≠some b:=fun b hb e=>by have h1:=(hbk b e).2;have h2:=(hrng2 b hb).1;omega
 refine⟨_,hown,bss++[bs],by simp [hbl],nodup_snoc hnd hnd2 (fun b hb'=>(hrng b hb').2.1) (fun b hb'=>(hrng2 b hb').1),?_,?_⟩
 · intro b hb'
   rw [List.flatten_append,List.mem_append] at hb'
   have hg2:=hgrow.size
   rcases hb' with hb'|hb'
   · obtain⟨h1,h2,h3⟩:=hrng b hb'
     refine⟨h1,by omega,?_⟩
     simp only [Value.ownBlock]
     intro e
     have e':g=b:=by simpa using e
     subst e'
     rcases hat with hat|hat
     · exact h3 hat
     · omega
   · have hb2:=hrng2 b (by simpa using hb')
     refine⟨by omega,by omega,?_⟩
     simp only [Value.ownBlock]
     intro e
     have e':g=b:=by simpa using e
     subst e'
     rcases hat with hat|hat
     · have:=(hbk g hat).2;omega
     · omega
 · intro i hi hi'
   by_cases hik:i=k
   · subst hik
     refine⟨ao1,len1,cap1,?_,?_,?_,?_⟩
     · rw [List.getElem?_append_right (by omega),hlx];simp
     · rw [List.getElem?_append_right (by omega),hlx];simp [Nat.add_sub_cancel_left]
     · rw [List.getElem?_append_right (by omega),hlx];simp [Nat.add_sub_cancel_left]
     · have e:(bss++[bs])[i]=bs:=by simp [List.getElem_append_right,hbl]
       rw [e]
       exact ho.keep fun b hb'=>keepOld b (hrng2 b hb').2 (hnew b hb')
   · have hik':i<bss.length:=by simp at hi;omega
     obtain⟨ao',len',cap',c0,c1,c2,hh⟩:=hE i hik' hi'
     refine⟨ao',len',cap',?_,?_,?_,?_⟩
     · rw [List.getElem?_append_left (by omega)];exact c0
     · rw [List.getElem?_append_left (by omega)];exact c1
     · rw [List.getElem?_append_left (by omega)];exact c2
     · have e:(bss++[bs])[i]=bss[i]:=by simp [List.getElem_append_left,hik']
       rw [e]
       refine hh.keep fun b hb'=>?_
       obtain⟨h1,h2,h3⟩:=hrng b (Qbj hik' hb')
       rw [keepOld b (by omega) h3]
       exact hX.block b h1 h2
theorem ap_run2 {base:Nat} {wr w1:World} {d:Nat} {v:Value} {k:Nat} {ts:List Tr} (h:Qbu base wr d v k ts) (hk:k<ts.length) (hk2:ts.length≤1048576) (hb:Sm base wr w1) (hbase:base≤wr.heap.size) {ao1:Option Addr} {len1 cap1:Nat}
 (ho:OwR wr.heap.size w1.heap.size w1 d ao1 len1 ts[k].A) :
 ∃ g cap w2,(Builtin.append_ #[24,24] 24 #[v,.slice (some ⟨w1.heap.size,0,none⟩) 1 1]).run Try.prog (w1.alloc (.cells #[.int .i64 ts[k].K,.int .i64 ts[k].N,.slice ao1 len1 cap1] 26))=.ok (.slice (some ⟨g,0,none⟩) (k+1) cap) w2 ∧
   Qbu base w2 d (.slice (some ⟨g,0,none⟩) (k+1) cap) (k+1) ts∧Lo base w1 w2:=by
 obtain⟨i0,hi,hz0,hz1,hz2⟩:=info_parts Try.infoTy3
 have hX:Sm base wr (w1.alloc (.cells #[.int .i64 ts[k].K,.int .i64 ts[k].N,.slice ao1 len1 cap1] 26)):=hb.alloc _
 have h1:=ap_moved h hX
 obtain⟨xs,hown,_⟩:=h1.own
 obtain⟨xs0,hown0,_⟩:=h.own
 have hsz:=hb.size
 obtain⟨g,cap,w2,hrun,hown2,hgrow,hat,hlt⟩:=run_append_lies (P:=Try.prog) (w1.alloc (.cells #[.int .i64 ts[k].K,.int .i64 ts[k].N,.slice ao1 len1 cap1] 26)) 24 24 base 26 i0 _ 3 40 Try.underlying24 hi hz0 hz1 hz2 rfl (by omega) v k xs hown
  ⟨w1.heap.size,0,none⟩ 1 1 [.int .i64 ts[k].K,.int .i64 ts[k].N,.slice ao1 len1 cap1] rfl (World.news_of_block (cs:=#[.int .i64 ts[k].K,.int .i64 ts[k].N,.slice ao1 len1 cap1]) (t:=26) (fr:=(0,0)) (heap_alloc_new w1 _)) (by simp [Value.oneCell'])
  (by omega) (by unfold maxLen;omega) (by omega) (by simp;omega) _ rfl
 refine⟨g,cap,w2,hrun,?_,?_⟩
 · have hxx:xs=xs0:=by
    rcases hown.2 with ⟨hv,hn⟩|⟨g1,cap1',cur1,hv,_,hh,_,_,_,ht⟩
    · have q1:=hown.1
      have q2:=hown0.1
      rw [hn] at q1 q2
      simp at q1 q2
      rw [q1,q2]
    · rcases hown0.2 with ⟨hv2,_⟩|⟨g2,cap2,cur2,hv2,hbg2,hh2,_,_,_,ht2⟩
      · rw [hv] at hv2;cases hv2
      · rw [hv] at hv2
        cases hv2
        rw [hX.block g1 hbg2 (Array.getElem?_eq_some_iff.1 hh2).1,hh2] at hh
        cases hh
        rw [← ht,← ht2]
   subst hxx
   exact ap_next2 h hk hX hbase (ho.keep (fun q _ hq=>Below.heap_alloc _ _ _ hq) (Nat.le_refl _) (by simp)) hown0 hown2 hgrow hat
 · refine⟨hgrow.os,hgrow.tape,hgrow.output,Nat.le_trans (by simp) hgrow.size,fun q hq=>?_⟩
   rw [hgrow.block q (by simp;omega) (fun e=>by have:=(Qdx h1 e.symm).1;omega)]
   exact Below.heap_alloc _ _ _ (by omega)
theorem i64_and255 (n:Int):bits .and .i64 n 255=n % 256:=by
 have h127:(BitVec.ofInt 64 255).toNat=2 ^ 8 - 1:=by decide
 have key:(BitVec.ofInt 64 n &&& BitVec.ofInt 64 255).toNat=(n % ((2 ^ 64:Nat):Int)).toNat % 2 ^ 8:=by
  rw [BitVec.toNat_and,BitVec.toNat_ofInt,h127,Nat.and_two_pow_sub_one_eq_mod]
 show IntKind.i64.wrap ((BitVec.ofInt 64 n &&& BitVec.ofInt 64 255).toNat:Nat)=n % 256
 rw [key,IntKind.wrap_i64]
 omega
theorem and255_bd (n:Int):0≤bits .and .i64 n 255∧bits .and .i64 n 255≤255:=by rw [i64_and255];omega
structure Cur (w:World) (p:Nat) (cao:Option Addr) (clen ccap:Nat):Prop where
 row:∃ i h:Int,w.heap[p]?=some (.cells #[.slice cao clen ccap,.int .i64 i,.int .i64 h] 50 (0,0))∧0≤i∧i≤clen
 bytes:∀ j,j<clen->∃ b o x,cao=some ⟨b,o,none⟩∧b<p∧w.cell? ⟨b,o+j,none⟩=some (.int .u8 x)∧0≤x∧x≤255
 small:clen≤1048576
theorem Cur.lt {w:World} {p:Nat} {cao:Option Addr} {clen ccap:Nat} (h:Cur w p cao clen ccap):p<w.heap.size:=by
 obtain⟨i,hh,hr,_⟩:=h.row
 exact (Array.getElem?_eq_some_iff.1 hr).1
theorem Cur.keep {w w':World} {p:Nat} {cao:Option Addr} {clen ccap:Nat} (h:Cur w p cao clen ccap) (hb:∀ k,k≤p->w'.heap[k]?=w.heap[k]?):Cur w' p cao clen ccap:=by
 refine⟨?_,fun j hj=>?_,h.small⟩
 · obtain⟨i,hh,hr,r⟩:=h.row
   exact⟨i,hh,(hb p (Nat.le_refl _)).trans hr,r⟩
 · obtain⟨b,o,x,e,hbp,hx,r⟩:=h.bytes j hj
   exact⟨b,o,x,e,hbp,(World.cell?_of_block (hb b (by omega))).trans hx,r⟩
theorem Cur.below {w w':World} {p:Nat} {cao:Option Addr} {clen ccap:Nat} (h:Cur w p cao clen ccap) (hb:Below w.heap.size w w'):Cur w' p cao clen ccap:=h.keep fun k hk=>hb.block k (by have:=h.lt;omega)
structure Drw (w w':World) (p:Nat) (cao:Option Addr) (clen ccap:Nat):Prop where
 grown:w.grownBy w' (some p)
 cur:Cur w' p cao clen ccap
theorem Qaq (w:World) (r:Option Nat):w.grownBy w r:=⟨rfl,rfl,rfl,Nat.le_refl _,fun _ _ _=>rfl⟩
theorem Qab {a b c:World} {r:Option Nat} (h:a.grownBy b r) (k:b.grownBy c r):a.grownBy c r :=
 ⟨k.os.trans h.os,k.tape.trans h.tape,k.output.trans h.output,Nat.le_trans h.size k.size,fun i hi hr=>(k.block i (Nat.lt_of_lt_of_le hi h.size) hr).trans (h.block i hi hr)⟩
theorem Qae {a b:World} (r:Option Nat) (h:Below a.heap.size a b):a.grownBy b r:=⟨h.os,h.tape,h.output,h.size,fun k hk _=>h.block k hk⟩
theorem Drw.trans {a b c:World} {p:Nat} {cao:Option Addr} {clen ccap:Nat} (h:Drw a b p cao clen ccap) (k:Drw b c p cao clen ccap):Drw a c p cao clen ccap:=⟨Qab h.grown k.grown,k.cur⟩
theorem byte_world {w:World} {p:Nat} {cao:Option Addr} {clen ccap:Nat} {i h:Int} (hc:Cur w p cao clen ccap) (hr:w.heap[p]?=some (.cells #[.slice cao clen ccap,.int .i64 i,.int .i64 h] 50 (0,0))) (h':Int) (nq:Nat) (hi:0≤i∧i≤clen) :
 Drw w ((w.setCell ⟨p,2,none⟩ (.int .i64 h')).drewN nq) p cao clen ccap:=by
 refine⟨⟨rfl,rfl,rfl,by show _≤(w.setCell _ _).heap.size;simp,fun k hk hne=>?_⟩,?_,fun j hj=>?_,hc.small⟩
 · show (w.setCell ⟨p,2,none⟩ (.int .i64 h')).heap[k]?=_
   exact Qah _ _ _ (by simpa using hne)
 · refine⟨i,h',?_,hi⟩
   show (w.setCell ⟨p,2,none⟩ (.int .i64 h')).heap[p]?=_
   rw [Qas hr]
   rfl
 · obtain⟨b,o,x,e,hbp,hx,r⟩:=hc.bytes j hj
   refine⟨b,o,x,e,hbp,?_,r⟩
   show (w.setCell ⟨p,2,none⟩ (.int .i64 h')).cell? _=_
   exact (World.cell?_of_block (Qah _ _ _ (by show b≠p;omega))).trans hx
theorem byte_world2 {w:World} {p:Nat} {cao:Option Addr} {clen ccap:Nat} {i h:Int} (hc:Cur w p cao clen ccap) (hr:w.heap[p]?=some (.cells #[.slice cao clen ccap,.int .i64 i,.int .i64 h] 50 (0,0))) (i':Int) (hi:0≤i'∧i'≤clen) :
 Drw w (w.setCell ⟨p,1,none⟩ (.int .i64 i')) p cao clen ccap:=by
 refine⟨⟨rfl,rfl,rfl,by simp,fun k hk hne=>Qah _ _ _ (by simpa using hne)⟩,?_,fun j hj=>?_,hc.small⟩
 · refine⟨i',h,?_,hi⟩
   rw [Qas hr]
   rfl
 · obtain⟨b,o,x,e,hbp,hx,r⟩:=hc.bytes j hj
   exact⟨b,o,x,e,hbp,(World.cell?_of_block (Qah _ _ _ (by show b≠p;omega))).trans hx,r⟩
theorem byte_row {w:World} {p:Nat} {cao:Option Addr} {clen ccap:Nat} {i h:Int} (hr:w.heap[p]?=some (.cells #[.slice cao clen ccap,.int .i64 i,.int .i64 h] 50 (0,0))) (h':Int) (nq:Nat) :
 ((w.setCell ⟨p,2,none⟩ (.int .i64 h')).drewN nq).heap[p]?=some (.cells #[.slice cao clen ccap,.int .i64 i,.int .i64 h'] 50 (0,0)):=by
 show (w.setCell ⟨p,2,none⟩ (.int .i64 h')).heap[p]?=_
 rw [Qas hr]
 rfl
theorem Drw.drewN {w w':World} {p:Nat} {cao:Option Addr} {clen ccap:Nat} (h:Drw w w' p cao clen ccap) (n:Nat):Drw w (w'.drewN n) p cao clen ccap :=
 ⟨⟨h.grown.os,h.grown.tape,h.grown.output,h.grown.size,h.grown.block⟩,h.cur.keep (w':=w'.drewN n) (fun _ _=>rfl)⟩
set_option maxHeartbeats 2000000 in
theorem l1Byte_any (p:Nat) (cao:Option Addr) (clen ccap:Nat) (w:World) (hc:Cur w p cao clen ccap) :
 Calls Try.prog 51 #[.pointer (some ⟨p,0,none⟩)] w fun e w'=>∃ x:Int,e=.returned (.int .i64 x)∧0≤x∧x≤255∧Drw w w' p cao clen ccap:=by
 obtain⟨i,h,hr,hi0,hi1⟩:=hc.row
 obtain⟨c0,c1,c2⟩:=Qaf hr
 have r2:=Qad hr 2
 have r1:=Qad hr 1
 have hsm:=hc.small
 by_cases hlt:i<clen
 · obtain⟨b,o,x,rfl,hbp,hx,hx0,hx1⟩:=hc.bytes i.toNat (by omega)
   have hbne:¬ p=b:=by omega
   go_enter Try.func51,Try.ntmps51
   go_wp2_with fail
   go_quiet (fail)
   go_wp2_with fail
   generalize hbx:bits BinOp.and IntKind.i64 _ 255=bx
   have hb0:0≤bx∧bx≤255:=by rw [← hbx];exact and255_bd _
   clear hbx
   obtain⟨hb0,hb1⟩:=hb0
   generalize wrap64 (wrap64 (h*6364136223846793005)+1442695040888963407)=h'
   go_quiet (fail)
   go_wp2_with fail
   go_quiet (fail)
   go_wp2_with fail
   go_ret
   refine⟨_,rfl,(and255_bd _).1,(and255_bd _).2,?_⟩
   have hD:=fun q=>byte_world hc hr h' q ⟨hi0,hi1⟩
   exact (hD _).trans (byte_world2 (hD _).cur (byte_row hr h' _) (i+1) ⟨by omega,by omega⟩)
 · go_enter Try.func51,Try.ntmps51
   go_wp2_with fail
   go_quiet (fail)
   go_wp2_with fail
   generalize hbx:bits BinOp.and IntKind.i64 _ 255=bx
   have hb0:0≤bx∧bx≤255:=by rw [← hbx];exact and255_bd _
   clear hbx
   obtain⟨hb0,hb1⟩:=hb0
   generalize wrap64 (wrap64 (h*6364136223846793005)+1442695040888963407)=h'
   go_quiet (fail)
   go_wp2_with fail
   go_ret
   exact⟨_,rfl,hb0,hb1,(byte_world hc hr h' _ ⟨hi0,hi1⟩).drewN _⟩
set_option maxHeartbeats 400000 in
theorem Qat (p:Nat) (cao:Option Addr) (clen ccap:Nat) (n:Int) (w:World) (hc:Cur w p cao clen ccap) (h1:0<n) (h2:n≤256) :
 Calls Try.prog 30 #[.pointer (some ⟨p,0,none⟩),.int .i64 n] w fun e w'=>∃ x:Int,e=.returned (.int .i64 x)∧0≤x∧x<n∧Drw w w' p cao clen ccap:=by
 go_enter Try.func30,Try.ntmps30
 go_wp2_with fail
 refine (l1Byte_any p cao clen ccap _ hc).mono ?_
 rintro e w1 ⟨x,rfl,hx0,hx1,hD⟩
 go_wp2_with fail
 go_ret
 exact⟨_,rfl,Int.emod_nonneg _ (by omega),Int.emod_lt_of_pos _ h1,hD⟩
theorem Qdk (p:Nat) (cao:Option Addr) (clen ccap g len cap:Nat) (zs:List Int) (w:World) (hc:Cur w p cao clen ccap) (hg:w.heap[g]?=some (.cells ((zs.map (Value.int .i64)).toArray) 3 (0,0))) (hgp:g≠p) (hl:len=zs.length) (h1:0<len) (h2:len≤256) :
 Calls Try.prog 17 #[.pointer (some ⟨p,0,none⟩),.slice (some ⟨g,0,none⟩) len cap] w fun e w'=>∃ x:Int,e=.returned (.int .i64 x)∧x∈zs∧Drw w w' p cao clen ccap:=by
 have hgl:g<w.heap.size:=(Array.getElem?_eq_some_iff.1 hg).1
 have HL:Hid (len=zs.length):=hl
 clear hl
 go_enter Try.func17,Try.ntmps17
 go_wp2_with fail
 refine (Qat p cao clen ccap len _ hc (by omega) (by omega)).mono ?_
 rintro e w1 ⟨x,rfl,hx0,hx1,hD⟩
 have hg1:=(hD.grown.block g hgl (by simpa using hgp)).trans hg
 have hxl:x.toNat<zs.length:=by have:=HL.out;omega
 have hc1:w1.cell? ⟨g,x.toNat,none⟩=some (.int .i64 (zs[x.toNat]'hxl)):=by
  rw [Qaa hg1]
  simp [hxl]
 have hm:zs[x.toNat]'hxl∈zs:=List.getElem_mem hxl
 clear hg1 hg
 generalize zs[x.toNat]'hxl=z at hc1 hm
 have HM:Hid (z∈zs):=hm
 clear hm
 go_wp2_with fail
 go_ret
 exact⟨_,rfl,HM.out,hD⟩
set_option maxHeartbeats 400000 in
theorem Qcs (p:Nat) (cao:Option Addr) (clen ccap:Nat) (n:Int) (w:World) (hc:Cur w p cao clen ccap) (h1:0<n) (h2:n≤256) :
 Calls Try.prog 28 #[.pointer (some ⟨p,0,none⟩),.int .i64 n] w fun e w'=>∃ b:Bool,e=.returned (.bool b)∧Drw w w' p cao clen ccap:=by
 go_enter Try.func28,Try.ntmps28
 go_wp2_with fail
 refine (Qat p cao clen ccap n _ hc h1 h2).mono ?_
 rintro e w1 ⟨x,rfl,hx0,hx1,hD⟩
 go_wp2_with fail
 go_ret
 exact⟨_,rfl,hD⟩
end Go.Proofs.Ytleghjgpnefliaa
