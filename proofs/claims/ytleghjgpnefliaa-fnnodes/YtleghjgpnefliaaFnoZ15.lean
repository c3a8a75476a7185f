/-
  Types put for variables, in plain words. No walk, no statement.
-/
import Derived.Test.YtleghjgpnefliaaFnoZ3
import Derived.Test.YtleghjgpnefliaaFnoZ6
import Derived.Test.YtleghjgpnefliaaFnoZ4
import Derived.Test.YtleghjgpnefliaaFnoZ5
import Derived.Test.YtleghjgpnefliaaFnoZ10
namespace Go.Proofs.Ytleghjgpnefliaa
open Go.RowKit
set_option linter.unusedVariables false
set_option linter.unusedSimpArgs false
def putW (σ:List Tr):Nat->Tr->Tr
 | 0,t=>t
 | l+1,t=>if t.K=3 then σ.getD t.N.toNat ⟨0,0,[]⟩ else ⟨t.K,t.N,t.A.map (putW σ l)⟩
theorem varsTo_le (l:Nat) (k n:Int) (ts:List Tr):∀ j,j≤ts.length->Qdg l k n ts j≤Qdg l k n ts ts.length:=by
 have step:∀ j,j<ts.length->Qdg l k n ts j≤Qdg l k n ts (j+1):=fun j hj=>by rw [varsTo_succ l k n ts j hj];exact Nat.le_max_left _ _
 intro j hj
 have:∀ e,j+e≤ts.length->Qdg l k n ts j≤Qdg l k n ts (j+e):=by
  intro e
  induction e with
  | zero=>intro _;exact Nat.le_refl _
  | succ e ih=>intro he;exact Nat.le_trans (ih (by omega)) (step (j+e) (by omega))
 have h2:=this (ts.length - j) (by omega)
 rwa [show j+(ts.length - j)=ts.length by omega] at h2
theorem vars_root {l:Nat} {k n:Int} {ts:List Tr}:var0 k n≤Qce (l+1) ⟨k,n,ts⟩:=by
 rw [← varsTo_all l k n ts ts.length (Nat.le_refl _),← varsTo_zero l k n ts]
 exact varsTo_le l k n ts 0 (by omega)
theorem vars_part {l:Nat} {k n:Int} {ts:List Tr} {j:Nat} (h:j<ts.length):Qce l ts[j]≤Qce (l+1) ⟨k,n,ts⟩:=by
 rw [← varsTo_all l k n ts ts.length (Nat.le_refl _)]
 have h1:=varsTo_le l k n ts (j+1) h
 rw [varsTo_succ l k n ts j h] at h1
 exact Nat.le_trans (Nat.le_max_right _ _) h1
theorem nodesW_put {σ:List Tr} {k:Nat} (hσ:∀ s∈σ,∃ m,Qai k s=some m):∀ (l:Nat) (t:Tr) (m:Nat),Qai l t=some m->Qce l t≤σ.length->∃ m',Qai (l+k) (putW σ l t)=some m'
 | 0,t,m,h,_=>by simp [Qai] at h
 | l+1,⟨K,N,A⟩,m,h,hv=>by
   obtain⟨hn,hp⟩:=Qay h
   by_cases h3:K=3
   · subst h3
     obtain⟨h0,h1⟩:=var0_of hn rfl
     have hr:var0 3 N≤Qce (l+1) ⟨3,N,A⟩:=vars_root
     have hr2:(N+1).toNat≤σ.length:=by simp [var0] at hr;omega
     have hlt:N.toNat<σ.length:=by omega
     have e:putW σ (l+1) ⟨3,N,A⟩=σ[N.toNat]:=by simp [putW,hlt]
     obtain⟨m',hm'⟩:=hσ _ (List.getElem_mem hlt)
     rw [e]
     exact⟨m',Qcm (by omega) hm'⟩
   · have e:putW σ (l+1) ⟨K,N,A⟩=⟨K,N,A.map (putW σ l)⟩:=by simp [putW,h3]
     rw [e,show l+1+k=l+k+1 by omega]
     refine Qcy (by rw [List.length_map];exact hn) (fun u hu=>?_)
     obtain⟨x,hx,rfl⟩:=List.mem_map.1 hu
     obtain⟨j,hj,rfl⟩:=List.getElem_of_mem hx
     obtain⟨a,ha⟩:=hp j hj
     exact nodesW_put hσ l _ a ha (Nat.le_trans (vars_part hj) hv)
structure TsRel (base:Nat) (wr:World) (D:Nat) (v:Value) (us:List Tr):Prop where
 own:∃ xs,wr.ownsRow base 26 3 v us.length xs∧∀ i (h:i<us.length),∃ ao len cap Li Bi,xs[i*3]?=some (.int .i64 us[i].K)∧xs[i*3+1]?=some (.int .i64 us[i].N)∧xs[i*3+2]?=some (.slice ao len cap) ∧
  base≤Li∧Bi≤wr.heap.size∧Hs Li Bi wr D ao len us[i].A∧∀ g,v.ownBlock=some g->g<Li∨Bi≤g
theorem own_at {base:Nat} {wr:World} {ty:TypeId} {k:Nat} {v:Value} {n:Nat} {xs:List Value} (h:wr.ownsRow base ty k v n xs) {g:Nat} (hg:v.ownBlock=some g):base≤g∧g<wr.heap.size:=by
 rcases h.2 with ⟨rfl,_⟩|⟨g',cap,cur,rfl,hb,hh,_⟩
 · cases hg
 · have e:g'=g:=by simpa [Value.ownBlock] using hg
   subst e
   exact⟨hb,(Array.getElem?_eq_some_iff.1 hh).1⟩
theorem ts_sm {base:Nat} {wr w1:World} {D:Nat} {v:Value} {us:List Tr} (h:TsRel base wr D v us) (hs:Sm base wr w1):TsRel base w1 D v us:=by
 obtain⟨xs,hown,hE⟩:=h.own
 refine⟨xs,⟨hown.1,?_⟩,fun i hi=>?_⟩
 · rcases hown.2 with hn|⟨g,cap,cur,rfl,hg,hh,r⟩
   · exact Or.inl hn
   · exact Or.inr ⟨g,cap,cur,rfl,hg,(hs.block g hg (Array.getElem?_eq_some_iff.1 hh).1).trans hh,r⟩
 · obtain⟨ao,len,cap,Li,Bi,c0,c1,c2,h1,h2,h3,h4⟩:=hE i hi
   exact⟨ao,len,cap,Li,Bi,c0,c1,c2,h1,Nat.le_trans h2 hs.size,h3.keep (fun q hq hq'=>hs.block q (by omega) (by omega)) (Nat.le_refl _) (Nat.le_refl _),h4⟩
theorem ts_push {base:Nat} {wr w1:World} {D:Nat} {v:Value} {us:List Tr} (h:TsRel base wr D v us) (hs:Sm base wr w1) (hb:base≤wr.heap.size) (hl:us.length≤1000000) (K N:Int) (ao:Option Addr) (len cap:Nat) (ts:List Tr) (hH:Hs wr.heap.size w1.heap.size w1 D ao len ts) :
 ∃ g cap' w2,(Builtin.append_ #[24,24] 24 #[v,.slice (some ⟨w1.heap.size,0,none⟩) 1 1]).run Try.prog (w1.alloc (.cells #[.int .i64 K,.int .i64 N,.slice ao len cap] 26))=.ok (.slice (some ⟨g,0,none⟩) (us.length+1) cap') w2 ∧
   TsRel base w2 D (.slice (some ⟨g,0,none⟩) (us.length+1) cap') (us++[⟨K,N,ts⟩])∧Lo base w1 w2:=by
 obtain⟨i0,hi,hz0,hz1,hz2⟩:=info_parts Try.infoTy3
 have hvb:∀ g,v.ownBlock=some g->base≤g∧g<wr.heap.size:=by
  obtain⟨xs,hown,_⟩:=h.own
  exact fun g hg=>own_at hown hg
 have h1:=ts_sm h (hs.alloc (.cells #[.int .i64 K,.int .i64 N,.slice ao len cap] 26))
 obtain⟨xs,hown,hE⟩:=h1.own
 have hsz:=hs.size
 obtain⟨g,cap',w2,hrun,hown2,hgrow,hat,hlt⟩:=run_append_lies (P:=Try.prog) (w1.alloc (.cells #[.int .i64 K,.int .i64 N,.slice ao len cap] 26)) 24 24 base 26 i0 _ 3 40 Try.underlying24 hi hz0 hz1 hz2 rfl (by omega) v us.length xs hown
  ⟨w1.heap.size,0,none⟩ 1 1 [.int .i64 K,.int .i64 N,.slice ao len cap] rfl (World.news_of_block (cs:=#[.int .i64 K,.int .i64 N,.slice ao len cap]) (t:=26) (fr:=(0,0)) (heap_alloc_new w1 _)) (by simp [Value.oneCell'])
  (by omega) (by unfold maxLen;omega) (by omega) (by simp;omega) _ rfl
 have hlx:xs.length=us.length*3:=hown.1
 have hgs:=hgrow.size
 simp only [World.size_alloc] at hat hgs
 have hkeep:∀ q,q<w1.heap.size->v.ownBlock≠some q->w2.heap[q]?=w1.heap[q]?:=fun q hq hne=>(hgrow.block q (by simp;omega) (fun e=>hne e.symm)).trans (Below.heap_alloc _ _ _ hq)
 have hgA:∀ Li Bi,Bi≤w1.heap.size+1->(∀ g,v.ownBlock=some g->g<Li∨Bi≤g)->g<Li∨Bi≤g:=by
  intro Li Bi hB hh
  rcases hat with hat|hat
  · exact hh g hat
  · right;omega
 refine⟨g,cap',w2,hrun,⟨xs++[.int .i64 K,.int .i64 N,.slice ao len cap],by simpa using hown2,fun i hi=>?_⟩,⟨hgrow.os,hgrow.tape,hgrow.output,by omega,fun q hq=>hkeep q (by omega) (fun e=>by have:=(hvb q e).1;omega)⟩⟩
 by_cases hil:i<us.length
 · obtain⟨ao1,len1,cap1,Li,Bi,c0,c1,c2,q1,q2,q3,q4⟩:=hE i hil
   have e:(us++[(⟨K,N,ts⟩:Tr)])[i]=us[i]:=by simp [List.getElem_append_left,hil]
   rw [e]
   simp only [World.size_alloc] at q2
   refine⟨ao1,len1,cap1,Li,Bi,?_,?_,?_,q1,by omega,q3.keep (fun q hq hq'=>?_) (Nat.le_refl _) (Nat.le_refl _),fun g' hg'=>?_⟩
   · rw [List.getElem?_append_left (by omega)];exact c0
   · rw [List.getElem?_append_left (by omega)];exact c1
   · rw [List.getElem?_append_left (by omega)];exact c2
   · exact hgrow.block q (by simp;omega) (fun e=>by have:=q4 q e.symm;omega)
   · have e':g=g':=by simpa [Value.ownBlock] using hg'
     subst e'
     exact hgA Li Bi q2 q4
 · have hie:i=us.length:=by simp at hi;omega
   subst hie
   have e:(us++[(⟨K,N,ts⟩:Tr)])[us.length]=⟨K,N,ts⟩:=by simp
   rw [e]
   refine⟨ao,len,cap,wr.heap.size,w1.heap.size,?_,?_,?_,hb,by omega,hH.keep (fun q hq hq'=>hkeep q hq' (fun e=>by have:=(hvb q e).2;omega)) (Nat.le_refl _) (Nat.le_refl _),fun g' hg'=>?_⟩
   · rw [List.getElem?_append_right (by omega),hlx];simp
   · rw [List.getElem?_append_right (by omega),hlx];simp [Nat.add_sub_cancel_left]
   · rw [List.getElem?_append_right (by omega),hlx];simp [Nat.add_sub_cancel_left]
   · have e':g=g':=by simpa [Value.ownBlock] using hg'
     subst e'
     rcases hat with hat|hat
     · left;exact (hvb g hat).2
     · right;omega
theorem ts_done {base:Nat} {wr:World} {D:Nat} {v:Value} {us:List Tr} (h:TsRel base wr D v us) (hl:us.length≤1000000):∃ ao cap,v=.slice ao us.length cap∧Hs base wr.heap.size wr (D+1) ao us.length us:=by
 obtain⟨xs,hown,hE⟩:=h.own
 rcases hown.2 with ⟨rfl,hn⟩|⟨g,cap,cur,rfl,hg,hh,hc1,hc2,hc3,ht⟩
 · have:us=[]:=List.length_eq_zero_iff.1 hn
   subst this
   exact⟨none,0,rfl,rfl,by omega,fun i hi=>by simp at hi⟩
 · refine⟨_,cap,rfl,rfl,by omega,fun i hi=>?_⟩
   obtain⟨ao1,len1,cap1,Li,Bi,c0,c1,c2,q1,q2,q3,q4⟩:=hE i hi
   have look:∀ p u,xs[p]?=some u->wr.cell? ⟨g,p,none⟩=some u:=by
    intro p u hu
    rw [Qaa hh]
    rw [← ht] at hu
    rw [List.getElem?_take] at hu
    split at hu
    · simpa using hu
    · cases hu
   refine⟨g,0,rfl,hg,(Array.getElem?_eq_some_iff.1 hh).1,?_⟩
   rw [Nat.zero_add]
   exact⟨ao1,len1,cap1,look _ _ c0,look _ _ c1,look _ _ c2,q3.keep (fun _ _ _=>rfl) q1 q2⟩
theorem ts_form {base:Nat} {wr:World} {D:Nat} {v:Value} {us:List Tr} (h:TsRel base wr D v us):∃ ao cap,v=.slice ao us.length cap:=by
 obtain⟨xs,hown,hE⟩:=h.own
 rcases hown.2 with ⟨rfl,hn⟩|⟨g,cap,cur,rfl,_⟩
 · exact⟨none,0,by rw [hn]⟩
 · exact⟨_,cap,rfl⟩
def SaidLp (l:Nat):Prop:=∀ (d d2 L B L2 B2:Nat) (k n:Int) (ao:Option Addr) (len cap:Nat) (ts:List Tr) (sao:Option Addr) (slen scap:Nat) (σ:List Tr) (m:Nat) (w:World),
    B≤w.heap.size->Hs L B w d ao len ts->B2≤w.heap.size->Hs L2 B2 w d2 sao slen σ->Qai l ⟨k,n,ts⟩=some m->Qce l ⟨k,n,ts⟩≤slen->cntS σ≤1048576 →
    Calls Try.prog 91 #[.agg #[.int .i64 k,.int .i64 n,.slice ao len cap],.slice sao slen scap] w fun e w'=>∃ ao2 len2 cap2,e=.returned (.agg #[.int .i64 (putW σ l ⟨k,n,ts⟩).K,.int .i64 (putW σ l ⟨k,n,ts⟩).N,.slice ao2 len2 cap2]) ∧
     Below w.heap.size w w'∧OwR w.heap.size w'.heap.size w' (l+d2) ao2 len2 (putW σ l ⟨k,n,ts⟩).A
set_option maxRecDepth 100000 in
set_option maxHeartbeats 1000000 in
theorem lp_var (l:Nat) (d d2 L B L2 B2:Nat) (k n:Int) (ao:Option Addr) (len cap:Nat) (ts:List Tr) (sao:Option Addr) (slen scap:Nat) (σ:List Tr) (m:Nat) (w:World)
 (hB:B≤w.heap.size) (hs:Hs L B w d ao len ts) (hB2:B2≤w.heap.size) (hs2:Hs L2 B2 w d2 sao slen σ) (hm:Qai (l+1) ⟨k,n,ts⟩=some m) (hv:Qce (l+1) ⟨k,n,ts⟩≤slen) (hc:cntS σ≤1048576) (hk:k=3) :
 Calls Try.prog 91 #[.agg #[.int .i64 k,.int .i64 n,.slice ao len cap],.slice sao slen scap] w fun e w'=>∃ ao2 len2 cap2,e=.returned (.agg #[.int .i64 (putW σ (l+1) ⟨k,n,ts⟩).K,.int .i64 (putW σ (l+1) ⟨k,n,ts⟩).N,.slice ao2 len2 cap2]) ∧
  Below w.heap.size w w'∧OwR w.heap.size w'.heap.size w' (l+1+d2) ao2 len2 (putW σ (l+1) ⟨k,n,ts⟩).A:=by
 obtain⟨hok,hparts⟩:=Qay hm
 have hv0:=var0_of hok
 obtain⟨X,hX⟩:∃ X,X=((w.alloc (.cells #[.int .i64 k,.int .i64 n,.slice ao len cap] 26)).alloc (.cells #[.int .i64 0,.int .i64 0,.slice none 0 0] 26)):=⟨_,rfl⟩
 have hXs:X.heap.size=w.heap.size+2:=by rw [hX];simp
 have hXb:Below w.heap.size w X:=by rw [hX];exact ((Below.refl _ _).alloc (Nat.le_refl _) _).alloc (by simp) _
 have hX1:X.heap[w.heap.size+1]?=some (.cells #[.int .i64 0,.int .i64 0,.slice none 0 0] 26 (0,0)):=by rw [hX];exact Qac (by simp)
 have HX:Hid (X=_):=hX
 clear hX
 have hk3:(k==3)=true:=by simp [hk]
 have hn:=hv0 hk
 have hroot:=vars_root (l:=l) (k:=k) (n:=n) (ts:=ts)
 have hvr:var0 k n=(n+1).toNat:=by simp [var0,hk]
 have hns:n.toNat<slen:=by omega
 have hσ:slen=σ.length:=hs2.len.1
 obtain⟨b,o,hsao,_,hbB,ao1,len1,cap1,c0,c1,c2,hs4⟩:=hs2.get n.toNat (by omega)
 subst hsao
 have hput:putW σ (l+1) ⟨k,n,ts⟩=σ[n.toNat]'(by omega):=by
  simp only [putW]
  rw [if_pos hk]
  simp [List.getD,List.getElem?_eq_getElem (show n.toNat<σ.length by omega)]
 rw [hput]
 have hs5:=hs4.below hXb hB2
 have hcn:=Qcn σ n.toNat (by omega)
 have hbw:b<w.heap.size:=by omega
 have hn0:=hn.1
 have hn1:n<slen:=by omega
 obtain⟨t,ht⟩:∃ t,t=σ[n.toNat]'(by omega):=⟨_,rfl⟩
 rw [← ht] at c0 c1 hs5 hcn ⊢
 have e0:=(Qag hXb hbw _).trans c0
 have e1:=(Qag hXb hbw _).trans c1
 have e2:=(Qag hXb hbw _).trans c2
 rw [HX.out] at e0 e1 e2
 clear hput hvr hroot hn hv0 hk hm hparts hok hv hs4 ht c0 c1 c2 hσ
 go_enter Try.func91,Try.ntmps91
 go_wp2_with fail
 rw [← HX.out]
 refine (Qed _ _ _ _ _ _ _ _ _ _ (by omega) hs5 (by omega)).mono ?_
 rintro e w1 ⟨ao2,len2,cap2,rfl,hb1,ho⟩
 have y:=(hb1.block (w.heap.size+1) (by omega)).trans hX1
 obtain⟨y0,y1,y2⟩:=Qaf y
 have y3:=Qad y
 have hbel:Below w.heap.size w w1:=hXb.trans (hb1.mono (by omega))
 clear y hX1 e0 e1 e2
 go_wp2_with fail
 refine bodyPost_ret (v:=.agg #[.int .i64 t.K,.int .i64 t.N,.slice ao2 len2 cap2]) (by simp [results,Try.results91,go_sem,y0,y1,y2]) rfl ⟨ao2,len2,cap2,rfl,?_,?_⟩
 · exact Qbg hbel (by omega)
 · refine (ho.keep (fun j hj _=>?_) (by omega) (by simp)).deeper (by omega)
   rw [Qah _ _ _ (by omega),Qah _ _ _ (by omega),Qah _ _ _ (by omega)]
set_option maxRecDepth 100000 in
set_option maxHeartbeats 2000000 in
theorem lp_succ (l:Nat) (IH:SaidLp l):SaidLp (l+1):=by
 intro d d2 L B L2 B2 k n ao len capA ts sao slen scap σ m w hB hs hB2 hs2 hm hv hc
 by_cases hk:k=3
 · exact lp_var l d d2 L B L2 B2 k n ao len capA ts sao slen scap σ m w hB hs hB2 hs2 hm hv hc hk
 obtain⟨hok,hparts⟩:=Qay hm
 have hlen:len=ts.length:=hs.len.1
 have hlen2:len≤2:=by rw [hlen];exact Qec hok
 have hk3:(k==3)=false:=by simp [hk]
 have hput:putW σ (l+1) ⟨k,n,ts⟩=⟨k,n,ts.map (putW σ l)⟩:=by simp only [putW];rw [if_neg hk]
 rw [hput]
 have HP:Hid (∀ j (hj:j<ts.length),∃ a,Qai l ts[j]=some a):=hparts
 have HV:Hid (∀ j (hj:j<ts.length),Qce l ts[j]≤slen):=fun j hj=>Nat.le_trans (vars_part hj) hv
 have HL:Hid (len=ts.length):=hlen
 obtain⟨R,hRR⟩:∃ R,R=ts.map (putW σ l):=⟨_,rfl⟩
 rw [← hRR]
 have HRl:Hid (R.length=ts.length):=by show _=_;rw [hRR];simp
 have HRg:Hid (∀ i (h:i<R.length) (h':i<ts.length),R[i]=putW σ l ts[i]):=by intro i h h';subst hRR;simp
 clear hRR hput hk hm hparts hok hv hlen
 obtain⟨X,hX⟩:∃ X,X=(((w.alloc (.cells #[.int .i64 k,.int .i64 n,.slice ao len capA] 26)).alloc (.cells #[.int .i64 0,.int .i64 0,.slice none 0 0] 26)).alloc (.cells #[.int .i64 k,.int .i64 n,.slice none 0 0] 26)):=⟨_,rfl⟩
 have hXs:X.heap.size=w.heap.size+3:=by rw [hX];simp
 have hXb:Below w.heap.size w X:=by rw [hX];exact (((Below.refl _ _).alloc (Nat.le_refl _) _).alloc (by simp) _).alloc (by simp;omega) _
 have hX0:X.heap[w.heap.size]?=some (.cells #[.int .i64 k,.int .i64 n,.slice ao len capA] 26 (0,0)):=by rw [hX,Below.heap_alloc _ _ _ (by simp only [World.size_alloc];omega),Below.heap_alloc _ _ _ (by simp only [World.size_alloc];omega)];exact Qac rfl
 have hX2:X.heap[w.heap.size+1+1]?=some (.cells #[.int .i64 k,.int .i64 n,.slice none 0 0] 26 (0,0)):=by rw [hX];exact Qac (by simp)
 have hX1:X.heap[w.heap.size+1]?=some (.cells #[.int .i64 0,.int .i64 0,.slice none 0 0] 26 (0,0)):=by rw [hX,Below.heap_alloc _ _ _ (by simp only [World.size_alloc];omega)];exact Qac (by simp)
 have HX:Hid (X=_):=hX
 have hStart:LcRel w X (l+d2) 0 #[.int .i64 k,.int .i64 n,.slice ao len capA] #[] (.slice none 0 0) k n w.heap.size (w.heap.size+1+1) R:=⟨hXb,hX0,hX2,ap_nil _ _ _ _⟩
 have HX1:Hid (_=_):=hX1
 clear hX hX0 hX1 hX2
 go_enter Try.func91,Try.ntmps91
 go_wp2_with fail
 rw [← HX.out]
 clear hk3
 go_loopw [6] (fun i wr=>∃ (j:Nat) (v:Value),j≤len∧i=.int .i64 j∧Below (w.heap.size+1+1) X wr∧LcRel w wr (l+d2) j #[.int .i64 k,.int .i64 n,.slice ao len capA] #[] v k n w.heap.size (w.heap.size+1+1) R) (fun i _=>len - (intOf i).toNat)
 case atStart=>exact⟨0,_,by omega,rfl,Below.refl _ _,hStart⟩
 case round =>
  obtain⟨j,v,hj,rfl,hbX,hR⟩:=hrel
  have hbel:=hR.bel
  have hszr:w.heap.size+3≤wr.heap.size:=by have:=hbX.size;omega
  obtain⟨x0,x1,x2⟩:=Qaf hR.hbox
  obtain⟨y0,y1,y2⟩:=Qaf hR.hout
  clear x0 x1
  by_cases hlt:j<len
  · have hlt':j<ts.length:=by have:=HL.out;omega
    have hltR:j<R.length:=by have:=HRl.out;omega
    obtain⟨b,o,rfl,_,hbB,ao1,len1,cap1,c0,c1,c2,hs1⟩:=hs.get j hlt'
    have e0:=(Qag hbel (by omega) _).trans c0
    have e1:=(Qag hbel (by omega) _).trans c1
    have e2:=(Qag hbel (by omega) _).trans c2
    have hs3:=(hs1.below hbel hB).drew
    have hs4:=(hs2.below hbel hB2).drew
    have hapd:Qbu (w.heap.size+1+1+1) wr.drew (l+d2) v j R:=ap_below hR.ap (Below.refl _ _).drew
    obtain⟨a,ha⟩:=HP.out j hlt'
    have HA:Hid (Qai l ⟨ts[j].K,ts[j].N,ts[j].A⟩=some a):=by show _=_;rw [Qap];exact ha
    have HVj:Hid (Qce l ⟨ts[j].K,ts[j].N,ts[j].A⟩≤slen):=by show _≤_;rw [Qap];exact HV.out j hlt'
    have HRj:Hid (putW σ l ⟨ts[j].K,ts[j].N,ts[j].A⟩=R[j]):=by show _=_;rw [Qap];exact (HRg.out j hltR hlt').symm
    have APR:Hid (∀ (w1:World) (ao3:Option Addr) (len3 cap3:Nat),Below wr.drew.heap.size wr.drew w1->OwR wr.drew.heap.size w1.heap.size w1 (l+d2) ao3 len3 R[j].A->∃ g cap w2,(Builtin.append_ #[24,24] 24 #[v,.slice (some ⟨w1.heap.size,0,none⟩) 1 1]).run Try.prog (w1.alloc (.cells #[.int .i64 R[j].K,.int .i64 R[j].N,.slice ao3 len3 cap3] 26))=.ok (.slice (some ⟨g,0,none⟩) (j+1) cap) w2 ∧
     LcRel w (w2.setCell ⟨w.heap.size+1+1,2,none⟩ (.slice (some ⟨g,0,none⟩) (j+1) cap)) (l+d2) (j+1) #[.int .i64 k,.int .i64 n,.slice (some ⟨b,o,none⟩) len capA] #[] (.slice (some ⟨g,0,none⟩) (j+1) cap) k n w.heap.size (w.heap.size+1+1) R∧Below (w.heap.size+1+1) X (w2.setCell ⟨w.heap.size+1+1,2,none⟩ (.slice (some ⟨g,0,none⟩) (j+1) cap)) ∧
     w2.cell? ⟨w.heap.size+1+1,2,none⟩=some v∧w2.frozen? ⟨w.heap.size+1+1,2,none⟩=false):=by
     intro w1 ao3 len3 cap3 hb1 ho1
     obtain⟨g,cp,w2,hrun,hap2,hbe2⟩:=ap_run hapd hltR (by have:=HL.out;have:=HRl.out;omega) hb1 (show w.heap.size+1+1+1≤wr.heap.size by omega) ho1
     have hbe3:Below (w.heap.size+1+1+1) wr w2:=(Below.refl _ _).drew.trans hbe2
     have q:=(hbe3.block (w.heap.size+1+1) (by omega)).trans hR.hout
     refine⟨g,cp,w2,hrun,⟨(hbel.trans (hbe3.mono (by omega))).setCell (p:=⟨w.heap.size+1+1,2,none⟩) (show w.heap.size≤w.heap.size+1+1 by omega) _,?_,?_,Qdw hap2 (by omega) _⟩,(hbX.trans (hbe3.mono (by omega))).setCell (p:=⟨w.heap.size+1+1,2,none⟩) (Nat.le_refl _) _,(Qaf q).2.2,Qad q 2⟩
     · rw [Qah _ _ _ (by omega)]
       exact (hbe3.block w.heap.size (by omega)).trans hR.hbox
     · rw [Qas q]
       rfl
    clear c0 c1 c2 ha
    go_wp2_with fail
    go_region_law (first|(refine Qbs hrun (by rfl) _ _ (by rfl) (by rfl) (by rfl) (by rfl) ?_)|(go_simp;go_at_call 91;refine (IH _ d2 L B L2 B2 _ _ _ _ _ (ts[j]'hlt').A _ _ _ σ a _ ?_ hs3 ?_ hs4 HA.out HVj.out hc).mono ?_;(show B≤wr.heap.size;omega);(show B2≤wr.heap.size;omega);rw [HRj.out];rintro e w1 ⟨ao3,len3,cap3,rfl,hb1,ho1⟩;have hz1:w.heap.size+1+1<w1.heap.size:=Nat.lt_of_lt_of_le (show w.heap.size+1+1<wr.heap.size by omega) hb1.size;have a2:=(Qag hb1 (show w.heap.size+1+1<wr.heap.size by omega) 2).trans y2;have a3:(w1.alloc (.cells #[.int .i64 (R[j]'hltR).K,.int .i64 (R[j]'hltR).N,.slice ao3 len3 cap3] 26)).cell? ⟨w.heap.size+1+1,2,none⟩=some v:=(World.cell?_of_block (Below.heap_alloc _ _ _ hz1)).trans a2;obtain⟨g,cp,w2,hrun,hN,hbX2,q2,q3⟩:=APR.out w1 ao3 len3 cap3 hb1 ho1))
    all_goals
     clear e0 e1 e2 y0 y1 y2 x2 a2 a3 hrun q2 q3
     go_wp2_with fail
     go_roundw
     case rel=>exact⟨j+1,_,by omega,by go_num,hbX2,hN⟩
     case measure=>simp [intOf];omega
  · obtain⟨ao2,cap2,rfl,ho2⟩:=Qdm hR.ap (by have:=HL.out;have:=HRl.out;omega) (by omega)
    have r:=(hbX.block (w.heap.size+1) (by omega)).trans HX1.out
    obtain⟨r0,r1,r2⟩:=Qaf r
    have r3:=Qad r
    clear r
    go_wp2_with fail
    obtain rfl:j=len:=by omega
    refine bodyPost_ret (v:=.agg #[.int .i64 k,.int .i64 n,.slice ao2 j cap2]) (by simp [results,Try.results91,go_sem,r0,r1,r2]) rfl ⟨ao2,j,cap2,rfl,?_,?_⟩
    · exact Qbg hbel (by omega)
    · refine (ho2.keep (fun q hq _=>?_) (by omega) (by simp)).deeper (by omega)
      rw [Qah _ _ _ (by omega),Qah _ _ _ (by omega),Qah _ _ _ (by omega)]
theorem lp_any:∀ l,SaidLp l:=by
 intro l
 induction l with
 | zero=>intro d d2 L B L2 B2 k n ao len cap ts sao slen scap σ m w hB hs hB2 hs2 hm;simp [Qai] at hm
 | succ l ih=>exact lp_succ l ih
set_option maxHeartbeats 800000 in
theorem lv_succ (l:Nat) (IH:SaidVW 89 l):SaidVW 89 (l+1):=by
 intro d L B k n ao len cap ts m w hB hs hm
 have hl:=hs.len.2
 have HL:Hid (len=ts.length):=hs.len.1
 obtain⟨hok,hparts⟩:=Qay hm
 have hv0:=var0_of hok
 clear hm
 obtain⟨X,hX⟩:∃ X,X=w.alloc (.cells #[.int .i64 k,.int .i64 n,.slice ao len cap] 26):=⟨_,rfl⟩
 have hXs:X.heap.size=w.heap.size+1:=by rw [hX];simp
 have hXb:Below w.heap.size w X:=by rw [hX];exact (Below.refl _ _).alloc (Nat.le_refl _) _
 have hX1:X.heap[w.heap.size]?=some (.cells #[.int .i64 k,.int .i64 n,.slice ao len cap] 26 (0,0)):=by rw [hX];exact Qac rfl
 have HX:Hid (X=_):=hX
 have HX1:Hid (_=_):=hX1
 clear hX hX1
 have HP:Hid (∀ j (hj:j<ts.length),∃ a,Qai l ts[j]=some a):=hparts
 clear hparts hok
 have HB:∃ (b1:Bool),(k==3)=b1∧(b1=true->0≤n∧n≤1∧var0 k n=(n+1).toNat)∧(b1=false->var0 k n=0):=by
  by_cases hk:k=3
  · exact⟨true,by simp [hk],fun _=>⟨(hv0 hk).1,(hv0 hk).2,by simp [var0,hk]⟩,by simp⟩
  · exact⟨false,by simp [hk],by simp,fun _=>by simp [var0,hk]⟩
 clear hv0
 obtain⟨b1,hk3,hv1,hv2⟩:=HB
 cases b1
 case' false=>(have HV:Hid (var0 k n=0):=hv2 rfl;clear hv1 hv2)
 case' true=>(obtain⟨hn0,hn1,hv⟩:=hv1 rfl;have HV:Hid (var0 k n=(n+1).toNat):=hv;clear hv1 hv2 hv)
 all_goals
  go_enter Try.func89,Try.ntmps89
  go_wp2_with fail
  rw [← HX.out]
  go_loopw [3,4] (fun v i wr=>∃ j:Nat,j≤len∧i=.int .i64 j∧v=.int .i64 (Qdg l k n ts j)∧Below X.heap.size X wr) (fun _ i _=>len - (intOf i).toNat)
  case atStart=>exact⟨0,by omega,rfl,by rw [varsTo_zero,HV.out];go_num,Below.refl _ _⟩
  case round =>
   obtain⟨j,hj,rfl,rfl,hbr⟩:=hrel
   have hszr:=hbr.size
   obtain⟨x0,x1,x2⟩:=Qaf ((hbr.block w.heap.size (by omega)).trans HX1.out)
   clear x0 x1
   by_cases hlt:j<len
   · have hlt':j<ts.length:=by have:=HL.out;omega
     obtain⟨b,o,rfl,_,hbB,ao1,len1,cap1,c0,c1,c2,hs1⟩:=hs.get j hlt'
     have hbw:Below w.heap.size w wr:=hXb.trans (hbr.mono (by omega))
     have e0:=(Qag hbw (by omega) _).trans c0
     have e1:=(Qag hbw (by omega) _).trans c1
     have e2:=(Qag hbw (by omega) _).trans c2
     have hs2:=hs1.below hbw hB
     obtain⟨a,ha⟩:=HP.out j hlt'
     have HA:Hid (Qai l ⟨ts[j].K,ts[j].N,ts[j].A⟩=some a):=by show _=_;rw [Qap];exact ha
     have HS:Hid (Qdg l k n ts (j+1)=max (Qdg l k n ts j) (Qce l ts[j])):=varsTo_succ l k n ts j hlt'
     clear ha
     go_wp2_with fail
     refine (IH _ _ _ _ _ _ _ _ _ _ _ (by omega) hs2 HA.out).mono ?_
     rintro e w2 ⟨rfl,hb2⟩
     rw [Qap]
     have hbr2:Below X.heap.size X w2:=hbr.trans (hb2.mono (by omega))
     go_wp2_with fail
     all_goals
      go_roundw
      case rel=>exact⟨j+1,by omega,by go_num,by rw [HS.out];first|go_num|(congr 1;omega),hbr2⟩
      case measure=>simp [intOf];omega
   · have HK2:Hid (Qdg l k n ts j=Qce (l+1) ⟨k,n,ts⟩):=varsTo_all l k n ts j (by have:=HL.out;omega)
     go_wp2_with fail
     go_ret
     exact⟨ret_int (by rw [HK2.out]),hXb.trans (hbr.mono (by omega))⟩
theorem lv_any (l:Nat):SaidVW 89 l:=by
 induction l with
 | zero=>exact vw_zero _
 | succ l ih=>exact lv_succ l ih
set_option maxHeartbeats 400000 in
theorem sTyNodes_any (d L B:Nat) (k n:Int) (ao:Option Addr) (len cap:Nat) (ts:List Tr) (w:World) (hB:B≤w.heap.size) (hs:Hs L B w d ao len ts) :
 Calls Try.prog 90 #[.agg #[.int .i64 k,.int .i64 n,.slice ao len cap]] w fun e w'=>e=.returned (.int .i64 (Qcq ⟨k,n,ts⟩))∧Below w.heap.size w w':=by
 obtain⟨X,hX⟩:∃ X,X=((w.alloc (.cells #[.int .i64 k,.int .i64 n,.slice ao len cap] 26)).alloc (.cells #[.int .i64 0] 3)):=⟨_,rfl⟩
 have hXs:X.heap.size=w.heap.size+2:=by rw [hX];simp
 have hXb:Below w.heap.size w X:=by rw [hX];exact ((Below.refl _ _).alloc (Nat.le_refl _) _).alloc (by simp) _
 have hX1:X.heap[w.heap.size+1]?=some (.cells #[.int .i64 ((0:Nat):Int)] 3 (0,0)):=by rw [hX];exact Qac (by simp)
 have hs1:=hs.below hXb hB
 have HX:Hid (X=_):=hX
 have HX1:Hid (_=_):=hX1
 clear hX hX1
 cases hf:okT ⟨k,n,ts⟩ with
 | false =>
   have HN:Hid (Qcq ⟨k,n,ts⟩=0):=by show _=_;simpa [okT] using hf
   have HF:Hid (okT ⟨k,n,ts⟩=false):=hf
   clear hf
   go_enter Try.func90,Try.ntmps90
   go_wp2_with fail
   rw [← HX.out]
   refine (lk_any 6 (by omega) _ _ _ _ _ _ _ _ _ _ _ _ (by omega) (by omega) HX1.out (by omega) hs1).mono ?_
   rintro e w1 ⟨rfl,hg,_⟩
   rw [look_ok,HF.out]
   have hb2:Below w.heap.size w w1:=hXb.grown hg (by omega) (by simp)
   go_wp2_with fail
   go_ret
   rw [HN.out]
   exact⟨rfl,hb2⟩
 | true =>
   have HN:Hid (∃ m,Qai 6 ⟨k,n,ts⟩=some m∧m≤60∧Qcq ⟨k,n,ts⟩=m):=by
    show ∃ _,_
    unfold okT Qcq at hf
    unfold Qcq
    cases h:Qai 6 ⟨k,n,ts⟩ with
    | none=>simp [h] at hf
    | some m =>
      by_cases h6:m≤60
      · exact⟨m,rfl,h6,by simp [h6]⟩
      · simp [h,h6] at hf
   have HF:Hid (okT ⟨k,n,ts⟩=true):=hf
   clear hf
   go_enter Try.func90,Try.ntmps90
   go_wp2_with fail
   rw [← HX.out]
   refine (lk_any 6 (by omega) _ _ _ _ _ _ _ _ _ _ _ _ (by omega) (by omega) HX1.out (by omega) hs1).mono ?_
   rintro e w1 ⟨rfl,hg,c',hc1,hc2⟩
   rw [look_ok,HF.out]
   obtain⟨m,hm,h60,hT⟩:=HN.out
   have hc3:=hc2 m hm (by omega)
   have hb2:Below w.heap.size w w1:=hXb.grown hg (by omega) (by simp)
   have x0:=Qaa hc1 0
   simp at x0
   have HT:Hid (Qcq ⟨k,n,ts⟩=m):=hT
   have HC:Hid (c'=((0:Nat):Int)+m):=hc3
   clear hT hc3 hc1 hc2 hm HN
   go_wp2_with fail
   go_ret
   rw [HT.out]
   exact⟨ret_int (by rw [HC.out];omega),hb2⟩
end Go.Proofs.Ytleghjgpnefliaa
