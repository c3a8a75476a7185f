/-
  Types as values whose parts lie in blocks that a predicate takes: rows of names, rows of types that share their memory with others. No walk.
-/
import Derived.Test.YtleghjgpnefliaaFnoDu
namespace Go.Proofs.Ytleghjgpnefliaa
open Go.RowKit
set_option linter.unusedVariables false
set_option linter.unusedSimpArgs false
def HsQ (P:Nat->Prop) (w:World):Nat->Option Addr->Nat->List Tr->Prop
 | 0,_,len,ts=>len=0∧ts=[]
 | d+1,ao,len,ts=>len=ts.length∧len≤9223372036854775807∧∀ i (_:i<ts.length),∃ b o,ao=some ⟨b,o,none⟩∧P b∧b<w.heap.size∧El w (HsQ P w d) b (o+i*3) ts[i]
theorem HsQ.nil (P:Nat->Prop) (w:World) (d:Nat) (ao:Option Addr):HsQ P w d ao 0 []:=by
 cases d with
 | zero=>exact⟨rfl,rfl⟩
 | succ d=>exact⟨rfl,by omega,fun i hi=>by simp at hi⟩
theorem HsQ.len {P:Nat->Prop} {w:World} {d:Nat} {ao:Option Addr} {len:Nat} {ts:List Tr} (h:HsQ P w d ao len ts):len=ts.length∧len≤9223372036854775807:=by
 cases d with
 | zero=>obtain⟨rfl,rfl⟩:=h;exact⟨rfl,by omega⟩
 | succ d=>exact⟨h.1,h.2.1⟩
theorem HsQ.get {P:Nat->Prop} {w:World} {d:Nat} {ao:Option Addr} {len:Nat} {ts:List Tr} (h:HsQ P w d ao len ts) (i:Nat) (hi:i<ts.length):∃ b o,ao=some ⟨b,o,none⟩∧P b∧b<w.heap.size∧El w (HsQ P w (d - 1)) b (o+i*3) ts[i]:=by
 cases d with
 | zero=>obtain⟨_,rfl⟩:=h;simp at hi
 | succ d=>exact h.2.2 i hi
theorem HsQ.keep {P P':Nat->Prop} {w w':World} (hb:∀ k,P k->k<w.heap.size->w'.heap[k]?=w.heap[k]?) (hP:∀ k,P k->k<w.heap.size->P' k) (hz:w.heap.size≤w'.heap.size):∀ {d:Nat} {ao:Option Addr} {len:Nat} {ts:List Tr},HsQ P w d ao len ts->HsQ P' w' d ao len ts:=by
 intro d
 induction d with
 | zero=>intro ao len ts h;exact h
 | succ d ih =>
   intro ao len ts h
   refine⟨h.1,h.2.1,fun i hi=>?_⟩
   obtain⟨b,o,e,h1,h2,h3⟩:=h.2.2 i hi
   exact⟨b,o,e,hP b h1 h2,by omega,(h3.world (hb b h1 h2)).wider fun _ _ _ hr=>ih hr⟩
theorem HsQ.below {P:Nat->Prop} {w w':World} (hb:Below w.heap.size w w') {d:Nat} {ao:Option Addr} {len:Nat} {ts:List Tr} (h:HsQ P w d ao len ts):HsQ P w' d ao len ts:=h.keep (fun k _ hk=>hb.block k hk) (fun _ h _=>h) hb.size
theorem HsQ.mono {P P':Nat->Prop} {w:World} (hP:∀ k,P k->k<w.heap.size->P' k) {d:Nat} {ao:Option Addr} {len:Nat} {ts:List Tr} (h:HsQ P w d ao len ts):HsQ P' w d ao len ts:=h.keep (fun _ _ _=>rfl) hP (Nat.le_refl _)
theorem HsQ.hs {P:Nat->Prop} {w:World} {L:Nat} (hP:∀ k,P k->L≤k):∀ {d:Nat} {ao:Option Addr} {len:Nat} {ts:List Tr},HsQ P w d ao len ts->Hs L w.heap.size w d ao len ts:=by
 intro d
 induction d with
 | zero=>intro ao len ts h;exact h
 | succ d ih =>
   intro ao len ts h
   refine⟨h.1,h.2.1,fun i hi=>?_⟩
   obtain⟨b,o,e,h1,h2,h3⟩:=h.2.2 i hi
   exact⟨b,o,e,hP b h1,h2,h3.wider fun _ _ _ hr=>ih hr⟩
theorem HsQ.of {P:Nat->Prop} {w:World} {L B:Nat} (hP:∀ k,L≤k->k<B->P k) (hB:B≤w.heap.size):∀ {d:Nat} {ao:Option Addr} {len:Nat} {ts:List Tr},Hs L B w d ao len ts->HsQ P w d ao len ts:=by
 intro d
 induction d with
 | zero=>intro ao len ts h;exact h
 | succ d ih =>
   intro ao len ts h
   refine⟨h.1,h.2.1,fun i hi=>?_⟩
   obtain⟨b,o,e,h1,h2,h3⟩:=h.2.2 i hi
   exact⟨b,o,e,hP b h1 h2,by omega,h3.wider fun _ _ _ hr=>ih hr⟩
theorem HsQ.deeper1 {P:Nat->Prop} {w:World}:∀ {d:Nat} {ao:Option Addr} {len:Nat} {ts:List Tr},HsQ P w d ao len ts->HsQ P w (d+1) ao len ts:=by
 intro d
 induction d with
 | zero=>rintro ao len ts ⟨rfl,rfl⟩;exact HsQ.nil _ _ _ _
 | succ d ih =>
   intro ao len ts h
   refine⟨h.1,h.2.1,fun i hi=>?_⟩
   obtain⟨b,o,e,h1,h2,h3⟩:=h.2.2 i hi
   exact⟨b,o,e,h1,h2,h3.wider fun _ _ _ hr=>ih hr⟩
theorem HsQ.deeper {P:Nat->Prop} {w:World} {d d':Nat} (hd:d≤d') {ao:Option Addr} {len:Nat} {ts:List Tr} (h:HsQ P w d ao len ts):HsQ P w d' ao len ts:=by
 induction hd with
 | refl=>exact h
 | step _ ih=>exact ih.deeper1
theorem HsQ.low {P:Nat->Prop} {w:World}:∀ (l:Nat) (t:Tr) (m:Nat),Qai (l+1) t=some m->∀ {d:Nat} {ao:Option Addr} {len:Nat},HsQ P w d ao len t.A->HsQ P w l ao len t.A:=by
 intro l
 induction l with
 | zero =>
   intro t m h d ao len hs
   have hp:=(Qay (l:=0) (k:=t.K) (n:=t.N) (ts:=t.A) (m:=m) (by rw [Qap];exact h)).2
   have hA:t.A=[]:=by
    cases e:t.A with
    | nil=>rfl
    | cons x xs =>
      obtain⟨a,ha⟩:=hp 0 (by rw [e];simp)
      simp [Qai] at ha
   rw [hA] at hs ⊢
   exact⟨hs.len.1,rfl⟩
 | succ l ih =>
   intro t m h d ao len hs
   have hp:=(Qay (l:=l+1) (k:=t.K) (n:=t.N) (ts:=t.A) (m:=m) (by rw [Qap];exact h)).2
   refine⟨hs.len.1,hs.len.2,fun i hi=>?_⟩
   obtain⟨b,o,e,h1,h2,h3⟩:=hs.get i hi
   obtain⟨a,ha⟩:=hp i hi
   obtain⟨x,y,z,k1,k2,k3,k4⟩:=h3
   exact⟨b,o,e,h1,h2,x,y,z,k1,k2,k3,ih _ a ha k4⟩
def TyQ (P:Nat->Prop) (w:World) (D:Nat) (v:Value) (t:Tr):Prop:=∃ ao len cap,v=.agg #[.int .i64 t.K,.int .i64 t.N,.slice ao len cap]∧HsQ P w D ao len t.A
theorem TyQ.below {P:Nat->Prop} {w w':World} {D:Nat} {v:Value} {t:Tr} (h:TyQ P w D v t) (g:Below w.heap.size w w'):TyQ P w' D v t:=by
 obtain⟨ao,len,cap,e,hs⟩:=h
 exact⟨ao,len,cap,e,hs.below g⟩
def EvQ (P:Nat->Prop) (w:World) (D:Nat) (e:Ev) (cs:List Value):Prop:=∃ ao len cap,cs=[.string e.s,.int .i64 e.n,.int .i64 e.t.K,.int .i64 e.t.N,.slice ao len cap]∧HsQ P w D ao len e.t.A
def EqC (P:Nat->Prop) (w:World) (D:Nat):List Ev->List Value->Prop
 | [],xs=>xs=[]
 | e::es,xs=>∃ cs ys,xs=cs++ys∧EvQ P w D e cs∧EqC P w D es ys
theorem EvQ.keep {P P':Nat->Prop} {w w':World} (hb:∀ k,P k->k<w.heap.size->w'.heap[k]?=w.heap[k]?) (hP:∀ k,P k->k<w.heap.size->P' k) (hz:w.heap.size≤w'.heap.size) {D:Nat} {e:Ev} {cs:List Value} (h:EvQ P w D e cs):EvQ P' w' D e cs:=by
 obtain⟨ao,len,cap,e,hs⟩:=h
 exact⟨ao,len,cap,e,hs.keep hb hP hz⟩
theorem EqC.keep {P P':Nat->Prop} {w w':World} (hb:∀ k,P k->k<w.heap.size->w'.heap[k]?=w.heap[k]?) (hP:∀ k,P k->k<w.heap.size->P' k) (hz:w.heap.size≤w'.heap.size) {D:Nat}:∀ {es:List Ev} {xs:List Value},EqC P w D es xs->EqC P' w' D es xs
 | [],xs,h=>h
 | e::es,xs,⟨cs,ys,h1,h2,h3⟩=>⟨cs,ys,h1,h2.keep hb hP hz,EqC.keep hb hP hz h3⟩
theorem EvQ.below {P:Nat->Prop} {w w':World} {D:Nat} {e:Ev} {cs:List Value} (h:EvQ P w D e cs) (g:Below w.heap.size w w'):EvQ P w' D e cs:=h.keep (fun k _ hk=>g.block k hk) (fun _ h _=>h) g.size
theorem EqC.below {P:Nat->Prop} {w w':World} {D:Nat} {es:List Ev} {xs:List Value} (h:EqC P w D es xs) (g:Below w.heap.size w w'):EqC P w' D es xs:=EqC.keep (fun k _ hk=>g.block k hk) (fun _ h _=>h) g.size h
theorem EqC.snoc {P:Nat->Prop} {w:World} {D:Nat} {e:Ev} {cs:List Value} (he:EvQ P w D e cs):∀ {es:List Ev} {xs:List Value},EqC P w D es xs->EqC P w D (es++[e]) (xs++cs)
 | [],xs,h=>⟨cs,[],by rw [h];simp,he,rfl⟩
 | f::es,xs,⟨c,ys,h1,h2,h3⟩=>⟨c,ys++cs,by rw [h1,List.append_assoc],h2,EqC.snoc he h3⟩
theorem EqC.len {P:Nat->Prop} {w:World} {D:Nat}:∀ {es:List Ev} {xs:List Value},EqC P w D es xs->xs.length=es.length*5
 | [],xs,h=>by rw [h];rfl
 | e::es,xs,⟨cs,ys,h1,⟨_,_,_,h2,_⟩,h3⟩=>by rw [h1,h2];simp [EqC.len h3];omega
theorem EqC.one {P:Nat->Prop} {w:World} {D:Nat}:∀ {es:List Ev} {xs:List Value},EqC P w D es xs->∀ u∈xs,u.oneCell'=true
 | [],xs,h=>by rw [h];simp
 | e::es,xs,⟨cs,ys,h1,⟨_,_,_,h2,_⟩,h3⟩=>by
   intro u hu
   rw [h1,h2] at hu
   rcases List.mem_append.1 hu with hu|hu
   · simp at hu
     rcases hu with rfl|rfl|rfl|rfl|rfl <;> rfl
   · exact EqC.one h3 u hu
theorem EqC.get {P:Nat->Prop} {w:World} {D:Nat}:∀ {es:List Ev} {xs:List Value},EqC P w D es xs->∀ i (hi:i<es.length),∃ ao len cap,xs[i*5]?=some (.string es[i].s)∧xs[i*5+1]?=some (.int .i64 es[i].n)∧xs[i*5+2]?=some (.int .i64 es[i].t.K)∧xs[i*5+3]?=some (.int .i64 es[i].t.N)∧xs[i*5+4]?=some (.slice ao len cap)∧HsQ P w D ao len es[i].t.A
 | [],xs,h,i,hi=>by simp at hi
 | e::es,xs,⟨cs,ys,h1,⟨ao,len,cap,h2,hs⟩,h3⟩,i,hi=>by
   cases i with
   | zero=>exact⟨ao,len,cap,by rw [h1,h2];rfl,by rw [h1,h2];rfl,by rw [h1,h2];rfl,by rw [h1,h2];rfl,by rw [h1,h2];rfl,hs⟩
   | succ i =>
     obtain⟨ao',len',cap',g0,g1,g2,g3,g4,g5⟩:=EqC.get h3 i (by simpa using hi)
     have hl:cs.length=5:=by rw [h2];rfl
     refine⟨ao',len',cap',?_,?_,?_,?_,?_,by simpa using g5⟩
     all_goals
      rw [h1,List.getElem?_append_right (by omega),hl]
      first|(rw [show (i+1)*5 - 5=i*5 by omega];exact g0)|(rw [show (i+1)*5+1 - 5=i*5+1 by omega];exact g1)|(rw [show (i+1)*5+2 - 5=i*5+2 by omega];exact g2)|(rw [show (i+1)*5+3 - 5=i*5+3 by omega];exact g3)|(rw [show (i+1)*5+4 - 5=i*5+4 by omega];exact g4)
theorem EqC.enc {P:Nat->Prop} {w:World} {p D:Nat} (hP:∀ k,P k->p+1≤k):∀ {es:List Ev} {xs:List Value},EqC P w D es xs->EnC w p D es xs
 | [],xs,h=>h
 | e::es,xs,⟨cs,ys,h1,⟨ao,len,cap,h2,hs⟩,h3⟩=>⟨cs,ys,h1,⟨ao,len,cap,h2,hs.hs hP⟩,EqC.enc hP h3⟩
def EnQ (P:Nat->Prop) (w:World) (D:Nat) (v:Value) (es:List Ev):Prop:=∃ ao len cap xs,v=.slice ao len cap∧len=es.length∧EqC P w D es xs∧∀ j u,xs[j]?=some u->∃ b o,ao=some ⟨b,o,none⟩∧P b∧b<w.heap.size∧w.cell? ⟨b,o+j,none⟩=some u
theorem EnQ.keep {P P':Nat->Prop} {w w':World} (hk:∀ k,P k->k<w.heap.size->w'.heap[k]?=w.heap[k]?) (hP:∀ k,P k->k<w.heap.size->P' k) (hz:w.heap.size≤w'.heap.size) {D:Nat} {v:Value} {es:List Ev} (h:EnQ P w D v es):EnQ P' w' D v es:=by
 obtain⟨ao,len,cap,xs,h1,h2,h3,h4⟩:=h
 refine⟨ao,len,cap,xs,h1,h2,EqC.keep hk hP hz h3,fun j u hu=>?_⟩
 obtain⟨b,o,e,hb,hb2,hc⟩:=h4 j u hu
 exact⟨b,o,e,hP b hb hb2,by omega,(World.cell?_of_block (hk b hb hb2)).trans hc⟩
theorem EnQ.below {P:Nat->Prop} {w w':World} {D:Nat} {v:Value} {es:List Ev} (h:EnQ P w D v es) (g:Below w.heap.size w w'):EnQ P w' D v es:=h.keep (fun k _ hk=>g.block k hk) (fun _ h _=>h) g.size
theorem EnQ.mono {P P':Nat->Prop} {w:World} {D:Nat} {v:Value} {es:List Ev} (hP:∀ k,P k->k<w.heap.size->P' k) (h:EnQ P w D v es):EnQ P' w D v es:=h.keep (fun _ _ _=>rfl) hP (Nat.le_refl _)
theorem EnQ.env {P:Nat->Prop} {w:World} {p D:Nat} {v:Value} {es:List Ev} (hP:∀ k,P k->p+1≤k) (h:EnQ P w D v es):EnV w p D v es:=by
 obtain⟨ao,len,cap,xs,h1,h2,h3,h4⟩:=h
 refine⟨ao,len,cap,xs,h1,h2,EqC.enc hP h3,fun j u hu=>?_⟩
 obtain⟨b,o,e,hb,hb2,hc⟩:=h4 j u hu
 exact⟨b,o,e,hP b hb,hb2,hc⟩
theorem EnQ.get {P:Nat->Prop} {w:World} {D:Nat} {v:Value} {es:List Ev} (h:EnQ P w D v es) (i:Nat) (hi:i<es.length):∃ b o cap ao len c,v=.slice (some ⟨b,o,none⟩) es.length cap∧P b∧b<w.heap.size∧w.cell? ⟨b,o+i*5,none⟩=some (.string es[i].s)∧w.cell? ⟨b,o+i*5+1,none⟩=some (.int .i64 es[i].n)∧w.cell? ⟨b,o+i*5+2,none⟩=some (.int .i64 es[i].t.K)∧w.cell? ⟨b,o+i*5+3,none⟩=some (.int .i64 es[i].t.N)∧w.cell? ⟨b,o+i*5+4,none⟩=some (.slice ao len c)∧HsQ P w D ao len es[i].t.A:=by
 obtain⟨ao,len,cap,xs,h1,h2,h3,h4⟩:=h
 obtain⟨ao',len',c,g0,g1,g2,g3,g4,g5⟩:=h3.get i hi
 obtain⟨b,o,e,hb,hb2,c0⟩:=h4 _ _ g0
 subst e
 have nxt:∀ j u,xs[j]?=some u->w.cell? ⟨b,o+j,none⟩=some u:=fun j u hu=>by
  obtain⟨b',o',e',_,_,hc⟩:=h4 j u hu
  injection e' with e'
  injection e' with e1 e2
  subst e1 e2
  exact hc
 refine⟨b,o,cap,ao',len',c,by rw [h1,h2],hb,hb2,c0,?_,?_,?_,?_,g5⟩
 · have:=nxt _ _ g1;rw [← Nat.add_assoc] at this;exact this
 · have:=nxt _ _ g2;rw [← Nat.add_assoc] at this;exact this
 · have:=nxt _ _ g3;rw [← Nat.add_assoc] at this;exact this
 · have:=nxt _ _ g4;rw [← Nat.add_assoc] at this;exact this
theorem EnQ.form {P:Nat->Prop} {w:World} {D:Nat} {v:Value} {es:List Ev} (h:EnQ P w D v es):∃ ao cap,v=.slice ao es.length cap:=by
 obtain⟨ao,len,cap,xs,h1,h2,_⟩:=h
 exact⟨ao,cap,by rw [h1,h2]⟩
theorem EnQ.none (P:Nat->Prop) (w:World) (D:Nat) (ao:Option Addr) (cap:Nat):EnQ P w D (.slice ao 0 cap) []:=⟨ao,0,cap,[],rfl,rfl,rfl,fun j u hu=>by simp at hu⟩
set_option maxRecDepth 100000 in
theorem env_pushQ {X w:World} {P:Nat->Prop} {D base sb:Nat} {v:Value} {es:List Ev} {e:Ev} {xs:List Value} {c0 c1 c2 c3 c4:Value} (h3:EqC P X D es xs) (he:EvQ P X D e [c0,c1,c2,c3,c4]) (hX:Below X.heap.size X w) (hb:X.heap.size≤base) (hPn:∀ k,X.heap.size≤k->P k) (hbw:base≤w.heap.size) (hown:w.ownsRow base 93 5 v es.length xs)
 (hsb:w.heap[sb]?=some (.cells #[c0,c1,c2,c3,c4] 93 (0,0))) (hl:es.length≤1000) :
 ∃ g cap w2,(Builtin.append_ #[59,59] 59 #[v,.slice (some ⟨sb,0,none⟩) 1 1]).run Try.prog w=.ok (.slice (some ⟨g,0,none⟩) (es.length+1) cap) w2∧EnQ P w2 D (.slice (some ⟨g,0,none⟩) (es.length+1) cap) (es++[e])∧Below X.heap.size X w2:=by
 obtain⟨i0,hi,hz0,hz1,hz2⟩:=info_parts Try.infoEv
 have hone:∀ u∈[c0,c1,c2,c3,c4],u.oneCell'=true:=by
  obtain⟨_,_,_,h,_⟩:=he
  rw [h]
  intro u hu
  simp at hu
  rcases hu with rfl|rfl|rfl|rfl|rfl <;> rfl
 obtain⟨g,cap,w2,hrun,hown2,hgrow,hat,hlt⟩:=run_append_lies (P:=Try.prog) w 59 59 base 93 i0 _ 5 64 Try.underlying59 hi hz0 hz1 hz2 rfl (by omega) v es.length _ hown
  ⟨sb,0,none⟩ 1 1 [c0,c1,c2,c3,c4] rfl (World.news_of_block (cs:=#[c0,c1,c2,c3,c4]) (t:=93) (fr:=(0,0)) hsb) hone (by omega) (by unfold maxLen;omega) (by omega) hbw _ rfl
 have hvb:∀ g,v.ownBlock=some g->base≤g:=by
  intro g hg
  rcases hown.2 with ⟨rfl,_⟩|⟨g',cap,cur,rfl,hb',_⟩
  · cases hg
  · have e:g'=g:=by simpa [Value.ownBlock] using hg
    subst e;exact hb'
 have hz:=hX.size
 have hB2:Below X.heap.size X w2:=⟨hgrow.os.trans hX.os,hgrow.tape.trans hX.tape,hgrow.output.trans hX.output,Nat.le_trans hz hgrow.size,fun q hq=>(hgrow.block q (by omega) (fun e=>by have:=hvb q e.symm;omega)).trans (hX.block q hq)⟩
 refine⟨g,cap,w2,hrun,?_,hB2⟩
 rcases hown2.2 with ⟨h,_⟩|⟨g',cap',cur,hv,hg',hh,q1,q2,q3,q4⟩
 · cases h
 · injection hv with hv1 hv2 hv3
   injection hv1 with hv1
   injection hv1 with hv1
   subst hv1 hv3
   refine⟨_,_,_,xs++[c0,c1,c2,c3,c4],rfl,by simp,(h3.below hB2).snoc (he.below hB2),fun j u hu=>⟨g,0,rfl,hPn g (by omega),(Array.getElem?_eq_some_iff.1 hh).1,?_⟩⟩
   rw [Nat.zero_add,Qaa hh,← Array.getElem?_toList]
   rw [← q4,List.getElem?_take] at hu
   split at hu
   · exact hu
   · cases hu
theorem hsq_lit1 {w:World} {P:Nat->Prop} {D b:Nat} {t:Tr} {ao:Option Addr} {len cap:Nat} {τ:TypeId} (h:w.heap[b]?=some (.cells #[.int .i64 t.K,.int .i64 t.N,.slice ao len cap] τ (0,0))) (hb:P b) (hs:HsQ P w D ao len t.A) :
 HsQ P w (D+1) (some ⟨b,0,none⟩) 1 [t]:=by
 refine⟨rfl,by omega,fun i hi=>?_⟩
 obtain rfl:i=0:=by simpa using hi
 exact⟨b,0,rfl,hb,(Array.getElem?_eq_some_iff.1 h).1,ao,len,cap,Qaa h 0,Qaa h 1,Qaa h 2,hs⟩
theorem hsq_lit2 {w:World} {P:Nat->Prop} {D b:Nat} {t t':Tr} {ao:Option Addr} {len cap:Nat} {ao':Option Addr} {len' cap':Nat} {τ:TypeId} (h:w.heap[b]?=some (.cells #[.int .i64 t.K,.int .i64 t.N,.slice ao len cap,.int .i64 t'.K,.int .i64 t'.N,.slice ao' len' cap'] τ (0,0))) (hb:P b) (hs:HsQ P w D ao len t.A) (hs':HsQ P w D ao' len' t'.A) :
 HsQ P w (D+1) (some ⟨b,0,none⟩) 2 [t,t']:=by
 refine⟨rfl,by omega,fun i hi=>?_⟩
 have:i=0∨i=1:=by simp at hi;omega
 rcases this with rfl|rfl
 · exact⟨b,0,rfl,hb,(Array.getElem?_eq_some_iff.1 h).1,ao,len,cap,Qaa h 0,Qaa h 1,Qaa h 2,hs⟩
 · exact⟨b,0,rfl,hb,(Array.getElem?_eq_some_iff.1 h).1,ao',len',cap',Qaa h 3,Qaa h 4,Qaa h 5,hs'⟩
def CkQ (P:Nat->Prop) (e:Ending) (w':World):Prop:=∃ (ao:Option Addr) (len cap:Nat) (u:Tr) (code:Int),e=.returned (.tuple #[.agg #[.int .i64 u.K,.int .i64 u.N,.slice ao len cap],.int .i64 code])∧HsQ P w' 14 ao len u.A∧(code=0->∃ m,Qai 6 u=some m)
theorem CkQ.bad (P:Nat->Prop) (w':World) (c:Int) (hc:c≠0):CkQ P (.returned (.tuple #[.agg #[.int .i64 0,.int .i64 0,.slice none 0 0],.int .i64 c])) w':=⟨none,0,0,⟨0,0,[]⟩,c,rfl,HsQ.nil _ _ _ _,fun h=>absurd h hc⟩
def YRow (P:Nat->Prop) (base:Nat) (w:World) (D:Nat) (v:Value) (us:List Tr):Prop :=
 ∃ xs,w.ownsRow base 26 3 v us.length xs∧∀ i (_:i<us.length),∃ ao len cap,xs[i*3]?=some (.int .i64 us[i].K)∧xs[i*3+1]?=some (.int .i64 us[i].N)∧xs[i*3+2]?=some (.slice ao len cap)∧HsQ (fun k=>P k∧v.ownBlock≠some k) w D ao len us[i].A
theorem yrow_emp {P:Nat->Prop} {base:Nat} {w:World} {D b:Nat} (h:w.heap[b]?=some (.cells #[] 26 (0,0))) (hb:base≤b):YRow P base w D (.slice (some ⟨b,0,none⟩) 0 0) [] :=
 ⟨[],⟨by simp,Or.inr ⟨b,0,#[],by simp,hb,h,by simp,by simp,by simp,by simp⟩⟩,fun i hi=>by simp at hi⟩
theorem Qdv {P:Nat->Prop} {base:Nat} {w:World} {D:Nat} {v:Value} {us:List Tr} (h:YRow P base w D v us) {g:Nat} (hg:v.ownBlock=some g):base≤g∧g<w.heap.size:=by
 obtain⟨xs,h,_⟩:=h
 rcases h.2 with ⟨rfl,_⟩|⟨g',cap,cur,rfl,hb,hh,_⟩
 · cases hg
 · have e:g'=g:=by simpa [Value.ownBlock] using hg
   subst e
   exact⟨hb,(Array.getElem?_eq_some_iff.1 hh).1⟩
theorem yrow_form {P:Nat->Prop} {base:Nat} {w:World} {D:Nat} {v:Value} {us:List Tr} (h:YRow P base w D v us):∃ ao cap,v=.slice ao us.length cap:=by
 obtain⟨xs,h,_⟩:=h
 rcases h.2 with ⟨rfl,hn⟩|⟨g,cap,cur,rfl,_⟩
 · exact⟨none,0,by rw [hn]⟩
 · exact⟨_,cap,rfl⟩
theorem yrow_below {P:Nat->Prop} {base:Nat} {w w':World} {D:Nat} {v:Value} {us:List Tr} (h:YRow P base w D v us) (hb:Below w.heap.size w w'):YRow P base w' D v us:=by
 have ho:=fun g hg=>Qdv h (g:=g) hg
 obtain⟨xs,h1,h2⟩:=h
 refine⟨xs,Qck h1 (fun g hg=>hb.block g (ho g hg).2),fun i hi=>?_⟩
 obtain⟨ao,len,cap,e0,e1,e2,hs⟩:=h2 i hi
 exact⟨ao,len,cap,e0,e1,e2,hs.below hb⟩
theorem yrow_at {P:Nat->Prop} {base:Nat} {w:World} {D:Nat} {v:Value} {us:List Tr} (h:YRow P base w D v us) (i:Nat) (hi:i<us.length):∃ g cap,v=.slice (some ⟨g,0,none⟩) us.length cap∧base≤g∧g<w.heap.size ∧
 ∃ ao len c,w.cell? ⟨g,i*3,none⟩=some (.int .i64 us[i].K)∧w.cell? ⟨g,i*3+1,none⟩=some (.int .i64 us[i].N)∧w.cell? ⟨g,i*3+2,none⟩=some (.slice ao len c)∧HsQ (fun k=>P k∧v.ownBlock≠some k) w D ao len us[i].A:=by
 obtain⟨xs,h1,h2⟩:=h
 obtain⟨ao,len,c,e0,e1,e2,hs⟩:=h2 i hi
 rcases h1.2 with ⟨rfl,hn⟩|⟨g,cap,cur,rfl,hg,hh,q1,q2,q3,q4⟩
 · omega
 · have look:∀ j,j<3->w.cell? ⟨g,i*3+j,none⟩=xs[i*3+j]?:=fun j hj=>by
    rw [Qaa hh,← q4,List.getElem?_take,if_pos (by omega)]
    simp
   exact⟨g,cap,rfl,hg,(Array.getElem?_eq_some_iff.1 hh).1,ao,len,c,(look 0 (by omega)).trans e0,(look 1 (by omega)).trans e1,(look 2 (by omega)).trans e2,hs⟩
theorem Try.infoTyQ:(Try.prog.info? 26).map (fun i=>(i.zero,i.size,i.bytes))=some (some (.agg #[.int .i64 0,.int .i64 0,.slice none 0 0]),3,40):=by kernel_rfl
theorem yrow_push {P:Nat->Prop} {base:Nat} {w:World} {D:Nat} {v:Value} {us:List Tr} (h:YRow P base w D v us) (hb:base≤w.heap.size) (hl:us.length≤1000) {t:Tr} {ao:Option Addr} {len cap:Nat} (hs:HsQ (fun k=>P k∧v.ownBlock≠some k) w D ao len t.A) :
 ∃ g c w2,(Builtin.append_ #[24,24] 24 #[v,.slice (some ⟨w.heap.size,0,none⟩) 1 1]).run Try.prog (w.alloc (.cells #[.int .i64 t.K,.int .i64 t.N,.slice ao len cap] 26))=.ok (.slice (some ⟨g,0,none⟩) (us.length+1) c) w2 ∧
   YRow P base w2 D (.slice (some ⟨g,0,none⟩) (us.length+1) c) (us++[t])∧Below base w w2:=by
 obtain⟨i0,hi,hz0,hz1,hz2⟩:=info_parts Try.infoTyQ
 have hA:Below w.heap.size w (w.alloc (.cells #[.int .i64 t.K,.int .i64 t.N,.slice ao len cap] 26)):=(Below.refl _ _).alloc (Nat.le_refl _) _
 have ho:=fun g hg=>Qdv h (g:=g) hg
 obtain⟨xs,h1,h2⟩:=h
 have hlx:xs.length=us.length*3:=h1.1
 have h1A:=Qck (w':=w.alloc (.cells #[.int .i64 t.K,.int .i64 t.N,.slice ao len cap] 26)) h1 (fun g hg=>hA.block g (ho g hg).2)
 obtain⟨g,c,w2,hrun,hown2,hgrow,hat,hlt⟩:=run_append_lies (P:=Try.prog) (w.alloc (.cells #[.int .i64 t.K,.int .i64 t.N,.slice ao len cap] 26)) 24 24 base 26 i0 _ 3 40 Try.underlying24 hi hz0 hz1 hz2 rfl (by omega) v us.length _ h1A
  ⟨w.heap.size,0,none⟩ 1 1 [.int .i64 t.K,.int .i64 t.N,.slice ao len cap] rfl (World.news_of_block (cs:=#[.int .i64 t.K,.int .i64 t.N,.slice ao len cap]) (t:=26) (fr:=(0,0)) (heap_alloc_new w _)) (by simp [Value.oneCell'])
  (by omega) (by unfold maxLen;omega) (by omega) (by simp;omega) _ rfl
 have hz:=hgrow.size
 have hblk:∀ k,k<w.heap.size->v.ownBlock≠some k->w2.heap[k]?=w.heap[k]?:=fun k hk hne=>(hgrow.block k (by simp;omega) (fun e=>hne e.symm)).trans (hA.block k hk)
 have hne:∀ k,k<w.heap.size->v.ownBlock≠some k->(Value.slice (some ⟨g,0,none⟩) (us.length+1) c).ownBlock≠some k:=fun k hk h e=>by
  have e:g=k:=by simpa [Value.ownBlock] using e
  subst e
  rcases hat with e|e
  · exact h e
  · simp at e;omega
 have hkeep:∀ {ao:Option Addr} {len:Nat} {ts:List Tr},HsQ (fun k=>P k∧v.ownBlock≠some k) w D ao len ts->HsQ (fun k=>P k∧(Value.slice (some ⟨g,0,none⟩) (us.length+1) c).ownBlock≠some k) w2 D ao len ts:=fun h=>h.keep (fun k hk hl=>hblk k hl hk.2) (fun k hk hl=>⟨hk.1,hne k hl hk.2⟩) (by simp at hz;omega)
 refine⟨g,c,w2,hrun,⟨_,by rw [List.length_append];exact hown2,fun i hi=>?_⟩,⟨hgrow.os,hgrow.tape,hgrow.output,by simp at hz;omega,fun k hk=>hblk k (by omega) (fun e=>by have:=(ho k e).1;omega)⟩⟩
 by_cases hit:i<us.length
 · obtain⟨a1,l1,c1,e0,e1,e2,hs1⟩:=h2 i hit
   have e:(us++[t])[i]=us[i]:=List.getElem_append_left hit
   rw [e]
   exact⟨a1,l1,c1,by rw [List.getElem?_append_left (by omega)];exact e0,by rw [List.getElem?_append_left (by omega)];exact e1,by rw [List.getElem?_append_left (by omega)];exact e2,hkeep hs1⟩
 · have e1:i=us.length:=by rw [List.length_append] at hi;simp at hi;omega
   subst e1
   have e:(us++[t])[us.length]=t:=by simp
   rw [e]
   refine⟨ao,len,cap,?_,?_,?_,hkeep hs⟩
   · rw [List.getElem?_append_right (by omega),hlx,Nat.sub_self];rfl
   · rw [List.getElem?_append_right (by omega),hlx,Nat.add_sub_cancel_left];rfl
   · rw [List.getElem?_append_right (by omega),hlx,Nat.add_sub_cancel_left];rfl
end Go.Proofs.Ytleghjgpnefliaa
