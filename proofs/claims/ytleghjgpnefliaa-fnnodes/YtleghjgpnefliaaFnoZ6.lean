/-
  Draws of terms: types, terms and rows of names as values that lie behind the cursor's block. No walk, no statement.
-/
import Derived.Test.YtleghjgpnefliaaFnoZ5
import Derived.Test.YtleghjgpnefliaaFnoZ2
import Derived.Deep.AppendLies
import Derived.Deep.Upon
import Derived.Test.YtleghjgpnefliaaFnoZ1
import Derived.Test.YtleghjgpnefliaaFnoZ4
namespace Go.Proofs.Ytleghjgpnefliaa
open Go.RowKit
set_option linter.unusedVariables false
set_option linter.unusedSimpArgs false
def TyV (w:World) (p D:Nat) (v:Value) (t:Tr):Prop:=∃ ao len cap,v=.agg #[.int .i64 t.K,.int .i64 t.N,.slice ao len cap]∧Hs (p+1) w.heap.size w D ao len t.A
theorem TyV.grown {w w':World} {p D:Nat} {v:Value} {t:Tr} (h:TyV w p D v t) (g:w.grownBy w' (some p)):TyV w' p D v t:=by
 obtain⟨ao,len,cap,e,hs⟩:=h
 exact⟨ao,len,cap,e,hs.keep (fun k hk1 hk2=>g.block k hk2 (by simp;omega)) (Nat.le_refl _) g.size⟩
theorem TyV.deeper {w:World} {p D D':Nat} {v:Value} {t:Tr} (h:TyV w p D v t) (hd:D≤D'):TyV w p D' v t:=by
 obtain⟨ao,len,cap,e,hs⟩:=h
 exact⟨ao,len,cap,e,hs.deeper hd⟩
def TmV (w:World) (L D d:Nat) (v:Value) (t:Tm):Prop:=∃ (a1:Option Addr) (l1 c1:Nat) (a2:Option Addr) (l2 c2:Nat) (a3:Option Addr) (l3 c3:Nat),v=.agg #[.int .i64 t.K,.int .i64 t.N,.string t.S,.string t.Z,.int .i64 t.T.K,.int .i64 t.T.N,.slice a1 l1 c1,.slice a2 l2 c2,.slice a3 l3 c3]∧Fm L w.heap.size w D d t a1 l1 a2 l2 a3 l3
theorem TmV.keep {w w':World} {L L' D d:Nat} {v:Value} {t:Tm} (h:TmV w L D d v t) (g:∀ k,L≤k->k<w.heap.size->w'.heap[k]?=w.heap[k]?) (hz:w.heap.size≤w'.heap.size) (hL:L'≤L):TmV w' L' D d v t:=by
 obtain⟨a1,l1,c1,a2,l2,c2,a3,l3,c3,e,hs⟩:=h
 exact⟨a1,l1,c1,a2,l2,c2,a3,l3,c3,e,Fm.keep (fun k hk1 hk2=>g k hk1 hk2) hL hz hs⟩
theorem TmV.grown {w w':World} {p L D d:Nat} {v:Value} {t:Tm} (h:TmV w L D d v t) (g:w.grownBy w' (some p)) (hp:p<L):TmV w' L D d v t :=
 h.keep (fun k hk1 hk2=>g.block k hk2 (by simp;omega)) g.size (Nat.le_refl _)
theorem TmV.deeper {w:World} {L D D' d d':Nat} {v:Value} {t:Tm} (h:TmV w L D d v t) (hD:D≤D') (hd:d≤d'):TmV w L D' d' v t:=by
 obtain⟨a1,l1,c1,a2,l2,c2,a3,l3,c3,e,hs⟩:=h
 exact⟨a1,l1,c1,a2,l2,c2,a3,l3,c3,e,hs.wider (fun _ _ _ k=>k.deeper hD) (fun _ _ _ k=>k.deeper hd hD)⟩
structure Ev where
 s:ByteArray
 n:Int
 t:Tr
def EvC (w:World) (p D:Nat) (e:Ev) (cs:List Value):Prop:=∃ ao len cap,cs=[.string e.s,.int .i64 e.n,.int .i64 e.t.K,.int .i64 e.t.N,.slice ao len cap]∧Hs (p+1) w.heap.size w D ao len e.t.A
def EnC (w:World) (p D:Nat):List Ev->List Value->Prop
 | [],xs=>xs=[]
 | e::es,xs=>∃ cs ys,xs=cs++ys∧EvC w p D e cs∧EnC w p D es ys
theorem EvC.grown {w w':World} {p D:Nat} {e:Ev} {cs:List Value} (h:EvC w p D e cs) (g:w.grownBy w' (some p)):EvC w' p D e cs:=by
 obtain⟨ao,len,cap,e,hs⟩:=h
 exact⟨ao,len,cap,e,hs.keep (fun k hk1 hk2=>g.block k hk2 (by simp;omega)) (Nat.le_refl _) g.size⟩
theorem EnC.grown {w w':World} {p D:Nat} (g:w.grownBy w' (some p)):∀ {es:List Ev} {xs:List Value},EnC w p D es xs->EnC w' p D es xs
 | [],xs,h=>h
 | e::es,xs,⟨cs,ys,h1,h2,h3⟩=>⟨cs,ys,h1,h2.grown g,EnC.grown g h3⟩
theorem EnC.snoc {w:World} {p D:Nat} {e:Ev} {cs:List Value} (he:EvC w p D e cs):∀ {es:List Ev} {xs:List Value},EnC w p D es xs->EnC w p D (es++[e]) (xs++cs)
 | [],xs,h=>⟨cs,[],by rw [h];simp,he,rfl⟩
 | f::es,xs,⟨c,ys,h1,h2,h3⟩=>⟨c,ys++cs,by rw [h1,List.append_assoc],h2,EnC.snoc he h3⟩
theorem EnC.len {w:World} {p D:Nat}:∀ {es:List Ev} {xs:List Value},EnC w p D es xs->xs.length=es.length*5
 | [],xs,h=>by rw [h];rfl
 | e::es,xs,⟨cs,ys,h1,⟨_,_,_,h2,_⟩,h3⟩=>by rw [h1,h2];simp [EnC.len h3];omega
theorem EnC.one {w:World} {p D:Nat}:∀ {es:List Ev} {xs:List Value},EnC w p D es xs->∀ u∈xs,u.oneCell'=true
 | [],xs,h=>by rw [h];simp
 | e::es,xs,⟨cs,ys,h1,⟨_,_,_,h2,_⟩,h3⟩=>by
   intro u hu
   rw [h1,h2] at hu
   rcases List.mem_append.1 hu with hu|hu
   · simp at hu
     rcases hu with rfl|rfl|rfl|rfl|rfl <;> rfl
   · exact EnC.one h3 u hu
theorem EnC.get {w:World} {p D:Nat}:∀ {es:List Ev} {xs:List Value},EnC w p D es xs->∀ i (hi:i<es.length),∃ ao len cap,xs[i*5]?=some (.string es[i].s)∧xs[i*5+1]?=some (.int .i64 es[i].n)∧xs[i*5+2]?=some (.int .i64 es[i].t.K)∧xs[i*5+3]?=some (.int .i64 es[i].t.N)∧xs[i*5+4]?=some (.slice ao len cap)∧Hs (p+1) w.heap.size w D ao len es[i].t.A
 | [],xs,h,i,hi=>by simp at hi
 | e::es,xs,⟨cs,ys,h1,⟨ao,len,cap,h2,hs⟩,h3⟩,i,hi=>by
   cases i with
   | zero=>exact⟨ao,len,cap,by rw [h1,h2];rfl,by rw [h1,h2];rfl,by rw [h1,h2];rfl,by rw [h1,h2];rfl,by rw [h1,h2];rfl,hs⟩
   | succ i =>
     obtain⟨ao',len',cap',g0,g1,g2,g3,g4,g5⟩:=EnC.get h3 i (by simpa using hi)
     have hl:cs.length=5:=by rw [h2];rfl
     refine⟨ao',len',cap',?_,?_,?_,?_,?_,by simpa using g5⟩
     all_goals
      rw [h1,List.getElem?_append_right (by omega),hl]
      first|(rw [show (i+1)*5 - 5=i*5 by omega];exact g0)|(rw [show (i+1)*5+1 - 5=i*5+1 by omega];exact g1)|(rw [show (i+1)*5+2 - 5=i*5+2 by omega];exact g2)|(rw [show (i+1)*5+3 - 5=i*5+3 by omega];exact g3)|(rw [show (i+1)*5+4 - 5=i*5+4 by omega];exact g4)
def EnV (w:World) (p D:Nat) (v:Value) (es:List Ev):Prop:=∃ ao len cap xs,v=.slice ao len cap∧len=es.length∧EnC w p D es xs∧∀ j u,xs[j]?=some u->∃ b o,ao=some ⟨b,o,none⟩∧p+1≤b∧b<w.heap.size∧w.cell? ⟨b,o+j,none⟩=some u
theorem EnV.grown {w w':World} {p D:Nat} {v:Value} {es:List Ev} (h:EnV w p D v es) (g:w.grownBy w' (some p)):EnV w' p D v es:=by
 obtain⟨ao,len,cap,xs,h1,h2,h3,h4⟩:=h
 refine⟨ao,len,cap,xs,h1,h2,h3.grown g,fun j u hu=>?_⟩
 obtain⟨b,o,e,hb,hb2,hc⟩:=h4 j u hu
 exact⟨b,o,e,hb,by have:=g.size;omega,(World.cell?_of_block (g.block b hb2 (by simp;omega))).trans hc⟩
theorem EnV.get {w:World} {p D:Nat} {v:Value} {es:List Ev} (h:EnV w p D v es) (i:Nat) (hi:i<es.length):∃ b o cap ao len c,v=.slice (some ⟨b,o,none⟩) es.length cap∧p+1≤b∧b<w.heap.size∧w.cell? ⟨b,o+i*5,none⟩=some (.string es[i].s)∧w.cell? ⟨b,o+i*5+1,none⟩=some (.int .i64 es[i].n)∧w.cell? ⟨b,o+i*5+2,none⟩=some (.int .i64 es[i].t.K)∧w.cell? ⟨b,o+i*5+3,none⟩=some (.int .i64 es[i].t.N)∧w.cell? ⟨b,o+i*5+4,none⟩=some (.slice ao len c)∧Hs (p+1) w.heap.size w D ao len es[i].t.A:=by
 obtain⟨ao,len,cap,xs,h1,h2,h3,h4⟩:=h
 obtain⟨ao',len',c,g0,g1,g2,g3,g4,g5⟩:=h3.get i hi
 obtain⟨b,o,e,hb,hb2,c0⟩:=h4 _ _ g0
 subst e
 have nxt:∀ j u,xs[j]?=some u->w.cell? ⟨b,o+j,none⟩=some u:=fun j u hu=>by
  obtain⟨b',o',e',_,_,hc⟩:=h4 j u hu
  injection e' with e'
  injection e' with e1 e2
  subst e1 e2
  exact hc
 refine⟨b,o,cap,ao',len',c,by rw [h1,h2],hb,hb2,c0,?_,?_,?_,?_,g5⟩
 · have:=nxt _ _ g1;rw [← Nat.add_assoc] at this;exact this
 · have:=nxt _ _ g2;rw [← Nat.add_assoc] at this;exact this
 · have:=nxt _ _ g3;rw [← Nat.add_assoc] at this;exact this
 · have:=nxt _ _ g4;rw [← Nat.add_assoc] at this;exact this
theorem EnV.form {w:World} {p D:Nat} {v:Value} {es:List Ev} (h:EnV w p D v es):∃ ao cap,v=.slice ao es.length cap:=by
 obtain⟨ao,len,cap,xs,h1,h2,_⟩:=h
 exact⟨ao,cap,by rw [h1,h2]⟩
theorem EnV.none (w:World) (p D:Nat) (ao:Option Addr) (cap:Nat):EnV w p D (.slice ao 0 cap) []:=⟨ao,0,cap,[],rfl,rfl,rfl,fun j u hu=>by simp at hu⟩
theorem Try.infoEv:(Try.prog.info? 93).map (fun i=>(i.zero,i.size,i.bytes))=some (some (.agg #[.string ⟨#[]⟩,.int .i64 0,.int .i64 0,.int .i64 0,.slice none 0 0]),5,64):=by kernel_rfl
set_option maxRecDepth 100000 in
theorem env_copy {w:World} {b n:Nat} {ao:Option Addr} (cap:Nat) {xs:List Value} (h0:w.heap[b]?=some (.cells #[] 93 (0,0))) (hxl:xs.length=n*5) (hone:∀ u∈xs,u.oneCell'=true) (h4:∀ j u,xs[j]?=some u->∃ b o,ao=some ⟨b,o,none⟩∧w.cell? ⟨b,o+j,none⟩=some u) (hl:n≤1000) :
 ∃ ao2 cap2 w2,(Builtin.append_ #[59,59] 59 #[.slice (some ⟨b,0,none⟩) 0 0,.slice ao n cap]).run Try.prog w=.ok (.slice ao2 n cap2) w2∧w2.ownsRow b 93 5 (.slice ao2 n cap2) n xs∧w.grownBy w2 (some b):=by
 obtain⟨i0,hi,hz0,hz1,hz2⟩:=info_parts Try.infoEv
 have hown:w.ownsRow b 93 5 (.slice (some ⟨b,0,none⟩) 0 0) 0 []:=⟨rfl,Or.inr ⟨b,0,#[],rfl,Nat.le_refl _,h0,Nat.le_refl _,by unfold maxLen;omega,rfl,rfl⟩⟩
 have hbl:b<w.heap.size:=(Array.getElem?_eq_some_iff.1 h0).1
 by_cases hn:n=0
 · subst hn
   have hx:xs=[]:=List.length_eq_zero_iff.1 (by omega)
   subst hx
   refine⟨_,_,w,?_,hown,Qaq _ _⟩
   refine run_append_nothing (P:=Try.prog) w 59 59 59 93 i0 Try.underlying59 hi _ 0 0 (Nat.le_refl _) _ ?_
   cases ao with
   | none=>exact Src.ofNil _ Try.underlying59 cap
   | some a=>exact Src.ofSlice _ Try.underlying59 a 0 cap [] (by simp) (by simp) (by simp)
 · obtain⟨u,hu⟩:∃ u,xs[0]?=some u:=⟨_,List.getElem?_eq_getElem (by omega)⟩
   obtain⟨sb,so,rfl,_⟩:=h4 0 u hu
   obtain⟨g,cap2,w2,hrun,hown2,hgrow,hat,hlt⟩:=run_append_lies (P:=Try.prog) w 59 59 b 93 i0 _ 5 64 Try.underlying59 hi hz0 hz1 hz2 rfl (by omega) _ 0 _ hown
    ⟨sb,so,none⟩ n cap xs hxl (fun j u hu=>by
      obtain⟨b',o',e',hc⟩:=h4 j u hu
      injection e' with e'
      injection e' with e1 e2
      subst e1 e2
      have ea:(⟨sb,so,none⟩:Addr).add j=⟨sb,so+j,none⟩:=by unfold Addr.add;split <;> simp_all
      rw [ea];exact hc) hone (by omega) (by unfold maxLen;omega) (by omega) (by omega) _ rfl
   simp only [Nat.zero_add,List.nil_append] at hrun hown2
   exact⟨_,_,w2,hrun,hown2,hgrow⟩
set_option maxRecDepth 100000 in
theorem env_push {X w:World} {p D base sb:Nat} {v:Value} {es:List Ev} {e:Ev} {xs:List Value} {c0 c1 c2 c3 c4:Value} (h3:EnC X p D es xs) (he:EvC X p D e [c0,c1,c2,c3,c4]) (hX:Below X.heap.size X w) (hb:X.heap.size≤base) (hp:p<X.heap.size) (hbw:base≤w.heap.size) (hown:w.ownsRow base 93 5 v es.length xs)
 (hsb:w.heap[sb]?=some (.cells #[c0,c1,c2,c3,c4] 93 (0,0))) (hl:es.length≤1000) :
 ∃ g cap w2,(Builtin.append_ #[59,59] 59 #[v,.slice (some ⟨sb,0,none⟩) 1 1]).run Try.prog w=.ok (.slice (some ⟨g,0,none⟩) (es.length+1) cap) w2∧EnV w2 p D (.slice (some ⟨g,0,none⟩) (es.length+1) cap) (es++[e])∧Below X.heap.size X w2:=by
 obtain⟨i0,hi,hz0,hz1,hz2⟩:=info_parts Try.infoEv
 have hone:∀ u∈[c0,c1,c2,c3,c4],u.oneCell'=true:=by
  obtain⟨_,_,_,h,_⟩:=he
  rw [h]
  intro u hu
  simp at hu
  rcases hu with rfl|rfl|rfl|rfl|rfl <;> rfl
 obtain⟨g,cap,w2,hrun,hown2,hgrow,hat,hlt⟩:=run_append_lies (P:=Try.prog) w 59 59 base 93 i0 _ 5 64 Try.underlying59 hi hz0 hz1 hz2 rfl (by omega) v es.length _ hown
  ⟨sb,0,none⟩ 1 1 [c0,c1,c2,c3,c4] rfl (World.news_of_block (cs:=#[c0,c1,c2,c3,c4]) (t:=93) (fr:=(0,0)) hsb) hone (by omega) (by unfold maxLen;omega) (by omega) hbw _ rfl
 have hvb:∀ g,v.ownBlock=some g->base≤g:=by
  intro g hg
  rcases hown.2 with ⟨rfl,_⟩|⟨g',cap,cur,rfl,hb',_⟩
  · cases hg
  · have e:g'=g:=by simpa [Value.ownBlock] using hg
    subst e;exact hb'
 have hz:=hX.size
 have hB2:Below X.heap.size X w2:=⟨hgrow.os.trans hX.os,hgrow.tape.trans hX.tape,hgrow.output.trans hX.output,Nat.le_trans hz hgrow.size,fun q hq=>(hgrow.block q (by omega) (fun e=>by have:=hvb q e.symm;omega)).trans (hX.block q hq)⟩
 refine⟨g,cap,w2,hrun,?_,hB2⟩
 have hg2:X.grownBy w2 (some p):=Qae _ hB2
 rcases hown2.2 with ⟨h,_⟩|⟨g',cap',cur,hv,hg',hh,q1,q2,q3,q4⟩
 · cases h
 · injection hv with hv1 hv2 hv3
   injection hv1 with hv1
   injection hv1 with hv1
   subst hv1 hv3
   refine⟨_,_,_,xs++[c0,c1,c2,c3,c4],rfl,by simp,(h3.grown hg2).snoc (he.grown hg2),fun j u hu=>⟨g,0,rfl,by omega,(Array.getElem?_eq_some_iff.1 hh).1,?_⟩⟩
   rw [Nat.zero_add,Qaa hh,← Array.getElem?_toList]
   rw [← q4,List.getElem?_take] at hu
   split at hu
   · exact hu
   · cases hu
theorem hs_lit1 {w:World} {L B D b:Nat} {t:Tr} {ao:Option Addr} {len cap:Nat} {τ:TypeId} (h:w.heap[b]?=some (.cells #[.int .i64 t.K,.int .i64 t.N,.slice ao len cap] τ (0,0))) (hb:L≤b) (hB:b<B) (hs:Hs L B w D ao len t.A) :
 Hs L B w (D+1) (some ⟨b,0,none⟩) 1 [t]:=by
 refine⟨rfl,by omega,fun i hi=>?_⟩
 obtain rfl:i=0:=by simpa using hi
 exact⟨b,0,rfl,hb,hB,ao,len,cap,Qaa h 0,Qaa h 1,Qaa h 2,hs⟩
theorem hs_lit2 {w:World} {L B D b:Nat} {t t':Tr} {ao:Option Addr} {len cap:Nat} {ao':Option Addr} {len' cap':Nat} {τ:TypeId} (h:w.heap[b]?=some (.cells #[.int .i64 t.K,.int .i64 t.N,.slice ao len cap,.int .i64 t'.K,.int .i64 t'.N,.slice ao' len' cap'] τ (0,0))) (hb:L≤b) (hB:b<B) (hs:Hs L B w D ao len t.A) (hs':Hs L B w D ao' len' t'.A) :
 Hs L B w (D+1) (some ⟨b,0,none⟩) 2 [t,t']:=by
 refine⟨rfl,by omega,fun i hi=>?_⟩
 have:i=0∨i=1:=by simp at hi;omega
 rcases this with rfl|rfl
 · exact⟨b,0,rfl,hb,hB,ao,len,cap,Qaa h 0,Qaa h 1,Qaa h 2,hs⟩
 · exact⟨b,0,rfl,hb,hB,ao',len',cap',Qaa h 3,Qaa h 4,Qaa h 5,hs'⟩
theorem hm_lit1 {w:World} {L B D d b:Nat} {t:Tm} {a1 a2 a3:Option Addr} {l1 c1 l2 c2 l3 c3:Nat} {τ:TypeId} (h:w.heap[b]?=some (.cells #[.int .i64 t.K,.int .i64 t.N,.string t.S,.string t.Z,.int .i64 t.T.K,.int .i64 t.T.N,.slice a1 l1 c1,.slice a2 l2 c2,.slice a3 l3 c3] τ (0,0))) (hb:L≤b) (hB:b<B) (hs:Fm L B w D d t a1 l1 a2 l2 a3 l3) :
 Hm L B w D (d+1) (some ⟨b,0,none⟩) 1 [t]:=by
 refine⟨rfl,by omega,fun i hi=>?_⟩
 obtain rfl:i=0:=by simpa using hi
 exact⟨b,0,rfl,hb,hB,a1,l1,c1,a2,l2,c2,a3,l3,c3,⟨Qaa h 0,Qaa h 1,Qaa h 2,Qaa h 3,Qaa h 4,Qaa h 5,Qaa h 6,Qaa h 7,Qaa h 8⟩,hs⟩
def Qde (t:Tm) (a1:Option Addr) (l1 c1:Nat) (a2:Option Addr) (l2 c2:Nat) (a3:Option Addr) (l3 c3:Nat):List Value:=[.int .i64 t.K,.int .i64 t.N,.string t.S,.string t.Z,.int .i64 t.T.K,.int .i64 t.T.N,.slice a1 l1 c1,.slice a2 l2 c2,.slice a3 l3 c3]
theorem hm_lit2 {w:World} {L B D d b:Nat} {t u:Tm} {a1 a2 a3:Option Addr} {l1 c1 l2 c2 l3 c3:Nat} {b1 b2 b3:Option Addr} {m1 e1 m2 e2 m3 e3:Nat} {τ:TypeId} (h:w.heap[b]?=some (.cells (Qde t a1 l1 c1 a2 l2 c2 a3 l3 c3++Qde u b1 m1 e1 b2 m2 e2 b3 m3 e3).toArray τ (0,0))) (hb:L≤b) (hB:b<B) (hs:Fm L B w D d t a1 l1 a2 l2 a3 l3) (hu:Fm L B w D d u b1 m1 b2 m2 b3 m3) :
 Hm L B w D (d+1) (some ⟨b,0,none⟩) 2 [t,u]:=by
 refine⟨rfl,by omega,fun i hi=>?_⟩
 have:i=0∨i=1:=by simp at hi;omega
 rcases this with rfl|rfl
 · exact⟨b,0,rfl,hb,hB,a1,l1,c1,a2,l2,c2,a3,l3,c3,⟨Qaa h 0,Qaa h 1,Qaa h 2,Qaa h 3,Qaa h 4,Qaa h 5,Qaa h 6,Qaa h 7,Qaa h 8⟩,hs⟩
 · exact⟨b,0,rfl,hb,hB,b1,m1,e1,b2,m2,e2,b3,m3,e3,⟨Qaa h 9,Qaa h 10,Qaa h 11,Qaa h 12,Qaa h 13,Qaa h 14,Qaa h 15,Qaa h 16,Qaa h 17⟩,hu⟩
theorem hm_lit3 {w:World} {L B D d b:Nat} {t u x:Tm} {a1 a2 a3:Option Addr} {l1 c1 l2 c2 l3 c3:Nat} {b1 b2 b3:Option Addr} {m1 e1 m2 e2 m3 e3:Nat} {f1 f2 f3:Option Addr} {n1 g1 n2 g2 n3 g3:Nat} {τ:TypeId} (h:w.heap[b]?=some (.cells (Qde t a1 l1 c1 a2 l2 c2 a3 l3 c3++Qde u b1 m1 e1 b2 m2 e2 b3 m3 e3++Qde x f1 n1 g1 f2 n2 g2 f3 n3 g3).toArray τ (0,0))) (hb:L≤b) (hB:b<B) (hs:Fm L B w D d t a1 l1 a2 l2 a3 l3) (hu:Fm L B w D d u b1 m1 b2 m2 b3 m3) (hx:Fm L B w D d x f1 n1 f2 n2 f3 n3) :
 Hm L B w D (d+1) (some ⟨b,0,none⟩) 3 [t,u,x]:=by
 refine⟨rfl,by omega,fun i hi=>?_⟩
 have:i=0∨i=1∨i=2:=by simp at hi;omega
 rcases this with rfl|rfl|rfl
 · exact⟨b,0,rfl,hb,hB,a1,l1,c1,a2,l2,c2,a3,l3,c3,⟨Qaa h 0,Qaa h 1,Qaa h 2,Qaa h 3,Qaa h 4,Qaa h 5,Qaa h 6,Qaa h 7,Qaa h 8⟩,hs⟩
 · exact⟨b,0,rfl,hb,hB,b1,m1,e1,b2,m2,e2,b3,m3,e3,⟨Qaa h 9,Qaa h 10,Qaa h 11,Qaa h 12,Qaa h 13,Qaa h 14,Qaa h 15,Qaa h 16,Qaa h 17⟩,hu⟩
 · exact⟨b,0,rfl,hb,hB,f1,n1,g1,f2,n2,g2,f3,n3,g3,⟨Qaa h 18,Qaa h 19,Qaa h 20,Qaa h 21,Qaa h 22,Qaa h 23,Qaa h 24,Qaa h 25,Qaa h 26⟩,hx⟩
theorem nodesW_up:∀ (k:Nat) (t:Tr) (m:Nat),Qai k t=some m->Qai (k+1) t=some m
 | 0,t,m,h=>by simp [Qai] at h
 | k+1,t,m,h=>by
   have key:∀ (l:List Tr) (a:Nat),Qaw (Qai k) l=some a->Qaw (Qai (k+1)) l=some a:=by
    intro l
    induction l with
    | nil=>intro a h;exact h
    | cons u l ih =>
      intro a h
      simp only [Qaw] at h ⊢
      cases hu:Qai k u with
      | none=>simp [hu] at h
      | some x =>
        cases hl:Qaw (Qai k) l with
        | none=>simp [hu,hl] at h
        | some y =>
          rw [nodesW_up k u x hu,ih y hl]
          simpa [hu,hl] using h
   rw [Qai] at h ⊢
   split at h
   · rename_i hn
     rw [if_pos hn]
     cases hl:Qaw (Qai k) t.A with
     | none=>simp [hl] at h
     | some y=>rw [key _ _ hl];rw [hl] at h;exact h
   · cases h
theorem Qcm {k k':Nat} (h:k≤k') {t:Tr} {m:Nat} (hm:Qai k t=some m):Qai k' t=some m:=by
 induction h with
 | refl=>exact hm
 | step _ ih=>exact nodesW_up _ _ _ ih
def Ty2 (w:World) (p k:Nat) (v:Value) (t:Tr):Prop:=TyV w p k v t∧∃ m,Qai k t=some m
theorem Ty2.grown {w w':World} {p k:Nat} {v:Value} {t:Tr} (h:Ty2 w p k v t) (g:w.grownBy w' (some p)):Ty2 w' p k v t:=⟨h.1.grown g,h.2⟩
theorem Ty2.up {w:World} {p k k':Nat} {v:Value} {t:Tr} (h:Ty2 w p k v t) (hk:k≤k'):Ty2 w p k' v t:=⟨h.1.deeper hk,let ⟨m,hm⟩:=h.2;⟨m,Qcm hk hm⟩⟩
def En2 (w:World) (p k:Nat) (v:Value) (es:List Ev):Prop:=EnV w p k v es∧∀ e∈es,(∃ m,Qai k e.t=some m)∧(e.n=0∨(0≤e.n∧e.n≤2∧RtV 4 e.n e.t))∧e.s.size≤8
theorem En2.grown {w w':World} {p k:Nat} {v:Value} {es:List Ev} (h:En2 w p k v es) (g:w.grownBy w' (some p)):En2 w' p k v es:=⟨h.1.grown g,h.2⟩
structure ToR (n:Nat) (τ:TypeId) (E:World->Nat->Nat->Nat->Prop) (w wr:World) (len k:Nat):Prop where
 bel:Below w.heap.size w wr
 row:∃ cs:Array Value,wr.heap[w.heap.size]?=some (.cells cs τ (0,0))∧cs.size=len*n
 els:∀ i,i<k->E wr w.heap.size (i*n) i
theorem ToR.lt {n:Nat} {τ:TypeId} {E:World->Nat->Nat->Nat->Prop} {w wr:World} {len k:Nat} (h:ToR n τ E w wr len k):w.heap.size<wr.heap.size:=by
 obtain⟨cs,hr,_⟩:=h.row
 exact (Array.getElem?_eq_some_iff.1 hr).1
theorem ToR.row1 {n:Nat} {τ:TypeId} {E:World->Nat->Nat->Nat->Prop} {w wr w1:World} {len k:Nat} (h:ToR n τ E w wr len k) (hb:Below wr.heap.size wr w1):∃ cs:Array Value,w1.heap[w.heap.size]?=some (.cells cs τ (0,0))∧cs.size=len*n:=by
 obtain⟨cs,hr,hc⟩:=h.row
 exact⟨cs,(hb.block _ h.lt).trans hr,hc⟩
theorem ToR.cell {n:Nat} {τ:TypeId} {E:World->Nat->Nat->Nat->Prop} {w wr w1:World} {len k:Nat} (h:ToR n τ E w wr len k) (hb:Below wr.heap.size wr w1) (hk:k<len) (j:Nat) (hj:j<n) :
 (∃ u,w1.cell? ⟨w.heap.size,k*n+j,none⟩=some u)∧w1.frozen? ⟨w.heap.size,k*n+j,none⟩=false:=by
 obtain⟨cs,hr,hc⟩:=h.row1 hb
 refine⟨?_,Qad hr _⟩
 rw [Qaa hr]
 have:k*n+n≤len*n:=by rw [← Nat.succ_mul];exact Nat.mul_le_mul_right _ hk
 exact⟨_,Array.getElem?_eq_getElem (by omega)⟩
theorem Try.infoTerm:(Try.prog.info? 29).map (fun i=>(i.zero,i.size,i.bytes))=some (some (.agg #[.int .i64 0,.int .i64 0,.string ⟨#[]⟩,.string ⟨#[]⟩,.int .i64 0,.int .i64 0,.slice none 0 0,.slice none 0 0,.slice none 0 0]),9,136):=by kernel_rfl
def bs (s:ByteArray):List UInt8:=s.data.toList
theorem toks_own {base:Nat} {w:World} {v:Value} {P:List (List UInt8)} (h:Toks base w v P) {g:Nat} (hg:v.ownBlock=some g):base≤g∧g<w.heap.size:=by
 rcases h.2 with ⟨rfl,_⟩|⟨g',cap,cur,rfl,hb',hh,_⟩
 · cases hg
 · have e:g'=g:=by simpa [Value.ownBlock] using hg
   subst e
   exact⟨hb',(Array.getElem?_eq_some_iff.1 hh).1⟩
structure Ko (vo:Value) (w:World) (vo':Value) (w':World):Prop where
 os:w'.os=w.os
 tape:w'.tape=w.tape
 output:w'.output=w.output
 size:w.heap.size≤w'.heap.size
 block:∀ k,k<w.heap.size->vo.ownBlock≠some k->w'.heap[k]?=w.heap[k]?
 own:∀ k,vo'.ownBlock=some k->(vo.ownBlock=some k∨w.heap.size≤k)
theorem Ko.trans {vo vo' vo'':Value} {w w' w'':World} (h:Ko vo w vo' w') (k:Ko vo' w' vo'' w''):Ko vo w vo'' w'':=by
 refine⟨k.os.trans h.os,k.tape.trans h.tape,k.output.trans h.output,Nat.le_trans h.size k.size,fun i hi h1=>?_,fun i hi=>?_⟩
 · exact (k.block i (Nat.lt_of_lt_of_le hi h.size) (fun e=>by rcases h.own i e with e|e;exact h1 e;omega)).trans (h.block i hi h1)
 · rcases k.own i hi with e|e
   · exact h.own i e
   · exact Or.inr (Nat.le_trans h.size e)
theorem Ko.of_below {vo:Value} {w w':World} (h:Below w.heap.size w w'):Ko vo w vo w' :=
 ⟨h.os,h.tape,h.output,h.size,fun k hk _=>h.block k hk,fun k hk=>Or.inl hk⟩
theorem Ko.below {base:Nat} {vo vo':Value} {w w':World} {Fr:List (List UInt8)} (h:Ko vo w vo' w') (ht:Toks base w vo Fr) (hb:base≤w.heap.size):Below base w w' :=
 ⟨h.os,h.tape,h.output,h.size,fun k hk=>h.block k (by omega) (fun e=>by have:=(toks_own ht e).1;omega)⟩
theorem Qdp (w:World) {b c i j:Nat} (h:b≠c) (x y:Value):(w.setCell ⟨b,i,none⟩ x).setCell ⟨c,j,none⟩ y=(w.setCell ⟨c,j,none⟩ y).setCell ⟨b,i,none⟩ x:=by
 unfold World.setCell
 congr 1
 apply Array.ext_getElem?
 intro k
 simp only [Array.getElem?_modify]
 by_cases h1:b=k
 · subst h1
   rw [if_pos rfl,if_pos rfl,if_neg (fun e=>h e.symm),if_neg (fun e=>h e.symm)]
 · rw [if_neg h1,if_neg h1]
theorem set9_comm (w:World) {p g i o:Nat} (h:p≠g) (x a0 a1 a2 a3 a4 a5 a6 a7 a8:Value):set9 (w.setCell ⟨p,i,none⟩ x) g o a0 a1 a2 a3 a4 a5 a6 a7 a8=(set9 w g o a0 a1 a2 a3 a4 a5 a6 a7 a8).setCell ⟨p,i,none⟩ x:=by
 unfold set9 set3
 rw [Qdp _ h,Qdp _ h,Qdp _ h,Qdp _ h,Qdp _ h,Qdp _ h,Qdp _ h,Qdp _ h,Qdp _ h]
theorem set9_eq (w:World) (g o:Nat) (a0 a1 a2 a3 a4 a5 a6 a7 a8:Value):set9 w g o a0 a1 a2 a3 a4 a5 a6 a7 a8=((((((((w.setCell ⟨g,o,none⟩ a0).setCell ⟨g,o+1,none⟩ a1).setCell ⟨g,o+2,none⟩ a2).setCell ⟨g,o+3,none⟩ a3).setCell ⟨g,o+4,none⟩ a4).setCell ⟨g,o+5,none⟩ a5).setCell ⟨g,o+6,none⟩ a6).setCell ⟨g,o+7,none⟩ a7).setCell ⟨g,o+8,none⟩ a8:=rfl
def c9 (t:Tm) (a1:Option Addr) (l1 c1:Nat) (a2:Option Addr) (l2 c2:Nat) (a3:Option Addr) (l3 c3:Nat):List Value:=[.int .i64 t.K,.int .i64 t.N,.string t.S,.string t.Z,.int .i64 t.T.K,.int .i64 t.T.N,.slice a1 l1 c1,.slice a2 l2 c2,.slice a3 l3 c3]
def z9:List Value:=[.int .i64 0,.int .i64 0,.string ⟨#[]⟩,.string ⟨#[]⟩,.int .i64 0,.int .i64 0,.slice none 0 0,.slice none 0 0,.slice none 0 0]
def TRow (L B base:Nat) (w:World) (D d:Nat) (v:Value) (ts:List Tm):Prop :=
 ∃ xs,w.ownsRow base 29 9 v ts.length xs∧∀ i (_:i<ts.length),∃ a1 l1 c1 a2 l2 c2 a3 l3 c3,(∀ j,j<9->xs[i*9+j]?=(c9 ts[i] a1 l1 c1 a2 l2 c2 a3 l3 c3)[j]?)∧Fm L B w D d ts[i] a1 l1 a2 l2 a3 l3
theorem Qck {base e size:Nat} {w w':World} {v:Value} {n:Nat} {xs:List Value} (h:w.ownsRow base e size v n xs) (hk:∀ g,v.ownBlock=some g->w'.heap[g]?=w.heap[g]?):w'.ownsRow base e size v n xs:=by
 refine⟨h.1,?_⟩
 rcases h.2 with hn|⟨g,cap,cur,rfl,hg,hh,r⟩
 · exact Or.inl hn
 · exact Or.inr ⟨g,cap,cur,rfl,hg,(hk g rfl).trans hh,r⟩
theorem trow_nil (L B base:Nat) (w:World) (D d:Nat):TRow L B base w D d (.slice none 0 0) []:=⟨[],World.ownsRow_nil _ _ _ _,fun i hi=>by simp at hi⟩
theorem Qeg {L B base:Nat} {w:World} {D d:Nat} {v:Value} {ts:List Tm} (h:TRow L B base w D d v ts) {g:Nat} (hg:v.ownBlock=some g):base≤g∧g<w.heap.size:=by
 obtain⟨xs,h,_⟩:=h
 rcases h.2 with ⟨rfl,_⟩|⟨g',cap,cur,rfl,hb,hh,_⟩
 · cases hg
 · have e:g'=g:=by simpa [Value.ownBlock] using hg
   subst e
   exact⟨hb,(Array.getElem?_eq_some_iff.1 hh).1⟩
theorem trow_form {L B base:Nat} {w:World} {D d:Nat} {v:Value} {ts:List Tm} (h:TRow L B base w D d v ts):∃ ao cap,v=.slice ao ts.length cap:=by
 obtain⟨xs,h,_⟩:=h
 rcases h.2 with ⟨rfl,hn⟩|⟨g,cap,cur,rfl,_⟩
 · exact⟨none,0,by rw [hn]⟩
 · exact⟨_,cap,rfl⟩
theorem trow_keep {L B base:Nat} {w w':World} {D d:Nat} {v:Value} {ts:List Tm} (h:TRow L B base w D d v ts) (hv:∀ g,v.ownBlock=some g->w'.heap[g]?=w.heap[g]?) (hm:∀ k,L≤k->k<B->w'.heap[k]?=w.heap[k]?):TRow L B base w' D d v ts:=by
 obtain⟨xs,h1,h2⟩:=h
 refine⟨xs,Qck h1 hv,fun i hi=>?_⟩
 obtain⟨a1,l1,c1,a2,l2,c2,a3,l3,c3,h3,h4⟩:=h2 i hi
 exact⟨a1,l1,c1,a2,l2,c2,a3,l3,c3,h3,Fm.keep hm (Nat.le_refl _) (Nat.le_refl _) h4⟩
theorem trow_bel {L B base:Nat} {w w':World} {D d:Nat} {v:Value} {ts:List Tm} (h:TRow L B base w D d v ts) (hb:Below w.heap.size w w') (hB:B≤w.heap.size):TRow L B base w' D d v ts :=
 trow_keep h (fun g hg=>hb.block g (Qeg h hg).2) (fun k _ hk=>hb.block k (by omega))
theorem trow_le {L B base base':Nat} {w:World} {D d:Nat} {v:Value} {ts:List Tm} (h:TRow L B base w D d v ts) (hb:base'≤base):TRow L B base' w D d v ts:=by
 obtain⟨xs,h1,h2⟩:=h
 exact⟨xs,⟨h1.1,h1.2.elim Or.inl (fun ⟨g,cap,cur,hv,hg,r⟩=>Or.inr ⟨g,cap,cur,hv,Nat.le_trans hb hg,r⟩)⟩,h2⟩
theorem trow_at {L B base:Nat} {w:World} {D d:Nat} {v:Value} {ts:List Tm} (h:TRow L B base w D d v ts) (i:Nat) (hi:i<ts.length):∃ g cap,v=.slice (some ⟨g,0,none⟩) ts.length cap∧base≤g∧g<w.heap.size ∧
 ∃ a1 l1 c1 a2 l2 c2 a3 l3 c3,Nine w g (i*9) ts[i].K ts[i].N ts[i].S ts[i].Z ts[i].T.K ts[i].T.N (.slice a1 l1 c1) (.slice a2 l2 c2) (.slice a3 l3 c3)∧Fm L B w D d ts[i] a1 l1 a2 l2 a3 l3:=by
 obtain⟨xs,h1,h2⟩:=h
 obtain⟨a1,l1,c1,a2,l2,c2,a3,l3,c3,h3,h4⟩:=h2 i hi
 rcases h1.2 with ⟨rfl,hn⟩|⟨g,cap,cur,rfl,hg,hh,q1,q2,q3,q4⟩
 · omega
 · have look:∀ j,j<9->w.cell? ⟨g,i*9+j,none⟩=(c9 ts[i] a1 l1 c1 a2 l2 c2 a3 l3 c3)[j]?:=fun j hj=>by
    rw [← h3 j hj,Qaa hh,← q4,List.getElem?_take,if_pos (by omega)]
    simp
   exact⟨g,cap,rfl,hg,(Array.getElem?_eq_some_iff.1 hh).1,a1,l1,c1,a2,l2,c2,a3,l3,c3,⟨look 0 (by omega),look 1 (by omega),look 2 (by omega),look 3 (by omega),look 4 (by omega),look 5 (by omega),look 6 (by omega),look 7 (by omega),look 8 (by omega)⟩,h4⟩
theorem trow_more {L B base:Nat} {w w2:World} {D d:Nat} {v v2:Value} {ts:List Tm} {t:Tm} {a1:Option Addr} {l1 c1:Nat} {a2:Option Addr} {l2 c2:Nat} {a3:Option Addr} {l3 c3:Nat} {xs:List Value} (hx:w.ownsRow base 29 9 v ts.length xs)
 (hel:∀ i (_:i<ts.length),∃ a1 l1 c1 a2 l2 c2 a3 l3 c3,(∀ j,j<9->xs[i*9+j]?=(c9 ts[i] a1 l1 c1 a2 l2 c2 a3 l3 c3)[j]?)∧Fm L B w D d ts[i] a1 l1 a2 l2 a3 l3)
 (h2:w2.ownsRow base 29 9 v2 (ts.length+1) (xs++c9 t a1 l1 c1 a2 l2 c2 a3 l3 c3)) (hm:∀ k,L≤k->k<B->w2.heap[k]?=w.heap[k]?) (hf:Fm L B w D d t a1 l1 a2 l2 a3 l3):TRow L B base w2 D d v2 (ts++[t]):=by
 have hlx:xs.length=ts.length*9:=hx.1
 refine⟨_,by rw [List.length_append];exact h2,fun i hi=>?_⟩
 by_cases hit:i<ts.length
 · obtain⟨b1,m1,d1,b2,m2,d2,b3,m3,d3,h3,h4⟩:=hel i hit
   have e:(ts++[t])[i]=ts[i]:=List.getElem_append_left hit
   rw [e]
   refine⟨b1,m1,d1,b2,m2,d2,b3,m3,d3,fun j hj=>?_,Fm.keep hm (Nat.le_refl _) (Nat.le_refl _) h4⟩
   rw [List.getElem?_append_left (by omega)]
   exact h3 j hj
 · have e1:i=ts.length:=by rw [List.length_append] at hi;simp at hi;omega
   subst e1
   have e:(ts++[t])[ts.length]=t:=by simp
   rw [e]
   refine⟨a1,l1,c1,a2,l2,c2,a3,l3,c3,fun j hj=>?_,Fm.keep hm (Nat.le_refl _) (Nat.le_refl _) hf⟩
   rw [List.getElem?_append_right (by omega),hlx,Nat.add_sub_cancel_left]
theorem one9 (t:Tm) (a1:Option Addr) (l1 c1:Nat) (a2:Option Addr) (l2 c2:Nat) (a3:Option Addr) (l3 c3:Nat):∀ u∈c9 t a1 l1 c1 a2 l2 c2 a3 l3 c3,u.oneCell'=true:=by
 simp [c9,Value.oneCell']
theorem owns_of {base g n cap:Nat} {w:World} {cs:Array Value} {xs:List Value} (hh:w.heap[g]?=some (.cells cs 29 (0,0))) (hg:base≤g) (h1:n≤cap) (h2:cap≤maxLen) (h3:cs.size=cap*9) (hl:xs.length=n*9) (hc:∀ p,p<n*9->w.cell? ⟨g,p,none⟩=xs[p]?):w.ownsRow base 29 9 (.slice (some ⟨g,0,none⟩) n cap) n xs:=by
 refine⟨hl,Or.inr ⟨g,cap,cs,rfl,hg,hh,h1,h2,h3,?_⟩⟩
 apply List.ext_getElem?
 intro p
 rw [List.getElem?_take]
 by_cases hp:p<n*9
 · rw [if_pos hp,← hc p hp,Qaa hh];simp
 · rw [if_neg hp,List.getElem?_eq_none (by omega)]
set_option maxHeartbeats 800000 in
theorem trow_lay {L B base:Nat} {w:World} {D d:Nat} {v:Value} {ts:List Tm} (h:TRow L B base w D d v ts) (hb:base≤w.heap.size) (hB:B≤base) (hl:ts.length≤1048577) {t:Tm} {a1:Option Addr} {l1 c1:Nat} {a2:Option Addr} {l2 c2:Nat} {a3:Option Addr} {l3 c3:Nat} (hf:Fm L B w D d t a1 l1 a2 l2 a3 l3) (W:World) (hW:W=w.alloc (.cells z9.toArray 29)) :
 ∃ g cap w2,(Builtin.append_ #[27,27] 27 #[v,.slice (some ⟨w.heap.size,0,none⟩) 1 1]).run Try.prog W=.ok (.slice (some ⟨g,0,none⟩) (ts.length+1) cap) w2∧base≤g ∧
   (∃ cs:Array Value,w2.heap[g]?=some (.cells cs 29 (0,0))∧(ts.length+1)*9≤cs.size)∧Ko v w (.slice (some ⟨g,0,none⟩) (ts.length+1) cap) w2 ∧
   ∀ Y:World,Y=set9 w2 g (ts.length*9) (.int .i64 t.K) (.int .i64 t.N) (.string t.S) (.string t.Z) (.int .i64 t.T.K) (.int .i64 t.T.N) (.slice a1 l1 c1) (.slice a2 l2 c2) (.slice a3 l3 c3)->TRow L B base Y D d (.slice (some ⟨g,0,none⟩) (ts.length+1) cap) (ts++[t])∧Ko v w (.slice (some ⟨g,0,none⟩) (ts.length+1) cap) Y:=by
 subst hW
 obtain⟨i0,hi,hz0,hz1,hz2⟩:=info_parts Try.infoTerm
 have hA:Below w.heap.size w (w.alloc (.cells z9.toArray 29)):=(Below.refl _ _).alloc (Nat.le_refl _) _
 have hown:=fun g hg=>Qeg h (g:=g) hg
 obtain⟨xs,h1,h2⟩:=h
 have h1A:=Qck (w':=w.alloc (.cells z9.toArray 29)) h1 (fun g hg=>hA.block g (hown g hg).2)
 obtain⟨g,cap,w2,hrun,hown2,hgrow,hat,hlt⟩:=run_append_lies (P:=Try.prog) (w.alloc (.cells z9.toArray 29)) 27 27 base 29 i0 _ 9 136 Try.underlying27 hi hz0 hz1 hz2 rfl (by omega) v ts.length _ h1A
  ⟨w.heap.size,0,none⟩ 1 1 z9 rfl (World.news_of_block (cs:=z9.toArray) (t:=29) (fr:=(0,0)) (heap_alloc_new w _)) (by simp [z9,Value.oneCell'])
  (by omega) (by unfold maxLen;omega) (by omega) (by simp;omega) _ rfl
 have hz:=hgrow.size
 have hblk:∀ k,k<w.heap.size->v.ownBlock≠some k->w2.heap[k]?=w.heap[k]?:=fun k hk hne=>(hgrow.block k (by simp;omega) (fun e=>hne e.symm)).trans (hA.block k hk)
 have hg:v.ownBlock=some g∨w.heap.size≤g:=by
  rcases hat with e|e
  · exact Or.inl e
  · exact Or.inr (by simp at e;omega)
 have hko:Ko v w (.slice (some ⟨g,0,none⟩) (ts.length+1) cap) w2:=⟨hgrow.os,hgrow.tape,hgrow.output,by simp at hz;omega,hblk,fun k hk=>by
  have e:g=k:=by simpa [Value.ownBlock] using hk
  subst e
  exact hg⟩
 rcases hown2.2 with ⟨e,_⟩|⟨g',cap',cur,e,hbg,hh,q1,q2,q3,q4⟩
 · cases e
 · injection e with e1 e2 e3
   injection e1 with e1
   injection e1 with e1
   subst e1
   subst e3
   refine⟨g,cap,w2,hrun,hbg,⟨cur,hh,by rw [q3];exact Nat.mul_le_mul_right _ q1⟩,hko,fun Y hY=>?_⟩
   have hoth:∀ k,k≠g->Y.heap[k]?=w2.heap[k]?:=fun k hk=>by rw [hY];exact Qby k hk
   have hYs:Y.heap.size=w2.heap.size:=by rw [hY];exact Qcu _ _ _ _ _ _ _ _ _ _ _ _
   have hY0:Below 0 w2 Y:=by rw [hY];exact Qcf (Below.refl _ _) (Nat.zero_le _)
   have hcs:(ts.length+1)*9≤cur.size:=by rw [q3];exact Nat.mul_le_mul_right _ q1
   obtain⟨cs',r1,r2⟩:=set9_row (o:=ts.length*9) (a0:=.int .i64 t.K) (a1:=.int .i64 t.N) (a2:=.string t.S) (a3:=.string t.Z) (a4:=.int .i64 t.T.K) (a5:=.int .i64 t.T.N) (a6:=.slice a1 l1 c1) (a7:=.slice a2 l2 c2) (a8:=.slice a3 l3 c3) hh
   have n9:Nine Y g (ts.length*9) t.K t.N t.S t.Z t.T.K t.T.N (.slice a1 l1 c1) (.slice a2 l2 c2) (.slice a3 l3 c3):=by rw [hY];exact set9_cells hh (by omega)
   have far:∀ p,p<ts.length*9->Y.cell? ⟨g,p,none⟩=xs[p]?:=fun p hp=>by
    rw [hY,set9_far hh p (Or.inl hp),Qaa hh]
    have h5:(xs++z9)[p]?=xs[p]?:=List.getElem?_append_left (by rw [h1.1];exact hp)
    rw [← h5,← q4,List.getElem?_take,if_pos (by omega)]
    simp
   rw [← hY] at r1
   have hxl:xs.length=ts.length*9:=h1.1
   have hrow:Y.ownsRow base 29 9 (.slice (some ⟨g,0,none⟩) (ts.length+1) cap) (ts.length+1) (xs++c9 t a1 l1 c1 a2 l2 c2 a3 l3 c3):=by
    refine owns_of r1 hbg q1 q2 (r2.trans q3) (by rw [List.length_append,hxl];simp [c9];omega) fun p hp=>?_
    by_cases hp1:p<ts.length*9
    · rw [far p hp1,List.getElem?_append_left (by omega)]
    · obtain⟨j,rfl⟩:∃ j,p=ts.length*9+j:=⟨p - ts.length*9,by omega⟩
      rw [List.getElem?_append_right (by omega),hxl,Nat.add_sub_cancel_left]
      have hj:j<9:=by omega
      rcases (by omega:j=0∨j=1∨j=2∨j=3∨j=4∨j=5∨j=6∨j=7∨j=8) with rfl|rfl|rfl|rfl|rfl|rfl|rfl|rfl|rfl
      · exact n9.c0
      · exact n9.c1
      · exact n9.c2
      · exact n9.c3
      · exact n9.c4
      · exact n9.c5
      · exact n9.c6
      · exact n9.c7
      · exact n9.c8
   have hgB:∀ k,k<B->k≠g:=fun k hk e=>by omega
   refine⟨trow_more h1 h2 hrow (fun k _ hk=>(hoth k (hgB k hk)).trans (hblk k (by omega) (fun e=>by have:=(hown k e).1;omega))) hf,?_⟩
   refine⟨?_,?_,?_,by rw [hYs];exact hko.size,fun k hk hne=>?_,hko.own⟩
   · exact hY0.os.trans hko.os
   · exact hY0.tape.trans hko.tape
   · exact hY0.output.trans hko.output
   · rw [hoth k (fun e=>by
      subst e
      rcases hg with e|e
      · exact hne e
      · omega)]
     exact hblk k hk hne
end Go.Proofs.Ytleghjgpnefliaa
