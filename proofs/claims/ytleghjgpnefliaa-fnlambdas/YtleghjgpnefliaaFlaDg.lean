/-
  Draws of terms: types, terms and rows of names as values that lie behind the cursor's block. No walk, no statement.
-/
import Derived.Test.YtleghjgpnefliaaFlaZ6
import Derived.Test.YtleghjgpnefliaaFlaZ2
import Derived.Deep.AppendLies
import Derived.Deep.Upon
namespace Go.Proofs.Ytleghjgpnefliaa
open Go.RowKit
set_option linter.unusedVariables false
set_option linter.unusedSimpArgs false
def TyV (w:World) (p D:Nat) (v:Value) (t:Tr):Prop:=∃ ao len cap,v=.agg #[.int .i64 t.K,.int .i64 t.N,.slice ao len cap]∧Hs (p+1) w.heap.size w D ao len t.A
theorem TyV.grown {w w':World} {p D:Nat} {v:Value} {t:Tr} (h:TyV w p D v t) (g:w.grownBy w' (some p)):TyV w' p D v t:=by
  obtain ⟨ao,len,cap,e,hs⟩:=h
  exact ⟨ao,len,cap,e,hs.keep (fun k hk1 hk2=>g.block k hk2 (by simp;omega)) (Nat.le_refl _) g.size⟩
theorem TyV.deeper {w:World} {p D D':Nat} {v:Value} {t:Tr} (h:TyV w p D v t) (hd:D≤D'):TyV w p D' v t:=by
  obtain ⟨ao,len,cap,e,hs⟩:=h
  exact ⟨ao,len,cap,e,hs.deeper hd⟩
def TmV (w:World) (L D d:Nat) (v:Value) (t:Tm):Prop:=∃ (a1:Option Addr) (l1 c1:Nat) (a2:Option Addr) (l2 c2:Nat) (a3:Option Addr) (l3 c3:Nat),v=.agg #[.int .i64 t.K,.int .i64 t.N,.string t.S,.string t.Z,.int .i64 t.T.K,.int .i64 t.T.N,.slice a1 l1 c1,.slice a2 l2 c2,.slice a3 l3 c3]∧Fm L w.heap.size w D d t a1 l1 a2 l2 a3 l3
theorem TmV.keep {w w':World} {L L' D d:Nat} {v:Value} {t:Tm} (h:TmV w L D d v t) (g:∀ k,L≤k→k < w.heap.size→w'.heap[k]?=w.heap[k]?) (hz:w.heap.size≤w'.heap.size) (hL:L'≤L):TmV w' L' D d v t:=by
  obtain ⟨a1,l1,c1,a2,l2,c2,a3,l3,c3,e,hs⟩:=h
  exact ⟨a1,l1,c1,a2,l2,c2,a3,l3,c3,e,Fm.keep (fun k hk1 hk2=>g k hk1 hk2) hL hz hs⟩
theorem TmV.grown {w w':World} {p L D d:Nat} {v:Value} {t:Tm} (h:TmV w L D d v t) (g:w.grownBy w' (some p)) (hp:p < L):TmV w' L D d v t :=
  h.keep (fun k hk1 hk2=>g.block k hk2 (by simp;omega)) g.size (Nat.le_refl _)
theorem TmV.deeper {w:World} {L D D' d d':Nat} {v:Value} {t:Tm} (h:TmV w L D d v t) (hD:D≤D') (hd:d≤d'):TmV w L D' d' v t:=by
  obtain ⟨a1,l1,c1,a2,l2,c2,a3,l3,c3,e,hs⟩:=h
  exact ⟨a1,l1,c1,a2,l2,c2,a3,l3,c3,e,hs.wider (fun _ _ _ k=>k.deeper hD) (fun _ _ _ k=>k.deeper hd hD)⟩
structure Ev where
  s:ByteArray
  n:Int
  t:Tr
def EvC (w:World) (p D:Nat) (e:Ev) (cs:List Value):Prop:=∃ ao len cap,cs=[.string e.s,.int .i64 e.n,.int .i64 e.t.K,.int .i64 e.t.N,.slice ao len cap]∧Hs (p+1) w.heap.size w D ao len e.t.A
def EnC (w:World) (p D:Nat):List Ev→List Value→Prop
  | [],xs=>xs=[]
  | e :: es,xs=>∃ cs ys,xs=cs ++ ys∧EvC w p D e cs∧EnC w p D es ys
theorem EvC.grown {w w':World} {p D:Nat} {e:Ev} {cs:List Value} (h:EvC w p D e cs) (g:w.grownBy w' (some p)):EvC w' p D e cs:=by
  obtain ⟨ao,len,cap,e,hs⟩:=h
  exact ⟨ao,len,cap,e,hs.keep (fun k hk1 hk2=>g.block k hk2 (by simp;omega)) (Nat.le_refl _) g.size⟩
theorem EnC.grown {w w':World} {p D:Nat} (g:w.grownBy w' (some p)):∀ {es:List Ev} {xs:List Value},EnC w p D es xs→EnC w' p D es xs
  | [],xs,h=>h
  | e :: es,xs,⟨cs,ys,h1,h2,h3⟩=>⟨cs,ys,h1,h2.grown g,EnC.grown g h3⟩
theorem EnC.snoc {w:World} {p D:Nat} {e:Ev} {cs:List Value} (he:EvC w p D e cs):∀ {es:List Ev} {xs:List Value},EnC w p D es xs→EnC w p D (es ++ [e]) (xs ++ cs)
  | [],xs,h=>⟨cs,[],by rw [h];simp,he,rfl⟩
  | f :: es,xs,⟨c,ys,h1,h2,h3⟩=>⟨c,ys ++ cs,by rw [h1,List.append_assoc],h2,EnC.snoc he h3⟩
theorem EnC.len {w:World} {p D:Nat}:∀ {es:List Ev} {xs:List Value},EnC w p D es xs→xs.length=es.length * 5
  | [],xs,h=>by rw [h];rfl
  | e :: es,xs,⟨cs,ys,h1,⟨_,_,_,h2,_⟩,h3⟩=>by rw [h1,h2];simp [EnC.len h3];omega
theorem EnC.one {w:World} {p D:Nat}:∀ {es:List Ev} {xs:List Value},EnC w p D es xs→∀ u ∈ xs,u.oneCell'=true
  | [],xs,h=>by rw [h];simp
  | e :: es,xs,⟨cs,ys,h1,⟨_,_,_,h2,_⟩,h3⟩=>by
    intro u hu
    rw [h1,h2] at hu
    rcases List.mem_append.1 hu with hu | hu
    · simp at hu
      rcases hu with rfl | rfl | rfl | rfl | rfl <;> rfl
    · exact EnC.one h3 u hu
theorem EnC.get {w:World} {p D:Nat}:∀ {es:List Ev} {xs:List Value},EnC w p D es xs→∀ i (hi:i < es.length),∃ ao len cap,xs[i * 5]?=some (.string es[i].s)∧xs[i * 5+1]?=some (.int .i64 es[i].n)∧xs[i * 5+2]?=some (.int .i64 es[i].t.K)∧xs[i * 5+3]?=some (.int .i64 es[i].t.N)∧xs[i * 5+4]?=some (.slice ao len cap)∧Hs (p+1) w.heap.size w D ao len es[i].t.A
  | [],xs,h,i,hi=>by simp at hi
  | e :: es,xs,⟨cs,ys,h1,⟨ao,len,cap,h2,hs⟩,h3⟩,i,hi=>by
    cases i with
    | zero=>exact ⟨ao,len,cap,by rw [h1,h2];rfl,by rw [h1,h2];rfl,by rw [h1,h2];rfl,by rw [h1,h2];rfl,by rw [h1,h2];rfl,hs⟩
    | succ i =>
      obtain ⟨ao',len',cap',g0,g1,g2,g3,g4,g5⟩:=EnC.get h3 i (by simpa using hi)
      have hl:cs.length=5:=by rw [h2];rfl
      refine ⟨ao',len',cap',?_,?_,?_,?_,?_,by simpa using g5⟩
      all_goals
        rw [h1,List.getElem?_append_right (by omega),hl]
        first | (rw [show (i+1) * 5 - 5=i * 5 by omega];exact g0) | (rw [show (i+1) * 5+1 - 5=i * 5+1 by omega];exact g1) | (rw [show (i+1) * 5+2 - 5=i * 5+2 by omega];exact g2) | (rw [show (i+1) * 5+3 - 5=i * 5+3 by omega];exact g3) | (rw [show (i+1) * 5+4 - 5=i * 5+4 by omega];exact g4)
def EnV (w:World) (p D:Nat) (v:Value) (es:List Ev):Prop:=∃ ao len cap xs,v=.slice ao len cap∧len=es.length∧EnC w p D es xs∧∀ j u,xs[j]?=some u→∃ b o,ao=some ⟨b,o,none⟩∧p+1≤b∧b < w.heap.size∧w.cell? ⟨b,o+j,none⟩=some u
theorem EnV.grown {w w':World} {p D:Nat} {v:Value} {es:List Ev} (h:EnV w p D v es) (g:w.grownBy w' (some p)):EnV w' p D v es:=by
  obtain ⟨ao,len,cap,xs,h1,h2,h3,h4⟩:=h
  refine ⟨ao,len,cap,xs,h1,h2,h3.grown g,fun j u hu=>?_⟩
  obtain ⟨b,o,e,hb,hb2,hc⟩:=h4 j u hu
  exact ⟨b,o,e,hb,by have:=g.size;omega,(World.cell?_of_block (g.block b hb2 (by simp;omega))).trans hc⟩
theorem EnV.get {w:World} {p D:Nat} {v:Value} {es:List Ev} (h:EnV w p D v es) (i:Nat) (hi:i < es.length):∃ b o cap ao len c,v=.slice (some ⟨b,o,none⟩) es.length cap∧p+1≤b∧b < w.heap.size∧w.cell? ⟨b,o+i * 5,none⟩=some (.string es[i].s)∧w.cell? ⟨b,o+i * 5+1,none⟩=some (.int .i64 es[i].n)∧w.cell? ⟨b,o+i * 5+2,none⟩=some (.int .i64 es[i].t.K)∧w.cell? ⟨b,o+i * 5+3,none⟩=some (.int .i64 es[i].t.N)∧w.cell? ⟨b,o+i * 5+4,none⟩=some (.slice ao len c)∧Hs (p+1) w.heap.size w D ao len es[i].t.A:=by
  obtain ⟨ao,len,cap,xs,h1,h2,h3,h4⟩:=h
  obtain ⟨ao',len',c,g0,g1,g2,g3,g4,g5⟩:=h3.get i hi
  obtain ⟨b,o,e,hb,hb2,c0⟩:=h4 _ _ g0
  subst e
  have nxt:∀ j u,xs[j]?=some u→w.cell? ⟨b,o+j,none⟩=some u:=fun j u hu=>by
    obtain ⟨b',o',e',_,_,hc⟩:=h4 j u hu
    injection e' with e'
    injection e' with e1 e2
    subst e1 e2
    exact hc
  refine ⟨b,o,cap,ao',len',c,by rw [h1,h2],hb,hb2,c0,?_,?_,?_,?_,g5⟩
  · have:=nxt _ _ g1;rw [← Nat.add_assoc] at this;exact this
  · have:=nxt _ _ g2;rw [← Nat.add_assoc] at this;exact this
  · have:=nxt _ _ g3;rw [← Nat.add_assoc] at this;exact this
  · have:=nxt _ _ g4;rw [← Nat.add_assoc] at this;exact this
theorem EnV.form {w:World} {p D:Nat} {v:Value} {es:List Ev} (h:EnV w p D v es):∃ ao cap,v=.slice ao es.length cap:=by
  obtain ⟨ao,len,cap,xs,h1,h2,_⟩:=h
  exact ⟨ao,cap,by rw [h1,h2]⟩
theorem EnV.none (w:World) (p D:Nat) (ao:Option Addr) (cap:Nat):EnV w p D (.slice ao 0 cap) []:=⟨ao,0,cap,[],rfl,rfl,rfl,fun j u hu=>by simp at hu⟩
theorem Try.infoEv:(Try.prog.info? 93).map (fun i=>(i.zero,i.size,i.bytes))=some (some (.agg #[.string ⟨#[]⟩,.int .i64 0,.int .i64 0,.int .i64 0,.slice none 0 0]),5,64):=by kernel_rfl
set_option maxRecDepth 100000 in
theorem env_copy {w:World} {b n:Nat} {ao:Option Addr} (cap:Nat) {xs:List Value} (h0:w.heap[b]?=some (.cells #[] 93 (0,0))) (hxl:xs.length=n * 5) (hone:∀ u ∈ xs,u.oneCell'=true) (h4:∀ j u,xs[j]?=some u→∃ b o,ao=some ⟨b,o,none⟩∧w.cell? ⟨b,o+j,none⟩=some u) (hl:n≤1000) :
    ∃ ao2 cap2 w2,(Builtin.append_ #[59,59] 59 #[.slice (some ⟨b,0,none⟩) 0 0,.slice ao n cap]).run Try.prog w=.ok (.slice ao2 n cap2) w2∧w2.ownsRow b 93 5 (.slice ao2 n cap2) n xs∧w.grownBy w2 (some b):=by
  obtain ⟨i0,hi,hz0,hz1,hz2⟩:=info_parts Try.infoEv
  have hown:w.ownsRow b 93 5 (.slice (some ⟨b,0,none⟩) 0 0) 0 []:=⟨rfl,Or.inr ⟨b,0,#[],rfl,Nat.le_refl _,h0,Nat.le_refl _,by unfold maxLen;omega,rfl,rfl⟩⟩
  have hbl:b < w.heap.size:=(Array.getElem?_eq_some_iff.1 h0).1
  by_cases hn:n=0
  · subst hn
    have hx:xs=[]:=List.length_eq_zero_iff.1 (by omega)
    subst hx
    refine ⟨_,_,w,?_,hown,grown_refl' _ _⟩
    refine run_append_nothing (P:=Try.prog) w 59 59 59 93 i0 Try.underlying59 hi _ 0 0 (Nat.le_refl _) _ ?_
    cases ao with
    | none=>exact Src.ofNil _ Try.underlying59 cap
    | some a=>exact Src.ofSlice _ Try.underlying59 a 0 cap [] (by simp) (by simp) (by simp)
  · obtain ⟨u,hu⟩:∃ u,xs[0]?=some u:=⟨_,List.getElem?_eq_getElem (by omega)⟩
    obtain ⟨sb,so,rfl,_⟩:=h4 0 u hu
    obtain ⟨g,cap2,w2,hrun,hown2,hgrow,hat,hlt⟩:=run_append_lies (P:=Try.prog) w 59 59 b 93 i0 _ 5 64 Try.underlying59 hi hz0 hz1 hz2 rfl (by omega) _ 0 _ hown
      ⟨sb,so,none⟩ n cap xs hxl (fun j u hu=>by
        obtain ⟨b',o',e',hc⟩:=h4 j u hu
        injection e' with e'
        injection e' with e1 e2
        subst e1 e2
        have ea:(⟨sb,so,none⟩:Addr).add j=⟨sb,so+j,none⟩:=by unfold Addr.add;split <;> simp_all
        rw [ea];exact hc) hone (by omega) (by unfold maxLen;omega) (by omega) (by omega) _ rfl
    simp only [Nat.zero_add,List.nil_append] at hrun hown2
    exact ⟨_,_,w2,hrun,hown2,hgrow⟩
set_option maxRecDepth 100000 in
theorem env_push {X w:World} {p D base sb:Nat} {v:Value} {es:List Ev} {e:Ev} {xs:List Value} {c0 c1 c2 c3 c4:Value} (h3:EnC X p D es xs) (he:EvC X p D e [c0,c1,c2,c3,c4]) (hX:Below X.heap.size X w) (hb:X.heap.size≤base) (hp:p < X.heap.size) (hbw:base≤w.heap.size) (hown:w.ownsRow base 93 5 v es.length xs)
    (hsb:w.heap[sb]?=some (.cells #[c0,c1,c2,c3,c4] 93 (0,0))) (hl:es.length≤1000) :
    ∃ g cap w2,(Builtin.append_ #[59,59] 59 #[v,.slice (some ⟨sb,0,none⟩) 1 1]).run Try.prog w=.ok (.slice (some ⟨g,0,none⟩) (es.length+1) cap) w2∧EnV w2 p D (.slice (some ⟨g,0,none⟩) (es.length+1) cap) (es ++ [e])∧Below X.heap.size X w2:=by
  obtain ⟨i0,hi,hz0,hz1,hz2⟩:=info_parts Try.infoEv
  have hone:∀ u ∈ [c0,c1,c2,c3,c4],u.oneCell'=true:=by
    obtain ⟨_,_,_,h,_⟩:=he
    rw [h]
    intro u hu
    simp at hu
    rcases hu with rfl | rfl | rfl | rfl | rfl <;> rfl
  obtain ⟨g,cap,w2,hrun,hown2,hgrow,hat,hlt⟩:=run_append_lies (P:=Try.prog) w 59 59 base 93 i0 _ 5 64 Try.underlying59 hi hz0 hz1 hz2 rfl (by omega) v es.length _ hown
    ⟨sb,0,none⟩ 1 1 [c0,c1,c2,c3,c4] rfl (World.news_of_block (cs:=#[c0,c1,c2,c3,c4]) (t:=93) (fr:=(0,0)) hsb) hone (by omega) (by unfold maxLen;omega) (by omega) hbw _ rfl
  have hvb:∀ g,v.ownBlock=some g→base≤g:=by
    intro g hg
    rcases hown.2 with ⟨rfl,_⟩ | ⟨g',cap,cur,rfl,hb',_⟩
    · cases hg
    · have e:g'=g:=by simpa [Value.ownBlock] using hg
      subst e;exact hb'
  have hz:=hX.size
  have hB2:Below X.heap.size X w2:=⟨hgrow.os.trans hX.os,hgrow.tape.trans hX.tape,hgrow.output.trans hX.output,Nat.le_trans hz hgrow.size,fun q hq=>(hgrow.block q (by omega) (fun e=>by have:=hvb q e.symm;omega)).trans (hX.block q hq)⟩
  refine ⟨g,cap,w2,hrun,?_,hB2⟩
  have hg2:X.grownBy w2 (some p):=grown_below _ hB2
  rcases hown2.2 with ⟨h,_⟩ | ⟨g',cap',cur,hv,hg',hh,q1,q2,q3,q4⟩
  · cases h
  · injection hv with hv1 hv2 hv3
    injection hv1 with hv1
    injection hv1 with hv1
    subst hv1 hv3
    refine ⟨_,_,_,xs ++ [c0,c1,c2,c3,c4],rfl,by simp,(h3.grown hg2).snoc (he.grown hg2),fun j u hu=>⟨g,0,rfl,by omega,(Array.getElem?_eq_some_iff.1 hh).1,?_⟩⟩
    rw [Nat.zero_add,row_cell hh,← Array.getElem?_toList]
    rw [← q4,List.getElem?_take] at hu
    split at hu
    · exact hu
    · cases hu
theorem hs_lit1 {w:World} {L B D b:Nat} {t:Tr} {ao:Option Addr} {len cap:Nat} {τ:TypeId} (h:w.heap[b]?=some (.cells #[.int .i64 t.K,.int .i64 t.N,.slice ao len cap] τ (0,0))) (hb:L≤b) (hB:b < B) (hs:Hs L B w D ao len t.A) :
    Hs L B w (D+1) (some ⟨b,0,none⟩) 1 [t]:=by
  refine ⟨rfl,by omega,fun i hi=>?_⟩
  obtain rfl:i=0:=by simpa using hi
  exact ⟨b,0,rfl,hb,hB,ao,len,cap,row_cell h 0,row_cell h 1,row_cell h 2,hs⟩
theorem hs_lit2 {w:World} {L B D b:Nat} {t t':Tr} {ao:Option Addr} {len cap:Nat} {ao':Option Addr} {len' cap':Nat} {τ:TypeId} (h:w.heap[b]?=some (.cells #[.int .i64 t.K,.int .i64 t.N,.slice ao len cap,.int .i64 t'.K,.int .i64 t'.N,.slice ao' len' cap'] τ (0,0))) (hb:L≤b) (hB:b < B) (hs:Hs L B w D ao len t.A) (hs':Hs L B w D ao' len' t'.A) :
    Hs L B w (D+1) (some ⟨b,0,none⟩) 2 [t,t']:=by
  refine ⟨rfl,by omega,fun i hi=>?_⟩
  have:i=0∨i=1:=by simp at hi;omega
  rcases this with rfl | rfl
  · exact ⟨b,0,rfl,hb,hB,ao,len,cap,row_cell h 0,row_cell h 1,row_cell h 2,hs⟩
  · exact ⟨b,0,rfl,hb,hB,ao',len',cap',row_cell h 3,row_cell h 4,row_cell h 5,hs'⟩
theorem hm_lit1 {w:World} {L B D d b:Nat} {t:Tm} {a1 a2 a3:Option Addr} {l1 c1 l2 c2 l3 c3:Nat} {τ:TypeId} (h:w.heap[b]?=some (.cells #[.int .i64 t.K,.int .i64 t.N,.string t.S,.string t.Z,.int .i64 t.T.K,.int .i64 t.T.N,.slice a1 l1 c1,.slice a2 l2 c2,.slice a3 l3 c3] τ (0,0))) (hb:L≤b) (hB:b < B) (hs:Fm L B w D d t a1 l1 a2 l2 a3 l3) :
    Hm L B w D (d+1) (some ⟨b,0,none⟩) 1 [t]:=by
  refine ⟨rfl,by omega,fun i hi=>?_⟩
  obtain rfl:i=0:=by simpa using hi
  exact ⟨b,0,rfl,hb,hB,a1,l1,c1,a2,l2,c2,a3,l3,c3,⟨row_cell h 0,row_cell h 1,row_cell h 2,row_cell h 3,row_cell h 4,row_cell h 5,row_cell h 6,row_cell h 7,row_cell h 8⟩,hs⟩
def cellsT (t:Tm) (a1:Option Addr) (l1 c1:Nat) (a2:Option Addr) (l2 c2:Nat) (a3:Option Addr) (l3 c3:Nat):List Value:=[.int .i64 t.K,.int .i64 t.N,.string t.S,.string t.Z,.int .i64 t.T.K,.int .i64 t.T.N,.slice a1 l1 c1,.slice a2 l2 c2,.slice a3 l3 c3]
theorem hm_lit2 {w:World} {L B D d b:Nat} {t u:Tm} {a1 a2 a3:Option Addr} {l1 c1 l2 c2 l3 c3:Nat} {b1 b2 b3:Option Addr} {m1 e1 m2 e2 m3 e3:Nat} {τ:TypeId} (h:w.heap[b]?=some (.cells (cellsT t a1 l1 c1 a2 l2 c2 a3 l3 c3 ++ cellsT u b1 m1 e1 b2 m2 e2 b3 m3 e3).toArray τ (0,0))) (hb:L≤b) (hB:b < B) (hs:Fm L B w D d t a1 l1 a2 l2 a3 l3) (hu:Fm L B w D d u b1 m1 b2 m2 b3 m3) :
    Hm L B w D (d+1) (some ⟨b,0,none⟩) 2 [t,u]:=by
  refine ⟨rfl,by omega,fun i hi=>?_⟩
  have:i=0∨i=1:=by simp at hi;omega
  rcases this with rfl | rfl
  · exact ⟨b,0,rfl,hb,hB,a1,l1,c1,a2,l2,c2,a3,l3,c3,⟨row_cell h 0,row_cell h 1,row_cell h 2,row_cell h 3,row_cell h 4,row_cell h 5,row_cell h 6,row_cell h 7,row_cell h 8⟩,hs⟩
  · exact ⟨b,0,rfl,hb,hB,b1,m1,e1,b2,m2,e2,b3,m3,e3,⟨row_cell h 9,row_cell h 10,row_cell h 11,row_cell h 12,row_cell h 13,row_cell h 14,row_cell h 15,row_cell h 16,row_cell h 17⟩,hu⟩
theorem hm_lit3 {w:World} {L B D d b:Nat} {t u x:Tm} {a1 a2 a3:Option Addr} {l1 c1 l2 c2 l3 c3:Nat} {b1 b2 b3:Option Addr} {m1 e1 m2 e2 m3 e3:Nat} {f1 f2 f3:Option Addr} {n1 g1 n2 g2 n3 g3:Nat} {τ:TypeId} (h:w.heap[b]?=some (.cells (cellsT t a1 l1 c1 a2 l2 c2 a3 l3 c3 ++ cellsT u b1 m1 e1 b2 m2 e2 b3 m3 e3 ++ cellsT x f1 n1 g1 f2 n2 g2 f3 n3 g3).toArray τ (0,0))) (hb:L≤b) (hB:b < B) (hs:Fm L B w D d t a1 l1 a2 l2 a3 l3) (hu:Fm L B w D d u b1 m1 b2 m2 b3 m3) (hx:Fm L B w D d x f1 n1 f2 n2 f3 n3) :
    Hm L B w D (d+1) (some ⟨b,0,none⟩) 3 [t,u,x]:=by
  refine ⟨rfl,by omega,fun i hi=>?_⟩
  have:i=0∨i=1∨i=2:=by simp at hi;omega
  rcases this with rfl | rfl | rfl
  · exact ⟨b,0,rfl,hb,hB,a1,l1,c1,a2,l2,c2,a3,l3,c3,⟨row_cell h 0,row_cell h 1,row_cell h 2,row_cell h 3,row_cell h 4,row_cell h 5,row_cell h 6,row_cell h 7,row_cell h 8⟩,hs⟩
  · exact ⟨b,0,rfl,hb,hB,b1,m1,e1,b2,m2,e2,b3,m3,e3,⟨row_cell h 9,row_cell h 10,row_cell h 11,row_cell h 12,row_cell h 13,row_cell h 14,row_cell h 15,row_cell h 16,row_cell h 17⟩,hu⟩
  · exact ⟨b,0,rfl,hb,hB,f1,n1,g1,f2,n2,g2,f3,n3,g3,⟨row_cell h 18,row_cell h 19,row_cell h 20,row_cell h 21,row_cell h 22,row_cell h 23,row_cell h 24,row_cell h 25,row_cell h 26⟩,hx⟩
theorem nodesW_up:∀ (k:Nat) (t:Tr) (m:Nat),nodesW k t=some m→nodesW (k+1) t=some m
  | 0,t,m,h=>by simp [nodesW] at h
  | k+1,t,m,h=>by
    have key:∀ (l:List Tr) (a:Nat),nodesL (nodesW k) l=some a→nodesL (nodesW (k+1)) l=some a:=by
      intro l
      induction l with
      | nil=>intro a h;exact h
      | cons u l ih =>
        intro a h
        simp only [nodesL] at h ⊢
        cases hu:nodesW k u with
        | none=>simp [hu] at h
        | some x =>
          cases hl:nodesL (nodesW k) l with
          | none=>simp [hu,hl] at h
          | some y =>
            rw [nodesW_up k u x hu,ih y hl]
            simpa [hu,hl] using h
    rw [nodesW] at h ⊢
    split at h
    · rename_i hn
      rw [if_pos hn]
      cases hl:nodesL (nodesW k) t.A with
      | none=>simp [hl] at h
      | some y=>rw [key _ _ hl];rw [hl] at h;exact h
    · cases h
theorem nodesW_le {k k':Nat} (h:k≤k') {t:Tr} {m:Nat} (hm:nodesW k t=some m):nodesW k' t=some m:=by
  induction h with
  | refl=>exact hm
  | step _ ih=>exact nodesW_up _ _ _ ih
def Ty2 (w:World) (p k:Nat) (v:Value) (t:Tr):Prop:=TyV w p k v t∧∃ m,nodesW k t=some m
theorem Ty2.grown {w w':World} {p k:Nat} {v:Value} {t:Tr} (h:Ty2 w p k v t) (g:w.grownBy w' (some p)):Ty2 w' p k v t:=⟨h.1.grown g,h.2⟩
theorem Ty2.up {w:World} {p k k':Nat} {v:Value} {t:Tr} (h:Ty2 w p k v t) (hk:k≤k'):Ty2 w p k' v t:=⟨h.1.deeper hk,let ⟨m,hm⟩:=h.2;⟨m,nodesW_le hk hm⟩⟩
def En2 (w:World) (p k:Nat) (v:Value) (es:List Ev):Prop:=EnV w p k v es∧∀ e ∈ es,(∃ m,nodesW k e.t=some m)∧(e.n=0∨(0≤e.n∧e.n≤2∧RtV 4 e.n e.t))∧e.s.size≤8
theorem En2.grown {w w':World} {p k:Nat} {v:Value} {es:List Ev} (h:En2 w p k v es) (g:w.grownBy w' (some p)):En2 w' p k v es:=⟨h.1.grown g,h.2⟩
end Go.Proofs.Ytleghjgpnefliaa
