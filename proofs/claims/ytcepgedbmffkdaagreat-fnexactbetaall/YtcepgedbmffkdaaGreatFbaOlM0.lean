/-
  A map keyed by where a list begins, with lists as its values; what is still to be copied: no walk. (Written by mkol.py.)
-/
import Derived.Test.YtcepgedbmffkdaaGreatFbaZ20
import Derived.LaidEqlPtr
import Derived.Laws.StructEq
import Derived.Laws.CopyRow
import Derived.MapKept
namespace Go.Proofs.YtcepgedbmffkdaaGreat
open Go.RowKit
set_option linter.unusedVariables false
set_option linter.unusedSimpArgs false
theorem Tryz.stoodOM:Tryz.prog.stoodInHeld 141=false:=by kernel_rfl
theorem Tryz.infoEM:(Tryz.prog.info? 34).map (fun i=>i.size)=some 9:=by kernel_rfl
theorem Tryz.infoFM:(Tryz.prog.info? 34).map (fun i=>(i.zero,i.size,i.bytes))=some (some (.agg #[.int .i64 0,.int .i64 0,.string ⟨#[]⟩,.string ⟨#[]⟩,.int .i64 0,.int .i64 0,.slice none 0 0,.slice none 0 0,.slice none 0 0]),9,136):=by kernel_rfl
theorem Tryz.infoPM:(Tryz.prog.info? 50).map (fun i=>(i.zero,i.size,i.bytes))=some (some (.pointer none),1,8):=by kernel_rfl
theorem Tryz.infoSM:(Tryz.prog.info? 32).map (fun i=>i.zero)=some (some (.slice none 0 0)):=by kernel_rfl
def keyM (c n:Nat):Value:=.agg #[.pointer (some ⟨c,0,none⟩),.int .i64 n]
set_option maxRecDepth 100000 in
set_option maxHeartbeats 1000000 in
theorem keyOM_other {w:World} {c c' n n':Nat} {cs cs':Array Value} {t t':TypeId} (hne:c≠c') (h:w.heap[c]?=some (.cells cs t (0,0))) (h':w.heap[c']?=some (.cells cs' t' (0,0))) :
    (Op.equal 141 (keyM c n) (keyM c' n')).run Tryz.prog w=.ok false w:=by
  obtain ⟨i0,hi,hz⟩:=Option.map_eq_some_iff.1 Tryz.infoEM
  have hA:(⟨c,0,none⟩:Addr)≠⟨c',0,none⟩:=by intro e;exact hne (congrArg Addr.block e)
  have hs:=run_sameAddr_other (P:=Tryz.prog) w (a:=⟨c,0,none⟩) (b:=⟨c',0,none⟩) hA h h'
  have hp:∀ d:Nat,(Op.equalIn (d+1) 50 (.pointer (some ⟨c,0,none⟩)) (.pointer (some ⟨c',0,none⟩))).run Tryz.prog w=.ok false w:=fun d=>by
    simp [Op.equalIn,run_underlying Tryz.underlying50,sizeOf,typeInfo,hi,hz,hs]
  have hpart:∀ a b:Value,(part 50 #[a,b] 0).run Tryz.prog w=.ok a w:=fun a b=>by
    simp [part,isAgg,run_underlying Tryz.underlying50]
  unfold Op.equal keyM
  show (Op.equalIn (9999+1) _ _ _).run _ _=_
  rw [run_equalIn_struct w 9999 _ _ _ (by unfold Program.fieldsOf;rw [Tryz.underlying141]) Tryz.stoodOM]
  simp [Program.fieldsOf,Tryz.underlying141,Op.eqFields,hpart,hp 9998]
def KeysM (es:Array MapEntry) (cs:List Nat):Prop:=∀ e ∈ es.toList,∃ c n,c ∈ cs∧e.key=keyM c n
theorem findM {w:World} {c n:Nat} {cs:List Nat} (hfr:∀ x,x=c∨x ∈ cs→∃ a t,w.heap[x]?=some (.cells a t (0,0))) (hc:c ∉ cs) :
    ∀ (es:List MapEntry) (i:Nat),(∀ e ∈ es,∃ c n,c ∈ cs∧e.key=keyM c n) →
      (Instr.findAsking 141 (keyM c n) es i).run Tryz.prog w=.ok none w:=by
  intro es
  induction es with
  | nil=>intro i _;simp [Instr.findAsking]
  | cons e es ih =>
    intro i h
    obtain ⟨c',n',hc',he⟩:=h e (by simp)
    have hcc:c≠c':=fun e=>hc (e ▸ hc')
    obtain ⟨a,t,ha⟩:=hfr c (Or.inl rfl)
    obtain ⟨a',t',ha'⟩:=hfr c' (Or.inr hc')
    have hk:=keyOM_other (n:=n) (n':=n') hcc ha ha'
    have h1:=ih (i+1) (fun e he=>h e (by simp [he]))
    simp [Instr.findAsking,he,hk,h1]
theorem findOM_key {w:World} {c n:Nat} {cs:List Nat} (hfr:∀ x,x=c∨x ∈ cs→∃ a t,w.heap[x]?=some (.cells a t (0,0))) (hc:c ∉ cs) {es:Array MapEntry} (hk:KeysM es cs) :
    (Instr.findKey 141 (keyM c n) es.toList).run Tryz.prog w=.ok none w:=by
  have h2:=findM (w:=w) (c:=c) (n:=n) hfr hc es.toList 0 hk
  have hred:(Instr.findKey 141 (keyM c n) es.toList).run Tryz.prog w=(Instr.findAsking 141 (keyM c n) es.toList 0).run Tryz.prog w:=by
    unfold Instr.findKey
    simp only [Sem.run_bind,run_underlying Tryz.underlying141,Result.andThen_ok]
    cases hes:es.toList with
    | nil=>simp [Instr.findNow,Instr.findAsking]
    | cons e l=>simp [Instr.findNow,Instr.sameNow]
  rw [hred,h2]
set_option maxRecDepth 100000 in
theorem checkM {w:World} (b:Bool) (c n:Nat):(Instr.checkKey b 10000 141 (keyM c n)).run Tryz.prog w=.ok () w:=by
  have hp:∀ (d:Nat) (v:Option Addr),(Instr.checkKey b (d+1) 50 (.pointer v)).run Tryz.prog w=.ok () w:=fun d v=>by simp [Instr.checkKey,run_underlying Tryz.underlying50]
  have hn:∀ (d:Nat) (v:Int),(Instr.checkKey b (d+1) 3 (.int .i64 v)).run Tryz.prog w=.ok () w:=fun d v=>by simp [Instr.checkKey,run_underlying Tryz.underlying3]
  have hpart0:∀ a b:Value,(part 50 #[a,b] 0).run Tryz.prog w=.ok a w:=fun a b=>by simp [part,isAgg,run_underlying Tryz.underlying50]
  have hpart1:∀ a b:Value,(part 3 #[a,b] 1).run Tryz.prog w=.ok b w:=fun a b=>by simp [part,isAgg,run_underlying Tryz.underlying3]
  unfold keyM
  show (Instr.checkKey b (9999+1) _ _).run _ _=_
  rw [Instr.checkKey]
  simp only [Sem.run_bind,run_underlying Tryz.underlying141,Result.andThen_ok]
  simp [hpart0,hpart1,hp 9998,hn 9998]
theorem lookupM {w:World} {mp c n:Nat} {cs:List Nat} {es:Array MapEntry} {clock:Nat} (hm:w.heap[mp]?=some (.map es clock)) (hfr:∀ x,x=c∨x ∈ cs→∃ a t,w.heap[x]?=some (.cells a t (0,0))) (hc:c ∉ cs) (hk:KeysM es cs) :
    (Instr.lookup 75 (.map (some mp)) (keyM c n) true).run Tryz.prog w=.ok (.tuple #[.slice none 0 0,.bool false]) w:=by
  have h1:=findOM_key (w:=w) (n:=n) hfr hc hk
  have h2:=checkM (w:=w) es.isEmpty c n
  obtain ⟨i1,hi1,hz1⟩:=Option.map_eq_some_iff.1 Tryz.infoSM
  have hz:(zeroValue 32).run Tryz.prog w=.ok (.slice none 0 0) w:=by
    simp [zeroValue,typeInfo,hi1,hz1]
  have hg:=MapKept.run_getObj_map (P:=Tryz.prog) hm
  unfold Instr.lookup
  simp [run_underlying Tryz.underlying75,hg,h1,h2,hz]
theorem lookupM_nil {w:World} {c n:Nat} {a:Array Value} {t:TypeId} (hf:w.heap[c]?=some (.cells a t (0,0))) :
    (Instr.lookup 75 (.map none) (keyM c n) true).run Tryz.prog w=.ok (.tuple #[.slice none 0 0,.bool false]) w:=by
  have h2:=checkM (w:=w) true c n
  have h1:=findOM_key (w:=w) (n:=n) (c:=c) (cs:=[]) (es:=#[]) (fun x hx=>by
    rcases hx with rfl | hx
    · exact ⟨a,t,hf⟩
    · simp at hx) (by simp) (fun e he=>by simp at he)
  simp only [List.toList_toArray] at h1
  obtain ⟨i1,hi1,hz1⟩:=Option.map_eq_some_iff.1 Tryz.infoSM
  have hz:(zeroValue 32).run Tryz.prog w=.ok (.slice none 0 0) w:=by
    simp [zeroValue,typeInfo,hi1,hz1]
  unfold Instr.lookup
  simp [run_underlying Tryz.underlying75,h1,h2,hz]
theorem updateM {w:World} {mp c n:Nat} {cs:List Nat} {es:Array MapEntry} {clock:Nat} (v:Value) (hm:w.heap[mp]?=some (.map es clock)) (hfr:∀ x,x=c∨x ∈ cs→∃ a t,w.heap[x]?=some (.cells a t (0,0))) (hc:c ∉ cs) (hk:KeysM es cs) :
    ∃ es' clock',(Instr.mapUpdate 75 (.map (some mp)) (keyM c n) v).run Tryz.prog w=.ok () { w with heap:=w.heap.setIfInBounds mp (.map es' clock') }∧KeysM es' (c :: cs):=by
  have h2:=checkM (w:=w) false c n
  have hg:=MapKept.run_getObj_map (P:=Tryz.prog) hm
  have hs:=fun o=>MapKept.run_setObj_map (P:=Tryz.prog) o hm
  have h1:=findOM_key (w:=w) (n:=n) hfr hc hk
  refine ⟨es.push { key:=keyM c n,val:=v,born:=clock },clock+1,?_,?_⟩
  · unfold Instr.mapUpdate
    simp [run_underlying Tryz.underlying75,hg,hs,h1,h2]
  · intro x hx
    rw [Array.toList_push,List.mem_append] at hx
    rcases hx with hx | hx
    · obtain ⟨c',n',h3,h4⟩:=hk x hx
      exact ⟨c',n',List.mem_cons_of_mem _ h3,h4⟩
    · simp at hx;subst hx;exact ⟨c,n,by simp,rfl⟩
def mvalM (op mp:Nat):Value:=.map (if mp=op then none else some mp)
theorem mvalM_no (op:Nat):mvalM op op=.map none:=by unfold mvalM;rw [if_pos rfl]
theorem mvalM_some {op mp:Nat} (h:mp≠op):mvalM op mp=.map (some mp):=by unfold mvalM;rw [if_neg h]
structure OlM (base:Nat) (wr:World) (op mp:Nat) (v:Value) (ps:List (Nat × Nat)) (cs:List Nat):Prop where
  bs:base≤wr.heap.size
  opl:base≤op
  mpl:base≤mp
  box:∃ z:Int,wr.heap[op]?=some (.cells #[mvalM op mp,v,.int .i64 z] 77 (0,0))
  row:wr.ownsRow 0 50 1 v ps.length (ps.map fun p=>.pointer (some ⟨p.1,p.2,none⟩))
  blk:∀ x,v.ownBlock=some x→base≤x
  map:(mp=op∧cs=[])∨(mp≠op∧∃ es clock,wr.heap[mp]?=some (.map es clock)∧KeysM es cs)
  key:∀ c ∈ cs,c < base∧∃ a t,wr.heap[c]?=some (.cells a t (0,0))
theorem olM_map {base:Nat} {wr:World} {op mp:Nat} {v:Value} {ps:List (Nat × Nat)} {cs:List Nat} (h:OlM base wr op mp v ps cs) {w1:World} (hb:mp≠op→w1.heap[mp]?=wr.heap[mp]?):(mp=op∧cs=[])∨(mp≠op∧∃ es clock,w1.heap[mp]?=some (.map es clock)∧KeysM es cs):=by
  rcases h.map with h1 | ⟨h1,es,clock,hm,hk⟩
  · exact Or.inl h1
  · exact Or.inr ⟨h1,es,clock,(hb h1).trans hm,hk⟩
theorem olM_keep {base:Nat} {wr w1:World} {op mp:Nat} {v:Value} {ps:List (Nat × Nat)} {cs:List Nat} (h:OlM base wr op mp v ps cs) (hs:wr.heap.size≤w1.heap.size) (hb:∀ b,b=op∨b=mp∨v.ownBlock=some b∨b < base→w1.heap[b]?=wr.heap[b]?):OlM base w1 op mp v ps cs:=by
  obtain ⟨z,hz⟩:=h.box
  refine ⟨Nat.le_trans h.bs hs,h.opl,h.mpl,⟨z,(hb op (Or.inl rfl)).trans hz⟩,own_keep h.row fun g hg=>hb g (Or.inr (Or.inr (Or.inl hg))),h.blk,olM_map h fun _=>hb mp (Or.inr (Or.inl rfl)),fun c hc=>?_⟩
  obtain ⟨h1,a,t,h2⟩:=h.key c hc
  exact ⟨h1,a,t,(hb c (Or.inr (Or.inr (Or.inr h1)))).trans h2⟩
theorem olM_in {base:Nat} {wr:World} {op mp:Nat} {v:Value} {ps:List (Nat × Nat)} {cs:List Nat} (h:OlM base wr op mp v ps cs):op < wr.heap.size∧mp < wr.heap.size∧∀ x,v.ownBlock=some x→x < wr.heap.size:=by
  obtain ⟨z,hz⟩:=h.box
  exact ⟨(Array.getElem?_eq_some_iff.1 hz).1,(by rcases h.map with ⟨h1,_⟩ | ⟨_,es,clock,hm,_⟩;rw [h1];exact (Array.getElem?_eq_some_iff.1 hz).1;exact (Array.getElem?_eq_some_iff.1 hm).1),fun x hx=>(own_cells h.row hx).1⟩
theorem olM_below {base:Nat} {wr w1:World} {op mp:Nat} {v:Value} {ps:List (Nat × Nat)} {cs:List Nat} (h:OlM base wr op mp v ps cs) (hb:Below wr.heap.size wr w1):OlM base w1 op mp v ps cs:=by
  obtain ⟨h1,h2,h3⟩:=olM_in h
  refine olM_keep h hb.size fun b hb'=>hb.block b ?_
  rcases hb' with rfl | rfl | hb' | hb'
  · exact h1
  · exact h2
  · exact h3 b hb'
  · have:=h.bs;omega
theorem olM_apart {base:Nat} {wr:World} {op mp:Nat} {v:Value} {ps:List (Nat × Nat)} {cs:List Nat} (h:OlM base wr op mp v ps cs):v.ownBlock≠some op∧v.ownBlock≠some mp:=by
  obtain ⟨z,hz⟩:=h.box
  have h1:v.ownBlock≠some op:=fun e=>by
    obtain ⟨_,cur,fr,e1⟩:=own_cells h.row e
    rw [hz] at e1;cases e1
  refine ⟨h1,?_⟩
  rcases h.map with ⟨h2,_⟩ | ⟨_,es,clock,hm,_⟩
  · rw [h2];exact h1
  · intro e
    obtain ⟨_,cur,fr,e1⟩:=own_cells h.row e
    rw [hm] at e1;cases e1
theorem olM_look {base:Nat} {wr:World} {op mp:Nat} {v:Value} {ps:List (Nat × Nat)} {cs:List Nat} (h:OlM base wr op mp v ps cs) (c n:Nat) (hc:c ∉ cs) {a:Array Value} {t:TypeId} (hf:wr.heap[c]?=some (.cells a t (0,0))) :
    (Instr.lookup 75 (mvalM op mp) (keyM c n) true).run Tryz.prog wr=.ok (.tuple #[.slice none 0 0,.bool false]) wr:=by
  rcases h.map with ⟨rfl,rfl⟩ | ⟨hne,es,clock,hm,hk⟩
  · rw [mvalM_no]
    exact lookupM_nil hf
  · rw [mvalM_some hne]
    exact lookupM hm (fun x hx=>by
      rcases hx with rfl | hx
      · exact ⟨a,t,hf⟩
      · exact (h.key x hx).2) hc hk
structure ChgM (op mp:Nat) (v v':Value) (wr w':World):Prop where
  os:w'.os=wr.os
  tape:w'.tape=wr.tape
  output:w'.output=wr.output
  size:wr.heap.size≤w'.heap.size
  block:∀ b,b < wr.heap.size→b≠op→b≠mp→v.ownBlock≠some b→w'.heap[b]?=wr.heap[b]?
  vb:∀ x,v'.ownBlock=some x→v.ownBlock=some x∨wr.heap.size≤x
theorem ChgM.refl (op mp:Nat) (v:Value) (w:World):ChgM op mp v v w w:=⟨rfl,rfl,rfl,Nat.le_refl _,fun _ _ _ _ _=>rfl,fun _ h=>Or.inl h⟩
theorem ChgM.trans {op mp:Nat} {v v1 v2:Value} {wr w1 w2:World} (h:ChgM op mp v v1 wr w1) (k:ChgM op mp v1 v2 w1 w2):ChgM op mp v v2 wr w2:=by
  refine ⟨k.os.trans h.os,k.tape.trans h.tape,k.output.trans h.output,Nat.le_trans h.size k.size,fun b hb h1 h2 h3=>?_,fun x hx=>?_⟩
  · refine (k.block b (Nat.lt_of_lt_of_le hb h.size) h1 h2 fun e=>?_).trans (h.block b hb h1 h2 h3)
    rcases h.vb b e with e | e
    · exact h3 e
    · omega
  · have:=h.size
    rcases k.vb x hx with e | e
    · exact h.vb x e
    · exact Or.inr (by omega)
theorem ChgM.transN {op mp mp':Nat} {v v1 v2:Value} {wr w1 w2:World} (h:ChgM op mp v v1 wr w1) (k:ChgM op mp' v1 v2 w1 w2) (hm:mp'=mp∨wr.heap.size≤mp'):ChgM op mp v v2 wr w2:=by
  refine ⟨k.os.trans h.os,k.tape.trans h.tape,k.output.trans h.output,Nat.le_trans h.size k.size,fun b hb h1 h2 h3=>?_,fun x hx=>?_⟩
  · refine (k.block b (Nat.lt_of_lt_of_le hb h.size) h1 (by rcases hm with e | e;rw [e];exact h2;omega) fun e=>?_).trans (h.block b hb h1 h2 h3)
    rcases h.vb b e with e | e
    · exact h3 e
    · omega
  · have:=h.size
    rcases k.vb x hx with e | e
    · exact h.vb x e
    · exact Or.inr (by omega)
theorem ChgM.below {op mp:Nat} {v v1:Value} {wr w1 w2:World} (h:ChgM op mp v v1 wr w1) (k:Below w1.heap.size w1 w2):ChgM op mp v v1 wr w2 :=
  ⟨k.os.trans h.os,k.tape.trans h.tape,k.output.trans h.output,Nat.le_trans h.size k.size,fun b hb h1 h2 h3=>(k.block b (Nat.lt_of_lt_of_le hb h.size)).trans (h.block b hb h1 h2 h3),h.vb⟩
theorem ChgM.setOp {op mp:Nat} {v v1:Value} {wr w1:World} (h:ChgM op mp v v1 wr w1) (o:Nat) (u:Value):ChgM op mp v v1 wr (w1.setCell ⟨op,o,none⟩ u) :=
  ⟨h.os,h.tape,h.output,by simpa using h.size,fun b hb h1 h2 h3=>(row_other _ _ _ h1).trans (h.block b hb h1 h2 h3),h.vb⟩
theorem olM_push {base:Nat} {wr:World} {op mp:Nat} {v:Value} {ps:List (Nat × Nat)} {cs:List Nat} (h:OlM base wr op mp v ps cs) (hsz:ps.length≤8388608) (p:Nat × Nat) :
    ∃ g cap w2,(Builtin.append_ #[74,74] 74 #[v,.slice (some ⟨wr.heap.size,0,none⟩) 1 1]).run Tryz.prog (wr.alloc (.cells #[.pointer (some ⟨p.1,p.2,none⟩)] 50))=.ok (.slice (some ⟨g,0,none⟩) (ps.length+1) cap) w2 ∧
      OlM base (w2.setCell ⟨op,1,none⟩ (.slice (some ⟨g,0,none⟩) (ps.length+1) cap)) op mp (.slice (some ⟨g,0,none⟩) (ps.length+1) cap) (ps ++ [p]) cs ∧
      ChgM op mp v (.slice (some ⟨g,0,none⟩) (ps.length+1) cap) wr w2∧wr.heap.size < w2.heap.size∧∃ z:Int,w2.heap[op]?=some (.cells #[mvalM op mp,v,.int .i64 z] 77 (0,0)):=by
  obtain ⟨i0,hi,hz0,hz1,hz2⟩:=info_parts Tryz.infoPM
  have hX:Below wr.heap.size wr (wr.alloc (.cells #[.pointer (some ⟨p.1,p.2,none⟩)] 50)):=(Below.refl _ _).alloc (Nat.le_refl _) _
  have h1:=olM_below h hX
  have hgw:=h.bs
  obtain ⟨i1,i2,i3⟩:=olM_in h
  obtain ⟨g,cap,w2,hrun,hown2,hgrow,hat,hlt⟩:=run_append_lies (P:=Tryz.prog) (wr.alloc (.cells #[.pointer (some ⟨p.1,p.2,none⟩)] 50)) 74 74 0 50 i0 _ 1 8 Tryz.underlying74 hi hz0 hz1 hz2 rfl (by omega) v ps.length _ h1.row
    ⟨wr.heap.size,0,none⟩ 1 1 [.pointer (some ⟨p.1,p.2,none⟩)] rfl (World.news_of_block (cs:=#[.pointer (some ⟨p.1,p.2,none⟩)]) (t:=50) (fr:=(0,0)) (heap_alloc_new wr _)) (by simp [Value.oneCell'])
    (by omega) (by unfold maxLen;omega) (by omega) (by simp) _ rfl
  obtain ⟨hv1,hv2⟩:=olM_apart h1
  have hkeep:∀ i,i < wr.heap.size→v.ownBlock≠some i→w2.heap[i]?=wr.heap[i]?:=fun i hi hr=>(hgrow.block i (by simp;omega) (fun e=>hr e.symm)).trans (Below.heap_alloc _ _ _ hi)
  obtain ⟨z,hz⟩:=h.box
  have hbx:w2.heap[op]?=some (.cells #[mvalM op mp,v,.int .i64 z] 77 (0,0)):=(hkeep op i1 hv1).trans hz
  have hvb:∀ x,(Value.slice (some ⟨g,0,none⟩) (ps.length+1) cap).ownBlock=some x→v.ownBlock=some x∨wr.heap.size≤x:=fun x hx=>by
    have hx':g=x:=by simpa [Value.ownBlock] using hx
    subst hx'
    rcases hat with hat | hat
    · exact Or.inl hat
    · simp at hat;right;omega
  have hgop:g≠op:=by
    rcases hat with hat | hat
    · exact fun e=>hv1 (by rw [hat,e])
    · simp at hat;omega
  have hws:wr.heap.size < w2.heap.size:=by have:=hgrow.size;simp at this;omega
  refine ⟨g,cap,w2,hrun,⟨by simp;omega,h.opl,h.mpl,⟨z,row_set hbx _ _⟩,?_,?_,olM_map h fun hne=>(row_other _ _ _ hne).trans (hkeep mp i2 hv2),?_⟩,⟨hgrow.os,hgrow.tape,hgrow.output,by omega,fun b hb _ _ hv=>hkeep b hb hv,hvb⟩,hws,z,hbx⟩
  · rw [List.length_append,List.map_append]
    exact own_keep (by simpa using hown2) fun g' hg'=>row_other _ _ _ (by
      have:g=g':=by simpa [Value.ownBlock] using hg'
      omega)
  · intro x hx
    rcases hvb x hx with e | e
    · exact h.blk x e
    · omega
  · intro c hc
    obtain ⟨k1,a,t,k2⟩:=h.key c hc
    have:=h.opl
    refine ⟨k1,a,t,(row_other _ _ _ (by omega)).trans ((hkeep c (by omega) fun e=>?_).trans k2)⟩
    have:=h.blk c e
    omega
theorem olM_pop {base:Nat} {wr:World} {op mp:Nat} {v:Value} {init:List (Nat × Nat)} {p:Nat × Nat} {cs:List Nat} (h:OlM base wr op mp v (init ++ [p]) cs) :
    ∃ g cap,v=.slice (some ⟨g,0,none⟩) (init.length+1) cap∧g < wr.heap.size∧g≠op∧init.length+1≤cap∧cap≤9223372036854775807 ∧
      wr.cell? ⟨g,init.length,none⟩=some (.pointer (some ⟨p.1,p.2,none⟩)) ∧
      OlM base (wr.setCell ⟨op,1,none⟩ (.slice (some ⟨g,0,none⟩) init.length cap)) op mp (.slice (some ⟨g,0,none⟩) init.length cap) init cs:=by
  have hrow:=h.row
  obtain ⟨hv1,hv2⟩:=olM_apart h
  rw [List.length_append,List.map_append] at hrow
  simp only [List.length_singleton,List.map_cons,List.map_nil] at hrow
  rcases hrow.2 with ⟨_,hn⟩ | ⟨g,cap,cur,rfl,hg,hh,hc1,hc2,hc3,ht⟩
  · omega
  · have hgo:g≠op:=fun e=>hv1 (by simp [Value.ownBlock,e])
    have hgm:g≠mp:=fun e=>hv2 (by simp [Value.ownBlock,e])
    have hgb:=h.blk g rfl
    have hl:(init.map fun p=>Value.pointer (some ⟨p.1,p.2,none⟩)).length=init.length:=by simp
    have e:(cur.toList.take ((init.length+1) * 1))[init.length]?=some (.pointer (some ⟨p.1,p.2,none⟩)):=by
      rw [ht,List.getElem?_append_right (by omega),hl];simp
    rw [List.getElem?_take,if_pos (by omega)] at e
    obtain ⟨z,hz⟩:=h.box
    have hop:=h.opl
    refine ⟨g,cap,rfl,(Array.getElem?_eq_some_iff.1 hh).1,hgo,hc1,by unfold maxLen at hc2;omega,by rw [row_cell hh,← Array.getElem?_toList,e],⟨by simpa using h.bs,h.opl,h.mpl,⟨z,row_set hz _ _⟩,?_,fun x hx=>h.blk x hx,olM_map h fun hne=>row_other _ _ _ hne,fun c hc=>?_⟩⟩
    · refine ⟨by simp,Or.inr ⟨g,cap,cur,rfl,hg,(row_other _ _ _ hgo).trans hh,by omega,hc2,hc3,?_⟩⟩
      have e2:cur.toList.take (init.length * 1)=(cur.toList.take ((init.length+1) * 1)).take (init.length * 1):=by rw [List.take_take];congr 1;omega
      rw [e2,ht,List.take_append_of_le_length (by omega),List.take_of_length_le (by omega)]
    · obtain ⟨k1,a,t,k2⟩:=h.key c hc
      exact ⟨k1,a,t,(row_other _ _ _ (by omega)).trans k2⟩
theorem olM_key {base:Nat} {wr:World} {op mp:Nat} {v:Value} {ps:List (Nat × Nat)} {cs:List Nat} (h:OlM base wr op mp v ps cs) (hne:mp≠op) (c n:Nat) (hc:c ∉ cs) (hcb:c < base) {a:Array Value} {t:TypeId} (hf:wr.heap[c]?=some (.cells a t (0,0))) (u:Value) :
    ∃ w1,(Instr.mapUpdate 75 (.map (some mp)) (keyM c n) u).run Tryz.prog wr=.ok () w1∧OlM base w1 op mp v ps (c :: cs)∧ChgM op mp v v wr w1∧(∀ i,i≠mp→w1.heap[i]?=wr.heap[i]?)∧w1.heap.size=wr.heap.size:=by
  obtain ⟨es,clock,hm,hk⟩:∃ es clock,wr.heap[mp]?=some (.map es clock)∧KeysM es cs:=by
    rcases h.map with ⟨h1,_⟩ | ⟨_,h1⟩
    · exact absurd h1 hne
    · exact h1
  obtain ⟨hv1,hv2⟩:=olM_apart h
  obtain ⟨es',clock',hrun,hk'⟩:=updateM (n:=n) u hm (fun x hx=>by
    rcases hx with rfl | hx
    · exact ⟨a,t,hf⟩
    · exact (h.key x hx).2) hc hk
  have hlt:mp < wr.heap.size:=(Array.getElem?_eq_some_iff.1 hm).1
  have other:∀ i,i≠mp→(wr.heap.setIfInBounds mp (.map es' clock'))[i]?=wr.heap[i]?:=fun i hi=>by
    rw [Array.getElem?_setIfInBounds];rw [if_neg (fun e=>hi e.symm)]
  obtain ⟨z,hz⟩:=h.box
  have hmp:=h.mpl
  refine ⟨_,hrun,⟨by simpa using h.bs,h.opl,h.mpl,⟨z,(other op (fun e=>hne e.symm)).trans hz⟩,own_keep h.row fun g hg=>other g (fun e=>hv2 (e ▸ hg)),h.blk,Or.inr ⟨hne,es',clock',by show (Array.setIfInBounds _ _ _)[mp]?=_;rw [Array.getElem?_setIfInBounds];simp [hlt],hk'⟩,fun x hx=>?_⟩,⟨rfl,rfl,rfl,by simp,fun b _ _ hb _=>other b hb,fun x hx=>Or.inl hx⟩,other,by simp⟩
  rcases List.mem_cons.1 hx with rfl | hx
  · exact ⟨hcb,a,t,(other _ (by omega)).trans hf⟩
  · obtain ⟨k1,a,t,k2⟩:=h.key x hx
    exact ⟨k1,a,t,(other _ (by omega)).trans k2⟩
theorem olM_new {base:Nat} {wr:World} {op:Nat} {v:Value} {ps:List (Nat × Nat)} {cs:List Nat} (h:OlM base wr op op v ps cs) :
    OlM base ((wr.alloc (.map #[] 0)).setCell ⟨op,0,none⟩ (.map (some wr.heap.size))) op wr.heap.size v ps cs∧ChgM op op v v wr ((wr.alloc (.map #[] 0)).setCell ⟨op,0,none⟩ (.map (some wr.heap.size)))∧wr.heap.size≠op∧(∀ i,i < wr.heap.size→i≠op→((wr.alloc (.map #[] 0)).setCell ⟨op,0,none⟩ (.map (some wr.heap.size))).heap[i]?=wr.heap[i]?)∧((wr.alloc (.map #[] 0)).setCell ⟨op,0,none⟩ (.map (some wr.heap.size))).heap.size=wr.heap.size+1:=by
  obtain ⟨h1,_,h3⟩:=olM_in h
  obtain ⟨hv1,_⟩:=olM_apart h
  have hne:wr.heap.size≠op:=by omega
  have hcs:cs=[]:=by rcases h.map with ⟨_,h2⟩ | ⟨h2,_⟩;exact h2;exact absurd rfl h2
  have oth:∀ i,i < wr.heap.size→i≠op→((wr.alloc (.map #[] 0)).setCell ⟨op,0,none⟩ (.map (some wr.heap.size))).heap[i]?=wr.heap[i]?:=fun i hi hio=>(row_other _ _ _ hio).trans (Below.heap_alloc _ _ _ hi)
  have hsz:((wr.alloc (.map #[] 0)).setCell ⟨op,0,none⟩ (.map (some wr.heap.size))).heap.size=wr.heap.size+1:=by simp
  have hbs:=h.bs
  have hop:=h.opl
  obtain ⟨z,hz⟩:=h.box
  have hz2:(wr.alloc (.map #[] 0)).heap[op]?=_:=(Below.heap_alloc _ _ _ h1).trans hz
  refine ⟨⟨by omega,hop,hbs,⟨z,?_⟩,own_keep h.row fun g hg=>oth g (h3 g hg) (fun e=>hv1 (e ▸ hg)),h.blk,Or.inr ⟨hne,#[],0,?_,?_⟩,fun c hc=>by rw [hcs] at hc;cases hc⟩,⟨rfl,rfl,rfl,by omega,fun b hb h4 _ _=>oth b hb h4,fun x hx=>Or.inl hx⟩,hne,oth,hsz⟩
  · rw [mvalM_some hne];exact row_set hz2 0 _
  · refine (row_other _ _ _ hne).trans ?_
    show (wr.heap.push _)[wr.heap.size]?=_
    simp
  · rw [hcs];intro e he;simp at he
theorem copyM {w:World} {g n c:Nat} {cur:Array Value} (hg:w.heap[g]?=some (.cells cur 34 (0,0))) (hn:n * 9≤cur.size) (h1:∀ j (hj:j < n * 9),(cur[j]'(by omega)).oneCell'=true) (C:Array Value) (hC:C.size=n * 9) :
    ∃ Y,(Builtin.copy_ #[32,32] 3 #[.slice (some ⟨w.heap.size,0,none⟩) n n,.slice (some ⟨g,0,none⟩) n c]).run Tryz.prog (w.alloc (.cells C 34))=.ok (.int .i64 n) Y∧Below w.heap.size w Y∧Y.heap.size=w.heap.size+1∧Y.heap[w.heap.size]?=some (.cells (cur.toList.take (n * 9)).toArray 34 (0,0)):=by
  obtain ⟨i0,hi,hz⟩:=Option.map_eq_some_iff.1 Tryz.infoEM
  have hX:Below w.heap.size w (w.alloc (.cells C 34)):=(Below.refl _ _).alloc (Nat.le_refl _) _
  have hX0:(w.alloc (.cells C 34)).heap[w.heap.size]?=some (.cells C 34 (0,0)):=heap_new rfl
  have hgl:g < w.heap.size:=(Array.getElem?_eq_some_iff.1 hg).1
  have hlen:(cur.toList.take (n * 9)).length=n * 9:=by simp;omega
  have hl:=run_loadCells_list (P:=Tryz.prog) (w.alloc (.cells C 34)) ⟨g,0,none⟩ (cur.toList.take (n * 9)) (fun j v hv=>by
    have ea:(⟨g,0,none⟩:Addr).add j=⟨g,0+j,none⟩:=by unfold Addr.add;split <;> simp_all
    rw [ea,Nat.zero_add,row_cell (hX.block g hgl |>.trans hg),← Array.getElem?_toList]
    rw [List.getElem?_take] at hv
    split at hv
    · exact hv
    · cases hv)
  have hst:=run_storeCells_at Tryz.prog w.heap.size 0 34 (cur.toList.take (n * 9)) 0 C (w.alloc (.cells C 34)) hX0 (by rw [hlen];omega) (fun v hv=>by
    obtain ⟨j,hj,rfl⟩:=List.getElem_of_mem hv
    rw [List.getElem_take]
    simpa using h1 j (by rw [hlen] at hj;exact hj))
  rw [hlen] at hl
  have hrow:(C.toList.take (0+0) ++ cur.toList.take (n * 9) ++ C.toList.drop (0+0+(cur.toList.take (n * 9)).length)).toArray=(cur.toList.take (n * 9)).toArray:=by
    rw [hlen,List.drop_eq_nil_of_le (by simp;omega)];simp
  rw [hrow] at hst
  refine ⟨_,by simp [Builtin.copy_,run_underlying Tryz.underlying32,Builtin.lenOf,Builtin.firstCells,sizeOf,typeInfo,hi,hz,hl,hst];rfl,?_,by simp,setRow_heap _ _ _ _ _ _ hX0⟩
  exact ⟨rfl,rfl,rfl,by simp,fun k hk=>(setRow_other _ _ _ _ (by omega)).trans (hX.block k hk)⟩
end Go.Proofs.YtcepgedbmffkdaaGreat
