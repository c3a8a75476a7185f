/-
  What is Pure, by a term's kinds; a map keyed by where a list of two begins: no walk.
-/
import Derived.Test.YtcepgedbmffkdaaGreatFbaZ20
import Derived.LaidEqlPtr
import Derived.Laws.StructEq
import Derived.MapKept
import Derived.Test.YtcepgedbmffkdaaGreatFbaZ6
import Derived.Test.YtcepgedbmffkdaaGreatFbaZ3
import Derived.Test.YtcepgedbmffkdaaGreatFbaZ4
import Derived.Test.YtcepgedbmffkdaaGreatFbaZ17
import Derived.Test.YtcepgedbmffkdaaGreatFbaZ19
namespace Go.Proofs.YtcepgedbmffkdaaGreat
open Go.RowKit
set_option linter.unusedVariables false
set_option linter.unusedSimpArgs false
def pureM:Tm→Bool
  | ⟨k,_,_,_,_,_,a⟩=>if k=9∨k=13 then decide (a.length=2) && (a.attach.map fun ⟨x,_⟩=>pureM x).all id else isVal k
theorem pureM_eq (t:Tm):pureM t=if t.K=9∨t.K=13 then decide (t.A.length=2) && t.A.all pureM else isVal t.K:=by
  cases t;rw [pureM];simp [List.all_map,Function.comp_def]
theorem Tryz.stoodP:Tryz.prog.stoodInHeld 141=false:=by kernel_rfl
theorem Tryz.infoTmQ:(Tryz.prog.info? 34).map (fun i=>i.size)=some 9:=by kernel_rfl
theorem Tryz.infoIntP:(Tryz.prog.info? 3).map (fun i=>i.zero)=some (some (.int .i64 0)):=by kernel_rfl
def keyP (c:Nat):Value:=.agg #[.pointer (some ⟨c,0,none⟩),.int .i64 2]
set_option maxRecDepth 100000 in
set_option maxHeartbeats 1000000 in
theorem keyP_other {w:World} {c c':Nat} {cs cs':Array Value} {t t':TypeId} (hne:c≠c') (h:w.heap[c]?=some (.cells cs t (0,0))) (h':w.heap[c']?=some (.cells cs' t' (0,0))) :
    (Op.equal 141 (keyP c) (keyP c')).run Tryz.prog w=.ok false w:=by
  obtain ⟨i0,hi,hz⟩:=Option.map_eq_some_iff.1 Tryz.infoTmQ
  have hA:(⟨c,0,none⟩:Addr)≠⟨c',0,none⟩:=by intro e;exact hne (congrArg Addr.block e)
  have hs:=run_sameAddr_other (P:=Tryz.prog) w (a:=⟨c,0,none⟩) (b:=⟨c',0,none⟩) hA h h'
  have hp:∀ d:Nat,(Op.equalIn (d+1) 50 (.pointer (some ⟨c,0,none⟩)) (.pointer (some ⟨c',0,none⟩))).run Tryz.prog w=.ok false w:=fun d=>by
    simp [Op.equalIn,run_underlying Tryz.underlying50,sizeOf,typeInfo,hi,hz,hs]
  have hpart:∀ a b:Value,(part 50 #[a,b] 0).run Tryz.prog w=.ok a w:=fun a b=>by
    simp [part,isAgg,run_underlying Tryz.underlying50]
  unfold Op.equal keyP
  show (Op.equalIn (9999+1) _ _ _).run _ _=_
  rw [run_equalIn_struct w 9999 _ _ _ (by unfold Program.fieldsOf;rw [Tryz.underlying141]) Tryz.stoodP]
  simp [Program.fieldsOf,Tryz.underlying141,Op.eqFields,hpart,hp 9998]
set_option maxRecDepth 100000 in
set_option maxHeartbeats 1000000 in
theorem keyP_same {w:World} (c:Nat) :
    (Op.equal 141 (keyP c) (keyP c)).run Tryz.prog w=.ok true w:=by
  obtain ⟨i0,hi,hz⟩:=Option.map_eq_some_iff.1 Tryz.infoTmQ
  have hp:∀ d:Nat,(Op.equalIn (d+1) 50 (.pointer (some ⟨c,0,none⟩)) (.pointer (some ⟨c,0,none⟩))).run Tryz.prog w=.ok true w:=fun d=>by
    simp [Op.equalIn,run_underlying Tryz.underlying50,sizeOf,typeInfo,hi,hz,run_sameAddr_same]
  have hn:∀ d:Nat,(Op.equalIn (d+1) 3 (.int .i64 2) (.int .i64 2)).run Tryz.prog w=.ok true w:=fun d=>by
    simp [Op.equalIn,run_underlying Tryz.underlying3]
  have hpart:∀ a b:Value,(part 50 #[a,b] 0).run Tryz.prog w=.ok a w:=fun a b=>by
    simp [part,isAgg,run_underlying Tryz.underlying50]
  have hpart1:∀ a b:Value,(part 3 #[a,b] 1).run Tryz.prog w=.ok b w:=fun a b=>by
    simp [part,isAgg,run_underlying Tryz.underlying3]
  unfold Op.equal keyP
  show (Op.equalIn (9999+1) _ _ _).run _ _=_
  rw [run_equalIn_struct w 9999 _ _ _ (by unfold Program.fieldsOf;rw [Tryz.underlying141]) Tryz.stoodP]
  simp [Program.fieldsOf,Tryz.underlying141,Op.eqFields,hpart,hpart1,hp 9998,hn 9998]
def KeysP (es:Array MapEntry) (cs:List Nat):Prop:=∀ e ∈ es.toList,∃ c,c ∈ cs∧e.key=keyP c
theorem findP {w:World} {c:Nat} {cs:List Nat} (hfr:∀ x,x=c∨x ∈ cs→∃ a t,w.heap[x]?=some (.cells a t (0,0))) :
    ∀ (es:List MapEntry) (i:Nat),(∀ e ∈ es,∃ c,c ∈ cs∧e.key=keyP c) →
      ((Instr.findAsking 141 (keyP c) es i).run Tryz.prog w=.ok none w)∨(c ∈ cs∧∃ j e,(Instr.findAsking 141 (keyP c) es i).run Tryz.prog w=.ok (some (i+j,e.val)) w∧es[j]?=some e∧e.key=keyP c):=by
  intro es
  induction es with
  | nil=>intro i _;left;simp [Instr.findAsking]
  | cons e es ih =>
    intro i h
    obtain ⟨c',hc',he⟩:=h e (by simp)
    by_cases hcc:c=c'
    · subst hcc
      right
      refine ⟨hc',0,e,?_,rfl,he⟩
      simp [Instr.findAsking,he,keyP_same]
    · obtain ⟨a,t,ha⟩:=hfr c (Or.inl rfl)
      obtain ⟨a',t',ha'⟩:=hfr c' (Or.inr hc')
      have hk:=keyP_other hcc ha ha'
      rcases ih (i+1) (fun e he=>h e (by simp [he])) with h1 | ⟨h0,j,e1,h1,h2,h3⟩
      · left;simp [Instr.findAsking,he,hk,h1]
      · right
        refine ⟨h0,j+1,e1,?_,by simpa using h2,h3⟩
        simp [Instr.findAsking,he,hk,h1];omega
theorem findP_key {w:World} {c:Nat} {cs:List Nat} (hfr:∀ x,x=c∨x ∈ cs→∃ a t,w.heap[x]?=some (.cells a t (0,0))) {es:Array MapEntry} (hk:KeysP es cs) :
    ((Instr.findKey 141 (keyP c) es.toList).run Tryz.prog w=.ok none w)∨(c ∈ cs∧∃ j e,(Instr.findKey 141 (keyP c) es.toList).run Tryz.prog w=.ok (some (j,e.val)) w∧es.toList[j]?=some e∧e.key=keyP c):=by
  have h2:=findP (w:=w) (c:=c) hfr es.toList 0 hk
  have hred:(Instr.findKey 141 (keyP c) es.toList).run Tryz.prog w=(Instr.findAsking 141 (keyP c) es.toList 0).run Tryz.prog w:=by
    unfold Instr.findKey
    simp only [Sem.run_bind,run_underlying Tryz.underlying141,Result.andThen_ok]
    cases hes:es.toList with
    | nil=>simp [Instr.findNow,Instr.findAsking]
    | cons e l=>simp [Instr.findNow,Instr.sameNow]
  rw [hred]
  simpa using h2
set_option maxRecDepth 100000 in
theorem checkP {w:World} (b:Bool) (c:Nat):(Instr.checkKey b 10000 141 (keyP c)).run Tryz.prog w=.ok () w:=by
  have hp:∀ (d:Nat) (v:Option Addr),(Instr.checkKey b (d+1) 50 (.pointer v)).run Tryz.prog w=.ok () w:=fun d v=>by simp [Instr.checkKey,run_underlying Tryz.underlying50]
  have hn:∀ (d:Nat) (v:Int),(Instr.checkKey b (d+1) 3 (.int .i64 v)).run Tryz.prog w=.ok () w:=fun d v=>by simp [Instr.checkKey,run_underlying Tryz.underlying3]
  have hpart0:∀ a b:Value,(part 50 #[a,b] 0).run Tryz.prog w=.ok a w:=fun a b=>by simp [part,isAgg,run_underlying Tryz.underlying50]
  have hpart1:∀ a b:Value,(part 3 #[a,b] 1).run Tryz.prog w=.ok b w:=fun a b=>by simp [part,isAgg,run_underlying Tryz.underlying3]
  unfold keyP
  show (Instr.checkKey b (9999+1) _ _).run _ _=_
  rw [Instr.checkKey]
  simp only [Sem.run_bind,run_underlying Tryz.underlying141,Result.andThen_ok]
  simp [hpart0,hpart1,hp 9998,hn 9998]
theorem lookupP {w:World} {mp c:Nat} {cs:List Nat} {es:Array MapEntry} {clock:Nat} (hm:w.heap[mp]?=some (.map es clock)) (hfr:∀ x,x=c∨x ∈ cs→∃ a t,w.heap[x]?=some (.cells a t (0,0))) (hc:c ∉ cs) (hk:KeysP es cs) :
    (Instr.lookup 167 (.map (some mp)) (keyP c) false).run Tryz.prog w=.ok (.int .i64 0) w:=by
  have h1:=(findP_key (w:=w) hfr hk).resolve_right (fun h=>hc h.1)
  have h2:=checkP (w:=w) es.isEmpty c
  obtain ⟨i1,hi1,hz1⟩:=Option.map_eq_some_iff.1 Tryz.infoIntP
  have hz:(zeroValue 3).run Tryz.prog w=.ok (.int .i64 0) w:=by
    simp [zeroValue,typeInfo,hi1,hz1]
  have hg:=MapKept.run_getObj_map (P:=Tryz.prog) hm
  unfold Instr.lookup
  simp [run_underlying Tryz.underlying167,hg,h1,h2,hz]
theorem updateP {w:World} {mp c:Nat} {cs:List Nat} {es:Array MapEntry} {clock:Nat} (v:Value) (hm:w.heap[mp]?=some (.map es clock)) (hfr:∀ x,x=c∨x ∈ cs→∃ a t,w.heap[x]?=some (.cells a t (0,0))) (hk:KeysP es cs) :
    ∃ es' clock',(Instr.mapUpdate 167 (.map (some mp)) (keyP c) v).run Tryz.prog w=.ok () { w with heap:=w.heap.setIfInBounds mp (.map es' clock') }∧KeysP es' (c :: cs):=by
  have h2:=checkP (w:=w) false c
  have hg:=MapKept.run_getObj_map (P:=Tryz.prog) hm
  have hs:=fun o=>MapKept.run_setObj_map (P:=Tryz.prog) o hm
  rcases findP_key (w:=w) (c:=c) hfr hk with h1 | ⟨_,j,e,h1,he,hek⟩
  · refine ⟨es.push { key:=keyP c,val:=v,born:=clock },clock+1,?_,?_⟩
    · unfold Instr.mapUpdate
      simp [run_underlying Tryz.underlying167,hg,hs,h1,h2]
    · intro x hx
      rw [Array.toList_push,List.mem_append] at hx
      rcases hx with hx | hx
      · obtain ⟨c',h3,h4⟩:=hk x hx
        exact ⟨c',List.mem_cons_of_mem _ h3,h4⟩
      · simp at hx;subst hx;exact ⟨c,by simp,rfl⟩
  · have hst:(Instr.keyThatStays (keyP c) (keyP c)).run Tryz.prog w=.ok (keyP c) w:=by
      unfold Instr.keyThatStays keyP
      simp [Instr.sameBits]
    have hje:es[j]?=some e:=by rw [← Array.getElem?_toList];exact he
    refine ⟨es.modify j (fun e=>{ e with key:=keyP c,val:=v }),clock,?_,?_⟩
    · unfold Instr.mapUpdate
      simp [run_underlying Tryz.underlying167,hg,hs,h1,h2,hje,hek,hst]
    · have hks:=MapKept.modify_keys (es:=es) j (fun e=>{ e with key:=keyP c,val:=v }) (fun e0 h0=>by rw [hje] at h0;cases h0;exact hek.symm)
      intro x hx
      have:x.key ∈ (es.modify j (fun e=>{ e with key:=keyP c,val:=v })).toList.map (·.key):=List.mem_map.2 ⟨x,hx,rfl⟩
      rw [hks] at this
      obtain ⟨y,hy,hyx⟩:=List.mem_map.1 this
      obtain ⟨c',h3,h4⟩:=hk y hy
      exact ⟨c',List.mem_cons_of_mem _ h3,by rw [← hyx];exact h4⟩
end Go.Proofs.YtcepgedbmffkdaaGreat

/-
  Folding, as a plain function on terms: what stays right, and does not grow.
-/
namespace Go.Proofs.YtcepgedbmffkdaaGreat
open Go.RowKit
set_option linter.unusedVariables false
set_option linter.unusedSimpArgs false
def pa (t:Tm) (i:Nat):Tm:=(t.A[i]?).getD t
end Go.Proofs.YtcepgedbmffkdaaGreat

/-
  Putting in the first that may be, in plain words. No walk.
-/
namespace Go.Proofs.YtcepgedbmffkdaaGreat
open Go.RowKit
set_option linter.unusedVariables false
set_option linter.unusedSimpArgs false
def hereA (t:Tm):Bool:=decide (t.K=5) && decide ((pa t 0).K=4) && pureM (pa t 1) && decide (usesN (bs (pa t 0).S) 24 (pa (pa t 0) 0) < 2)
def hereL (t:Tm):Bool:=decide (t.K=6) && pureM (pa t 0) && decide (usesN (bs t.S) 24 (pa t 1) < 2)
def hereM (t:Tm):Tm × Bool :=
  if hereA t=true then spR (freeW 24 (pa t 1) [] []) (pa t 1) (usesP (bs (pa t 0).S) 24 (pa (pa t 0) 0)) (pa (pa t 0) 0)
  else if hereL t=true then spR (freeW 24 (pa t 0) [] []) (pa t 0) (usesP (bs t.S) 24 (pa t 1)) (pa t 1)
  else (t,false)
def betaL (f:Tm→Tm × Bool):List Tm→Option (List Tm)
  | []=>none
  | x :: xs=>if (f x).2=true then some ((f x).1 :: xs) else (betaL f xs).map (x :: ·)
theorem betaL_none {f:Tm→Tm × Bool}:∀ {ts:List Tm},(∀ j (hj:j < ts.length),(f ts[j]).2=false)→betaL f ts=none
  | [],_=>rfl
  | x :: xs,h=>by
    have h0:=h 0 (by simp)
    simp only [List.getElem_cons_zero] at h0
    have ih:=betaL_none (f:=f) (ts:=xs) fun j hj=>by
      have:=h (j+1) (by simpa using hj)
      simpa using this
    simp [betaL,h0,ih]
theorem betaL_some {f:Tm→Tm × Bool}:∀ {ts:List Tm} {i:Nat} (hi:i < ts.length),(∀ j (hj:j < ts.length),j < i→(f ts[j]).2=false)→(f ts[i]).2=true→betaL f ts=some (ts.set i (f ts[i]).1)
  | [],i,hi,_,_=>absurd hi (by simp)
  | x :: xs,0,_,_,h=>by
    simp only [List.getElem_cons_zero] at h
    simp [betaL,h]
  | x :: xs,i+1,hi,hb,h=>by
    have h0:=hb 0 (by simp) (by omega)
    simp only [List.getElem_cons_zero] at h0
    have hi':i < xs.length:=by simpa using hi
    simp only [List.getElem_cons_succ] at h
    have ih:=betaL_some (f:=f) (ts:=xs) hi' (fun j hj hji=>by
      have:=hb (j+1) (by simpa using hj) (by omega)
      simpa using this) h
    simp [betaL,h0,ih]
def betaM:Nat→Tm→Tm × Bool
  | 0,t=>(t,false)
  | l+1,t =>
    if (hereM t).2=true then ((hereM t).1,true)
    else match betaL (betaM l) t.A with
      | some A=>({ t with A:=A },true)
      | none=>(t,false)
theorem betaM_here {l:Nat} {t:Tm} (h:(hereM t).2=true):betaM (l+1) t=((hereM t).1,true):=by
  simp only [betaM,if_pos h]
theorem betaM_part {l:Nat} {t:Tm} (h:(hereM t).2=false) {i:Nat} (hi:i < t.A.length) (hb:∀ j (hj:j < t.A.length),j < i→(betaM l t.A[j]).2=false) (hp:(betaM l t.A[i]).2=true):betaM (l+1) t=({ t with A:=t.A.set i (betaM l t.A[i]).1 },true):=by
  simp only [betaM,h,Bool.false_eq_true,if_false,betaL_some hi hb hp]
theorem betaM_none {l:Nat} {t:Tm} (h:(hereM t).2=false) (hb:∀ j (hj:j < t.A.length),(betaM l t.A[j]).2=false):betaM (l+1) t=(t,false):=by
  simp only [betaM,h,Bool.false_eq_true,if_false,betaL_none hb]
end Go.Proofs.YtcepgedbmffkdaaGreat

/-
  What 'varsWithin', 'VarsOf', 'Ground' of the program, and 'l1Vars', 'VarsOf', 'Ground' of the model come to.
-/
namespace Go.Proofs.YtcepgedbmffkdaaGreat
open Go.RowKit
set_option linter.unusedVariables false
set_option linter.unusedSimpArgs false
theorem nodesW_inv {l:Nat} {k n:Int} {ts:List Tr} {m:Nat} (h:nodesW (l+1) ⟨k,n,ts⟩=some m):nodeOk k n ts.length=true∧∀ j (hj:j < ts.length),∃ a,nodesW l ts[j]=some a:=by
  simp only [nodesW] at h
  split at h
  · rename_i hok
    refine ⟨hok,fun j hj=>?_⟩
    cases hf:nodesW l ts[j] with
    | some a=>exact ⟨a,rfl⟩
    | none=>rw [nodesL_none _ _ j hj hf] at h;simp at h
  · simp at h
def var0 (k n:Int):Nat:=if k=3 then (n+1).toNat else 0
def varsW:Nat→Tr→Nat
  | 0,_=>0
  | l+1,t=>(t.A.map (varsW l)).foldl max (var0 t.K t.N)
def varsTo (l:Nat) (k n:Int) (ts:List Tr) (j:Nat):Nat:=((ts.take j).map (varsW l)).foldl max (var0 k n)
theorem varsTo_zero (l:Nat) (k n:Int) (ts:List Tr):varsTo l k n ts 0=var0 k n:=by simp [varsTo]
theorem varsTo_succ (l:Nat) (k n:Int) (ts:List Tr) (j:Nat) (h:j < ts.length):varsTo l k n ts (j+1)=max (varsTo l k n ts j) (varsW l ts[j]):=by
  unfold varsTo
  rw [List.take_succ_eq_append_getElem h,List.map_append,List.foldl_append]
  rfl
theorem varsTo_all (l:Nat) (k n:Int) (ts:List Tr) (j:Nat) (h:ts.length≤j):varsTo l k n ts j=varsW (l+1) ⟨k,n,ts⟩:=by
  unfold varsTo
  rw [List.take_of_length_le h]
  rfl
theorem var0_of {k n:Int} {len:Nat} (h:nodeOk k n len=true):(k=3→0≤n∧n≤1):=by
  intro hk
  obtain ⟨h1,h2⟩:=nodeOk_parts h
  rcases h2 with ⟨_,h2⟩ | ⟨h2,_⟩
  · unfold in01 at h2;simpa using h2
  · exact absurd hk h2
def SaidVW (f l:Nat):Prop:=∀ (d L B:Nat) (k n:Int) (ao:Option Addr) (len cap:Nat) (ts:List Tr) (m:Nat) (w:World),B≤w.heap.size→Hs L B w d ao len ts→nodesW l ⟨k,n,ts⟩=some m →
    Calls Tryz.prog f #[.agg #[.int .i64 k,.int .i64 n,.slice ao len cap]] w fun e w'=>e=.returned (.int .i64 (varsW l ⟨k,n,ts⟩))∧Below w.heap.size w w'
theorem vw_zero (f:Nat):SaidVW f 0:=by
  intro d L B k n ao len cap ts m w hB hs hm
  simp [nodesW] at hm
def varsT (t:Tr):Nat:=if okT t=true then varsW 6 t else 0
theorem okT_some {t:Tr} (h:okT t=true):∃ m,nodesW 6 t=some m:=by
  cases hm:nodesW 6 t with
  | some m=>exact ⟨m,rfl⟩
  | none=>simp [okT,nodesT,hm] at h
end Go.Proofs.YtcepgedbmffkdaaGreat

/-
  What 'varsWithin', 'VarsOf', 'Ground' of the program, and 'l1Vars', 'VarsOf', 'Ground' of the model come to.
-/
namespace Go.Proofs.YtcepgedbmffkdaaGreat
open Go.RowKit
set_option linter.unusedVariables false
set_option linter.unusedSimpArgs false
set_option maxHeartbeats 800000 in
theorem lv_succ (l:Nat) (IH:SaidVW 82 l):SaidVW 82 (l+1):=by
  intro d L B k n ao len cap ts m w hB hs hm
  have hl:=hs.len.2
  have HL:Hid (len=ts.length):=hs.len.1
  obtain ⟨hok,hparts⟩:=nodesW_inv hm
  have hv0:=var0_of hok
  clear hm
  obtain ⟨X,hX⟩:∃ X,X=w.alloc (.cells #[.int .i64 k,.int .i64 n,.slice ao len cap] 31):=⟨_,rfl⟩
  have hXs:X.heap.size=w.heap.size+1:=by rw [hX];simp
  have hXb:Below w.heap.size w X:=by rw [hX];exact (Below.refl _ _).alloc (Nat.le_refl _) _
  have hX1:X.heap[w.heap.size]?=some (.cells #[.int .i64 k,.int .i64 n,.slice ao len cap] 31 (0,0)):=by rw [hX];exact heap_new rfl
  have HX:Hid (X=_):=hX
  have HX1:Hid (_=_):=hX1
  clear hX hX1
  have HP:Hid (∀ j (hj:j < ts.length),∃ a,nodesW l ts[j]=some a):=hparts
  clear hparts hok
  have HB:∃ (b1:Bool),(k == 3)=b1∧(b1=true→0≤n∧n≤1∧var0 k n=(n+1).toNat)∧(b1=false→var0 k n=0):=by
    by_cases hk:k=3
    · exact ⟨true,by simp [hk],fun _=>⟨(hv0 hk).1,(hv0 hk).2,by simp [var0,hk]⟩,by simp⟩
    · exact ⟨false,by simp [hk],by simp,fun _=>by simp [var0,hk]⟩
  clear hv0
  obtain ⟨b1,hk3,hv1,hv2⟩:=HB
  cases b1
  case' false=>(have HV:Hid (var0 k n=0):=hv2 rfl;clear hv1 hv2)
  case' true=>(obtain ⟨hn0,hn1,hv⟩:=hv1 rfl;have HV:Hid (var0 k n=(n+1).toNat):=hv;clear hv1 hv2 hv)
  all_goals
    go_enter Tryz.func82,Tryz.ntmps82
    go_wp2_with fail
    rw [← HX.out]
    go_loopw [3,4] (fun v i wr=>∃ j:Nat,j≤len∧i=.int .i64 j∧v=.int .i64 (varsTo l k n ts j)∧Below X.heap.size X wr) (fun _ i _=>len - (intOf i).toNat)
    case atStart=>exact ⟨0,by omega,rfl,by rw [varsTo_zero,HV.out];go_num,Below.refl _ _⟩
    case round =>
      obtain ⟨j,hj,rfl,rfl,hbr⟩:=hrel
      have hszr:=hbr.size
      obtain ⟨x0,x1,x2⟩:=box_cells ((hbr.block w.heap.size (by omega)).trans HX1.out)
      clear x0 x1
      by_cases hlt:j < len
      · have hlt':j < ts.length:=by have:=HL.out;omega
        obtain ⟨b,o,rfl,_,hbB,ao1,len1,cap1,c0,c1,c2,hs1⟩:=hs.get j hlt'
        have hbw:Below w.heap.size w wr:=hXb.trans (hbr.mono (by omega))
        have e0:=(bcell hbw (by omega) _).trans c0
        have e1:=(bcell hbw (by omega) _).trans c1
        have e2:=(bcell hbw (by omega) _).trans c2
        have hs2:=hs1.below hbw hB
        obtain ⟨a,ha⟩:=HP.out j hlt'
        have HA:Hid (nodesW l ⟨ts[j].K,ts[j].N,ts[j].A⟩=some a):=by show _=_;rw [tr_eta];exact ha
        have HS:Hid (varsTo l k n ts (j+1)=max (varsTo l k n ts j) (varsW l ts[j])):=varsTo_succ l k n ts j hlt'
        clear ha
        go_wp2_with fail
        refine (IH _ _ _ _ _ _ _ _ _ _ _ (by omega) hs2 HA.out).mono ?_
        rintro e w2 ⟨rfl,hb2⟩
        rw [tr_eta]
        have hbr2:Below X.heap.size X w2:=hbr.trans (hb2.mono (by omega))
        go_wp2_with fail
        all_goals
          go_roundw
          case rel=>exact ⟨j+1,by omega,by go_num,by rw [HS.out];first | go_num | (congr 1;omega),hbr2⟩
          case measure=>simp [intOf];omega
      · have HK2:Hid (varsTo l k n ts j=varsW (l+1) ⟨k,n,ts⟩):=varsTo_all l k n ts j (by have:=HL.out;omega)
        go_wp2_with fail
        go_ret
        exact ⟨ret_int (by rw [HK2.out]),hXb.trans (hbr.mono (by omega))⟩
theorem lv_any (l:Nat):SaidVW 82 l:=by
  induction l with
  | zero=>exact vw_zero _
  | succ l ih=>exact lv_succ l ih
end Go.Proofs.YtcepgedbmffkdaaGreat

/-
  'IsMono': the program's and the model's.
-/
namespace Go.Proofs.YtcepgedbmffkdaaGreat
open Go.RowKit Go.PlainAid
set_option linter.unusedVariables false
set_option linter.unusedSimpArgs false
theorem im_each {f:Tm→Option Nat} {l:List Tm} {m:Nat} (h:nodesG f l=some m):∀ i (hi:i < l.length),∃ a,f l[i]=some a:=by
  intro i hi
  cases hf:f l[i] with
  | none=>rw [nodesG_none f l i hi hf] at h;cases h
  | some a=>exact ⟨a,rfl⟩
theorem im_pos {L B:Nat} {w:World} {D d:Nat} {ao:Option Addr} {len:Nat} {ts:List Tm} (h:Hm L B w D d ao len ts) {j:Nat} (hj:j < ts.length):d - 1 < d:=by
  cases d with
  | zero=>obtain ⟨_,rfl⟩:=h;simp at hj
  | succ d=>omega
theorem lv_none (d L B:Nat) (ao:Option Addr) (len cap:Nat) (t:Tr) (hz:zeroT t=true) (w:World) (hB:B≤w.heap.size) (hs:Hs L B w d ao len t.A) :
    Calls Tryz.prog 82 #[.agg #[.int .i64 t.K,.int .i64 t.N,.slice ao len cap]] w fun e w'=>e=.returned (.int .i64 0)∧Below w.heap.size w w':=by
  have hbel:Below w.heap.size w (w.alloc (.cells #[.int .i64 t.K,.int .i64 t.N,.slice ao len cap] 31)):=(Below.refl _ _).alloc (Nat.le_refl _) _
  have hl:=hs.len.1
  have hk:t.K=0:=by unfold zeroT at hz;simp only [Bool.and_eq_true,beq_iff_eq] at hz;exact hz.1.1
  have hn:len=0:=by unfold zeroT at hz;simp only [Bool.and_eq_true,beq_iff_eq] at hz;omega
  rw [hk,hn]
  clear hl hs
  go_enter Tryz.func82,Tryz.ntmps82
  go_wp2_with fail
  go_loopw [3,4] (fun v i wr=>i=.int .i64 0∧v=.int .i64 0∧Below w.heap.size w wr∧wr.heap[w.heap.size]?=some (.cells #[.int .i64 0,.int .i64 t.N,.slice ao 0 cap] 31 (0,0))) (fun _ _ _=>0)
  case atStart=>exact ⟨rfl,rfl,(Below.refl _ _).alloc (Nat.le_refl _) _,heap_new rfl⟩
  case round =>
    obtain ⟨rfl,rfl,hbr,hx⟩:=hrel
    obtain ⟨x0,x1,x2⟩:=box_cells hx
    go_wp2_with fail
    go_ret
    exact ⟨rfl,hbr⟩
theorem lv_own (D L B:Nat) (k:Int) (t:Tr) (ts:List Tr) (ht:typesB k t ts=true) (ao:Option Addr) (len cap:Nat) (w:World) (hB:B≤w.heap.size) (hs:Hs L B w D ao len t.A) :
    Calls Tryz.prog 82 #[.agg #[.int .i64 t.K,.int .i64 t.N,.slice ao len cap]] w fun e w'=>e=.returned (.int .i64 (varsT t))∧Below w.heap.size w w':=by
  unfold typesB at ht
  simp only [Bool.and_eq_true] at ht
  have h1:=ht.1.1
  split at h1
  · obtain ⟨m,hm⟩:=okT_some h1
    have e:varsT t=varsW 6 t:=by simp [varsT,h1]
    rw [e]
    have:=lv_any 6 D L B t.K t.N ao len cap t.A m w hB hs (by rw [tr_eta];exact hm)
    rw [tr_eta] at this
    exact this
  · have e:varsT t=0:=by
      have hk:t.K=0:=by unfold zeroT at h1;simp only [Bool.and_eq_true,beq_iff_eq] at h1;exact h1.1.1
      have:okT t=false:=by
        cases t with | mk K N A=>simp at hk;subst hk;simp [okT,nodesT,nodesW,nodeOk,parts]
      simp [varsT,this]
    rw [e]
    exact lv_none D L B ao len cap t h1 w hB hs
end Go.Proofs.YtcepgedbmffkdaaGreat

/-
  What 'varsWithin', 'VarsOf', 'Ground' of the program, and 'l1Vars', 'VarsOf', 'Ground' of the model come to.
-/
namespace Go.Proofs.YtcepgedbmffkdaaGreat
open Go.RowKit
set_option linter.unusedVariables false
set_option linter.unusedSimpArgs false
set_option maxHeartbeats 800000 in
theorem vw_succ (l:Nat) (IH:SaidVW 109 l):SaidVW 109 (l+1):=by
  intro d L B k n ao len cap ts m w hB hs hm
  have hl:=hs.len.2
  have HL:Hid (len=ts.length):=hs.len.1
  obtain ⟨hok,hparts⟩:=nodesW_inv hm
  have hv0:=var0_of hok
  clear hm
  obtain ⟨X,hX⟩:∃ X,X=w.alloc (.cells #[.int .i64 k,.int .i64 n,.slice ao len cap] 31):=⟨_,rfl⟩
  have hXs:X.heap.size=w.heap.size+1:=by rw [hX];simp
  have hXb:Below w.heap.size w X:=by rw [hX];exact (Below.refl _ _).alloc (Nat.le_refl _) _
  have HX:Hid (X=_):=hX
  clear hX
  have HP:Hid (∀ j (hj:j < ts.length),∃ a,nodesW l ts[j]=some a):=hparts
  clear hparts hok
  have HB:∃ (b1:Bool),(k == 3)=b1∧(b1=true→0≤n∧n≤1∧var0 k n=(n+1).toNat)∧(b1=false→var0 k n=0):=by
    by_cases hk:k=3
    · exact ⟨true,by simp [hk],fun _=>⟨(hv0 hk).1,(hv0 hk).2,by simp [var0,hk]⟩,by simp⟩
    · exact ⟨false,by simp [hk],by simp,fun _=>by simp [var0,hk]⟩
  clear hv0
  obtain ⟨b1,hk3,hv1,hv2⟩:=HB
  cases b1
  case' false=>(have HV:Hid (var0 k n=0):=hv2 rfl;clear hv1 hv2)
  case' true=>(obtain ⟨hn0,hn1,hv⟩:=hv1 rfl;have HV:Hid (var0 k n=(n+1).toNat):=hv;clear hv1 hv2 hv)
  all_goals
    go_enter Tryz.func109,Tryz.ntmps109
    go_wp2_with fail
    rw [← HX.out]
    go_loopw [3,15] (fun v i wr=>∃ j:Nat,j≤len∧i=.int .i64 j∧v=.int .i64 (varsTo l k n ts j)∧Below X.heap.size X wr) (fun _ i _=>len - (intOf i).toNat)
    case atStart=>exact ⟨0,by omega,rfl,by rw [varsTo_zero,HV.out];go_num,Below.refl _ _⟩
    case round =>
      obtain ⟨j,hj,rfl,rfl,hbr⟩:=hrel
      have hszr:=hbr.size
      by_cases hlt:j < len
      · have hlt':j < ts.length:=by have:=HL.out;omega
        obtain ⟨b,o,rfl,_,hbB,ao1,len1,cap1,c0,c1,c2,hs1⟩:=hs.get j hlt'
        have hbw:Below w.heap.size w wr:=hXb.trans (hbr.mono (by omega))
        have e0:=(bcell hbw (by omega) _).trans c0
        have e1:=(bcell hbw (by omega) _).trans c1
        have e2:=(bcell hbw (by omega) _).trans c2
        have hba:Below w.heap.size w (wr.alloc (.cells #[.int .i64 ts[j].K,.int .i64 ts[j].N,.slice ao1 len1 cap1] 31)):=hbw.alloc (by omega) _
        have hs2:=hs1.below hba hB
        obtain ⟨a,ha⟩:=HP.out j hlt'
        have HA:Hid (nodesW l ⟨ts[j].K,ts[j].N,ts[j].A⟩=some a):=by show _=_;rw [tr_eta];exact ha
        have HS:Hid (varsTo l k n ts (j+1)=max (varsTo l k n ts j) (varsW l ts[j])):=varsTo_succ l k n ts j hlt'
        clear ha
        go_wp2_with fail
        refine (IH _ _ _ _ _ _ _ _ _ _ _ (by simp;omega) hs2 HA.out).mono ?_
        rintro e w2 ⟨rfl,hb2⟩
        rw [tr_eta]
        have hbr2:Below X.heap.size X w2:=(hbr.alloc (by omega) _).trans (hb2.mono (by simp;omega))
        go_wp2_with fail
        all_goals
          go_roundw
          case rel=>exact ⟨j+1,by omega,by go_num,by rw [HS.out];first | go_num | (congr 1;omega),hbr2⟩
          case measure=>simp [intOf];omega
      · have HK2:Hid (varsTo l k n ts j=varsW (l+1) ⟨k,n,ts⟩):=varsTo_all l k n ts j (by have:=HL.out;omega)
        go_wp2_with fail
        go_ret
        exact ⟨ret_int (by rw [HK2.out]),hXb.trans (hbr.mono (by omega))⟩
theorem vw_any (l:Nat):SaidVW 109 l:=by
  induction l with
  | zero=>exact vw_zero _
  | succ l ih=>exact vw_succ l ih
set_option maxHeartbeats 400000 in
theorem varsOf_any (d L B:Nat) (k n:Int) (ao:Option Addr) (len cap:Nat) (ts:List Tr) (w:World) (hB:B≤w.heap.size) (hs:Hs L B w d ao len ts) :
    Calls Tryz.prog 91 #[.agg #[.int .i64 k,.int .i64 n,.slice ao len cap]] w fun e w'=>e=.returned (.int .i64 (varsT ⟨k,n,ts⟩))∧Below w.heap.size w w':=by
  have hbel:Below w.heap.size w (w.alloc (.cells #[.int .i64 k,.int .i64 n,.slice ao len cap] 31)):=(Below.refl _ _).alloc (Nat.le_refl _) _
  have hs1:=hs.below hbel hB
  cases hf:okT ⟨k,n,ts⟩ with
  | false =>
    have HN:Hid (varsT ⟨k,n,ts⟩=0):=by show _=_;simp [varsT,hf]
    have HF:Hid (okT ⟨k,n,ts⟩=false):=hf
    clear hf
    go_enter Tryz.func91,Tryz.ntmps91
    go_wp2_with fail
    refine (tyOk_any _ _ _ _ _ _ _ _ _ _ (by simp;omega) hs1).mono ?_
    rintro e w2 ⟨rfl,hb2⟩
    rw [HF.out]
    go_wp2_with fail
    go_ret
    rw [HN.out]
    exact ⟨rfl,hbel.trans (hb2.mono (by simp))⟩
  | true =>
    have HN:Hid (varsT ⟨k,n,ts⟩=varsW 6 ⟨k,n,ts⟩):=by show _=_;simp [varsT,hf]
    obtain ⟨m,hm⟩:=okT_some hf
    have HM:Hid (_=_):=hm
    have HF:Hid (okT ⟨k,n,ts⟩=true):=hf
    clear hf hm
    go_enter Tryz.func91,Tryz.ntmps91
    go_wp2_with fail
    refine (tyOk_any _ _ _ _ _ _ _ _ _ _ (by simp;omega) hs1).mono ?_
    rintro e w2 ⟨rfl,hb2⟩
    rw [HF.out]
    have hz2:=hb2.size
    simp only [World.size_alloc] at hz2
    obtain ⟨x0,x1,x2⟩:=box_cells ((hb2.block w.heap.size (by simp)).trans (heap_new rfl))
    have hs2:=hs1.below hb2 (by simp;omega)
    go_wp2_with fail
    refine (vw_any 6 _ _ _ _ _ _ _ _ _ _ _ (by omega) hs2 HM.out).mono ?_
    rintro e w3 ⟨rfl,hb3⟩
    go_wp2_with fail
    go_ret
    rw [HN.out]
    exact ⟨rfl,(hbel.trans (hb2.mono (by simp))).trans (hb3.mono (by omega))⟩
end Go.Proofs.YtcepgedbmffkdaaGreat
