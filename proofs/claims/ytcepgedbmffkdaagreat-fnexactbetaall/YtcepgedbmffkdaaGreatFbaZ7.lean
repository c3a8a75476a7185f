/-
  A term put for a name, in plain words: the ways to the uses, one written after the other.
-/
import Derived.Test.YtcepgedbmffkdaaGreatFbaZ6
import Derived.Test.YtcepgedbmffkdaaGreatFbaZ1
import Derived.Deep.QuietTactic
import Derived.BigQuiet
import Derived.Test.YtcepgedbmffkdaaGreatFbaZ3
import Derived.Test.YtcepgedbmffkdaaGreatFbaZ2
import Derived.Deep.RegionWith
import Derived.Deep.RegionHeld3
namespace Go.Proofs.YtcepgedbmffkdaaGreat
open Go.RowKit
set_option linter.unusedVariables false
set_option linter.unusedSimpArgs false
def freeAt (F:List (List UInt8)) (q:Way9):Bool:=F.all fun n=>!decide (n ∈ q.2)
def putOk (F:List (List UInt8)) (qs:List Way9):Bool:=qs.all (freeAt F)
def putF (t:Tm) (qs:List Way9) (x:Tm):Tm:=qs.foldl (fun t q=>setP t q.1 x) t
def Apart9 (q q':Way9):Prop:=¬ q.1 <+: q'.1∧¬ q'.1 <+: q.1
theorem Apart9.cons {q q':Way9} (h:Apart9 q q') (i:Nat) (N N':List (List UInt8)):Apart9 (i :: q.1,N ++ q.2) (i :: q'.1,N' ++ q'.2) :=
  ⟨fun h1=>h.1 (List.cons_prefix_cons.1 h1).2,fun h1=>h.2 (List.cons_prefix_cons.1 h1).2⟩
theorem partP_mem {s:List UInt8} {l:Nat} {t:Tm} {i:Nat} {q:Way9} (h:q ∈ partP s l t i):∃ (hi:i < t.A.length) (q':Way9),q' ∈ usesP s l t.A[i]∧q=(i :: q'.1,bindsW t.K (bs t.S) (bs t.Z) i ++ q'.2):=by
  by_cases hi:i < t.A.length
  · by_cases hm:s ∈ bindsW t.K (bs t.S) (bs t.Z) i
    · rw [partP_in hi hm] at h;simp at h
    · rw [partP_out hi hm] at h
      obtain ⟨q',h1,h2⟩:=List.mem_map.1 h
      exact ⟨hi,q',h1,h2.symm⟩
  · unfold partP at h
    rw [dif_neg hi] at h
    simp at h
theorem catU_mem {f:Nat→List Way9}:∀ {n:Nat} {q:Way9},q ∈ catU f n→∃ i,i < n∧q ∈ f i:=by
  intro n
  induction n with
  | zero=>intro q h;simp [catU] at h
  | succ n ih =>
    intro q h
    rcases List.mem_append.1 (show q ∈ catU f n ++ f n from h) with h | h
    · obtain ⟨i,hi,hq⟩:=ih h
      exact ⟨i,by omega,hq⟩
    · exact ⟨n,by omega,h⟩
theorem usesP_get (s:List UInt8):∀ (l:Nat) (t:Tm) (q:Way9),q ∈ usesP s l t→(getP t q.1).isSome:=by
  intro l
  induction l with
  | zero=>intro t q h;simp [usesP] at h
  | succ l ih =>
    intro t q h
    by_cases hv:t.K=3∧bs t.S=s
    · rw [usesP_var hv] at h
      simp only [List.mem_cons,List.not_mem_nil,or_false] at h
      subst h
      rfl
    · rw [usesP_not hv] at h
      obtain ⟨i,hi,h1⟩:=catU_mem h
      obtain ⟨hi',q',h2,rfl⟩:=partP_mem h1
      simp only [getP]
      rw [dif_pos hi']
      exact ih _ _ h2
theorem putF_part (x:Tm) (i:Nat) (N:List (List UInt8)):∀ (qs:List Way9) (t:Tm) (hi:i < t.A.length),putF t (qs.map fun q=>(i :: q.1,N ++ q.2)) x={ t with A:=t.A.set i (putF t.A[i] qs x) }:=by
  intro qs
  induction qs with
  | nil=>intro t hi;cases t;simp [putF]
  | cons q qs ih =>
    intro t hi
    have hs:setP t (i :: q.1) x={ t with A:=t.A.set i (setP t.A[i] q.1 x) }:=by simp only [setP];rw [dif_pos hi]
    have h1:putF t ((q :: qs).map fun q=>(i :: q.1,N ++ q.2)) x=putF (setP t (i :: q.1) x) (qs.map fun q=>(i :: q.1,N ++ q.2)) x:=by simp [putF]
    rw [h1,hs,ih _ (by simpa using hi)]
    simp [putF,List.set_set]
theorem putF_app (t:Tm) (a b:List Way9) (x:Tm):putF t (a ++ b) x=putF (putF t a x) b x:=by simp [putF,List.foldl_append]
theorem putOk_app (F:List (List UInt8)) (a b:List Way9):putOk F (a ++ b)=(putOk F a && putOk F b):=by simp [putOk]
theorem putOk_part {F:List (List UInt8)} {i:Nat} {N:List (List UInt8)} {qs:List Way9} (hq:qs≠[]):putOk F (qs.map fun q=>(i :: q.1,N ++ q.2))=(freeAt F ([],N) && putOk F qs):=by
  unfold putOk
  rw [Bool.eq_iff_iff]
  simp only [List.all_eq_true,List.mem_map,Bool.and_eq_true,freeAt,Bool.not_eq_true',decide_eq_false_iff_not,forall_exists_index,and_imp,forall_apply_eq_imp_iff₂,List.mem_append,not_or]
  constructor
  · intro h
    obtain ⟨q,hq'⟩:=List.exists_mem_of_ne_nil _ hq
    exact ⟨fun n hn=>(h q hq' n hn).1,fun q hq n hn=>(h q hq n hn).2⟩
  · rintro ⟨h1,h2⟩ q hq n hn
    exact ⟨h1 n hn,h2 q hq n hn⟩
end Go.Proofs.YtcepgedbmffkdaaGreat

/-
  What lies in memory while a term is put at one use after the other. No walk.
-/
namespace Go.Proofs.YtcepgedbmffkdaaGreat
open Go.RowKit
set_option linter.unusedVariables false
set_option linter.unusedSimpArgs false
theorem AtP.below {w w':World} (hb:Below w.heap.size w w'):∀ {p:List Nat} {b o b' o':Nat},AtP w b o p b' o'→AtP w' b o p b' o':=by
  intro p
  induction p with
  | nil=>intro b o b' o' h;exact ⟨h.1,h.2⟩
  | cons i p ih =>
    intro b o b' o' h
    obtain ⟨g,og,l,c,hc,h2⟩:=h
    have hlt:b < w.heap.size:=by
      rcases Nat.lt_or_ge b w.heap.size with hlt | hge
      · exact hlt
      · exfalso
        have:w.heap[b]?=none:=Array.getElem?_eq_none hge
        simp [World.cell?,this] at hc
    exact ⟨g,og,l,c,(bcell hb hlt _).trans hc,ih h2⟩
theorem OwM.deep2D {w:World} {D D':Nat} (hD:D≤D'):∀ {d:Nat} {ao:Option Addr} {len:Nat} {ts:List Tm} {bs:List Nat},OwM w D d ao len ts bs→OwM w D' d ao len ts bs:=by
  intro d
  induction d with
  | zero=>intro ao len ts bs h;exact h
  | succ d ih =>
    intro ao len ts bs h
    rcases h with h | ⟨g,cs,bss,e,hl,hm,hg,hc,hbl,hbs,hE⟩
    · exact Or.inl h
    · refine Or.inr ⟨g,cs,bss,e,hl,hm,hg,hc,hbl,hbs,fun i hi hi'=>?_⟩
      obtain ⟨a1,l1,c1,a2,l2,c2,a3,l3,c3,h9,hf⟩:=hE i hi hi'
      exact ⟨a1,l1,c1,a2,l2,c2,a3,l3,c3,h9,hf.map (fun _ _ _ _ _ hr=>hr.deeper hD) (fun _ _ _ _ _ hr=>ih hr)⟩
theorem own_at {w:World} {D:Nat}:∀ (p:List Nat) {d b o b' o':Nat} {t:Tm} {bs:List Nat},Own9 w D d b o t bs→(getP t p).isSome→AtP w b o p b' o'→∃ y bs2 d2,Own9 w D d2 b' o' y bs2:=by
  intro p
  induction p with
  | nil=>rintro d b o b' o' t bs h _ ⟨rfl,rfl⟩;exact ⟨t,bs,d,h⟩
  | cons i p ih =>
    intro d b o b' o' t bs h hin hat
    unfold getP at hin
    split at hin
    · rename_i hi
      obtain ⟨g,l,c,cs,p12,bss,d1,rfl,hc8,hg,hcs,hbl,rfl,hE,_⟩:=h.part (by omega)
      obtain ⟨g',og,l',c',hc8',hat'⟩:=hat
      rw [hc8] at hc8'
      injection hc8' with e
      injection e with e1 e2 e3
      injection e1 with e1
      injection e1 with e4 e5
      subst e4
      subst e5
      rw [Nat.zero_add] at hat'
      exact ih (hE i hi (by omega)) hin hat'
    · simp at hin
theorem usr_get {w:World} {M b o:Nat} {P:List (List UInt8)}:∀ {us:List Use} {qs:List Way9},UsR w M b o P us qs→∀ j (h:j < us.length) (h':j < qs.length),UseAt w M b o P us[j] qs[j]
  | [],[],_,j,h,_=>by simp at h
  | _ :: us,_ :: qs,hU,0,_,_=>hU.1
  | _ :: us,_ :: qs,hU,j+1,h,h'=>by simpa using usr_get hU.2 j (by simpa using h) (by simpa using h')
structure PfS (w1 wr:World) (D b M0 bx:Nat) (bs0:List Nat) (t x:Tm) (us:List Use) (qs:List Way9) (k:Nat):Prop where
  os:wr.os=w1.os
  tape:wr.tape=w1.tape
  output:wr.output=w1.output
  size:w1.heap.size≤wr.heap.size
  other:∀ (g:Nat) (cs:Array Value) (ty:TypeId),w1.heap[g]?=some (.cells cs ty (0,0))→ty≠34→wr.heap[g]?=w1.heap[g]?
  low:∀ g,g < M0→wr.heap[g]?=w1.heap[g]?
  box:wr.heap[bx]?=w1.heap[bx]?
  row:∃ cs:Array Value,wr.heap[b]?=some (.cells cs 34 (0,0))∧8 < cs.size
  tree:∃ bsT dT,Own9 wr D dT b 0 (putF t (qs.take k) x) bsT∧bsT.Nodup∧b ∉ bsT∧∀ g ∈ bsT,(g ∈ bs0∨w1.heap.size≤g)∧g < wr.heap.size
  rest:∀ j (h:j < us.length) (h':j < qs.length),k≤j→∃ bk ok,us[j].1=⟨bk,ok,none⟩∧AtP wr b 0 qs[j].1 bk ok∧(getP (putF t (qs.take k) x) qs[j].1).isSome
theorem PfS.below {w1 wr wr':World} {D b M0 bx:Nat} {bs0:List Nat} {t x:Tm} {us:List Use} {qs:List Way9} {k:Nat} (h:PfS w1 wr D b M0 bx bs0 t x us qs k) (hb:Below wr.heap.size wr wr') (hM:M0≤w1.heap.size) (hbx:bx < w1.heap.size):PfS w1 wr' D b M0 bx bs0 t x us qs k:=by
  obtain ⟨bsT,dT,ho,hnd,hnb,hin⟩:=h.tree
  have hz:=hb.size
  have hz1:=h.size
  obtain ⟨cs0,hrow,hrs⟩:=h.row
  have hbw:=(Array.getElem?_eq_some_iff.1 hrow).1
  refine ⟨hb.os.trans h.os,hb.tape.trans h.tape,hb.output.trans h.output,by omega,fun g cs ty hg hty=>?_,fun g hg=>(hb.block g (by omega)).trans (h.low g hg),(hb.block bx (by omega)).trans h.box,⟨cs0,(hb.block b hbw).trans hrow,hrs⟩,?_,?_⟩
  · exact (hb.block g (Nat.lt_of_lt_of_le (Array.getElem?_eq_some_iff.1 hg).1 hz1)).trans (h.other g cs ty hg hty)
  · exact ⟨bsT,dT,ho.keep (fun i _=>bcell hb hbw _) (fun g hg=>hb.block g (hin g hg).2),hnd,hnb,fun g hg=>⟨(hin g hg).1,by have:=(hin g hg).2;omega⟩⟩
  · intro j hj hj' hkj
    obtain ⟨bk,ok,e,h1,h2⟩:=h.rest j hj hj' hkj
    exact ⟨bk,ok,e,h1.below hb,h2⟩
theorem uss_at {base:Nat} {w:World} {v:Value} {us:List Use} (h:Uss base w v us) (j:Nat) (hj:j < us.length):∃ g cap cs,v=.slice (some ⟨g,0,none⟩) us.length cap∧w.heap[g]?=some (.cells cs 173 (0,0))∧w.cell? ⟨g,j * 2,none⟩=some (.pointer (some us[j].1))∧w.cell? ⟨g,j * 2+1,none⟩=some (.slice us[j].2.1 us[j].2.2.1 us[j].2.2.2):=by
  rcases h.2 with ⟨rfl,hz⟩ | ⟨g,cap,cur,rfl,hg,hh,k1,k2,k3,k4⟩
  · omega
  have hfl:=flat_len us
  have key:∀ q,q < us.length * 2→cur[q]?=(us.flatMap useV)[q]?:=fun q hq=>by
    rw [← k4,List.getElem?_take,if_pos hq,Array.getElem?_toList]
  have hget:∀ (us:List Use) (j:Nat) (hj:j < us.length),(us.flatMap useV)[j * 2]?=some (.pointer (some us[j].1))∧(us.flatMap useV)[j * 2+1]?=some (.slice us[j].2.1 us[j].2.2.1 us[j].2.2.2):=by
    intro us
    induction us with
    | nil=>intro j hj;simp at hj
    | cons u us ih =>
      intro j hj
      cases j with
      | zero=>simp [useV]
      | succ j =>
        have h1:=ih j (by simpa using hj)
        have e1:(j+1) * 2=j * 2+2:=by omega
        rw [e1]
        simp only [List.flatMap_cons,useV,List.cons_append,List.nil_append,List.getElem?_cons_succ,List.getElem_cons_succ]
        exact h1
  obtain ⟨h1,h2⟩:=hget us j hj
  refine ⟨g,cap,cur,rfl,hh,?_,?_⟩
  · rw [row_cell hh,key _ (by omega)];exact h1
  · rw [row_cell hh,key _ (by omega)];exact h2
end Go.Proofs.YtcepgedbmffkdaaGreat

/-
  A term put for a name, part after part, in plain words; what lies in memory when a part is written. No walk.
-/
namespace Go.Proofs.YtcepgedbmffkdaaGreat
open Go.RowKit
set_option linter.unusedVariables false
set_option linter.unusedSimpArgs false
def putI (s:List UInt8) (l:Nat) (t x:Tm) (i:Nat):Tm:=putF t (catU (partP s l t) i) x
theorem putI_next {s:List UInt8} {l:Nat} {t x:Tm} {i:Nat}:putI s l t x (i+1)=putF (putI s l t x i) (partP s l t i) x:=by
  show putF t (catU (partP s l t) i ++ partP s l t i) x=_
  rw [putF_app]
  rfl
theorem putI_facts (s:List UInt8) (l:Nat) (t x:Tm):∀ i,i≤t.A.length→(putI s l t x i).A.length=t.A.length∧∀ j (h:j < t.A.length) (h':j < (putI s l t x i).A.length),i≤j→(putI s l t x i).A[j]=t.A[j]:=by
  intro i
  induction i with
  | zero=>intro _;exact ⟨rfl,fun j _ _ _=>rfl⟩
  | succ i ih =>
    intro hi
    obtain ⟨h1,h2⟩:=ih (by omega)
    have hi':i < t.A.length:=by omega
    by_cases hm:s ∈ bindsW t.K (bs t.S) (bs t.Z) i
    · have e:putI s l t x (i+1)=putI s l t x i:=by rw [putI_next,partP_in hi' hm];rfl
      rw [e]
      exact ⟨h1,fun j h h' hj=>h2 j h h' (by omega)⟩
    · have e:putI s l t x (i+1)={ putI s l t x i with A:=(putI s l t x i).A.set i (putF ((putI s l t x i).A[i]'(by omega)) (usesP s l t.A[i]) x) }:=by
        rw [putI_next,partP_out hi' hm,putF_part _ _ _ _ _ (by omega)]
      rw [e]
      refine ⟨by simpa using h1,fun j h h' hj=>?_⟩
      simp only [List.getElem_set_ne (show i≠j by omega)]
      exact h2 j h (by omega) (by omega)
theorem putI_same {s:List UInt8} {l:Nat} {t x:Tm} {i:Nat} (h:partP s l t i=[]):putI s l t x (i+1)=putI s l t x i:=by rw [putI_next,h];rfl
theorem partP_zero {s:List UInt8} {l:Nat} {t:Tm} {i:Nat} (hi:i < t.A.length) (h:usesN s l t.A[i]=0):partP s l t i=[]:=by
  by_cases hm:s ∈ bindsW t.K (bs t.S) (bs t.Z) i
  · exact partP_in hi hm
  · have:usesP s l t.A[i]=[]:=List.length_eq_zero_iff.1 (by rw [usesP_len];exact h)
    rw [partP_out hi hm,this];rfl
theorem putI_put {s:List UInt8} {l:Nat} {t x:Tm} {i:Nat} (hi:i < t.A.length) (hm:¬ s ∈ bindsW t.K (bs t.S) (bs t.Z) i):putI s l t x (i+1)=setP (putI s l t x i) [i] (putF t.A[i] (usesP s l t.A[i]) x):=by
  obtain ⟨h1,h2⟩:=putI_facts s l t x i (by omega)
  rw [putI_next,partP_out hi hm,putF_part _ _ _ _ _ (by omega),h2 i hi (by omega) (Nat.le_refl _)]
  simp only [setP]
  rw [dif_pos (show i < (putI s l t x i).A.length by omega)]
theorem Own9.deeperD {w:World} {D D' d b o:Nat} {t:Tm} {bs:List Nat} (h:Own9 w D d b o t bs) (hD:D≤D'):Own9 w D' d b o t bs:=by
  obtain ⟨a1,l1,c1,a2,l2,c2,a3,l3,c3,h9,hf⟩:=h
  exact ⟨a1,l1,c1,a2,l2,c2,a3,l3,c3,h9,hf.map (fun _ _ _ _ _ hr=>hr.deeper hD) (fun _ _ _ _ _ hr=>OwM.deep2D hD hr)⟩
structure SpS (w wr:World) (q z:Nat) (T:Tm):Prop where
  bel:Below w.heap.size w wr
  row:∃ cs:Array Value,wr.heap[q]?=some (.cells cs 34 (0,0))∧8 < cs.size
  tree:∃ bsT D d,Own9 wr D d q 0 T bsT∧bsT.Nodup∧q ∉ bsT∧∀ g ∈ bsT,z≤g∧g < wr.heap.size
theorem SpS.below {w wr wr':World} {q z:Nat} {T:Tm} (h:SpS w wr q z T) (hb:Below wr.heap.size wr wr'):SpS w wr' q z T:=by
  obtain ⟨cs,hrow,hrs⟩:=h.row
  obtain ⟨bsT,D,d,ho,hnd,hnb,hin⟩:=h.tree
  have hq:=(Array.getElem?_eq_some_iff.1 hrow).1
  have hz:=hb.size
  exact ⟨h.bel.trans (hb.mono h.bel.size),⟨cs,(hb.block q hq).trans hrow,hrs⟩,bsT,D,d,ho.keep (fun i _=>bcell hb hq _) (fun g hg=>hb.block g (hin g hg).2),hnd,hnb,fun g hg=>⟨(hin g hg).1,by have:=(hin g hg).2;omega⟩⟩
theorem sps_part {w wr:World} {q z:Nat} {T:Tm} (h:SpS w wr q z T) (hz:w.heap.size≤z) (hqz:w.heap.size≤q) {i:Nat} (hi:i < T.A.length) :
    ∃ g l c,wr.cell? ⟨q,8,none⟩=some (.slice (some ⟨g,0,none⟩) l c)∧l=T.A.length∧g < wr.heap.size∧z≤g∧g≠q∧(∃ cs:Array Value,wr.heap[g]?=some (.cells cs 34 (0,0)))∧(∃ (y:Tm) (v6 v7 v8:Value),Nine wr g (i * 9) y.K y.N y.S y.Z y.T.K y.T.N v6 v7 v8) ∧
      ∀ (w5 W:World) (x:Tm) (D5 d5 N:Nat) (x1:Option Addr) (n1 i1:Nat) (x2:Option Addr) (n2 i2:Nat) (x3:Option Addr) (n3 i3:Nat),Below wr.heap.size wr w5→wr.heap.size≤N→FmO N w5.heap.size w5 D5 d5 x x1 n1 x2 n2 x3 n3→W=set9 w5 g (i * 9) (.int .i64 x.K) (.int .i64 x.N) (.string x.S) (.string x.Z) (.int .i64 x.T.K) (.int .i64 x.T.N) (.slice x1 n1 i1) (.slice x2 n2 i2) (.slice x3 n3 i3)→z≤N→SpS w W q z (setP T [i] x):=by
  obtain ⟨cs0,hrow,hrs⟩:=h.row
  obtain ⟨bsT,D,d,ho,hnd,hnb,hin⟩:=h.tree
  obtain ⟨g,l,c,cs,p12,bss,d1,hd,hc8,hg,hcs,hbl,rfl,hE,_⟩:=ho.part (by omega)
  have hgin:=hin g (by simp)
  have hgq:g≠q:=fun e=>hnb (by rw [e];simp)
  have hl:l=T.A.length:=by
    obtain ⟨a1,l1,c1,a2,l2,c2,a3,l3,c3,h9,hf⟩:=ho
    obtain ⟨p1,p2,p3,_,_,_,_,_,h5⟩:=hf
    have h8:=h9.c8
    rw [hc8] at h8
    injection h8 with h8
    injection h8 with e1 e2 e3
    rw [e2]
    cases d with
    | zero=>omega
    | succ d =>
      rcases h5 with ⟨e4,e5,_⟩ | ⟨_,_,_,_,e4,_⟩
      · rw [e5];exact e4
      · exact e4
  obtain ⟨y1,k1,j1,y2,k2,j2,y3,k3,j3,y9,_⟩:=hE i hi (by omega)
  refine ⟨g,l,c,hc8,hl,hgin.2,hgin.1,hgq,⟨cs,hg⟩,⟨_,_,_,_,y9⟩,?_⟩
  intro w5 W x D5 d5 N x1 n1 i1 x2 n2 i2 x3 n3 i3 hb hN hO hW hzN
  have hz5:=hb.size
  have hqw:=(Array.getElem?_eq_some_iff.1 hrow).1
  have ho5:Own9 w5 (max D D5) d q 0 T (p12 ++ g :: bss.flatten):=(ho.keep (fun i _=>bcell hb hqw _) (fun k hk=>hb.block k (hin k hk).2)).deeperD (Nat.le_max_left _ _)
  have hat:AtP w5 q 0 [i] g (i * 9):=⟨g,0,l,c,(bcell hb hqw 8).trans hc8,by simp [AtP]⟩
  obtain ⟨bn,hfO,hndn,hbn⟩:=hO
  have hfO':FldO w5 (max D D5) (OwM w5 (max D D5) d5) x x1 n1 x2 n2 x3 n3 bn:=hfO.map (fun _ _ _ _ _ hr=>hr.deeper (Nat.le_max_right _ _)) (fun _ _ _ _ _ hr=>OwM.deep2D (Nat.le_max_right _ _) hr)
  have hrow5:=(hb.block q hqw).trans hrow
  obtain ⟨bsN,hoN0,hndN,hsub⟩:=put_at (i1:=i1) (i2:=i2) (i3:=i3) (M:=wr.heap.size) hfO' hndn (fun k hk=>by have:=(hbn k hk).1;omega) [i] ho5 hnd hnb hqw (fun k hk=>(hin k hk).2) (by simp [getP,hi]) hat ⟨cs0,_,_,hrow5,by omega⟩
  have hoN:Own9 W (max D D5) (d+d5) q 0 (setP T [i] x) bsN:=by rw [hW];exact hoN0
  clear hoN0
  have hWo:∀ k,k≠g→W.heap[k]?=w5.heap[k]?:=fun k hk=>by rw [hW];exact set9_other k hk
  have hWb:Below g w5 W:=by rw [hW];exact set9_below (Below.refl _ _) (Nat.le_refl _)
  have hWs:W.heap.size=w5.heap.size:=by rw [hW];exact set9_size _ _ _ _ _ _ _ _ _ _ _ _
  refine ⟨(h.bel.trans (hb.mono h.bel.size)).trans (hWb.mono (by omega)),⟨cs0,(hWo q (fun e=>hgq e.symm)).trans hrow5,hrs⟩,bsN,_,_,hoN,hndN,fun hh=>?_,fun k hk=>?_⟩
  · rcases hsub q hh with h1 | h1
    · exact hnb h1
    · have:=(hbn q h1).1;omega
  · rw [hWs]
    rcases hsub k hk with h1 | h1
    · exact ⟨(hin k h1).1,by have:=(hin k h1).2;omega⟩
    · have:=hbn k h1
      exact ⟨by omega,this.2⟩
end Go.Proofs.YtcepgedbmffkdaaGreat

/-
  A region that draws its order, walked in one way where its calls make new memory alone.
-/
namespace Go.Proofs.YtcepgedbmffkdaaGreat
open Go.RowKit
set_option linter.unusedVariables false
set_option linter.unusedSimpArgs false
theorem wp_region_below {P:Program} {id:Nat} {Q:Exit→Act→World→Prop} {a:Act} {X:World} {l:List Oper} (hm:P.follows .mixedOrders=true) (hB:Region.lexB .any l.toArray=true)
    (h:wpQuiet P l.toArray (fun w'=>Below X.heap.size X w') (fun a'=>∀ w',Below X.heap.size X w'→Q .normal a' w') l a):(Code.region id l.toArray true).wp P Q a X :=
  wp_region_quiet (C:=fun w'=>Below X.heap.size X w') hm hB ((Below.refl _ _).drew) (by simpa using h)
end Go.Proofs.YtcepgedbmffkdaaGreat

/-
  Terms as forms: the value that 'formOf' answers of a term that is right; no memory is in it but that of its types.
-/
namespace Go.Proofs.YtcepgedbmffkdaaGreat
open Go.RowKit
set_option linter.unusedVariables false
set_option linter.unusedSimpArgs false
def fval (nd k n:Int) (s z:ByteArray) (tk tn:Int) (v1 v2:Value) (p0 p1 p2:Value):Value :=
  if k=1 then .iface 105 (.agg #[.int .i64 n])
  else if k=2 then .iface 106 (.agg #[.int .i64 n])
  else if k=3 then .iface 108 (.agg #[.string s,v2])
  else if k=4 then .iface 110 (.agg #[.int .i64 nd,.string s,.int .i64 tk,.int .i64 tn,v1,p0])
  else if k=5 then .iface 112 (.agg #[.int .i64 nd,p0,p1])
  else if k=6 then .iface 114 (.agg #[.string s,.int .i64 n,p0,p1])
  else if k=7 then .iface 116 (.agg #[.string s,.int .i64 n,.int .i64 tk,.int .i64 tn,v1,p0,p1])
  else if k=8 then .iface 118 (.agg #[p0,p1,p2])
  else if k=9 then .iface 120 (.agg #[p0,p1])
  else if k=10 then .iface 122 (.agg #[p0])
  else if k=11 then .iface 123 (.agg #[p0])
  else if k=12 then .iface 125 (.agg #[.int .i64 tk,.int .i64 tn,v1])
  else if k=13 then .iface 127 (.agg #[p0,p1])
  else if k=14 then .iface 129 (.agg #[.string s,.string z,p0,p1,p2])
  else if k=15 then .iface 131 (.agg #[.int .i64 n,p0,p1])
  else if k=16 then .iface 133 (.agg #[.int .i64 tk,.int .i64 tn,v1,p0])
  else .iface 135 (.agg #[.string s,p0,p1])
def Fv (L B:Nat) (w:World) (D:Nat):Nat→Tm→Value→Prop
  | 0,_,_=>False
  | l+1,t,v=>∃ (nd:Int) (a1:Option Addr) (l1 c1:Nat) (a2:Option Addr) (l2 c2:Nat) (p:Nat→Value),Hs L B w D a1 l1 t.T.A∧Hs L B w D a2 l2 t.Ts∧(∀ i (h:i < t.A.length),Fv L B w D l t.A[i] (p i))∧v=fval nd t.K t.N t.S t.Z t.T.K t.T.N (.slice a1 l1 c1) (.slice a2 l2 c2) (p 0) (p 1) (p 2)
theorem Fv.iface {L B:Nat} {w:World} {D l:Nat} {t:Tm} {v:Value} (h:Fv L B w D l t v):∃ τ u,v=.iface τ u:=by
  cases l with
  | zero=>exact h.elim
  | succ l =>
    obtain ⟨nd,a1,l1,c1,a2,l2,c2,p,_,_,_,hx⟩:=h
    rw [hx]
    unfold fval
    by_cases h1:t.K=1
    · rw [if_pos h1];exact ⟨_,_,rfl⟩
    rw [if_neg h1]
    by_cases h2:t.K=2
    · rw [if_pos h2];exact ⟨_,_,rfl⟩
    rw [if_neg h2]
    by_cases h3:t.K=3
    · rw [if_pos h3];exact ⟨_,_,rfl⟩
    rw [if_neg h3]
    by_cases h4:t.K=4
    · rw [if_pos h4];exact ⟨_,_,rfl⟩
    rw [if_neg h4]
    by_cases h5:t.K=5
    · rw [if_pos h5];exact ⟨_,_,rfl⟩
    rw [if_neg h5]
    by_cases h6:t.K=6
    · rw [if_pos h6];exact ⟨_,_,rfl⟩
    rw [if_neg h6]
    by_cases h7:t.K=7
    · rw [if_pos h7];exact ⟨_,_,rfl⟩
    rw [if_neg h7]
    by_cases h8:t.K=8
    · rw [if_pos h8];exact ⟨_,_,rfl⟩
    rw [if_neg h8]
    by_cases h9:t.K=9
    · rw [if_pos h9];exact ⟨_,_,rfl⟩
    rw [if_neg h9]
    by_cases h10:t.K=10
    · rw [if_pos h10];exact ⟨_,_,rfl⟩
    rw [if_neg h10]
    by_cases h11:t.K=11
    · rw [if_pos h11];exact ⟨_,_,rfl⟩
    rw [if_neg h11]
    by_cases h12:t.K=12
    · rw [if_pos h12];exact ⟨_,_,rfl⟩
    rw [if_neg h12]
    by_cases h13:t.K=13
    · rw [if_pos h13];exact ⟨_,_,rfl⟩
    rw [if_neg h13]
    by_cases h14:t.K=14
    · rw [if_pos h14];exact ⟨_,_,rfl⟩
    rw [if_neg h14]
    by_cases h15:t.K=15
    · rw [if_pos h15];exact ⟨_,_,rfl⟩
    rw [if_neg h15]
    by_cases h16:t.K=16
    · rw [if_pos h16];exact ⟨_,_,rfl⟩
    rw [if_neg h16]
    exact ⟨_,_,rfl⟩
structure Nx (p:Nat) (w w':World) (c:Int):Prop where
  kf:Kf (fun k=>k=p) w (fun k=>k=p) w'
  is:w'.heap[p]?=some (.cells #[.int .i64 c] 3 (0,0))
theorem Nx.trans {p:Nat} {w w' w'':World} {c c':Int} (h:Nx p w w' c) (k:Nx p w' w'' c'):Nx p w w'' c':=⟨h.kf.trans k.kf,k.is⟩
theorem Nx.lt {p:Nat} {w w':World} {c:Int} (h:Nx p w w' c):p < w'.heap.size:=(Array.getElem?_eq_some_iff.1 h.is).1
theorem Nx.fm {p:Nat} {w w':World} {c:Int} {L B D d:Nat} {t:Tm} {a1 a2 a3:Option Addr} {l1 l2 l3:Nat} (h:Nx p w w' c) (hB:B≤p) (hw:B≤w.heap.size) (hf:Fm L B w D d t a1 l1 a2 l2 a3 l3):Fm L B w' D d t a1 l1 a2 l2 a3 l3 :=
  Fm.keep (fun k _ hk=>h.kf.block k (by omega) (by omega)) (Nat.le_refl _) (Nat.le_refl _) hf
theorem Nx.drew {p:Nat} {w w':World} {c:Int} (h:Nx p w w' c):Nx p w w'.drew c:=⟨h.kf.trans (Kf.of_below ((Below.refl _ w').drew)),h.is⟩
end Go.Proofs.YtcepgedbmffkdaaGreat
