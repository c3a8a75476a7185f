/-
  Trees of K, N and parts, and what it is that a slice in memory holds a list of them: no walk, no statement.
-/
import Derived.Test.YtcepgedbmffkdaaGreatRows
import Derived.WalkKit
import Derived.WalkSpells
import Derived.WalkLawsBesides
import Derived.Deep.WholeRow
import Derived.Deep.MidRow
import Derived.Deep.AppendLies
import Derived.Lib.Join
import Derived.Lib.ItoaLen
namespace Go.Proofs.YtcepgedbmffkdaaGreat
open Go.RowKit
set_option linter.unusedVariables false
set_option linter.unusedSimpArgs false
structure Tr where
  K:Int
  N:Int
  A:List Tr
theorem tr_eta (t:Tr):(⟨t.K,t.N,t.A⟩:Tr)=t:=by cases t;rfl
def cnt:Tr→Nat
  | ⟨_,_,a⟩=>1+(a.attach.map fun ⟨x,_⟩=>cnt x).sum
def cntS (l:List Tr):Nat:=(l.map cnt).sum
def subS (l:List Tr):Nat:=(l.map fun t=>cntS t.A).sum
theorem cnt_eq (t:Tr):cnt t=1+cntS t.A:=by
  cases t;rw [cnt];simp [cntS]
theorem cntS_eq (l:List Tr):cntS l=l.length+subS l:=by
  induction l with
  | nil=>rfl
  | cons t l ih=>simp only [cntS,subS,List.map_cons,List.sum_cons,List.length_cons] at *;rw [cnt_eq,ih];simp only [cntS];omega
theorem subS_take (l:List Tr) (k:Nat) (h:k < l.length):subS (l.take (k+1))=subS (l.take k)+cntS l[k].A:=by
  rw [List.take_succ_eq_append_getElem h];simp only [subS,List.map_append,List.sum_append,List.map_cons,List.map_nil,List.sum_cons,List.sum_nil];omega
theorem subS_take_le (l:List Tr) (k:Nat):subS (l.take k)≤subS l:=by
  have h:=congrArg subS (List.take_append_drop k l)
  simp only [subS,List.map_append,List.sum_append] at *;omega
theorem cntS_get (l:List Tr) (k:Nat) (h:k < l.length):cntS l[k].A < cntS l:=by
  have h1:=subS_take l k h
  have h2:=subS_take_le l (k+1)
  have h3:=cntS_eq l
  omega
def szL (ts:List Tr) (left:Int):Int:=if (cntS ts:Int)≤left then left - cntS ts else -1
theorem szL_pos {ts:List Tr} {left:Int} (h:(cntS ts:Int)≤left):szL ts left=left - cntS ts:=if_pos h
theorem szL_neg {ts:List Tr} {left:Int} (h:¬ (cntS ts:Int)≤left):szL ts left=-1:=if_neg h
def El (w:World) (rec:Option Addr→Nat→List Tr→Prop) (b o:Nat) (t:Tr):Prop :=
  ∃ ao len cap,w.cell? ⟨b,o,none⟩=some (.int .i64 t.K)∧w.cell? ⟨b,o+1,none⟩=some (.int .i64 t.N)∧w.cell? ⟨b,o+2,none⟩=some (.slice ao len cap)∧rec ao len t.A
def Hs (L B:Nat) (w:World):Nat→Option Addr→Nat→List Tr→Prop
  | 0,_,len,ts=>len=0∧ts=[]
  | d+1,ao,len,ts=>len=ts.length∧len≤9223372036854775807∧∀ i (_:i < ts.length),∃ b o,ao=some ⟨b,o,none⟩∧L≤b∧b < B∧El w (Hs L B w d) b (o+i * 3) ts[i]
theorem El.wider {w:World} {r r':Option Addr→Nat→List Tr→Prop} {b o:Nat} {t:Tr} (h:El w r b o t) (k:∀ ao len ts,r ao len ts→r' ao len ts):El w r' b o t:=by
  obtain ⟨ao,len,cap,h1,h2,h3,h4⟩:=h
  exact ⟨ao,len,cap,h1,h2,h3,k _ _ _ h4⟩
theorem El.world {w w':World} {r:Option Addr→Nat→List Tr→Prop} {b o:Nat} {t:Tr} (h:El w r b o t) (hb:w'.heap[b]?=w.heap[b]?):El w' r b o t:=by
  obtain ⟨ao,len,cap,h1,h2,h3,h4⟩:=h
  have hc:∀ o,w'.cell? ⟨b,o,none⟩=w.cell? ⟨b,o,none⟩:=fun o=>World.cell?_of_block hb
  exact ⟨ao,len,cap,(hc _).trans h1,(hc _).trans h2,(hc _).trans h3,h4⟩
theorem Hs.len {L B:Nat} {w:World} {d:Nat} {ao:Option Addr} {len:Nat} {ts:List Tr} (h:Hs L B w d ao len ts):len=ts.length∧len≤9223372036854775807:=by
  cases d with
  | zero=>obtain ⟨rfl,rfl⟩:=h;exact ⟨rfl,by omega⟩
  | succ d=>exact ⟨h.1,h.2.1⟩
theorem Hs.get {L B:Nat} {w:World} {d:Nat} {ao:Option Addr} {len:Nat} {ts:List Tr} (h:Hs L B w d ao len ts) (i:Nat) (hi:i < ts.length):∃ b o,ao=some ⟨b,o,none⟩∧L≤b∧b < B∧El w (Hs L B w (d - 1)) b (o+i * 3) ts[i]:=by
  cases d with
  | zero=>obtain ⟨_,rfl⟩:=h;simp at hi
  | succ d=>exact h.2.2 i hi
theorem Hs.keep {L B L' B':Nat} {w w':World} (hb:∀ k,L≤k→k < B→w'.heap[k]?=w.heap[k]?) (hL:L'≤L) (hB:B≤B'):∀ {d:Nat} {ao:Option Addr} {len:Nat} {ts:List Tr},Hs L B w d ao len ts→Hs L' B' w' d ao len ts:=by
  intro d
  induction d with
  | zero=>intro ao len ts h;exact h
  | succ d ih =>
    intro ao len ts h
    refine ⟨h.1,h.2.1,fun i hi=>?_⟩
    obtain ⟨b,o,e,h1,h2,h3⟩:=h.2.2 i hi
    exact ⟨b,o,e,by omega,by omega,(h3.world (hb b h1 h2)).wider fun _ _ _ hr=>ih hr⟩
theorem Hs.below {L B:Nat} {w w':World} (hb:Below w.heap.size w w') (hB:B≤w.heap.size) {d:Nat} {ao:Option Addr} {len:Nat} {ts:List Tr} (h:Hs L B w d ao len ts):Hs L B w' d ao len ts :=
  h.keep (fun k _ hk=>hb.block k (by omega)) (Nat.le_refl _) (Nat.le_refl _)
theorem Hs.drew {L B:Nat} {w:World} {d:Nat} {ao:Option Addr} {len:Nat} {ts:List Tr} (h:Hs L B w d ao len ts):Hs L B w.drew d ao len ts:=h.keep (w:=w) (w':=w.drew) (fun _ _ _=>rfl) (Nat.le_refl _) (Nat.le_refl _)
theorem ret_int {k:IntKind} {a b:Int} (h:a=b):Ending.returned (.int k a)=.returned (.int k b):=by rw [h]
theorem ret_bool {a b:Bool} (h:a=b):Ending.returned (.bool a)=.returned (.bool b):=by rw [h]
theorem bcell {W w1:World} {b:Nat} (hb:Below W.heap.size W w1) (h:b < W.heap.size) (o:Nat):w1.cell? ⟨b,o,none⟩=W.cell? ⟨b,o,none⟩:=hb.cell (p:=⟨b,o,none⟩) h
theorem heap_new {w:World} {o:Obj} {n:Nat} (h:n=w.heap.size):(w.alloc o).heap[n]?=some o:=by subst h;exact heap_alloc_new w o
theorem row_cell {w:World} {g:Nat} {cs:Array Value} {t:TypeId} {fr:Nat × Nat} (h:w.heap[g]?=some (.cells cs t fr)) (o:Nat):w.cell? ⟨g,o,none⟩=cs[o]?:=by
  simp [World.cell?,h]
theorem box_cells {w:World} {b:Nat} {a0 a1 a2:Value} {t:TypeId} {fr:Nat × Nat} (h:w.heap[b]?=some (.cells #[a0,a1,a2] t fr)):w.cell? ⟨b,0,none⟩=some a0∧w.cell? ⟨b,1,none⟩=some a1∧w.cell? ⟨b,2,none⟩=some a2 :=
  ⟨row_cell h 0,row_cell h 1,row_cell h 2⟩
theorem row_free {w:World} {g:Nat} {cs:Array Value} {t:TypeId} (h:w.heap[g]?=some (.cells cs t (0,0))) (o:Nat):w.frozen? ⟨g,o,none⟩=false:=by
  simp [World.frozen?,h]
theorem row_set {w:World} {g:Nat} {cs:Array Value} {t:TypeId} {fr:Nat × Nat} (h:w.heap[g]?=some (.cells cs t fr)) (o:Nat) (v:Value):(w.setCell ⟨g,o,none⟩ v).heap[g]?=some (.cells (cs.setIfInBounds o v) t fr):=by
  simp [World.setCell,Array.getElem?_modify,h]
theorem row_other {w:World} {g:Nat} (o:Nat) (v:Value) (k:Nat) (hk:k≠g):(w.setCell ⟨g,o,none⟩ v).heap[k]?=w.heap[k]?:=Below.heap_setCell _ _ _ _ hk
def set3 (w:World) (g o:Nat) (a b c:Value):World:=((w.setCell ⟨g,o,none⟩ a).setCell ⟨g,o+1,none⟩ b).setCell ⟨g,o+2,none⟩ c
theorem set3_other {w:World} {g o:Nat} {a b c:Value} (k:Nat) (hk:k≠g):(set3 w g o a b c).heap[k]?=w.heap[k]?:=by
  unfold set3;rw [row_other _ _ _ hk,row_other _ _ _ hk,row_other _ _ _ hk]
theorem set3_row {w:World} {g o:Nat} {a b c:Value} {cs:Array Value} {t:TypeId} {fr:Nat × Nat} (h:w.heap[g]?=some (.cells cs t fr)):(set3 w g o a b c).heap[g]?=some (.cells (((cs.setIfInBounds o a).setIfInBounds (o+1) b).setIfInBounds (o+2) c) t fr):=by
  unfold set3;exact row_set (row_set (row_set h _ _) _ _) _ _
theorem set3_cells {w:World} {g o:Nat} {a b c:Value} {cs:Array Value} {t:TypeId} {fr:Nat × Nat} (h:w.heap[g]?=some (.cells cs t fr)) (ho:o+2 < cs.size) :
    (set3 w g o a b c).cell? ⟨g,o,none⟩=some a∧(set3 w g o a b c).cell? ⟨g,o+1,none⟩=some b∧(set3 w g o a b c).cell? ⟨g,o+2,none⟩=some c:=by
  simp only [row_cell (set3_row h),Array.getElem?_setIfInBounds,Array.size_setIfInBounds]
  refine ⟨?_,?_,?_⟩ <;> simp <;> omega
theorem set3_far {w:World} {g o:Nat} {a b c:Value} {cs:Array Value} {t:TypeId} {fr:Nat × Nat} (h:w.heap[g]?=some (.cells cs t fr)) (p:Nat) (hp:p < o∨o+2 < p):(set3 w g o a b c).cell? ⟨g,p,none⟩=w.cell? ⟨g,p,none⟩:=by
  simp only [row_cell (set3_row h),row_cell h,Array.getElem?_setIfInBounds]
  rw [if_neg (by omega),if_neg (by omega),if_neg (by omega)]
theorem set3_size (w:World) (g o:Nat) (a b c:Value):(set3 w g o a b c).heap.size=w.heap.size:=by simp [set3]
theorem set3_below {B:Nat} {x w:World} {g o:Nat} {a b c:Value} (h:Below B x w) (hg:B≤g):Below B x (set3 w g o a b c) :=
  ((h.setCell (p:=⟨g,o,none⟩) hg a).setCell (p:=⟨g,o+1,none⟩) hg b).setCell (p:=⟨g,o+2,none⟩) hg c
def szN (n:Nat) (left:Int):Int:=if (n:Int)≤left then left - n else -1
theorem szN_pos {n:Nat} {left:Int} (h:(n:Int)≤left):szN n left=left - n:=if_pos h
theorem szN_neg {n:Nat} {left:Int} (h:¬ (n:Int)≤left):szN n left=-1:=if_neg h
end Go.Proofs.YtcepgedbmffkdaaGreat

/-
  Laws for single operations of a plain region: 'append' by the equation of its run; a whole struct read out of a row, and laid into a block that was made last. No walk.
-/
namespace Go.Proofs.YtcepgedbmffkdaaGreat
open Go.RowKit
set_option linter.unusedVariables false
set_option linter.unusedSimpArgs false
theorem list_run {P:Program} {ops:Array Oper} {rest:List Oper} {o:Oper} {a:Act} {W w2:World} {Q:Exit→Act→World→Prop} {t ty:TypeId} {v u r:Value} (hrun:(Builtin.append_ #[t,t] ty #[v,u]).run P W=.ok r w2) (hgd:o.guard=none) (s x:Operand)
    (ho:o.op=.call { callee:=.builtin .append,args:=#[s,x],argTypes:=#[t,t] }) (hty:o.type=ty) (hs:a.eval s=v) (hx:a.eval x=u) (h:wpList P ops Q rest (a.put o.dst r) w2):wpList P ops Q (o :: rest) a W :=
  wpList_plain hgd fun _ hK=>by
    unfold Oper.wp execOp
    simp only [ho,hty,resolve,invoke,builtin,Sem.run_bind,Sem.run_pure,Result.andThen_ok,List.map_toArray,List.map_cons,List.map_nil,hs,hx,hrun]
    exact hK _ _ h
theorem step_run {P:Program} {ops:Array Oper} {o:Oper} {a:Act} {W w2:World} {K:Act→World→Prop} {Q:Exit→Act→World→Prop} {E:Prop} {t ty:TypeId} {v u r:Value} (hrun:(Builtin.append_ #[t,t] ty #[v,u]).run P W=.ok r w2) (hgd:o.guard=none) (s x:Operand)
    (ho:o.op=.call { callee:=.builtin .append,args:=#[s,x],argTypes:=#[t,t] }) (hty:o.type=ty) (hs:a.eval s=v) (hx:a.eval x=u) (h:K (a.put o.dst r) w2) :
    if Region.wanted o (yielded ops a.tmps)=true then Oper.wp P o a W K Q else E:=by
  have hw:Region.wanted o (yielded ops a.tmps)=true:=by simp [Region.wanted,hgd]
  rw [if_pos hw]
  unfold Oper.wp execOp
  simp only [ho,hty,resolve,invoke,builtin,Sem.run_bind,Sem.run_pure,Result.andThen_ok,List.map_toArray,List.map_cons,List.map_nil,hs,hx,hrun]
  exact h
end Go.Proofs.YtcepgedbmffkdaaGreat

/-
  Rows of tokens that can be appended to; plain facts on joined tokens. No walk, no statement.
-/
namespace Go.Proofs.YtcepgedbmffkdaaGreat
open Go.RowKit
set_option linter.unusedVariables false
set_option linter.unusedSimpArgs false
theorem Tryz.infoStr:(Tryz.prog.info? 9).map (fun i=>(i.zero,i.size,i.bytes))=some (some (.string ⟨#[]⟩),1,16):=by kernel_rfl
def tk (l:List UInt8):Value:=.string ⟨l.toArray⟩
def Toks (base:Nat) (wr:World) (v:Value) (P:List (List UInt8)):Prop:=wr.ownsRow base 9 1 v P.length (P.map tk)
end Go.Proofs.YtcepgedbmffkdaaGreat

/-
  Trees that own their memory: which blocks a slice's tree lies in, no block twice; rows that are filled one by one, rows that are appended to.
-/
namespace Go.Proofs.YtcepgedbmffkdaaGreat
open Go.RowKit
set_option linter.unusedVariables false
set_option linter.unusedSimpArgs false
def Ow (w:World):Nat→Option Addr→Nat→List Tr→List Nat→Prop
  | 0,_,len,ts,bs=>len=0∧ts=[]∧bs=[]
  | d+1,ao,len,ts,bs=>(len=0∧ts=[]∧bs=[]) ∨
      ∃ (g:Nat) (cs:Array Value) (bss:List (List Nat)),ao=some ⟨g,0,none⟩∧len=ts.length∧len≤9223372036854775807∧w.heap[g]?=some (.cells cs 31 (0,0))∧len * 3≤cs.size∧bss.length=ts.length∧bs=g :: bss.flatten ∧
        ∀ i (_:i < ts.length) (_:i < bss.length),El w (fun ao' len' l=>Ow w d ao' len' l bss[i]) g (i * 3) ts[i]
theorem mem_part {bss:List (List Nat)} {i:Nat} (hi:i < bss.length) {b:Nat} (hb:b ∈ bss[i]):b ∈ bss.flatten :=
  List.mem_flatten.2 ⟨_,List.getElem_mem hi,hb⟩
theorem Ow.keep {w w':World}:∀ {d:Nat} {ao:Option Addr} {len:Nat} {ts:List Tr} {bs:List Nat},(∀ b ∈ bs,w'.heap[b]?=w.heap[b]?)→Ow w d ao len ts bs→Ow w' d ao len ts bs:=by
  intro d
  induction d with
  | zero=>intro ao len ts bs _ h;exact h
  | succ d ih =>
    intro ao len ts bs hb h
    rcases h with h | ⟨g,cs,bss,e,hl,hm,hg,hc,hbl,rfl,hE⟩
    · exact Or.inl h
    · have hgg:=hb g (by simp)
      refine Or.inr ⟨g,cs,bss,e,hl,hm,hgg.trans hg,hc,hbl,rfl,fun i hi hi'=>?_⟩
      exact ((hE i hi hi').world hgg).wider fun _ _ _ hr=>ih (fun b hb'=>hb b (List.mem_cons_of_mem _ (mem_part hi' hb'))) hr
theorem Ow.hs {w:World} {L B:Nat}:∀ {d:Nat} {ao:Option Addr} {len:Nat} {ts:List Tr} {bs:List Nat},(∀ b ∈ bs,L≤b∧b < B)→Ow w d ao len ts bs→Hs L B w d ao len ts:=by
  intro d
  induction d with
  | zero=>intro ao len ts bs _ h;exact ⟨h.1,h.2.1⟩
  | succ d ih =>
    intro ao len ts bs hb h
    rcases h with ⟨rfl,rfl,_⟩ | ⟨g,cs,bss,e,hl,hm,hg,hc,hbl,rfl,hE⟩
    · exact ⟨rfl,by omega,fun i hi=>by simp at hi⟩
    · refine ⟨hl,hm,fun i hi=>⟨g,0,e,(hb g (by simp)).1,(hb g (by simp)).2,?_⟩⟩
      rw [Nat.zero_add]
      exact (hE i hi (by omega)).wider fun _ _ _ hr=>ih (fun b hb'=>hb b (List.mem_cons_of_mem _ (mem_part (by omega) hb'))) hr
theorem Ow.deeper {w:World}:∀ {d d':Nat} {ao:Option Addr} {len:Nat} {ts:List Tr} {bs:List Nat},d≤d'→Ow w d ao len ts bs→Ow w d' ao len ts bs:=by
  intro d
  induction d with
  | zero =>
    intro d' ao len ts bs _ h
    cases d' with
    | zero=>exact h
    | succ d'=>exact Or.inl h
  | succ d ih =>
    intro d' ao len ts bs hd h
    cases d' with
    | zero=>omega
    | succ d' =>
      rcases h with h | ⟨g,cs,bss,e,hl,hm,hg,hc,hbl,hbs,hE⟩
      · exact Or.inl h
      · exact Or.inr ⟨g,cs,bss,e,hl,hm,hg,hc,hbl,hbs,fun i hi hi'=>(hE i hi hi').wider fun _ _ _ hr=>ih (by omega) hr⟩
def OwR (L B:Nat) (w:World) (d:Nat) (ao:Option Addr) (len:Nat) (ts:List Tr):Prop:=∃ bs,Ow w d ao len ts bs∧bs.Nodup∧∀ b ∈ bs,L≤b∧b < B
theorem OwR.hs {L B:Nat} {w:World} {d:Nat} {ao:Option Addr} {len:Nat} {ts:List Tr} (h:OwR L B w d ao len ts):Hs L B w d ao len ts:=by
  obtain ⟨bs,h1,_,h3⟩:=h
  exact h1.hs h3
theorem OwR.keep {L B L' B':Nat} {w w':World} {d:Nat} {ao:Option Addr} {len:Nat} {ts:List Tr} (h:OwR L B w d ao len ts) (hb:∀ k,L≤k→k < B→w'.heap[k]?=w.heap[k]?) (hL:L'≤L) (hB:B≤B'):OwR L' B' w' d ao len ts:=by
  obtain ⟨bs,h1,h2,h3⟩:=h
  exact ⟨bs,h1.keep (fun b hb'=>hb b (h3 b hb').1 (h3 b hb').2),h2,fun b hb'=>⟨Nat.le_trans hL (h3 b hb').1,Nat.lt_of_lt_of_le (h3 b hb').2 hB⟩⟩
theorem OwR.below {L B:Nat} {w w':World} {d:Nat} {ao:Option Addr} {len:Nat} {ts:List Tr} (h:OwR L B w d ao len ts) (hb:Below w.heap.size w w') (hB:B≤w.heap.size):OwR L B w' d ao len ts :=
  h.keep (fun k _ hk=>hb.block k (by omega)) (Nat.le_refl _) (Nat.le_refl _)
theorem OwR.deeper {L B:Nat} {w:World} {d d':Nat} {ao:Option Addr} {len:Nat} {ts:List Tr} (h:OwR L B w d ao len ts) (hd:d≤d'):OwR L B w d' ao len ts:=by
  obtain ⟨bs,h1,h2,h3⟩:=h
  exact ⟨bs,h1.deeper hd,h2,h3⟩
theorem OwR.nil (L B:Nat) (w:World) (d:Nat) (ao:Option Addr):OwR L B w d ao 0 []:=by
  refine ⟨[],?_,by simp,by simp⟩
  cases d with
  | zero=>exact ⟨rfl,rfl,rfl⟩
  | succ d=>exact Or.inl ⟨rfl,rfl,rfl⟩
structure RowRel (w wr:World) (d len k:Nat) (ts:List Tr):Prop where
  bel:Below w.heap.size w wr
  row:∃ cs:Array Value,wr.heap[w.heap.size]?=some (.cells cs 31 (0,0))∧cs.size=len * 3
  els:∃ bss:List (List Nat),bss.length=k∧bss.flatten.Nodup∧(∀ b ∈ bss.flatten,w.heap.size < b∧b < wr.heap.size) ∧
    ∀ i (_:i < bss.length) (_:i < ts.length),El wr (fun ao len l=>Ow wr d ao len l bss[i]) w.heap.size (i * 3) ts[i]
theorem rr_lt {w wr:World} {d len k:Nat} {ts:List Tr} (h:RowRel w wr d len k ts):w.heap.size < wr.heap.size:=by
  obtain ⟨cs,hr,_⟩:=h.row
  exact (Array.getElem?_eq_some_iff.1 hr).1
theorem rr_row {w wr w1:World} {d len k:Nat} {ts:List Tr} (h:RowRel w wr d len k ts) (hb:Below wr.heap.size wr w1):∃ cs:Array Value,w1.heap[w.heap.size]?=some (.cells cs 31 (0,0))∧cs.size=len * 3:=by
  obtain ⟨cs,hr,hc⟩:=h.row
  exact ⟨cs,(hb.block _ (rr_lt h)).trans hr,hc⟩
theorem nodup_snoc {bss:List (List Nat)} {bs:List Nat} {M:Nat} (h1:bss.flatten.Nodup) (h2:bs.Nodup) (h3:∀ b ∈ bss.flatten,b < M) (h4:∀ b ∈ bs,M≤b):(bss ++ [bs]).flatten.Nodup:=by
  rw [List.flatten_append,List.nodup_append]
  refine ⟨h1,by simpa using h2,fun a ha b hb=>?_⟩
  have h5:=h3 a ha
  have h6:=h4 b (by simpa using hb)
  omega
theorem rr_next {w wr w1:World} {d len k:Nat} {ts:List Tr} (h:RowRel w wr d len k ts) (hk:k < len) (hk':k < ts.length) (hb:Below wr.heap.size wr w1) {ao1:Option Addr} {len1 cap1:Nat}
    (hs:OwR wr.heap.size w1.heap.size w1 d ao1 len1 ts[k].A) :
    RowRel w (set3 w1 w.heap.size (k * 3) (.int .i64 ts[k].K) (.int .i64 ts[k].N) (.slice ao1 len1 cap1)) d len (k+1) ts:=by
  obtain ⟨cs,hr,hc⟩:=rr_row h hb
  have hlt:=rr_lt h
  have hsz:=hb.size
  obtain ⟨bss,hbl,hnd,hrng,hE⟩:=h.els
  obtain ⟨bs,ho,hnd2,hrng2⟩:=hs
  refine ⟨?_,?_,bss ++ [bs],by simp [hbl],nodup_snoc hnd hnd2 (fun b hb'=>(hrng b hb').2) (fun b hb'=>(hrng2 b hb').1),?_,?_⟩
  · exact set3_below (h.bel.trans (hb.mono (by omega))) (Nat.le_refl _)
  · exact ⟨_,set3_row hr,by simp [hc]⟩
  · intro b hb'
    rw [set3_size]
    rw [List.flatten_append,List.mem_append] at hb'
    rcases hb' with hb' | hb'
    · exact ⟨(hrng b hb').1,Nat.lt_of_lt_of_le (hrng b hb').2 hsz⟩
    · have:=hrng2 b (by simpa using hb')
      exact ⟨by omega,this.2⟩
  · intro i hi hi'
    by_cases hik:i=k
    · subst hik
      obtain ⟨x0,x1,x2⟩:=set3_cells (a:=.int .i64 ts[i].K) (b:=.int .i64 ts[i].N) (c:=.slice ao1 len1 cap1) hr (show i * 3+2 < cs.size by omega)
      refine ⟨_,_,_,x0,x1,x2,?_⟩
      have e:(bss ++ [bs])[i]=bs:=by simp [List.getElem_append_right,hbl]
      rw [e]
      exact ho.keep fun b hb'=>set3_other b (by have:=(hrng2 b hb').1;omega)
    · have hik':i < bss.length:=by simp at hi;omega
      obtain ⟨ao',len',cap',c0,c1,c2,hh⟩:=hE i hik' hi'
      have hcell:∀ p,w1.cell? ⟨w.heap.size,p,none⟩=wr.cell? ⟨w.heap.size,p,none⟩:=fun p=>bcell hb hlt p
      have far:∀ p,p < k * 3→(set3 w1 w.heap.size (k * 3) (.int .i64 ts[k].K) (.int .i64 ts[k].N) (.slice ao1 len1 cap1)).cell? ⟨w.heap.size,p,none⟩=wr.cell? ⟨w.heap.size,p,none⟩ :=
        fun p hp=>(set3_far hr p (Or.inl hp)).trans (hcell p)
      refine ⟨ao',len',cap',(far _ (by omega)).trans c0,(far _ (by omega)).trans c1,(far _ (by omega)).trans c2,?_⟩
      have e:(bss ++ [bs])[i]=bss[i]:=by simp [List.getElem_append_left,hik']
      rw [e]
      refine hh.keep fun b hb'=>?_
      have hb2:=hrng b (mem_part hik' hb')
      rw [set3_other b (by omega)]
      exact hb.block b hb2.2
theorem rr_done {w wr:World} {d len:Nat} {ts:List Tr} (h:RowRel w wr d len len ts) (hl:len=ts.length) (hm:len≤9223372036854775807):OwR w.heap.size wr.heap.size wr (d+1) (some ⟨w.heap.size,0,none⟩) len ts:=by
  obtain ⟨cs,hr,hc⟩:=h.row
  obtain ⟨bss,hbl,hnd,hrng,hE⟩:=h.els
  refine ⟨w.heap.size :: bss.flatten,Or.inr ⟨w.heap.size,cs,bss,rfl,hl,hm,hr,by omega,by omega,rfl,fun i hi hi'=>hE i hi' hi⟩,?_,?_⟩
  · rw [List.nodup_cons]
    exact ⟨fun hmem=>by have:=(hrng _ hmem).1;omega,hnd⟩
  · intro b hb
    rw [List.mem_cons] at hb
    rcases hb with rfl | hb
    · exact ⟨Nat.le_refl _,rr_lt h⟩
    · exact ⟨Nat.le_of_lt (hrng b hb).1,(hrng b hb).2⟩
theorem rr_start {w:World} {C:Array Value} {d len:Nat} {ts:List Tr} (hC:C.size=len * 3):RowRel w (w.alloc (.cells C 31)) d len 0 ts :=
  ⟨(Below.refl _ _).alloc (Nat.le_refl _) _,⟨C,heap_alloc_new _ _,hC⟩,[],rfl,by simp,by simp,fun i hi=>by simp at hi⟩
structure ApRel (base:Nat) (wr:World) (d:Nat) (v:Value) (k:Nat) (ts:List Tr):Prop where
  own:∃ xs,wr.ownsRow base 31 3 v k xs∧∃ bss:List (List Nat),bss.length=k∧bss.flatten.Nodup∧(∀ b ∈ bss.flatten,base≤b∧b < wr.heap.size∧v.ownBlock≠some b) ∧
    ∀ i (_:i < bss.length) (_:i < ts.length),∃ ao len cap,xs[i * 3]?=some (.int .i64 ts[i].K)∧xs[i * 3+1]?=some (.int .i64 ts[i].N)∧xs[i * 3+2]?=some (.slice ao len cap)∧Ow wr d ao len ts[i].A bss[i]
theorem ap_nil (base:Nat) (w:World) (d:Nat) (ts:List Tr):ApRel base w d (.slice none 0 0) 0 ts :=
  ⟨[],World.ownsRow_nil _ _ _ _,[],rfl,by simp,by simp,fun i hi=>by simp at hi⟩
theorem ap_set {base:Nat} {wr:World} {d:Nat} {v:Value} {k:Nat} {ts:List Tr} (h:ApRel base wr d v k ts) {o j:Nat} (ho:o < base) (u:Value):ApRel base (wr.setCell ⟨o,j,none⟩ u) d v k ts:=by
  obtain ⟨xs,hown,bss,hbl,hnd,hrng,hE⟩:=h.own
  refine ⟨xs,ownsRow_setCell_below hown ho u,bss,hbl,hnd,fun b hb=>by simpa using hrng b hb,fun i hi hi'=>?_⟩
  obtain ⟨ao,len,cap,c0,c1,c2,hh⟩:=hE i hi hi'
  exact ⟨ao,len,cap,c0,c1,c2,hh.keep fun b hb=>row_other _ _ _ (by have:=(hrng b (mem_part hi hb)).1;omega)⟩
theorem ap_block {base:Nat} {wr:World} {d:Nat} {v:Value} {k:Nat} {ts:List Tr} (h:ApRel base wr d v k ts) {g:Nat} (hg:v.ownBlock=some g):base≤g∧g < wr.heap.size:=by
  obtain ⟨xs,hown,_⟩:=h.own
  rcases hown.2 with ⟨rfl,_⟩ | ⟨g',cap,cur,rfl,hb,hh,_⟩
  · simp [Value.ownBlock] at hg
  · simp [Value.ownBlock] at hg
    subst hg
    exact ⟨hb,(Array.getElem?_eq_some_iff.1 hh).1⟩
theorem ap_below {base:Nat} {wr w1:World} {d:Nat} {v:Value} {k:Nat} {ts:List Tr} (h:ApRel base wr d v k ts) (hb:Below wr.heap.size wr w1):ApRel base w1 d v k ts:=by
  have hbk:=fun g hg=>ap_block h (g:=g) hg
  obtain ⟨xs,hown,bss,hbl,hnd,hrng,hE⟩:=h.own
  refine ⟨xs,?_,bss,hbl,hnd,fun b hb'=>⟨(hrng b hb').1,Nat.lt_of_lt_of_le (hrng b hb').2.1 hb.size,(hrng b hb').2.2⟩,fun i hi hi'=>?_⟩
  · refine ⟨hown.1,?_⟩
    rcases hown.2 with hn | ⟨g,cap,cur,rfl,hg,hh,r⟩
    · exact Or.inl hn
    · exact Or.inr ⟨g,cap,cur,rfl,hg,(hb.block g (hbk g rfl).2).trans hh,r⟩
  · obtain ⟨ao,len,cap,c0,c1,c2,hh⟩:=hE i hi hi'
    exact ⟨ao,len,cap,c0,c1,c2,hh.keep fun b hb'=>hb.block b (hrng b (mem_part hi hb')).2.1⟩
theorem ap_next {base:Nat} {wr X w2:World} {d:Nat} {v:Value} {k:Nat} {ts:List Tr} (h:ApRel base wr d v k ts) (hk:k < ts.length) (hX:Below wr.heap.size wr X) (hbase:base≤wr.heap.size) {ao1:Option Addr} {len1 cap1:Nat}
    (hs:OwR wr.heap.size X.heap.size X d ao1 len1 ts[k].A) {g cap:Nat} {xs:List Value} (hxs:wr.ownsRow base 31 3 v k xs)
    (hown:w2.ownsRow base 31 3 (.slice (some ⟨g,0,none⟩) (k+1) cap) (k+1) (xs ++ [.int .i64 ts[k].K,.int .i64 ts[k].N,.slice ao1 len1 cap1])) (hgrow:X.grownBy w2 v.ownBlock) (hat:v.ownBlock=some g∨g=X.heap.size) :
    ApRel base w2 d (.slice (some ⟨g,0,none⟩) (k+1) cap) (k+1) ts:=by
  have hbk:=fun g hg=>ap_block h (g:=g) hg
  have hsz:=hX.size
  obtain ⟨xs',hown',bss,hbl,hnd,hrng,hE⟩:=h.own
  have hxx:xs'=xs:=by
    rcases hown'.2 with ⟨hv,hn⟩ | ⟨g1,cap1',cur1,hv,_,hh,_,_,_,ht⟩
    · have h1:=hown'.1
      have h2:=hxs.1
      rw [hn] at h1 h2
      simp at h1 h2
      rw [h1,h2]
    · rcases hxs.2 with ⟨hv2,_⟩ | ⟨g2,cap2,cur2,hv2,_,hh2,_,_,_,ht2⟩
      · rw [hv] at hv2;cases hv2
      · rw [hv] at hv2
        cases hv2
        rw [hh] at hh2
        cases hh2
        rw [← ht,← ht2]
  subst hxx
  have hlx:xs'.length=k * 3:=hown'.1
  obtain ⟨bs,ho,hnd2,hrng2⟩:=hs
  have keepOld:∀ b,b < X.heap.size→v.ownBlock≠some b→w2.heap[b]?=X.heap[b]?:=fun b hb hne=>hgrow.block b hb (fun e=>hne e.symm)
  have hnew:∀ b ∈ bs,v.ownBlock≠some b:=fun b hb e=>by have h1:=(hbk b e).2;have h2:=(hrng2 b hb).1;omega
  refine ⟨_,hown,bss ++ [bs],by simp [hbl],nodup_snoc hnd hnd2 (fun b hb'=>(hrng b hb').2.1) (fun b hb'=>(hrng2 b hb').1),?_,?_⟩
  · intro b hb'
    rw [List.flatten_append,List.mem_append] at hb'
    have hg2:=hgrow.size
    rcases hb' with hb' | hb'
    · obtain ⟨h1,h2,h3⟩:=hrng b hb'
      refine ⟨h1,by omega,?_⟩
      simp only [Value.ownBlock]
      intro e
      have e':g=b:=by simpa using e
      subst e'
      rcases hat with hat | hat
      · exact h3 hat
      · omega
    · have hb2:=hrng2 b (by simpa using hb')
      refine ⟨by omega,by omega,?_⟩
      simp only [Value.ownBlock]
      intro e
      have e':g=b:=by simpa using e
      subst e'
      rcases hat with hat | hat
      · have:=(hbk g hat).2;omega
      · omega
  · intro i hi hi'
    by_cases hik:i=k
    · subst hik
      refine ⟨ao1,len1,cap1,?_,?_,?_,?_⟩
      · rw [List.getElem?_append_right (by omega),hlx];simp
      · rw [List.getElem?_append_right (by omega),hlx];simp [Nat.add_sub_cancel_left]
      · rw [List.getElem?_append_right (by omega),hlx];simp [Nat.add_sub_cancel_left]
      · have e:(bss ++ [bs])[i]=bs:=by simp [List.getElem_append_right,hbl]
        rw [e]
        exact ho.keep fun b hb'=>keepOld b (hrng2 b hb').2 (hnew b hb')
    · have hik':i < bss.length:=by simp at hi;omega
      obtain ⟨ao',len',cap',c0,c1,c2,hh⟩:=hE i hik' hi'
      refine ⟨ao',len',cap',?_,?_,?_,?_⟩
      · rw [List.getElem?_append_left (by omega)];exact c0
      · rw [List.getElem?_append_left (by omega)];exact c1
      · rw [List.getElem?_append_left (by omega)];exact c2
      · have e:(bss ++ [bs])[i]=bss[i]:=by simp [List.getElem_append_left,hik']
        rw [e]
        refine hh.keep fun b hb'=>?_
        obtain ⟨h1,h2,h3⟩:=hrng b (mem_part hik' hb')
        rw [keepOld b (by omega) h3]
        exact hX.block b h2
theorem ap_done {base:Nat} {wr:World} {d:Nat} {v:Value} {k:Nat} {ts:List Tr} (h:ApRel base wr d v k ts) (hk:k=ts.length) (hm:k≤9223372036854775807):∃ ao cap,v=.slice ao k cap∧OwR base wr.heap.size wr (d+1) ao k ts:=by
  have hbk:=fun g hg=>ap_block h (g:=g) hg
  obtain ⟨xs,hown,bss,hbl,hnd,hrng,hE⟩:=h.own
  rcases hown.2 with ⟨rfl,rfl⟩ | ⟨g,cap,cur,rfl,hg,hh,hc1,hc2,hc3,ht⟩
  · have:ts=[]:=List.length_eq_zero_iff.1 hk.symm
    subst this
    exact ⟨none,0,rfl,OwR.nil _ _ _ _ _⟩
  · refine ⟨_,cap,rfl,?_⟩
    by_cases hk0:k=0
    · subst hk0
      have:ts=[]:=List.length_eq_zero_iff.1 hk.symm
      subst this
      exact OwR.nil _ _ _ _ _
    refine ⟨g :: bss.flatten,Or.inr ⟨g,cur,bss,rfl,hk,hm,hh,?_,by omega,rfl,fun i hi hi'=>?_⟩,?_,?_⟩
    · rw [hc3];exact Nat.mul_le_mul_right _ hc1
    · obtain ⟨ao',len',cap',c0,c1,c2,hh'⟩:=hE i hi' hi
      have look:∀ p u,xs[p]?=some u→wr.cell? ⟨g,p,none⟩=some u:=by
        intro p u hu
        rw [row_cell hh]
        rw [← ht] at hu
        rw [List.getElem?_take] at hu
        split at hu
        · simpa using hu
        · cases hu
      exact ⟨ao',len',cap',look _ _ c0,look _ _ c1,look _ _ c2,hh'⟩
    · rw [List.nodup_cons]
      exact ⟨fun hmem=>(hrng _ hmem).2.2 rfl,hnd⟩
    · intro b hb
      rw [List.mem_cons] at hb
      rcases hb with rfl | hb
      · exact hbk b rfl
      · exact ⟨(hrng b hb).1,(hrng b hb).2.1⟩
end Go.Proofs.YtcepgedbmffkdaaGreat
