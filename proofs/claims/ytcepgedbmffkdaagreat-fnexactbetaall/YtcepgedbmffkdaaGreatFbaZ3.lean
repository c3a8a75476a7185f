/-
  From the reading of an argument of the laws' own type to the tree that lies there.
-/
import Derived.Test.YtcepgedbmffkdaaGreatFbaZ1
import Derived.ProofKit
import Derived.Deep.Slices
import Derived.Deep.Strs
import Derived.ChangeOld
import Derived.OpenShut
import Derived.Test.YtcepgedbmffkdaaGreatFbaZ2
import Derived.PlainAid
namespace Go.Proofs.YtcepgedbmffkdaaGreat
open Go.RowKit
set_option linter.unusedVariables false
set_option linter.unusedSimpArgs false
theorem Hs.deeper {L B:Nat} {w:World}:∀ {d d':Nat} {ao:Option Addr} {len:Nat} {ts:List Tr},d≤d'→Hs L B w d ao len ts→Hs L B w d' ao len ts:=by
  intro d
  induction d with
  | zero =>
    intro d' ao len ts _ h
    obtain ⟨rfl,rfl⟩:=h
    cases d' with
    | zero=>exact ⟨rfl,rfl⟩
    | succ d'=>exact ⟨rfl,by omega,fun i hi=>by simp at hi⟩
  | succ d ih =>
    intro d' ao len ts hd h
    cases d' with
    | zero=>omega
    | succ d' =>
      refine ⟨h.1,h.2.1,fun i hi=>?_⟩
      obtain ⟨b,o,e,h1,h2,h3⟩:=h.2.2 i hi
      exact ⟨b,o,e,h1,h2,h3.wider fun _ _ _ hr=>ih (by omega) hr⟩
theorem Hs.nil (L B:Nat) (w:World) (d:Nat) (ao:Option Addr):Hs L B w d ao 0 []:=by
  cases d with
  | zero=>exact ⟨rfl,rfl⟩
  | succ d=>exact ⟨rfl,by omega,fun i hi=>by simp at hi⟩
end Go.Proofs.YtcepgedbmffkdaaGreat

/-
  Terms as trees, and what it is that a slice in memory holds a list of them: no walk, no statement.
-/
namespace Go.Proofs.YtcepgedbmffkdaaGreat
open Go.RowKit
set_option linter.unusedVariables false
set_option linter.unusedSimpArgs false
structure Tm where
  K:Int
  N:Int
  S:ByteArray
  Z:ByteArray
  T:Tr
  Ts:List Tr
  A:List Tm
def ownM (t:Tm):Nat:=t.S.size+t.Z.size+cntS t.T.A+cntS t.Ts
def cntM:Tm→Nat
  | ⟨_,_,s,z,t,ts,a⟩=>s.size+z.size+cntS t.A+cntS ts+a.length+(a.attach.map fun ⟨x,_⟩=>cntM x).sum
def cntMS (l:List Tm):Nat:=l.length+(l.map cntM).sum
def subMS (l:List Tm):Nat:=(l.map cntM).sum
theorem cntM_eq (t:Tm):cntM t=ownM t+cntMS t.A:=by
  cases t;rw [cntM];simp [cntMS,ownM];omega
theorem cntMS_eq (l:List Tm):cntMS l=l.length+subMS l:=rfl
theorem subMS_take (l:List Tm) (k:Nat) (h:k < l.length):subMS (l.take (k+1))=subMS (l.take k)+cntM l[k]:=by
  rw [List.take_succ_eq_append_getElem h];simp only [subMS,List.map_append,List.sum_append,List.map_cons,List.map_nil,List.sum_cons,List.sum_nil];omega
theorem subMS_take_le (l:List Tm) (k:Nat):subMS (l.take k)≤subMS l:=by
  have h:=congrArg subMS (List.take_append_drop k l)
  simp only [subMS,List.map_append,List.sum_append] at *;omega
theorem cntMS_get (l:List Tm) (k:Nat) (h:k < l.length):cntM l[k] < cntMS l:=by
  have h1:=subMS_take l k h
  have h2:=subMS_take_le l (k+1)
  have h3:=cntMS_eq l
  omega
structure Nine (w:World) (b o:Nat) (k n:Int) (s z:ByteArray) (tk tn:Int) (v6 v7 v8:Value):Prop where
  c0:w.cell? ⟨b,o,none⟩=some (.int .i64 k)
  c1:w.cell? ⟨b,o+1,none⟩=some (.int .i64 n)
  c2:w.cell? ⟨b,o+2,none⟩=some (.string s)
  c3:w.cell? ⟨b,o+3,none⟩=some (.string z)
  c4:w.cell? ⟨b,o+4,none⟩=some (.int .i64 tk)
  c5:w.cell? ⟨b,o+5,none⟩=some (.int .i64 tn)
  c6:w.cell? ⟨b,o+6,none⟩=some v6
  c7:w.cell? ⟨b,o+7,none⟩=some v7
  c8:w.cell? ⟨b,o+8,none⟩=some v8
theorem Nine.of_cells {w w':World} {b b' o o':Nat} {k n:Int} {s z:ByteArray} {tk tn:Int} {v6 v7 v8:Value} (h:Nine w b o k n s z tk tn v6 v7 v8) (hc:∀ i,i < 9→w'.cell? ⟨b',o'+i,none⟩=w.cell? ⟨b,o+i,none⟩):Nine w' b' o' k n s z tk tn v6 v7 v8 :=
  ⟨(hc 0 (by omega)).trans h.c0,(hc 1 (by omega)).trans h.c1,(hc 2 (by omega)).trans h.c2,(hc 3 (by omega)).trans h.c3,(hc 4 (by omega)).trans h.c4,(hc 5 (by omega)).trans h.c5,(hc 6 (by omega)).trans h.c6,(hc 7 (by omega)).trans h.c7,(hc 8 (by omega)).trans h.c8⟩
theorem Nine.world {w w':World} {b o:Nat} {k n:Int} {s z:ByteArray} {tk tn:Int} {v6 v7 v8:Value} (h:Nine w b o k n s z tk tn v6 v7 v8) (hb:w'.heap[b]?=w.heap[b]?):Nine w' b o k n s z tk tn v6 v7 v8 :=
  h.of_cells fun _ _=>World.cell?_of_block hb
theorem Nine.below {w w':World} {b o:Nat} {k n:Int} {s z:ByteArray} {tk tn:Int} {v6 v7 v8:Value} (h:Nine w b o k n s z tk tn v6 v7 v8) (hb:Below w.heap.size w w') (hlt:b < w.heap.size):Nine w' b o k n s z tk tn v6 v7 v8 :=
  h.world (hb.block b hlt)
theorem Nine.box {w:World} {b:Nat} {k n:Int} {s z:ByteArray} {tk tn:Int} {v6 v7 v8:Value} {t:TypeId} {fr:Nat × Nat} (h:w.heap[b]?=some (.cells #[.int .i64 k,.int .i64 n,.string s,.string z,.int .i64 tk,.int .i64 tn,v6,v7,v8] t fr)):Nine w b 0 k n s z tk tn v6 v7 v8 :=
  ⟨row_cell h 0,row_cell h 1,row_cell h 2,row_cell h 3,row_cell h 4,row_cell h 5,row_cell h 6,row_cell h 7,row_cell h 8⟩
structure Fld (rT:Option Addr→Nat→List Tr→Prop) (rM:Option Addr→Nat→List Tm→Prop) (t:Tm) (a1:Option Addr) (l1:Nat) (a2:Option Addr) (l2:Nat) (a3:Option Addr) (l3:Nat):Prop where
  s:t.S.size≤9223372036854775807
  z:t.Z.size≤9223372036854775807
  t1:rT a1 l1 t.T.A
  t2:rT a2 l2 t.Ts
  m:rM a3 l3 t.A
theorem Fld.wider {rT rT':Option Addr→Nat→List Tr→Prop} {rM rM':Option Addr→Nat→List Tm→Prop} {t:Tm} {a1 a2 a3:Option Addr} {l1 l2 l3:Nat} (h:Fld rT rM t a1 l1 a2 l2 a3 l3)
    (kT:∀ ao len ts,rT ao len ts→rT' ao len ts) (kM:∀ ao len ts,rM ao len ts→rM' ao len ts):Fld rT' rM' t a1 l1 a2 l2 a3 l3 :=
  ⟨h.s,h.z,kT _ _ _ h.t1,kT _ _ _ h.t2,kM _ _ _ h.m⟩
def El9 (w:World) (rT:Option Addr→Nat→List Tr→Prop) (rM:Option Addr→Nat→List Tm→Prop) (b o:Nat) (t:Tm):Prop :=
  ∃ a1 l1 c1 a2 l2 c2 a3 l3 c3,Nine w b o t.K t.N t.S t.Z t.T.K t.T.N (.slice a1 l1 c1) (.slice a2 l2 c2) (.slice a3 l3 c3)∧Fld rT rM t a1 l1 a2 l2 a3 l3
def Hm (L B:Nat) (w:World) (D:Nat):Nat→Option Addr→Nat→List Tm→Prop
  | 0,_,len,ts=>len=0∧ts=[]
  | d+1,ao,len,ts=>len=ts.length∧len≤9223372036854775807∧∀ i (_:i < ts.length),∃ b o,ao=some ⟨b,o,none⟩∧L≤b∧b < B∧El9 w (Hs L B w D) (Hm L B w D d) b (o+i * 9) ts[i]
abbrev Fm (L B:Nat) (w:World) (D d:Nat) (t:Tm) (a1:Option Addr) (l1:Nat) (a2:Option Addr) (l2:Nat) (a3:Option Addr) (l3:Nat):Prop:=Fld (Hs L B w D) (Hm L B w D d) t a1 l1 a2 l2 a3 l3
theorem El9.wider {w:World} {rT rT':Option Addr→Nat→List Tr→Prop} {rM rM':Option Addr→Nat→List Tm→Prop} {b o:Nat} {t:Tm} (h:El9 w rT rM b o t)
    (kT:∀ ao len ts,rT ao len ts→rT' ao len ts) (kM:∀ ao len ts,rM ao len ts→rM' ao len ts):El9 w rT' rM' b o t:=by
  obtain ⟨a1,l1,c1,a2,l2,c2,a3,l3,c3,h9,hf⟩:=h
  exact ⟨a1,l1,c1,a2,l2,c2,a3,l3,c3,h9,hf.wider kT kM⟩
theorem El9.world {w w':World} {rT:Option Addr→Nat→List Tr→Prop} {rM:Option Addr→Nat→List Tm→Prop} {b o:Nat} {t:Tm} (h:El9 w rT rM b o t) (hb:w'.heap[b]?=w.heap[b]?):El9 w' rT rM b o t:=by
  obtain ⟨a1,l1,c1,a2,l2,c2,a3,l3,c3,h9,hf⟩:=h
  exact ⟨a1,l1,c1,a2,l2,c2,a3,l3,c3,h9.world hb,hf⟩
theorem Hm.len {L B:Nat} {w:World} {D d:Nat} {ao:Option Addr} {len:Nat} {ts:List Tm} (h:Hm L B w D d ao len ts):len=ts.length∧len≤9223372036854775807:=by
  cases d with
  | zero=>obtain ⟨rfl,rfl⟩:=h;exact ⟨rfl,by omega⟩
  | succ d=>exact ⟨h.1,h.2.1⟩
theorem Hm.get {L B:Nat} {w:World} {D d:Nat} {ao:Option Addr} {len:Nat} {ts:List Tm} (h:Hm L B w D d ao len ts) (i:Nat) (hi:i < ts.length):∃ b o,ao=some ⟨b,o,none⟩∧L≤b∧b < B∧El9 w (Hs L B w D) (Hm L B w D (d - 1)) b (o+i * 9) ts[i]:=by
  cases d with
  | zero=>obtain ⟨_,rfl⟩:=h;simp at hi
  | succ d=>exact h.2.2 i hi
theorem Hm.keep {L B L' B':Nat} {w w':World} {D:Nat} (hb:∀ k,L≤k→k < B→w'.heap[k]?=w.heap[k]?) (hL:L'≤L) (hB:B≤B'):∀ {d:Nat} {ao:Option Addr} {len:Nat} {ts:List Tm},Hm L B w D d ao len ts→Hm L' B' w' D d ao len ts:=by
  intro d
  induction d with
  | zero=>intro ao len ts h;exact h
  | succ d ih =>
    intro ao len ts h
    refine ⟨h.1,h.2.1,fun i hi=>?_⟩
    obtain ⟨b,o,e,h1,h2,h3⟩:=h.2.2 i hi
    exact ⟨b,o,e,by omega,by omega,(h3.world (hb b h1 h2)).wider (fun _ _ _ hr=>hr.keep hb hL hB) (fun _ _ _ hr=>ih hr)⟩
theorem Hm.below {L B:Nat} {w w':World} {D:Nat} (hb:Below w.heap.size w w') (hB:B≤w.heap.size) {d:Nat} {ao:Option Addr} {len:Nat} {ts:List Tm} (h:Hm L B w D d ao len ts):Hm L B w' D d ao len ts :=
  h.keep (fun k _ hk=>hb.block k (by omega)) (Nat.le_refl _) (Nat.le_refl _)
theorem Hm.drew {L B:Nat} {w:World} {D d:Nat} {ao:Option Addr} {len:Nat} {ts:List Tm} (h:Hm L B w D d ao len ts):Hm L B w.drew D d ao len ts:=h.keep (w:=w) (w':=w.drew) (fun _ _ _=>rfl) (Nat.le_refl _) (Nat.le_refl _)
theorem Fm.keep {L B L' B':Nat} {w w':World} {D d:Nat} (hb:∀ k,L≤k→k < B→w'.heap[k]?=w.heap[k]?) (hL:L'≤L) (hB:B≤B') {t:Tm} {a1 a2 a3:Option Addr} {l1 l2 l3:Nat} (h:Fm L B w D d t a1 l1 a2 l2 a3 l3):Fm L' B' w' D d t a1 l1 a2 l2 a3 l3 :=
  h.wider (fun _ _ _ hr=>hr.keep hb hL hB) (fun _ _ _ hr=>hr.keep hb hL hB)
theorem Fm.below {L B:Nat} {w w':World} {D d:Nat} (hb:Below w.heap.size w w') (hB:B≤w.heap.size) {t:Tm} {a1 a2 a3:Option Addr} {l1 l2 l3:Nat} (h:Fm L B w D d t a1 l1 a2 l2 a3 l3):Fm L B w' D d t a1 l1 a2 l2 a3 l3 :=
  Fm.keep (fun k _ hk=>hb.block k (by omega)) (Nat.le_refl _) (Nat.le_refl _) h
theorem Fm.drew {L B:Nat} {w:World} {D d:Nat} {t:Tm} {a1 a2 a3:Option Addr} {l1 l2 l3:Nat} (h:Fm L B w D d t a1 l1 a2 l2 a3 l3):Fm L B w.drew D d t a1 l1 a2 l2 a3 l3 :=
  Fm.keep (w:=w) (w':=w.drew) (fun _ _ _=>rfl) (Nat.le_refl _) (Nat.le_refl _) h
theorem Hm.deeper {L B:Nat} {w:World}:∀ {d d' D D':Nat} {ao:Option Addr} {len:Nat} {ts:List Tm},d≤d'→D≤D'→Hm L B w D d ao len ts→Hm L B w D' d' ao len ts:=by
  intro d
  induction d with
  | zero =>
    intro d' D D' ao len ts _ _ h
    obtain ⟨rfl,rfl⟩:=h
    cases d' with
    | zero=>exact ⟨rfl,rfl⟩
    | succ d'=>exact ⟨rfl,by omega,fun i hi=>by simp at hi⟩
  | succ d ih =>
    intro d' D D' ao len ts hd hD h
    cases d' with
    | zero=>omega
    | succ d' =>
      refine ⟨h.1,h.2.1,fun i hi=>?_⟩
      obtain ⟨b,o,e,h1,h2,h3⟩:=h.2.2 i hi
      exact ⟨b,o,e,h1,h2,h3.wider (fun _ _ _ hr=>hr.deeper hD) (fun _ _ _ hr=>ih (by omega) hD hr)⟩
theorem Hm.nil (L B:Nat) (w:World) (D d:Nat) (ao:Option Addr):Hm L B w D d ao 0 []:=by
  cases d with
  | zero=>exact ⟨rfl,rfl⟩
  | succ d=>exact ⟨rfl,by omega,fun i hi=>by simp at hi⟩
def set9 (w:World) (g o:Nat) (a0 a1 a2 a3 a4 a5 a6 a7 a8:Value):World :=
  set3 (set3 (set3 w g o a0 a1 a2) g (o+3) a3 a4 a5) g (o+6) a6 a7 a8
theorem set9_other {w:World} {g o:Nat} {a0 a1 a2 a3 a4 a5 a6 a7 a8:Value} (k:Nat) (hk:k≠g):(set9 w g o a0 a1 a2 a3 a4 a5 a6 a7 a8).heap[k]?=w.heap[k]?:=by
  unfold set9;rw [set3_other _ hk,set3_other _ hk,set3_other _ hk]
theorem set9_row {w:World} {g o:Nat} {a0 a1 a2 a3 a4 a5 a6 a7 a8:Value} {cs:Array Value} {t:TypeId} {fr:Nat × Nat} (h:w.heap[g]?=some (.cells cs t fr)):∃ cs',(set9 w g o a0 a1 a2 a3 a4 a5 a6 a7 a8).heap[g]?=some (.cells cs' t fr)∧cs'.size=cs.size :=
  ⟨_,set3_row (set3_row (set3_row h)),by simp⟩
theorem set9_far {w:World} {g o:Nat} {a0 a1 a2 a3 a4 a5 a6 a7 a8:Value} {cs:Array Value} {t:TypeId} {fr:Nat × Nat} (h:w.heap[g]?=some (.cells cs t fr)) (p:Nat) (hp:p < o∨o+8 < p):(set9 w g o a0 a1 a2 a3 a4 a5 a6 a7 a8).cell? ⟨g,p,none⟩=w.cell? ⟨g,p,none⟩:=by
  unfold set9
  rw [set3_far (set3_row (set3_row h)) p (by omega),set3_far (set3_row h) p (by omega),set3_far h p (by omega)]
theorem set9_size (w:World) (g o:Nat) (a0 a1 a2 a3 a4 a5 a6 a7 a8:Value):(set9 w g o a0 a1 a2 a3 a4 a5 a6 a7 a8).heap.size=w.heap.size:=by simp [set9,set3_size]
theorem set9_below {B:Nat} {x w:World} {g o:Nat} {a0 a1 a2 a3 a4 a5 a6 a7 a8:Value} (h:Below B x w) (hg:B≤g):Below B x (set9 w g o a0 a1 a2 a3 a4 a5 a6 a7 a8) :=
  set3_below (set3_below (set3_below h hg) hg) hg
theorem set9_cells {w:World} {g o:Nat} {k n:Int} {s z:ByteArray} {tk tn:Int} {v6 v7 v8:Value} {cs:Array Value} {t:TypeId} {fr:Nat × Nat} (h:w.heap[g]?=some (.cells cs t fr)) (ho:o+8 < cs.size) :
    Nine (set9 w g o (.int .i64 k) (.int .i64 n) (.string s) (.string z) (.int .i64 tk) (.int .i64 tn) v6 v7 v8) g o k n s z tk tn v6 v7 v8:=by
  have r1:=set3_row (o:=o) (a:=.int .i64 k) (b:=.int .i64 n) (c:=.string s) h
  have r2:=set3_row (o:=o+3) (a:=.string z) (b:=.int .i64 tk) (c:=.int .i64 tn) r1
  obtain ⟨x0,x1,x2⟩:=set3_cells (a:=.int .i64 k) (b:=.int .i64 n) (c:=.string s) h (show o+2 < cs.size by omega)
  obtain ⟨x3,x4,x5⟩:=set3_cells (o:=o+3) (a:=.string z) (b:=.int .i64 tk) (c:=.int .i64 tn) r1 (by simp;omega)
  obtain ⟨x6,x7,x8⟩:=set3_cells (o:=o+6) (a:=v6) (b:=v7) (c:=v8) r2 (by simp;omega)
  unfold set9
  refine ⟨?_,?_,?_,?_,?_,?_,x6,x7,x8⟩
  · rw [set3_far r2 _ (by omega),set3_far r1 _ (by omega)];exact x0
  · rw [set3_far r2 _ (by omega),set3_far r1 _ (by omega)];exact x1
  · rw [set3_far r2 _ (by omega),set3_far r1 _ (by omega)];exact x2
  · rw [set3_far r2 _ (by omega)];exact x3
  · rw [set3_far r2 _ (by omega)];exact x4
  · rw [set3_far r2 _ (by omega)];exact x5
end Go.Proofs.YtcepgedbmffkdaaGreat

/-
  When a term is right, in plain words: names, shapes of kinds, one node, nodes down to a depth. No walk.
-/
namespace Go.Proofs.YtcepgedbmffkdaaGreat
open Go.RowKit Go.PlainAid
set_option linter.unusedVariables false
set_option linter.unusedSimpArgs false
def isLow (x:Int):Bool:=decide (97≤x∧x≤122)
def isDig (x:Int):Bool:=decide (48≤x∧x≤57)
def chOk (x:Int):Bool:=isLow x || isDig x || decide (x=46)
def allB (s:ByteArray) (n:Nat) (f:Int→Bool):Bool:=(List.range n).all fun i=>f (bt s i)
def nameW (s:ByteArray):Bool:=decide (1≤s.size) && decide (s.size≤8) && isLow (bt s 0) && allB s s.size chOk
theorem allB_succ (s:ByteArray) (n:Nat) (f:Int→Bool):allB s (n+1) f=(allB s n f && f (bt s n)):=by
  simp [allB,List.range_succ,List.all_append]
theorem allB_false {s:ByteArray} {n:Nat} {f:Int→Bool} (k:Nat) (h:k < n) (hf:f (bt s k)=false):allB s n f=false:=by
  rw [Bool.eq_false_iff];intro h1
  have:=List.all_eq_true.1 h1 k (List.mem_range.2 h)
  simp only [hf] at this;cases this
def isNil (s:ByteArray):Bool:=s.toList.isEmpty
def kOk (k:Int):Bool:=decide (1≤k∧k≤17)
def shN (k:Int):Int:=if k=3∨k=4∨k=6∨k=7∨k=17 then 1 else if k=14 then 2 else 0
def shL (k:Int):Int:=if k=1 then -1000000 else if k=15 then 1 else 0
def shM (k:Int):Int:=if k=1 then 1000000 else if k=2 then 1 else if k=6∨k=7 then 2 else if k=15 then 5 else 0
def shT (k:Int):Bool:=decide (k=4∨k=7∨k=12∨k=16)
def shS (k:Int):Int:=if k=3 then 2 else 0
def shP (k:Int):Int:=if k=4∨k=10∨k=11∨k=16 then 1 else if k=5∨k=6∨k=7∨k=9∨k=13∨k=15∨k=17 then 2 else if k=8∨k=14 then 3 else 0
theorem shN_bd (k:Int):0≤shN k∧shN k≤2:=by unfold shN;(repeat' split) <;> omega
theorem shL_bd (k:Int):-1000000≤shL k∧shL k≤1:=by unfold shL;(repeat' split) <;> omega
theorem shM_bd (k:Int):0≤shM k∧shM k≤1000000:=by unfold shM;(repeat' split) <;> omega
theorem shS_bd (k:Int):0≤shS k∧shS k≤2:=by unfold shS;(repeat' split) <;> omega
theorem shP_bd (k:Int):0≤shP k∧shP k≤3:=by unfold shP;(repeat' split) <;> omega
def namesB (n:Int) (s z:ByteArray):Bool:=if n=0 then isNil s && isNil z else if n=1 then nameW s && isNil z else nameW s && nameW z && !(s.toList == z.toList)
def zeroT (t:Tr):Bool:=(t.K == 0) && (t.N == 0) && ((t.A.length:Int) == 0)
def typesB (k:Int) (t:Tr) (ts:List Tr):Bool:=(if shT k then okT t else zeroT t) && decide ((ts.length:Int)≤shS k) && ts.all okT
def fixB (k:Int) (a:List Tm):Bool:=if k=7 then (match a with | x :: _=>decide (x.K=4) | []=>false) else true
def nodeM (t:Tm):Bool:=kOk t.K && decide (shL t.K≤t.N∧t.N≤shM t.K) && decide ((t.A.length:Int)=shP t.K) && fixB t.K t.A && namesB (shN t.K) t.S t.Z && typesB t.K t.T t.Ts
theorem nodeM_len {t:Tm} (h:nodeM t=true):t.A.length≤3:=by
  simp only [nodeM,Bool.and_eq_true,decide_eq_true_eq] at h
  have:=shP_bd t.K
  omega
def nodesG (f:Tm→Option Nat):List Tm→Option Nat
  | []=>some 0
  | t :: ts=>match f t,nodesG f ts with
    | some a,some b=>some (a+b)
    | _,_=>none
def nodesM:Nat→Tm→Option Nat
  | 0,_=>none
  | l+1,t=>if nodeM t then (nodesG (nodesM l) t.A).map (1+·) else none
theorem nodesG_append (f:Tm→Option Nat) (a b:List Tm):nodesG f (a ++ b)=match nodesG f a,nodesG f b with | some x,some y=>some (x+y) | _,_=>none:=by
  induction a with
  | nil=>simp only [List.nil_append,nodesG];cases nodesG f b <;> simp
  | cons t a ih =>
    simp only [List.cons_append,nodesG,ih]
    cases f t <;> cases nodesG f a <;> cases nodesG f b <;> simp [Nat.add_assoc]
theorem nodesG_take (f:Tm→Option Nat) (l:List Tm) (k:Nat) (h:k < l.length) (m:Nat) (hm:nodesG f (l.take k)=some m):nodesG f (l.take (k+1))=(f l[k]).map (m+·):=by
  rw [List.take_succ_eq_append_getElem h,nodesG_append,hm]
  simp only [nodesG]
  cases f l[k] <;> simp
theorem nodesG_none (f:Tm→Option Nat) (l:List Tm) (k:Nat) (h:k < l.length) (hf:f l[k]=none):nodesG f l=none:=by
  have e:l=l.take k ++ l[k] :: l.drop (k+1):=by simp
  rw [e,nodesG_append]
  simp only [nodesG,hf]
  cases nodesG f (l.take k) <;> rfl
theorem nodesG_part (f:Tm→Option Nat) (l:List Tm) (k:Nat) (h:k < l.length) (m a s:Nat) (hm:nodesG f (l.take k)=some m) (ha:f l[k]=some a) (hs:nodesG f l=some s):m+a≤s:=by
  have h1:=nodesG_take f l k h m hm
  rw [ha] at h1
  have e:=congrArg (nodesG f) (List.take_append_drop (k+1) l)
  rw [nodesG_append,h1,hs] at e
  simp only [Option.map_some] at e
  cases hd:nodesG f (l.drop (k+1)) with
  | none=>simp [hd] at e
  | some x=>simp [hd] at e;omega
theorem nodesM_pos (l:Nat) (t:Tm) (m:Nat) (h:nodesM l t=some m):1≤m:=by
  cases l with
  | zero=>simp [nodesM] at h
  | succ l =>
    simp only [nodesM] at h
    split at h
    · cases h1:nodesG (nodesM l) t.A with
      | none=>simp [h1] at h
      | some s=>simp [h1] at h;omega
    · simp at h
def lid (most:Nat):Option Nat→Option Nat
  | some m=>if m≤most then some m else none
  | none=>none
def nodesTm (t:Tm):Nat:=(lid 150 (nodesM 24 t)).getD 0
def okM (t:Tm):Bool:=(lid 150 (nodesM 24 t)).isSome
end Go.Proofs.YtcepgedbmffkdaaGreat

/-
  Terms as forms: the value that 'formOf' answers of a term that is right; no memory is in it but that of its types.
-/
namespace Go.Proofs.YtcepgedbmffkdaaGreat
open Go.RowKit
set_option linter.unusedVariables false
set_option linter.unusedSimpArgs false
theorem nodesM_inv {l:Nat} {t:Tm} {m:Nat} (h:nodesM (l+1) t=some m):nodeM t=true∧∀ j (hj:j < t.A.length),∃ a,nodesM l t.A[j]=some a:=by
  simp only [nodesM] at h
  cases hn:nodeM t with
  | false=>simp [hn] at h
  | true =>
    refine ⟨rfl,fun j hj=>?_⟩
    simp only [hn,if_true] at h
    cases hg:nodesG (nodesM l) t.A with
    | none=>simp [hg] at h
    | some s =>
      cases hj':nodesM l t.A[j] with
      | some a=>exact ⟨a,rfl⟩
      | none=>rw [nodesG_none (nodesM l) t.A j hj hj'] at hg;cases hg
theorem nodeM_kinds {t:Tm} (h:nodeM t=true):1≤t.K∧t.K≤17∧(t.A.length:Int)=shP t.K:=by
  simp only [nodeM,Bool.and_eq_true,decide_eq_true_eq,kOk] at h
  exact ⟨h.1.1.1.1.1.1,h.1.1.1.1.1.2,h.1.1.1.2⟩
theorem okM_some {t:Tm} (h:okM t=true):∃ m,nodesM 24 t=some m∧m≤150:=by
  unfold okM at h
  cases hm:nodesM 24 t with
  | none=>simp [hm,lid] at h
  | some m =>
    refine ⟨m,rfl,?_⟩
    by_cases h6:m≤150
    · exact h6
    · simp [hm,lid,h6] at h
end Go.Proofs.YtcepgedbmffkdaaGreat

/-
  The binders of a term, and all terms within it, in plain words; what a call leaves that changes no block but a few of its own.
-/
namespace Go.Proofs.YtcepgedbmffkdaaGreat
open Go.RowKit
set_option linter.unusedVariables false
set_option linter.unusedSimpArgs false
def allW:Tm→List Tm
  | ⟨k,n,s,z,t,ts,a⟩=>⟨k,n,s,z,t,ts,a⟩ :: (a.attach.map fun ⟨x,_⟩=>allW x).flatten
theorem allW_eq (t:Tm):allW t=t :: (t.A.map allW).flatten:=by
  cases t;rw [allW];simp
theorem allW_lenG {f:Tm→Option Nat} (hf:∀ t m,f t=some m→(allW t).length=m):∀ (ts:List Tm) (m:Nat),nodesG f ts=some m→((ts.map allW).flatten).length=m:=by
  intro ts
  induction ts with
  | nil=>intro m h;simp [nodesG] at h;simp [h]
  | cons t ts ih =>
    intro m h
    simp only [nodesG] at h
    cases ht:f t with
    | none=>simp [ht] at h
    | some a =>
      cases hz:nodesG f ts with
      | none=>simp [ht,hz] at h
      | some b =>
        simp [ht,hz] at h
        have h1:=hf t a ht
        have h2:=ih b hz
        simp only [List.map_cons,List.flatten_cons,List.length_append]
        omega
theorem allW_len:∀ (l:Nat) (t:Tm) (m:Nat),nodesM l t=some m→(allW t).length=m:=by
  intro l
  induction l with
  | zero=>intro t m h;simp [nodesM] at h
  | succ l ih =>
    intro t m h
    have hn:=(nodesM_inv h).1
    simp only [nodesM,hn,if_true] at h
    cases hz:nodesG (nodesM l) t.A with
    | none=>simp [hz] at h
    | some b =>
      simp [hz] at h
      have h1:=allW_lenG ih t.A b hz
      rw [allW_eq,List.length_cons,h1]
      omega
def preW (t:Tm) (j:Nat):List Tm:=((t.A.take j).map allW).flatten
theorem preW_zero (t:Tm):preW t 0=[]:=rfl
theorem preW_succ (t:Tm) (j:Nat) (hj:j < t.A.length):preW t (j+1)=preW t j ++ allW t.A[j]:=by
  unfold preW
  rw [List.take_succ_eq_append_getElem hj,List.map_append,List.flatten_append]
  simp only [List.map_cons,List.map_nil,List.flatten_cons,List.flatten_nil,List.append_nil]
theorem preW_all (t:Tm) (j:Nat) (hj:t.A.length≤j):allW t=t :: preW t j:=by
  unfold preW
  rw [List.take_of_length_le hj,allW_eq]
theorem preW_len {l:Nat} {t:Tm} {m:Nat} (h:nodesM (l+1) t=some m) (j:Nat) (hj:j < t.A.length) {a:Nat} (ha:nodesM l t.A[j]=some a):(preW t j).length+1+a≤m:=by
  have h1:=allW_len _ t m h
  have h2:=allW_len _ _ a ha
  have h3:=preW_all t t.A.length (Nat.le_refl _)
  have h4:=congrArg List.length h3
  have h5:(preW t (j+1)).length≤(preW t t.A.length).length:=by
    unfold preW
    have e:t.A.take t.A.length=t.A.take (j+1) ++ (t.A.drop (j+1)):=by rw [List.take_length,List.take_append_drop]
    rw [e,List.map_append,List.flatten_append,List.length_append]
    omega
  have h6:=congrArg List.length (preW_succ t j hj)
  rw [List.length_append] at h6
  rw [List.length_cons] at h4
  omega
structure Kf (F:Nat→Prop) (w:World) (F':Nat→Prop) (w':World):Prop where
  os:w'.os=w.os
  tape:w'.tape=w.tape
  output:w'.output=w.output
  size:w.heap.size≤w'.heap.size
  block:∀ k,k < w.heap.size→¬ F k→w'.heap[k]?=w.heap[k]?
  own:∀ k,F' k→F k∨w.heap.size≤k
theorem Kf.trans {F F' F'':Nat→Prop} {w w' w'':World} (h:Kf F w F' w') (k:Kf F' w' F'' w''):Kf F w F'' w'':=by
  refine ⟨k.os.trans h.os,k.tape.trans h.tape,k.output.trans h.output,Nat.le_trans h.size k.size,fun i hi h1=>?_,fun i hi=>?_⟩
  · exact (k.block i (Nat.lt_of_lt_of_le hi h.size) (fun e=>by rcases h.own i e with e | e;exact h1 e;omega)).trans (h.block i hi h1)
  · rcases k.own i hi with e | e
    · exact h.own i e
    · exact Or.inr (Nat.le_trans h.size e)
theorem Kf.of_below {F:Nat→Prop} {w w':World} (h:Below w.heap.size w w'):Kf F w F w' :=
  ⟨h.os,h.tape,h.output,h.size,fun k hk _=>h.block k hk,fun k hk=>Or.inl hk⟩
theorem Kf.below {base:Nat} {F F':Nat→Prop} {w w':World} (h:Kf F w F' w') (hF:∀ k,F k→base≤k) (hb:base≤w.heap.size):Below base w w' :=
  ⟨h.os,h.tape,h.output,h.size,fun k hk=>h.block k (by omega) (fun e=>by have:=hF k e;omega)⟩
theorem cell_1 {w:World} {b:Nat} {a0:Value} {t:TypeId} {fr:Nat × Nat} (h:w.heap[b]?=some (.cells #[a0] t fr)):w.cell? ⟨b,0,none⟩=some a0:=row_cell h 0
end Go.Proofs.YtcepgedbmffkdaaGreat

/-
  The binders of a term, and all terms within it, in plain words; what a call leaves that changes no block but a few of its own.
-/
namespace Go.Proofs.YtcepgedbmffkdaaGreat
open Go.RowKit
set_option linter.unusedVariables false
set_option linter.unusedSimpArgs false
def ownB (t:Tm):List (List UInt8):=if t.K=4∨t.K=6∨t.K=7∨t.K=17 then [bs t.S] else if t.K=14 then [bs t.S,bs t.Z] else []
def bndW (t:Tm):List (List UInt8):=((allW t).map ownB).flatten
def bndT (t:Tm):List (List UInt8):=if okM t=true then bndW t else []
theorem ownB_len (t:Tm):(ownB t).length≤2:=by
  unfold ownB
  split
  · simp
  · split <;> simp
theorem binds_len:∀ (l:List Tm),((l.map ownB).flatten).length≤2 * l.length:=by
  intro l
  induction l with
  | nil=>simp
  | cons t l ih =>
    have:=ownB_len t
    simp only [List.map_cons,List.flatten_cons,List.length_append,List.length_cons]
    omega
theorem bndT_len (t:Tm):(bndT t).length≤300:=by
  unfold bndT
  split
  · rename_i h
    obtain ⟨m,hm,h6⟩:=okM_some h
    have h1:=allW_len 24 t m hm
    have h2:=binds_len (allW t)
    unfold bndW
    omega
  · simp
end Go.Proofs.YtcepgedbmffkdaaGreat

/-
  Free names in the model: 'l2Binds'.
-/
namespace Go.Proofs.YtcepgedbmffkdaaGreat
open Go.RowKit
set_option linter.unusedVariables false
set_option linter.unusedSimpArgs false
def LitE (w w':World) (e:Ending) (N:List (List UInt8)):Prop:=∃ g,e=.returned (.slice (some ⟨g,0,none⟩) N.length N.length)∧Below w.heap.size w w'∧w.heap.size≤g∧w'.heap[g]?=some (.cells (N.map tk).toArray 9 (0,0))
theorem lit_0 (w:World) (o:Obj):LitE w ((w.alloc o).alloc (.cells #[] 9)) (.returned (.slice (some ⟨w.heap.size+1,0,none⟩) 0 0)) [] :=
  ⟨_,rfl,((Below.refl _ _).alloc (Nat.le_refl _) _).alloc (by simp) _,by omega,heap_new (by simp)⟩
theorem lit_1 (w:World) (o:Obj) (s:ByteArray):LitE w ((w.alloc o).alloc (.cells #[.string s] 9)) (.returned (.slice (some ⟨w.heap.size+1,0,none⟩) 1 1)) [bs s] :=
  ⟨_,rfl,((Below.refl _ _).alloc (Nat.le_refl _) _).alloc (by simp) _,by omega,by rw [heap_new (by simp)];simp [tk_bs]⟩
theorem lit_2 (w:World) (o:Obj) (s z:ByteArray):LitE w ((w.alloc o).alloc (.cells #[.string s,.string z] 9)) (.returned (.slice (some ⟨w.heap.size+1,0,none⟩) 2 2)) [bs s,bs z] :=
  ⟨_,rfl,((Below.refl _ _).alloc (Nat.le_refl _) _).alloc (by simp) _,by omega,by rw [heap_new (by simp)];simp [tk_bs]⟩
end Go.Proofs.YtcepgedbmffkdaaGreat

/-
  'namesIn', 'namesBy' of the program: the names that a term binds. (Written by mkbn1.py.)
-/
namespace Go.Proofs.YtcepgedbmffkdaaGreat
open Go.RowKit
set_option linter.unusedVariables false
set_option linter.unusedSimpArgs false
def NmE (w w':World) (e:Ending) (N:List (List UInt8)):Prop:=∃ xo c,e=.returned (.slice xo N.length c)∧Below w.heap.size w w'∧(0 < N.length→∃ sb,xo=some ⟨sb,0,none⟩∧w.heap.size≤sb∧w'.heap[sb]?=some (.cells (N.map tk).toArray 9 (0,0)))
theorem NmE.of_lit {w w':World} {e:Ending} {N:List (List UInt8)} (h:LitE w w' e N):NmE w w' e N:=by
  obtain ⟨g,h1,h2,h3,h4⟩:=h
  exact ⟨_,_,h1,h2,fun _=>⟨g,rfl,h3,h4⟩⟩
theorem nm_0 (w:World) (o:Obj):NmE w (w.alloc o) (.returned (.slice none 0 0)) [] :=
  ⟨none,0,rfl,(Below.refl _ _).alloc (Nat.le_refl _) _,fun h=>by simp at h⟩
def nmI (k:Int) (s z:List UInt8) (i:Int):List (List UInt8):=if k=4∨k=7∨(k=6∧i=1)∨(k=17∧i=1) then [s] else if k=14∧i=2 then [s,z] else []
theorem nmI_own {t:Tm} (hn:nodeM t=true):nmI t.K (bs t.S) (bs t.Z) ((t.A.length:Int) - 1)=ownB t:=by
  obtain ⟨_,_,hl⟩:=nodeM_kinds hn
  unfold nmI ownB
  by_cases h4:t.K=4
  · simp [h4]
  by_cases h7:t.K=7
  · simp [h7]
  by_cases h6:t.K=6
  · rw [h6] at hl ⊢
    have:(t.A.length:Int)=2:=hl
    simp [this]
  by_cases h17:t.K=17
  · rw [h17] at hl ⊢
    have:(t.A.length:Int)=2:=hl
    simp [this]
  by_cases h14:t.K=14
  · rw [h14] at hl ⊢
    have:(t.A.length:Int)=3:=hl
    simp [this]
  simp [h4,h7,h6,h17,h14]
set_option maxRecDepth 100000 in
set_option maxHeartbeats 2000000 in
theorem namesIn_any (t:Tm) (a1:Option Addr) (l1 c1:Nat) (a2:Option Addr) (l2 c2:Nat) (a3:Option Addr) (l3 c3:Nat) (i:Int) (w:World) :
    Calls Tryz.prog 101 #[.agg #[.int .i64 t.K,.int .i64 t.N,.string t.S,.string t.Z,.int .i64 t.T.K,.int .i64 t.T.N,.slice a1 l1 c1,.slice a2 l2 c2,.slice a3 l3 c3],.int .i64 i] w fun e w'=>NmE w w' e (nmI t.K (bs t.S) (bs t.Z) i):=by
  by_cases h4:t.K=4
  · have HN:Hid (nmI t.K (bs t.S) (bs t.Z) i=[bs t.S]):=by show _=_;simp [nmI,h4]
    rw [HN.out]
    go_enter Tryz.func101,Tryz.ntmps101
    go_wp2_with fail
    go_ret
    exact (NmE.of_lit (lit_1 _ _ _))
  by_cases h7:t.K=7
  · have HN:Hid (nmI t.K (bs t.S) (bs t.Z) i=[bs t.S]):=by show _=_;simp [nmI,h7]
    rw [HN.out]
    go_enter Tryz.func101,Tryz.ntmps101
    go_wp2_with fail
    go_ret
    exact (NmE.of_lit (lit_1 _ _ _))
  by_cases h6:t.K=6
  · by_cases hi1:i=1
    · have HN:Hid (nmI t.K (bs t.S) (bs t.Z) i=[bs t.S]):=by show _=_;simp [nmI,h6,hi1]
      have bi:(i == 1)=true:=by simp [hi1]
      clear hi1
      rw [HN.out]
      go_enter Tryz.func101,Tryz.ntmps101
      go_wp2_with fail
      go_ret
      exact (NmE.of_lit (lit_1 _ _ _))
    · have HN:Hid (nmI t.K (bs t.S) (bs t.Z) i=[]):=by show _=_;simp [nmI,h6,hi1]
      have bi:(i == 1)=false:=by rw [beq_eq_false_iff_ne];exact hi1
      clear hi1
      rw [HN.out]
      go_enter Tryz.func101,Tryz.ntmps101
      go_wp2_with fail
      go_ret
      exact (nm_0 _ _)
  by_cases h17:t.K=17
  · by_cases hi1:i=1
    · have HN:Hid (nmI t.K (bs t.S) (bs t.Z) i=[bs t.S]):=by show _=_;simp [nmI,h17,hi1]
      have bi:(i == 1)=true:=by simp [hi1]
      clear hi1
      rw [HN.out]
      go_enter Tryz.func101,Tryz.ntmps101
      go_wp2_with fail
      go_ret
      exact (NmE.of_lit (lit_1 _ _ _))
    · have HN:Hid (nmI t.K (bs t.S) (bs t.Z) i=[]):=by show _=_;simp [nmI,h17,hi1]
      have bi:(i == 1)=false:=by rw [beq_eq_false_iff_ne];exact hi1
      clear hi1
      rw [HN.out]
      go_enter Tryz.func101,Tryz.ntmps101
      go_wp2_with fail
      go_ret
      exact (nm_0 _ _)
  by_cases h14:t.K=14
  · by_cases hi2:i=2
    · have HN:Hid (nmI t.K (bs t.S) (bs t.Z) i=[bs t.S,bs t.Z]):=by show _=_;simp [nmI,h14,hi2]
      have bi:(i == 2)=true:=by simp [hi2]
      clear hi2
      rw [HN.out]
      go_enter Tryz.func101,Tryz.ntmps101
      go_wp2_with fail
      go_ret
      exact (NmE.of_lit (lit_2 _ _ _ _))
    · have HN:Hid (nmI t.K (bs t.S) (bs t.Z) i=[]):=by show _=_;simp [nmI,h14,hi2]
      have bi:(i == 2)=false:=by rw [beq_eq_false_iff_ne];exact hi2
      clear hi2
      rw [HN.out]
      go_enter Tryz.func101,Tryz.ntmps101
      go_wp2_with fail
      go_ret
      exact (nm_0 _ _)
  have HN:Hid (nmI t.K (bs t.S) (bs t.Z) i=[]):=by show _=_;simp [nmI,h4,h7,h6,h17,h14]
  have b4:(t.K == 4)=false:=by simp [h4]
  have b7:(t.K == 7)=false:=by simp [h7]
  have b6:(t.K == 6)=false:=by simp [h6]
  have b17:(t.K == 17)=false:=by simp [h17]
  have b14:(t.K == 14)=false:=by simp [h14]
  clear h4 h7 h6 h17 h14
  rw [HN.out]
  go_enter Tryz.func101,Tryz.ntmps101
  go_wp2_with fail
  go_ret
  exact (nm_0 _ _)
end Go.Proofs.YtcepgedbmffkdaaGreat
