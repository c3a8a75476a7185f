/-
  From the reading of an argument of the laws' own type to the tree that lies there.
-/
import Derived.Test.YtleghjgpnefliaaFlaZ1
import Derived.ProofKit
import Derived.Deep.Slices
import Derived.Deep.Strs
import Derived.ChangeOld
import Derived.OpenShut
import Derived.PlainAid
namespace Go.Proofs.Ytleghjgpnefliaa
open Go.RowKit
set_option linter.unusedVariables false
set_option linter.unusedSimpArgs false
theorem Hs.deeper {L B:Nat} {w:World}:∀ {d d':Nat} {ao:Option Addr} {len:Nat} {ts:List Tr},d≤d'→Hs L B w d ao len ts→Hs L B w d' ao len ts:=by
  intro d
  induction d with
  | zero =>
    intro d' ao len ts _ h
    obtain ⟨rfl,rfl⟩:=h
    cases d' with
    | zero=>exact ⟨rfl,rfl⟩
    | succ d'=>exact ⟨rfl,by omega,fun i hi=>by simp at hi⟩
  | succ d ih =>
    intro d' ao len ts hd h
    cases d' with
    | zero=>omega
    | succ d' =>
      refine ⟨h.1,h.2.1,fun i hi=>?_⟩
      obtain ⟨b,o,e,h1,h2,h3⟩:=h.2.2 i hi
      exact ⟨b,o,e,h1,h2,h3.wider fun _ _ _ hr=>ih (by omega) hr⟩
theorem Hs.nil (L B:Nat) (w:World) (d:Nat) (ao:Option Addr):Hs L B w d ao 0 []:=by
  cases d with
  | zero=>exact ⟨rfl,rfl⟩
  | succ d=>exact ⟨rfl,by omega,fun i hi=>by simp at hi⟩
end Go.Proofs.Ytleghjgpnefliaa

/-
  Terms as trees, and what it is that a slice in memory holds a list of them: no walk, no statement.
-/
namespace Go.Proofs.Ytleghjgpnefliaa
open Go.RowKit
set_option linter.unusedVariables false
set_option linter.unusedSimpArgs false
structure Tm where
  K:Int
  N:Int
  S:ByteArray
  Z:ByteArray
  T:Tr
  Ts:List Tr
  A:List Tm
def ownM (t:Tm):Nat:=t.S.size+t.Z.size+cntS t.T.A+cntS t.Ts
def cntM:Tm→Nat
  | ⟨_,_,s,z,t,ts,a⟩=>s.size+z.size+cntS t.A+cntS ts+a.length+(a.attach.map fun ⟨x,_⟩=>cntM x).sum
def cntMS (l:List Tm):Nat:=l.length+(l.map cntM).sum
def subMS (l:List Tm):Nat:=(l.map cntM).sum
theorem cntM_eq (t:Tm):cntM t=ownM t+cntMS t.A:=by
  cases t;rw [cntM];simp [cntMS,ownM];omega
theorem cntMS_eq (l:List Tm):cntMS l=l.length+subMS l:=rfl
theorem subMS_take (l:List Tm) (k:Nat) (h:k < l.length):subMS (l.take (k+1))=subMS (l.take k)+cntM l[k]:=by
  rw [List.take_succ_eq_append_getElem h];simp only [subMS,List.map_append,List.sum_append,List.map_cons,List.map_nil,List.sum_cons,List.sum_nil];omega
theorem subMS_take_le (l:List Tm) (k:Nat):subMS (l.take k)≤subMS l:=by
  have h:=congrArg subMS (List.take_append_drop k l)
  simp only [subMS,List.map_append,List.sum_append] at *;omega
theorem cntMS_get (l:List Tm) (k:Nat) (h:k < l.length):cntM l[k] < cntMS l:=by
  have h1:=subMS_take l k h
  have h2:=subMS_take_le l (k+1)
  have h3:=cntMS_eq l
  omega
structure Nine (w:World) (b o:Nat) (k n:Int) (s z:ByteArray) (tk tn:Int) (v6 v7 v8:Value):Prop where
  c0:w.cell? ⟨b,o,none⟩=some (.int .i64 k)
  c1:w.cell? ⟨b,o+1,none⟩=some (.int .i64 n)
  c2:w.cell? ⟨b,o+2,none⟩=some (.string s)
  c3:w.cell? ⟨b,o+3,none⟩=some (.string z)
  c4:w.cell? ⟨b,o+4,none⟩=some (.int .i64 tk)
  c5:w.cell? ⟨b,o+5,none⟩=some (.int .i64 tn)
  c6:w.cell? ⟨b,o+6,none⟩=some v6
  c7:w.cell? ⟨b,o+7,none⟩=some v7
  c8:w.cell? ⟨b,o+8,none⟩=some v8
theorem Nine.of_cells {w w':World} {b b' o o':Nat} {k n:Int} {s z:ByteArray} {tk tn:Int} {v6 v7 v8:Value} (h:Nine w b o k n s z tk tn v6 v7 v8) (hc:∀ i,i < 9→w'.cell? ⟨b',o'+i,none⟩=w.cell? ⟨b,o+i,none⟩):Nine w' b' o' k n s z tk tn v6 v7 v8 :=
  ⟨(hc 0 (by omega)).trans h.c0,(hc 1 (by omega)).trans h.c1,(hc 2 (by omega)).trans h.c2,(hc 3 (by omega)).trans h.c3,(hc 4 (by omega)).trans h.c4,(hc 5 (by omega)).trans h.c5,(hc 6 (by omega)).trans h.c6,(hc 7 (by omega)).trans h.c7,(hc 8 (by omega)).trans h.c8⟩
theorem Nine.world {w w':World} {b o:Nat} {k n:Int} {s z:ByteArray} {tk tn:Int} {v6 v7 v8:Value} (h:Nine w b o k n s z tk tn v6 v7 v8) (hb:w'.heap[b]?=w.heap[b]?):Nine w' b o k n s z tk tn v6 v7 v8 :=
  h.of_cells fun _ _=>World.cell?_of_block hb
theorem Nine.below {w w':World} {b o:Nat} {k n:Int} {s z:ByteArray} {tk tn:Int} {v6 v7 v8:Value} (h:Nine w b o k n s z tk tn v6 v7 v8) (hb:Below w.heap.size w w') (hlt:b < w.heap.size):Nine w' b o k n s z tk tn v6 v7 v8 :=
  h.world (hb.block b hlt)
theorem Nine.box {w:World} {b:Nat} {k n:Int} {s z:ByteArray} {tk tn:Int} {v6 v7 v8:Value} {t:TypeId} {fr:Nat × Nat} (h:w.heap[b]?=some (.cells #[.int .i64 k,.int .i64 n,.string s,.string z,.int .i64 tk,.int .i64 tn,v6,v7,v8] t fr)):Nine w b 0 k n s z tk tn v6 v7 v8 :=
  ⟨row_cell h 0,row_cell h 1,row_cell h 2,row_cell h 3,row_cell h 4,row_cell h 5,row_cell h 6,row_cell h 7,row_cell h 8⟩
structure Fld (rT:Option Addr→Nat→List Tr→Prop) (rM:Option Addr→Nat→List Tm→Prop) (t:Tm) (a1:Option Addr) (l1:Nat) (a2:Option Addr) (l2:Nat) (a3:Option Addr) (l3:Nat):Prop where
  s:t.S.size≤9223372036854775807
  z:t.Z.size≤9223372036854775807
  t1:rT a1 l1 t.T.A
  t2:rT a2 l2 t.Ts
  m:rM a3 l3 t.A
theorem Fld.wider {rT rT':Option Addr→Nat→List Tr→Prop} {rM rM':Option Addr→Nat→List Tm→Prop} {t:Tm} {a1 a2 a3:Option Addr} {l1 l2 l3:Nat} (h:Fld rT rM t a1 l1 a2 l2 a3 l3)
    (kT:∀ ao len ts,rT ao len ts→rT' ao len ts) (kM:∀ ao len ts,rM ao len ts→rM' ao len ts):Fld rT' rM' t a1 l1 a2 l2 a3 l3 :=
  ⟨h.s,h.z,kT _ _ _ h.t1,kT _ _ _ h.t2,kM _ _ _ h.m⟩
def El9 (w:World) (rT:Option Addr→Nat→List Tr→Prop) (rM:Option Addr→Nat→List Tm→Prop) (b o:Nat) (t:Tm):Prop :=
  ∃ a1 l1 c1 a2 l2 c2 a3 l3 c3,Nine w b o t.K t.N t.S t.Z t.T.K t.T.N (.slice a1 l1 c1) (.slice a2 l2 c2) (.slice a3 l3 c3)∧Fld rT rM t a1 l1 a2 l2 a3 l3
def Hm (L B:Nat) (w:World) (D:Nat):Nat→Option Addr→Nat→List Tm→Prop
  | 0,_,len,ts=>len=0∧ts=[]
  | d+1,ao,len,ts=>len=ts.length∧len≤9223372036854775807∧∀ i (_:i < ts.length),∃ b o,ao=some ⟨b,o,none⟩∧L≤b∧b < B∧El9 w (Hs L B w D) (Hm L B w D d) b (o+i * 9) ts[i]
abbrev Fm (L B:Nat) (w:World) (D d:Nat) (t:Tm) (a1:Option Addr) (l1:Nat) (a2:Option Addr) (l2:Nat) (a3:Option Addr) (l3:Nat):Prop:=Fld (Hs L B w D) (Hm L B w D d) t a1 l1 a2 l2 a3 l3
theorem El9.wider {w:World} {rT rT':Option Addr→Nat→List Tr→Prop} {rM rM':Option Addr→Nat→List Tm→Prop} {b o:Nat} {t:Tm} (h:El9 w rT rM b o t)
    (kT:∀ ao len ts,rT ao len ts→rT' ao len ts) (kM:∀ ao len ts,rM ao len ts→rM' ao len ts):El9 w rT' rM' b o t:=by
  obtain ⟨a1,l1,c1,a2,l2,c2,a3,l3,c3,h9,hf⟩:=h
  exact ⟨a1,l1,c1,a2,l2,c2,a3,l3,c3,h9,hf.wider kT kM⟩
theorem El9.world {w w':World} {rT:Option Addr→Nat→List Tr→Prop} {rM:Option Addr→Nat→List Tm→Prop} {b o:Nat} {t:Tm} (h:El9 w rT rM b o t) (hb:w'.heap[b]?=w.heap[b]?):El9 w' rT rM b o t:=by
  obtain ⟨a1,l1,c1,a2,l2,c2,a3,l3,c3,h9,hf⟩:=h
  exact ⟨a1,l1,c1,a2,l2,c2,a3,l3,c3,h9.world hb,hf⟩
theorem Hm.len {L B:Nat} {w:World} {D d:Nat} {ao:Option Addr} {len:Nat} {ts:List Tm} (h:Hm L B w D d ao len ts):len=ts.length∧len≤9223372036854775807:=by
  cases d with
  | zero=>obtain ⟨rfl,rfl⟩:=h;exact ⟨rfl,by omega⟩
  | succ d=>exact ⟨h.1,h.2.1⟩
theorem Hm.get {L B:Nat} {w:World} {D d:Nat} {ao:Option Addr} {len:Nat} {ts:List Tm} (h:Hm L B w D d ao len ts) (i:Nat) (hi:i < ts.length):∃ b o,ao=some ⟨b,o,none⟩∧L≤b∧b < B∧El9 w (Hs L B w D) (Hm L B w D (d - 1)) b (o+i * 9) ts[i]:=by
  cases d with
  | zero=>obtain ⟨_,rfl⟩:=h;simp at hi
  | succ d=>exact h.2.2 i hi
theorem Hm.keep {L B L' B':Nat} {w w':World} {D:Nat} (hb:∀ k,L≤k→k < B→w'.heap[k]?=w.heap[k]?) (hL:L'≤L) (hB:B≤B'):∀ {d:Nat} {ao:Option Addr} {len:Nat} {ts:List Tm},Hm L B w D d ao len ts→Hm L' B' w' D d ao len ts:=by
  intro d
  induction d with
  | zero=>intro ao len ts h;exact h
  | succ d ih =>
    intro ao len ts h
    refine ⟨h.1,h.2.1,fun i hi=>?_⟩
    obtain ⟨b,o,e,h1,h2,h3⟩:=h.2.2 i hi
    exact ⟨b,o,e,by omega,by omega,(h3.world (hb b h1 h2)).wider (fun _ _ _ hr=>hr.keep hb hL hB) (fun _ _ _ hr=>ih hr)⟩
theorem Hm.below {L B:Nat} {w w':World} {D:Nat} (hb:Below w.heap.size w w') (hB:B≤w.heap.size) {d:Nat} {ao:Option Addr} {len:Nat} {ts:List Tm} (h:Hm L B w D d ao len ts):Hm L B w' D d ao len ts :=
  h.keep (fun k _ hk=>hb.block k (by omega)) (Nat.le_refl _) (Nat.le_refl _)
theorem Hm.drew {L B:Nat} {w:World} {D d:Nat} {ao:Option Addr} {len:Nat} {ts:List Tm} (h:Hm L B w D d ao len ts):Hm L B w.drew D d ao len ts:=h.keep (w:=w) (w':=w.drew) (fun _ _ _=>rfl) (Nat.le_refl _) (Nat.le_refl _)
theorem Fm.keep {L B L' B':Nat} {w w':World} {D d:Nat} (hb:∀ k,L≤k→k < B→w'.heap[k]?=w.heap[k]?) (hL:L'≤L) (hB:B≤B') {t:Tm} {a1 a2 a3:Option Addr} {l1 l2 l3:Nat} (h:Fm L B w D d t a1 l1 a2 l2 a3 l3):Fm L' B' w' D d t a1 l1 a2 l2 a3 l3 :=
  h.wider (fun _ _ _ hr=>hr.keep hb hL hB) (fun _ _ _ hr=>hr.keep hb hL hB)
theorem Fm.below {L B:Nat} {w w':World} {D d:Nat} (hb:Below w.heap.size w w') (hB:B≤w.heap.size) {t:Tm} {a1 a2 a3:Option Addr} {l1 l2 l3:Nat} (h:Fm L B w D d t a1 l1 a2 l2 a3 l3):Fm L B w' D d t a1 l1 a2 l2 a3 l3 :=
  Fm.keep (fun k _ hk=>hb.block k (by omega)) (Nat.le_refl _) (Nat.le_refl _) h
theorem Fm.drew {L B:Nat} {w:World} {D d:Nat} {t:Tm} {a1 a2 a3:Option Addr} {l1 l2 l3:Nat} (h:Fm L B w D d t a1 l1 a2 l2 a3 l3):Fm L B w.drew D d t a1 l1 a2 l2 a3 l3 :=
  Fm.keep (w:=w) (w':=w.drew) (fun _ _ _=>rfl) (Nat.le_refl _) (Nat.le_refl _) h
theorem Hm.deeper {L B:Nat} {w:World}:∀ {d d' D D':Nat} {ao:Option Addr} {len:Nat} {ts:List Tm},d≤d'→D≤D'→Hm L B w D d ao len ts→Hm L B w D' d' ao len ts:=by
  intro d
  induction d with
  | zero =>
    intro d' D D' ao len ts _ _ h
    obtain ⟨rfl,rfl⟩:=h
    cases d' with
    | zero=>exact ⟨rfl,rfl⟩
    | succ d'=>exact ⟨rfl,by omega,fun i hi=>by simp at hi⟩
  | succ d ih =>
    intro d' D D' ao len ts hd hD h
    cases d' with
    | zero=>omega
    | succ d' =>
      refine ⟨h.1,h.2.1,fun i hi=>?_⟩
      obtain ⟨b,o,e,h1,h2,h3⟩:=h.2.2 i hi
      exact ⟨b,o,e,h1,h2,h3.wider (fun _ _ _ hr=>hr.deeper hD) (fun _ _ _ hr=>ih (by omega) hD hr)⟩
theorem Hm.nil (L B:Nat) (w:World) (D d:Nat) (ao:Option Addr):Hm L B w D d ao 0 []:=by
  cases d with
  | zero=>exact ⟨rfl,rfl⟩
  | succ d=>exact ⟨rfl,by omega,fun i hi=>by simp at hi⟩
def set9 (w:World) (g o:Nat) (a0 a1 a2 a3 a4 a5 a6 a7 a8:Value):World :=
  set3 (set3 (set3 w g o a0 a1 a2) g (o+3) a3 a4 a5) g (o+6) a6 a7 a8
theorem set9_other {w:World} {g o:Nat} {a0 a1 a2 a3 a4 a5 a6 a7 a8:Value} (k:Nat) (hk:k≠g):(set9 w g o a0 a1 a2 a3 a4 a5 a6 a7 a8).heap[k]?=w.heap[k]?:=by
  unfold set9;rw [set3_other _ hk,set3_other _ hk,set3_other _ hk]
theorem set9_row {w:World} {g o:Nat} {a0 a1 a2 a3 a4 a5 a6 a7 a8:Value} {cs:Array Value} {t:TypeId} {fr:Nat × Nat} (h:w.heap[g]?=some (.cells cs t fr)):∃ cs',(set9 w g o a0 a1 a2 a3 a4 a5 a6 a7 a8).heap[g]?=some (.cells cs' t fr)∧cs'.size=cs.size :=
  ⟨_,set3_row (set3_row (set3_row h)),by simp⟩
theorem set9_far {w:World} {g o:Nat} {a0 a1 a2 a3 a4 a5 a6 a7 a8:Value} {cs:Array Value} {t:TypeId} {fr:Nat × Nat} (h:w.heap[g]?=some (.cells cs t fr)) (p:Nat) (hp:p < o∨o+8 < p):(set9 w g o a0 a1 a2 a3 a4 a5 a6 a7 a8).cell? ⟨g,p,none⟩=w.cell? ⟨g,p,none⟩:=by
  unfold set9
  rw [set3_far (set3_row (set3_row h)) p (by omega),set3_far (set3_row h) p (by omega),set3_far h p (by omega)]
theorem set9_size (w:World) (g o:Nat) (a0 a1 a2 a3 a4 a5 a6 a7 a8:Value):(set9 w g o a0 a1 a2 a3 a4 a5 a6 a7 a8).heap.size=w.heap.size:=by simp [set9,set3_size]
theorem set9_below {B:Nat} {x w:World} {g o:Nat} {a0 a1 a2 a3 a4 a5 a6 a7 a8:Value} (h:Below B x w) (hg:B≤g):Below B x (set9 w g o a0 a1 a2 a3 a4 a5 a6 a7 a8) :=
  set3_below (set3_below (set3_below h hg) hg) hg
theorem set9_cells {w:World} {g o:Nat} {k n:Int} {s z:ByteArray} {tk tn:Int} {v6 v7 v8:Value} {cs:Array Value} {t:TypeId} {fr:Nat × Nat} (h:w.heap[g]?=some (.cells cs t fr)) (ho:o+8 < cs.size) :
    Nine (set9 w g o (.int .i64 k) (.int .i64 n) (.string s) (.string z) (.int .i64 tk) (.int .i64 tn) v6 v7 v8) g o k n s z tk tn v6 v7 v8:=by
  have r1:=set3_row (o:=o) (a:=.int .i64 k) (b:=.int .i64 n) (c:=.string s) h
  have r2:=set3_row (o:=o+3) (a:=.string z) (b:=.int .i64 tk) (c:=.int .i64 tn) r1
  obtain ⟨x0,x1,x2⟩:=set3_cells (a:=.int .i64 k) (b:=.int .i64 n) (c:=.string s) h (show o+2 < cs.size by omega)
  obtain ⟨x3,x4,x5⟩:=set3_cells (o:=o+3) (a:=.string z) (b:=.int .i64 tk) (c:=.int .i64 tn) r1 (by simp;omega)
  obtain ⟨x6,x7,x8⟩:=set3_cells (o:=o+6) (a:=v6) (b:=v7) (c:=v8) r2 (by simp;omega)
  unfold set9
  refine ⟨?_,?_,?_,?_,?_,?_,x6,x7,x8⟩
  · rw [set3_far r2 _ (by omega),set3_far r1 _ (by omega)];exact x0
  · rw [set3_far r2 _ (by omega),set3_far r1 _ (by omega)];exact x1
  · rw [set3_far r2 _ (by omega),set3_far r1 _ (by omega)];exact x2
  · rw [set3_far r2 _ (by omega)];exact x3
  · rw [set3_far r2 _ (by omega)];exact x4
  · rw [set3_far r2 _ (by omega)];exact x5
end Go.Proofs.Ytleghjgpnefliaa

/-
  When a term is right, in plain words: names, shapes of kinds, one node, nodes down to a depth. No walk.
-/
namespace Go.Proofs.Ytleghjgpnefliaa
open Go.RowKit Go.PlainAid
set_option linter.unusedVariables false
set_option linter.unusedSimpArgs false
def isLow (x:Int):Bool:=decide (97≤x∧x≤122)
def isDig (x:Int):Bool:=decide (48≤x∧x≤57)
def chOk (x:Int):Bool:=isLow x || isDig x || decide (x=46)
def allB (s:ByteArray) (n:Nat) (f:Int→Bool):Bool:=(List.range n).all fun i=>f (bt s i)
def nameW (s:ByteArray):Bool:=decide (1≤s.size) && decide (s.size≤8) && isLow (bt s 0) && allB s s.size chOk
theorem allB_succ (s:ByteArray) (n:Nat) (f:Int→Bool):allB s (n+1) f=(allB s n f && f (bt s n)):=by
  simp [allB,List.range_succ,List.all_append]
theorem allB_false {s:ByteArray} {n:Nat} {f:Int→Bool} (k:Nat) (h:k < n) (hf:f (bt s k)=false):allB s n f=false:=by
  rw [Bool.eq_false_iff];intro h1
  have:=List.all_eq_true.1 h1 k (List.mem_range.2 h)
  simp only [hf] at this;cases this
theorem allB_get {s:ByteArray} {n:Nat} {f:Int→Bool} (h:allB s n f=true) (k:Nat) (hk:k < n):f (bt s k)=true:=List.all_eq_true.1 h k (List.mem_range.2 hk)
def isNil (s:ByteArray):Bool:=s.toList.isEmpty
def kOk (k:Int):Bool:=decide (1≤k∧k≤17)
def shN (k:Int):Int:=if k=3∨k=4∨k=6∨k=7∨k=17 then 1 else if k=14 then 2 else 0
def shL (k:Int):Int:=if k=1 then -1000000 else if k=15 then 1 else 0
def shM (k:Int):Int:=if k=1 then 1000000 else if k=2 then 1 else if k=6∨k=7 then 2 else if k=15 then 5 else 0
def shT (k:Int):Bool:=decide (k=4∨k=7∨k=12∨k=16)
def shS (k:Int):Int:=if k=3 then 2 else 0
def shP (k:Int):Int:=if k=4∨k=10∨k=11∨k=16 then 1 else if k=5∨k=6∨k=7∨k=9∨k=13∨k=15∨k=17 then 2 else if k=8∨k=14 then 3 else 0
theorem shN_bd (k:Int):0≤shN k∧shN k≤2:=by unfold shN;(repeat' split) <;> omega
theorem shL_bd (k:Int):-1000000≤shL k∧shL k≤1:=by unfold shL;(repeat' split) <;> omega
theorem shM_bd (k:Int):0≤shM k∧shM k≤1000000:=by unfold shM;(repeat' split) <;> omega
theorem shS_bd (k:Int):0≤shS k∧shS k≤2:=by unfold shS;(repeat' split) <;> omega
theorem shP_bd (k:Int):0≤shP k∧shP k≤3:=by unfold shP;(repeat' split) <;> omega
def namesB (n:Int) (s z:ByteArray):Bool:=if n=0 then isNil s && isNil z else if n=1 then nameW s && isNil z else nameW s && nameW z && !(s.toList == z.toList)
def zeroT (t:Tr):Bool:=(t.K == 0) && (t.N == 0) && ((t.A.length:Int) == 0)
def typesB (k:Int) (t:Tr) (ts:List Tr):Bool:=(if shT k then okT t else zeroT t) && decide ((ts.length:Int)≤shS k) && ts.all okT
def fixB (k:Int) (a:List Tm):Bool:=if k=7 then (match a with | x :: _=>decide (x.K=4) | []=>false) else true
def nodeM (t:Tm):Bool:=kOk t.K && decide (shL t.K≤t.N∧t.N≤shM t.K) && decide ((t.A.length:Int)=shP t.K) && fixB t.K t.A && namesB (shN t.K) t.S t.Z && typesB t.K t.T t.Ts
theorem nodeM_len {t:Tm} (h:nodeM t=true):t.A.length≤3:=by
  simp only [nodeM,Bool.and_eq_true,decide_eq_true_eq] at h
  have:=shP_bd t.K
  omega
def nodesG (f:Tm→Option Nat):List Tm→Option Nat
  | []=>some 0
  | t :: ts=>match f t,nodesG f ts with
    | some a,some b=>some (a+b)
    | _,_=>none
def nodesM:Nat→Tm→Option Nat
  | 0,_=>none
  | l+1,t=>if nodeM t then (nodesG (nodesM l) t.A).map (1+·) else none
theorem nodesG_append (f:Tm→Option Nat) (a b:List Tm):nodesG f (a ++ b)=match nodesG f a,nodesG f b with | some x,some y=>some (x+y) | _,_=>none:=by
  induction a with
  | nil=>simp only [List.nil_append,nodesG];cases nodesG f b <;> simp
  | cons t a ih =>
    simp only [List.cons_append,nodesG,ih]
    cases f t <;> cases nodesG f a <;> cases nodesG f b <;> simp [Nat.add_assoc]
theorem nodesG_take (f:Tm→Option Nat) (l:List Tm) (k:Nat) (h:k < l.length) (m:Nat) (hm:nodesG f (l.take k)=some m):nodesG f (l.take (k+1))=(f l[k]).map (m+·):=by
  rw [List.take_succ_eq_append_getElem h,nodesG_append,hm]
  simp only [nodesG]
  cases f l[k] <;> simp
theorem nodesG_none (f:Tm→Option Nat) (l:List Tm) (k:Nat) (h:k < l.length) (hf:f l[k]=none):nodesG f l=none:=by
  have e:l=l.take k ++ l[k] :: l.drop (k+1):=by simp
  rw [e,nodesG_append]
  simp only [nodesG,hf]
  cases nodesG f (l.take k) <;> rfl
theorem nodesG_part (f:Tm→Option Nat) (l:List Tm) (k:Nat) (h:k < l.length) (m a s:Nat) (hm:nodesG f (l.take k)=some m) (ha:f l[k]=some a) (hs:nodesG f l=some s):m+a≤s:=by
  have h1:=nodesG_take f l k h m hm
  rw [ha] at h1
  have e:=congrArg (nodesG f) (List.take_append_drop (k+1) l)
  rw [nodesG_append,h1,hs] at e
  simp only [Option.map_some] at e
  cases hd:nodesG f (l.drop (k+1)) with
  | none=>simp [hd] at e
  | some x=>simp [hd] at e;omega
theorem nodesM_pos (l:Nat) (t:Tm) (m:Nat) (h:nodesM l t=some m):1≤m:=by
  cases l with
  | zero=>simp [nodesM] at h
  | succ l =>
    simp only [nodesM] at h
    split at h
    · cases h1:nodesG (nodesM l) t.A with
      | none=>simp [h1] at h
      | some s=>simp [h1] at h;omega
    · simp at h
def lid (most:Nat):Option Nat→Option Nat
  | some m=>if m≤most then some m else none
  | none=>none
def nodesTm (t:Tm):Nat:=(lid 150 (nodesM 24 t)).getD 0
def okM (t:Tm):Bool:=(lid 150 (nodesM 24 t)).isSome
end Go.Proofs.Ytleghjgpnefliaa

/-
  What the model's 'l1Args', 'l1In', 'l1Look', 'TyOk', 'TyNodes' come to.
-/
namespace Go.Proofs.Ytleghjgpnefliaa
open Go.RowKit
set_option linter.unusedVariables false
set_option linter.unusedSimpArgs false
set_option maxHeartbeats 400000 in
theorem l1Args_any (k:Int) (w:World):Calls Try.prog 72 #[.int .i64 k] w fun e w'=>e=.returned (.int .i64 (parts k))∧w'=w:=by
  by_cases h1:k=1
  · subst h1;go_enter Try.func72,Try.ntmps72;go_wp2;go_ret;exact ⟨rfl,rfl⟩
  by_cases h2:k=2
  · subst h2;go_enter Try.func72,Try.ntmps72;go_wp2;go_ret;exact ⟨rfl,rfl⟩
  by_cases h3:k=3
  · subst h3;go_enter Try.func72,Try.ntmps72;go_wp2;go_ret;exact ⟨rfl,rfl⟩
  by_cases h4:k=4
  · subst h4;go_enter Try.func72,Try.ntmps72;go_wp2;go_ret;exact ⟨rfl,rfl⟩
  by_cases h5:k=5
  · subst h5;go_enter Try.func72,Try.ntmps72;go_wp2;go_ret;exact ⟨rfl,rfl⟩
  by_cases h6:k=6
  · subst h6;go_enter Try.func72,Try.ntmps72;go_wp2;go_ret;exact ⟨rfl,rfl⟩
  have e:parts k=-1:=by unfold parts;rw [if_neg (by omega),if_neg (by omega),if_neg (by omega)]
  rw [e]
  have b1:(k == 1)=false:=beq_eq_false_iff_ne.2 h1
  have b2:(k == 2)=false:=beq_eq_false_iff_ne.2 h2
  have b3:(k == 3)=false:=beq_eq_false_iff_ne.2 h3
  have b4:(k == 4)=false:=beq_eq_false_iff_ne.2 h4
  have b5:(k == 5)=false:=beq_eq_false_iff_ne.2 h5
  have b6:(k == 6)=false:=beq_eq_false_iff_ne.2 h6
  clear e h1 h2 h3 h4 h5 h6
  go_enter Try.func72,Try.ntmps72;go_wp2;go_ret;exact ⟨rfl,rfl⟩
def in01 (x:Int):Bool:=decide (0≤x∧x≤1)
set_option maxHeartbeats 400000 in
theorem l1In_any (x:Int) (w:World):Calls Try.prog 94 #[.int .i64 x,.int .i64 0,.int .i64 1] w fun e w'=>e=.returned (.bool (in01 x))∧w'=w:=by
  by_cases h:0≤x
  all_goals
    go_enter Try.func94,Try.ntmps94
    go_wp2
    go_ret
    exact ⟨ret_bool (by unfold in01;rw [Bool.eq_iff_iff];simp;try omega),rfl⟩
def lookOk (l c:Nat) (t:Tr):Bool:=match nodesW l t with | some m=>decide (c+m≤60) | none=>false
def SaidLk (l:Nat):Prop:=∀ (d L B p c:Nat) (k n:Int) (ao:Option Addr) (len cap:Nat) (ts:List Tr) (w:World),B≤p→p < w.heap.size→w.heap[p]?=some (.cells #[.int .i64 c] 3 (0,0))→c≤60→Hs L B w d ao len ts →
    Calls Try.prog 95 #[.agg #[.int .i64 k,.int .i64 n,.slice ao len cap],.int .i64 l,.pointer (some ⟨p,0,none⟩)] w fun e w' =>
      e=.returned (.bool (lookOk l c ⟨k,n,ts⟩))∧w.grownBy w' (some p)∧∃ c':Int,w'.heap[p]?=some (.cells #[.int .i64 c'] 3 (0,0))∧(∀ m,nodesW l ⟨k,n,ts⟩=some m→c+m≤60→c'=c+m)
theorem gcell {w w':World} {p b:Nat} (hg:w.grownBy w' (some p)) (hb:b < w.heap.size) (hp:b≠p) (o:Nat):w'.cell? ⟨b,o,none⟩=w.cell? ⟨b,o,none⟩ :=
  World.cell?_of_block (hg.block b hb (by simpa using hp))
theorem grown_trans {a b c:World} {r:Option Nat} (h:a.grownBy b r) (k:b.grownBy c r):a.grownBy c r :=
  ⟨k.os.trans h.os,k.tape.trans h.tape,k.output.trans h.output,Nat.le_trans h.size k.size,fun i hi hr=>(k.block i (Nat.lt_of_lt_of_le hi h.size) hr).trans (h.block i hi hr)⟩
theorem Hs.grown {L B p:Nat} {w w':World} (hg:w.grownBy w' (some p)) (hB:B≤p) (hp:p < w.heap.size) {d:Nat} {ao:Option Addr} {len:Nat} {ts:List Tr} (h:Hs L B w d ao len ts):Hs L B w' d ao len ts :=
  h.keep (fun k _ hk=>hg.block k (by omega) (by simp;omega)) (Nat.le_refl _) (Nat.le_refl _)
theorem lk_world {w:World} {p:Nat} {v:Value} {t:TypeId} (hcell:w.heap[p]?=some (.cells #[v] t (0,0))) (hp:p < w.heap.size) (u:Value) (cs:Array Value) (t':TypeId) (nq:Nat) :
    w.grownBy (((w.setCell ⟨p,0,none⟩ u).alloc (.cells cs t')).drewN nq) (some p)∧(((w.setCell ⟨p,0,none⟩ u).alloc (.cells cs t')).drewN nq).heap[p]?=some (.cells #[u] t (0,0)) ∧
    (((w.setCell ⟨p,0,none⟩ u).alloc (.cells cs t')).drewN nq).heap[w.heap.size]?=some (.cells cs t' (0,0)):=by
  refine ⟨⟨rfl,rfl,rfl,?_,?_⟩,?_,?_⟩
  · show w.heap.size≤((w.setCell ⟨p,0,none⟩ u).alloc (.cells cs t')).heap.size
    simp
  · intro k hk hr
    show ((w.setCell ⟨p,0,none⟩ u).alloc (.cells cs t')).heap[k]?=_
    rw [Below.heap_alloc _ _ _ (by simpa using hk),row_other _ _ _ (by simpa using hr)]
  · show ((w.setCell ⟨p,0,none⟩ u).alloc (.cells cs t')).heap[p]?=_
    rw [Below.heap_alloc _ _ _ (by simpa using hp),row_set hcell]
    rfl
  · show ((w.setCell ⟨p,0,none⟩ u).alloc (.cells cs t')).heap[w.heap.size]?=_
    exact heap_new (by simp)
theorem lookOk_no {l c:Nat} {t:Tr} (h:lookOk l c t=false):∀ m,nodesW l t=some m→c+m≤60→False:=by
  intro m hm hle
  simp only [lookOk,hm,decide_eq_false_iff_not] at h
  exact h hle
set_option maxHeartbeats 400000 in
theorem lk_zero:SaidLk 0:=by
  intro d L B p c k n ao len cap ts w hBp hp hcell hc hs
  have f:=row_cell hcell 0
  have r:=row_free hcell 0
  simp at f
  have hpn:¬ w.heap.size=p:=by omega
  have HW:=lk_world hcell hp (.int .i64 ((c:Int)+1)) #[.int .i64 k,.int .i64 n,.slice ao len cap] 26
  have HWW:Hid (∀ nq,_):=HW
  clear HW hcell
  go_enter Try.func95,Try.ntmps95
  go_wp2_with fail
  go_quiet ((first | (go_at_call 72;exact Calls.quiet_of_same (l1Args_any _ _)) | (go_at_call 94;exact Calls.quiet_of_same (l1In_any _ _))))
  go_wp2
  go_ret
  exact ⟨ret_bool rfl,(HWW.out nq).1,_,(HWW.out nq).2.1,fun m hm=>by simp [nodesW] at hm⟩
theorem nodeOk_parts {k n:Int} {len:Nat} (h:nodeOk k n len=true):(len:Int)=parts k∧((k=3∧in01 n=true)∨(¬ k=3∧n=0)):=by
  simp only [nodeOk,Bool.and_eq_true,decide_eq_true_eq] at h
  refine ⟨h.1,?_⟩
  by_cases hk:k=3
  · left
    rw [if_pos hk] at h
    exact ⟨hk,by unfold in01;simp at h ⊢;omega⟩
  · right
    rw [if_neg hk] at h
    exact ⟨hk,by simpa using h.2⟩
theorem lookOk_deep {l c:Nat} {k n:Int} {ts:List Tr} (h:nodeOk k n ts.length=false):lookOk (l+1) c ⟨k,n,ts⟩=false:=by simp [lookOk,nodesW,h]
theorem lookOk_full {l c:Nat} {t:Tr} (h:60 < c+1):lookOk l c t=false:=by
  unfold lookOk
  split
  · rename_i m hm
    have:=nodesW_pos _ _ _ hm
    simp;omega
  · rfl
set_option maxHeartbeats 1000000 in
theorem lk_no (l:Nat) (d L B p c:Nat) (k n:Int) (ao:Option Addr) (len cap:Nat) (ts:List Tr) (w:World) (hBp:B≤p) (hp:p < w.heap.size) (hcell:w.heap[p]?=some (.cells #[.int .i64 c] 3 (0,0))) (hc:c≤60) (hl6:l < 6) (hs:Hs L B w d ao len ts)
    (hno:60 < c+1∨nodeOk k n len=false) :
    Calls Try.prog 95 #[.agg #[.int .i64 k,.int .i64 n,.slice ao len cap],.int .i64 ((l:Int)+1),.pointer (some ⟨p,0,none⟩)] w fun e w' =>
      e=.returned (.bool (lookOk (l+1) c ⟨k,n,ts⟩))∧w.grownBy w' (some p)∧∃ c':Int,w'.heap[p]?=some (.cells #[.int .i64 c'] 3 (0,0))∧(∀ m,nodesW (l+1) ⟨k,n,ts⟩=some m→c+m≤60→c'=c+m):=by
  have HO:Hid (lookOk (l+1) c ⟨k,n,ts⟩=false):=by
    rcases hno with h | h
    · exact lookOk_full h
    · exact lookOk_deep (by rw [← hs.len.1];exact h)
  have hll:=hs.len.2
  have f:=row_cell hcell 0
  have r:=row_free hcell 0
  simp at f
  have hpn:¬ w.heap.size=p:=by omega
  have hp0:=parts_bd k
  have HW:=lk_world hcell hp (.int .i64 ((c:Int)+1)) #[.int .i64 k,.int .i64 n,.slice ao len cap] 26
  have HWW:Hid (∀ nq,_):=HW
  clear HW hcell
  have hl0:(((l:Int)+1) == 0)=false:=by simp;omega
  by_cases hfull:60 < c+1
  · have h60:decide (60 < (c:Int)+1)=true:=by simp;omega
    clear hno hfull
    go_enter Try.func95,Try.ntmps95
    go_wp2_with fail
    go_quiet ((first | (go_at_call 72;exact Calls.quiet_of_same (l1Args_any _ _)) | (go_at_call 94;exact Calls.quiet_of_same (l1In_any _ _))))
    go_wp2
    go_ret
    exact ⟨ret_bool HO.out.symm,(HWW.out nq).1,_,(HWW.out nq).2.1,fun m hm hle=>(lookOk_no HO.out m hm hle).elim⟩
  have h60:decide (60 < (c:Int)+1)=false:=by simp;omega
  replace hno:nodeOk k n len=false:=by rcases hno with h | h;exact absurd h hfull;exact h
  by_cases hlen:(len:Int)=parts k
  · have hb:((len:Int) != parts k)=false:=by simp [hlen]
    by_cases hk:k=3
    · have hk3:(k == 3)=true:=by simp [hk]
      have hkn:(k != 3)=false:=by simp [hk]
      have hin:in01 n=false:=by
        rw [nodeOk_var hk hlen] at hno
        unfold in01;simp at hno ⊢;omega
      clear hk hlen hno
      go_enter Try.func95,Try.ntmps95
      go_wp2_with fail
      go_quiet ((first | (go_at_call 72;exact Calls.quiet_of_same (l1Args_any _ _)) | (go_at_call 94;exact Calls.quiet_of_same (l1In_any _ _))))
      go_wp2
      go_ret
      exact ⟨ret_bool HO.out.symm,(HWW.out nq).1,_,(HWW.out nq).2.1,fun m hm hle=>(lookOk_no HO.out m hm hle).elim⟩
    · have hk3:(k == 3)=false:=by simp [hk]
      have hkn:(k != 3)=true:=by simp [hk]
      have hn:(n != 0)=true:=by
        rw [nodeOk_else hk hlen] at hno
        simpa using hno
      clear hk hlen hno
      go_enter Try.func95,Try.ntmps95
      go_wp2_with fail
      go_quiet ((first | (go_at_call 72;exact Calls.quiet_of_same (l1Args_any _ _)) | (go_at_call 94;exact Calls.quiet_of_same (l1In_any _ _))))
      go_wp2
      go_ret
      exact ⟨ret_bool HO.out.symm,(HWW.out nq).1,_,(HWW.out nq).2.1,fun m hm hle=>(lookOk_no HO.out m hm hle).elim⟩
  · have hb:((len:Int) != parts k)=true:=by simp [hlen]
    clear hlen hno
    go_enter Try.func95,Try.ntmps95
    go_wp2_with fail
    go_quiet ((first | (go_at_call 72;exact Calls.quiet_of_same (l1Args_any _ _)) | (go_at_call 94;exact Calls.quiet_of_same (l1In_any _ _))))
    go_wp2
    go_ret
    exact ⟨ret_bool HO.out.symm,(HWW.out nq).1,_,(HWW.out nq).2.1,fun m hm hle=>(lookOk_no HO.out m hm hle).elim⟩
end Go.Proofs.Ytleghjgpnefliaa
