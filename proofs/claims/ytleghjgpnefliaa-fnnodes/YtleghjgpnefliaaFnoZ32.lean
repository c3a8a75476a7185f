/-
  What the model's 'l2Of', 'l2Number' come to.
-/
import Derived.Test.YtleghjgpnefliaaFnoZ31
import Derived.Test.YtleghjgpnefliaaFnoZ2
import Derived.Test.YtleghjgpnefliaaFnoZ3
import Derived.Test.YtleghjgpnefliaaFnoZ11
import Derived.BigQuiet
import Derived.Deep.Cut
import Derived.Deep.CutRange
namespace Go.Proofs.Ytleghjgpnefliaa
open Go.RowKit Go.PlainAid
set_option linter.unusedVariables false
set_option linter.unusedSimpArgs false
def ofP (k:Int):Int:=if kOk k then shP k else -1
def ofN (k:Int):Int:=if k=1∨k=2∨k=6∨k=7∨k=15 then 1 else 0
def ofS (k:Int):Bool:=decide (k=3∨k=4∨k=6∨k=7∨k=14∨k=17)
def ofZ (k:Int):Bool:=decide (k=14)
set_option maxHeartbeats 1000000 in
theorem l2Of_any (k:Int) (w:World):Calls Try.prog 85 #[.int .i64 k] w fun e w'=>e=.returned (.agg #[.int .i64 (ofP k),.int .i64 (ofN k),.bool (ofS k),.bool (ofZ k),.bool (shT k)])∧Below w.heap.size w w':=by
 by_cases h1:k=1
 · subst h1;go_enter Try.func85,Try.ntmps85;go_wp2;refine bodyPost_ret (v:=.agg #[.int .i64 0,.int .i64 1,.bool false,.bool false,.bool false]) (by simp [results,Try.results85,go_sem]) rfl ⟨rfl,?_⟩;exact (Below.refl _ _).alloc (Nat.le_refl _) _
 by_cases h2:k=2
 · subst h2;go_enter Try.func85,Try.ntmps85;go_wp2;refine bodyPost_ret (v:=.agg #[.int .i64 0,.int .i64 1,.bool false,.bool false,.bool false]) (by simp [results,Try.results85,go_sem]) rfl ⟨rfl,?_⟩;exact (Below.refl _ _).alloc (Nat.le_refl _) _
 by_cases h3:k=3
 · subst h3;go_enter Try.func85,Try.ntmps85;go_wp2;refine bodyPost_ret (v:=.agg #[.int .i64 0,.int .i64 0,.bool true,.bool false,.bool false]) (by simp [results,Try.results85,go_sem]) rfl ⟨rfl,?_⟩;exact (Below.refl _ _).alloc (Nat.le_refl _) _
 by_cases h4:k=4
 · subst h4;go_enter Try.func85,Try.ntmps85;go_wp2;refine bodyPost_ret (v:=.agg #[.int .i64 1,.int .i64 0,.bool true,.bool false,.bool true]) (by simp [results,Try.results85,go_sem]) rfl ⟨rfl,?_⟩;exact (Below.refl _ _).alloc (Nat.le_refl _) _
 by_cases h5:k=5
 · subst h5;go_enter Try.func85,Try.ntmps85;go_wp2;refine bodyPost_ret (v:=.agg #[.int .i64 2,.int .i64 0,.bool false,.bool false,.bool false]) (by simp [results,Try.results85,go_sem]) rfl ⟨rfl,?_⟩;exact (Below.refl _ _).alloc (Nat.le_refl _) _
 by_cases h6:k=6
 · subst h6;go_enter Try.func85,Try.ntmps85;go_wp2;refine bodyPost_ret (v:=.agg #[.int .i64 2,.int .i64 1,.bool true,.bool false,.bool false]) (by simp [results,Try.results85,go_sem]) rfl ⟨rfl,?_⟩;exact (Below.refl _ _).alloc (Nat.le_refl _) _
 by_cases h7:k=7
 · subst h7;go_enter Try.func85,Try.ntmps85;go_wp2;refine bodyPost_ret (v:=.agg #[.int .i64 2,.int .i64 1,.bool true,.bool false,.bool true]) (by simp [results,Try.results85,go_sem]) rfl ⟨rfl,?_⟩;exact (Below.refl _ _).alloc (Nat.le_refl _) _
 by_cases h8:k=8
 · subst h8;go_enter Try.func85,Try.ntmps85;go_wp2;refine bodyPost_ret (v:=.agg #[.int .i64 3,.int .i64 0,.bool false,.bool false,.bool false]) (by simp [results,Try.results85,go_sem]) rfl ⟨rfl,?_⟩;exact (Below.refl _ _).alloc (Nat.le_refl _) _
 by_cases h9:k=9
 · subst h9;go_enter Try.func85,Try.ntmps85;go_wp2;refine bodyPost_ret (v:=.agg #[.int .i64 2,.int .i64 0,.bool false,.bool false,.bool false]) (by simp [results,Try.results85,go_sem]) rfl ⟨rfl,?_⟩;exact (Below.refl _ _).alloc (Nat.le_refl _) _
 by_cases h10:k=10
 · subst h10;go_enter Try.func85,Try.ntmps85;go_wp2;refine bodyPost_ret (v:=.agg #[.int .i64 1,.int .i64 0,.bool false,.bool false,.bool false]) (by simp [results,Try.results85,go_sem]) rfl ⟨rfl,?_⟩;exact (Below.refl _ _).alloc (Nat.le_refl _) _
 by_cases h11:k=11
 · subst h11;go_enter Try.func85,Try.ntmps85;go_wp2;refine bodyPost_ret (v:=.agg #[.int .i64 1,.int .i64 0,.bool false,.bool false,.bool false]) (by simp [results,Try.results85,go_sem]) rfl ⟨rfl,?_⟩;exact (Below.refl _ _).alloc (Nat.le_refl _) _
 by_cases h12:k=12
 · subst h12;go_enter Try.func85,Try.ntmps85;go_wp2;refine bodyPost_ret (v:=.agg #[.int .i64 0,.int .i64 0,.bool false,.bool false,.bool true]) (by simp [results,Try.results85,go_sem]) rfl ⟨rfl,?_⟩;exact (Below.refl _ _).alloc (Nat.le_refl _) _
 by_cases h13:k=13
 · subst h13;go_enter Try.func85,Try.ntmps85;go_wp2;refine bodyPost_ret (v:=.agg #[.int .i64 2,.int .i64 0,.bool false,.bool false,.bool false]) (by simp [results,Try.results85,go_sem]) rfl ⟨rfl,?_⟩;exact (Below.refl _ _).alloc (Nat.le_refl _) _
 by_cases h14:k=14
 · subst h14;go_enter Try.func85,Try.ntmps85;go_wp2;refine bodyPost_ret (v:=.agg #[.int .i64 3,.int .i64 0,.bool true,.bool true,.bool false]) (by simp [results,Try.results85,go_sem]) rfl ⟨rfl,?_⟩;exact (Below.refl _ _).alloc (Nat.le_refl _) _
 by_cases h15:k=15
 · subst h15;go_enter Try.func85,Try.ntmps85;go_wp2;refine bodyPost_ret (v:=.agg #[.int .i64 2,.int .i64 1,.bool false,.bool false,.bool false]) (by simp [results,Try.results85,go_sem]) rfl ⟨rfl,?_⟩;exact (Below.refl _ _).alloc (Nat.le_refl _) _
 by_cases h16:k=16
 · subst h16;go_enter Try.func85,Try.ntmps85;go_wp2;refine bodyPost_ret (v:=.agg #[.int .i64 1,.int .i64 0,.bool false,.bool false,.bool true]) (by simp [results,Try.results85,go_sem]) rfl ⟨rfl,?_⟩;exact (Below.refl _ _).alloc (Nat.le_refl _) _
 by_cases h17:k=17
 · subst h17;go_enter Try.func85,Try.ntmps85;go_wp2;refine bodyPost_ret (v:=.agg #[.int .i64 2,.int .i64 0,.bool true,.bool false,.bool false]) (by simp [results,Try.results85,go_sem]) rfl ⟨rfl,?_⟩;exact (Below.refl _ _).alloc (Nat.le_refl _) _
 have e1:ofP k=-1:=by unfold ofP kOk;rw [decide_eq_false (by omega)];rfl
 have e2:ofN k=0:=by unfold ofN;rw [if_neg (by omega)]
 have e3:ofS k=false:=by unfold ofS;rw [decide_eq_false (by omega)]
 have e4:ofZ k=false:=by unfold ofZ;rw [decide_eq_false (by omega)]
 have e5:shT k=false:=by unfold shT;rw [decide_eq_false (by omega)]
 rw [e1,e2,e3,e4,e5]
 have b1:(k==1)=false:=beq_eq_false_iff_ne.2 h1
 have b2:(k==2)=false:=beq_eq_false_iff_ne.2 h2
 have b3:(k==3)=false:=beq_eq_false_iff_ne.2 h3
 have b4:(k==4)=false:=beq_eq_false_iff_ne.2 h4
 have b5:(k==5)=false:=beq_eq_false_iff_ne.2 h5
 have b6:(k==6)=false:=beq_eq_false_iff_ne.2 h6
 have b7:(k==7)=false:=beq_eq_false_iff_ne.2 h7
 have b8:(k==8)=false:=beq_eq_false_iff_ne.2 h8
 have b9:(k==9)=false:=beq_eq_false_iff_ne.2 h9
 have b10:(k==10)=false:=beq_eq_false_iff_ne.2 h10
 have b11:(k==11)=false:=beq_eq_false_iff_ne.2 h11
 have b12:(k==12)=false:=beq_eq_false_iff_ne.2 h12
 have b13:(k==13)=false:=beq_eq_false_iff_ne.2 h13
 have b14:(k==14)=false:=beq_eq_false_iff_ne.2 h14
 have b15:(k==15)=false:=beq_eq_false_iff_ne.2 h15
 have b16:(k==16)=false:=beq_eq_false_iff_ne.2 h16
 have b17:(k==17)=false:=beq_eq_false_iff_ne.2 h17
 clear e1 e2 e3 e4 e5 h1 h2 h3 h4 h5 h6 h7 h8 h9 h10 h11 h12 h13 h14 h15 h16 h17
 go_enter Try.func85,Try.ntmps85;go_wp2;refine bodyPost_ret (v:=.agg #[.int .i64 (-1),.int .i64 0,.bool false,.bool false,.bool false]) (by simp [results,Try.results85,go_sem]) rfl ⟨rfl,?_⟩;exact (Below.refl _ _).alloc (Nat.le_refl _) _
def numB (k n:Int):Bool:=inB n (shL k) (shM k)
set_option maxHeartbeats 1000000 in
theorem Qbc (k n:Int) (v2 v3 v4 v5 v6 v7 v8:Value) (w:World):Calls Try.prog 86 #[.agg #[.int .i64 k,.int .i64 n,v2,v3,v4,v5,v6,v7,v8]] w fun e w'=>e=.returned (.bool (numB k n))∧Below w.heap.size w w':=by
 have hb0:Below w.heap.size w (w.alloc (.cells #[.int .i64 k,.int .i64 n,v2,v3,v4,v5,v6,v7,v8] 29)):=(Below.refl _ _).alloc (Nat.le_refl _) _
 by_cases h1:k=1
 · subst h1
   go_enter Try.func86,Try.ntmps86
   go_wp2_with fail
   refine (Qdq _ _ _ _).mono ?_
   rintro e w' ⟨rfl,rfl⟩
   go_wp2_with fail
   go_ret
   exact⟨rfl,hb0⟩
 by_cases h2:k=2
 · subst h2
   go_enter Try.func86,Try.ntmps86
   go_wp2_with fail
   refine (Qdq _ _ _ _).mono ?_
   rintro e w' ⟨rfl,rfl⟩
   go_wp2_with fail
   go_ret
   exact⟨rfl,hb0⟩
 by_cases h6:k=6
 · subst h6
   go_enter Try.func86,Try.ntmps86
   go_wp2_with fail
   refine (Qdq _ _ _ _).mono ?_
   rintro e w' ⟨rfl,rfl⟩
   go_wp2_with fail
   go_ret
   exact⟨rfl,hb0⟩
 by_cases h7:k=7
 · subst h7
   go_enter Try.func86,Try.ntmps86
   go_wp2_with fail
   refine (Qdq _ _ _ _).mono ?_
   rintro e w' ⟨rfl,rfl⟩
   go_wp2_with fail
   go_ret
   exact⟨rfl,hb0⟩
 by_cases h15:k=15
 · subst h15
   go_enter Try.func86,Try.ntmps86
   go_wp2_with fail
   refine (Qdq _ _ _ _).mono ?_
   rintro e w' ⟨rfl,rfl⟩
   go_wp2_with fail
   go_ret
   exact⟨rfl,hb0⟩
 have HE:Hid (numB k n=(n==0)):=by
  show _=_
  have e1:shL k=0:=by unfold shL;rw [if_neg h1,if_neg h15]
  have e2:shM k=0:=by unfold shM;rw [if_neg h1,if_neg h2,if_neg (by omega),if_neg h15]
  unfold numB inB;rw [e1,e2,Bool.eq_iff_iff];simp;omega
 have b1:(k==1)=false:=beq_eq_false_iff_ne.2 h1
 have b2:(k==2)=false:=beq_eq_false_iff_ne.2 h2
 have b6:(k==6)=false:=beq_eq_false_iff_ne.2 h6
 have b7:(k==7)=false:=beq_eq_false_iff_ne.2 h7
 have b15:(k==15)=false:=beq_eq_false_iff_ne.2 h15
 clear h1 h2 h6 h7 h15
 go_enter Try.func86,Try.ntmps86
 go_wp2_with fail
 go_ret
 exact⟨Qak HE.out.symm,hb0⟩
set_option maxHeartbeats 1000000 in
theorem shapeOf_any (k:Int) (w:World):Calls Try.prog 68 #[.int .i64 k] w fun e w'=>e=.returned (.tuple #[.agg #[.int .i64 (shN k),.int .i64 (shL k),.int .i64 (shM k),.bool (shT k),.int .i64 (shS k),.int .i64 (shP k)],.bool (kOk k)])∧Below w.heap.size w w':=by
 by_cases h1:k=1
 · subst h1;go_enter Try.func68,Try.ntmps68;go_wp2;refine bodyPost_ret (v:=.tuple #[.agg #[.int .i64 0,.int .i64 (-1000000),.int .i64 1000000,.bool false,.int .i64 0,.int .i64 0],.bool true]) (by simp [results,Try.results68,go_sem]) rfl ⟨rfl,?_⟩;exact (Below.refl _ _).alloc (Nat.le_refl _) _
 by_cases h2:k=2
 · subst h2;go_enter Try.func68,Try.ntmps68;go_wp2;refine bodyPost_ret (v:=.tuple #[.agg #[.int .i64 0,.int .i64 (0),.int .i64 1,.bool false,.int .i64 0,.int .i64 0],.bool true]) (by simp [results,Try.results68,go_sem]) rfl ⟨rfl,?_⟩;exact (Below.refl _ _).alloc (Nat.le_refl _) _
 by_cases h3:k=3
 · subst h3;go_enter Try.func68,Try.ntmps68;go_wp2;refine bodyPost_ret (v:=.tuple #[.agg #[.int .i64 1,.int .i64 (0),.int .i64 0,.bool false,.int .i64 2,.int .i64 0],.bool true]) (by simp [results,Try.results68,go_sem]) rfl ⟨rfl,?_⟩;exact (Below.refl _ _).alloc (Nat.le_refl _) _
 by_cases h4:k=4
 · subst h4;go_enter Try.func68,Try.ntmps68;go_wp2;refine bodyPost_ret (v:=.tuple #[.agg #[.int .i64 1,.int .i64 (0),.int .i64 0,.bool true,.int .i64 0,.int .i64 1],.bool true]) (by simp [results,Try.results68,go_sem]) rfl ⟨rfl,?_⟩;exact (Below.refl _ _).alloc (Nat.le_refl _) _
 by_cases h5:k=5
 · subst h5;go_enter Try.func68,Try.ntmps68;go_wp2;refine bodyPost_ret (v:=.tuple #[.agg #[.int .i64 0,.int .i64 (0),.int .i64 0,.bool false,.int .i64 0,.int .i64 2],.bool true]) (by simp [results,Try.results68,go_sem]) rfl ⟨rfl,?_⟩;exact (Below.refl _ _).alloc (Nat.le_refl _) _
 by_cases h6:k=6
 · subst h6;go_enter Try.func68,Try.ntmps68;go_wp2;refine bodyPost_ret (v:=.tuple #[.agg #[.int .i64 1,.int .i64 (0),.int .i64 2,.bool false,.int .i64 0,.int .i64 2],.bool true]) (by simp [results,Try.results68,go_sem]) rfl ⟨rfl,?_⟩;exact (Below.refl _ _).alloc (Nat.le_refl _) _
 by_cases h7:k=7
 · subst h7;go_enter Try.func68,Try.ntmps68;go_wp2;refine bodyPost_ret (v:=.tuple #[.agg #[.int .i64 1,.int .i64 (0),.int .i64 2,.bool true,.int .i64 0,.int .i64 2],.bool true]) (by simp [results,Try.results68,go_sem]) rfl ⟨rfl,?_⟩;exact (Below.refl _ _).alloc (Nat.le_refl _) _
 by_cases h8:k=8
 · subst h8;go_enter Try.func68,Try.ntmps68;go_wp2;refine bodyPost_ret (v:=.tuple #[.agg #[.int .i64 0,.int .i64 (0),.int .i64 0,.bool false,.int .i64 0,.int .i64 3],.bool true]) (by simp [results,Try.results68,go_sem]) rfl ⟨rfl,?_⟩;exact (Below.refl _ _).alloc (Nat.le_refl _) _
 by_cases h9:k=9
 · subst h9;go_enter Try.func68,Try.ntmps68;go_wp2;refine bodyPost_ret (v:=.tuple #[.agg #[.int .i64 0,.int .i64 (0),.int .i64 0,.bool false,.int .i64 0,.int .i64 2],.bool true]) (by simp [results,Try.results68,go_sem]) rfl ⟨rfl,?_⟩;exact (Below.refl _ _).alloc (Nat.le_refl _) _
 by_cases h10:k=10
 · subst h10;go_enter Try.func68,Try.ntmps68;go_wp2;refine bodyPost_ret (v:=.tuple #[.agg #[.int .i64 0,.int .i64 (0),.int .i64 0,.bool false,.int .i64 0,.int .i64 1],.bool true]) (by simp [results,Try.results68,go_sem]) rfl ⟨rfl,?_⟩;exact (Below.refl _ _).alloc (Nat.le_refl _) _
 by_cases h11:k=11
 · subst h11;go_enter Try.func68,Try.ntmps68;go_wp2;refine bodyPost_ret (v:=.tuple #[.agg #[.int .i64 0,.int .i64 (0),.int .i64 0,.bool false,.int .i64 0,.int .i64 1],.bool true]) (by simp [results,Try.results68,go_sem]) rfl ⟨rfl,?_⟩;exact (Below.refl _ _).alloc (Nat.le_refl _) _
 by_cases h12:k=12
 · subst h12;go_enter Try.func68,Try.ntmps68;go_wp2;refine bodyPost_ret (v:=.tuple #[.agg #[.int .i64 0,.int .i64 (0),.int .i64 0,.bool true,.int .i64 0,.int .i64 0],.bool true]) (by simp [results,Try.results68,go_sem]) rfl ⟨rfl,?_⟩;exact (Below.refl _ _).alloc (Nat.le_refl _) _
 by_cases h13:k=13
 · subst h13;go_enter Try.func68,Try.ntmps68;go_wp2;refine bodyPost_ret (v:=.tuple #[.agg #[.int .i64 0,.int .i64 (0),.int .i64 0,.bool false,.int .i64 0,.int .i64 2],.bool true]) (by simp [results,Try.results68,go_sem]) rfl ⟨rfl,?_⟩;exact (Below.refl _ _).alloc (Nat.le_refl _) _
 by_cases h14:k=14
 · subst h14;go_enter Try.func68,Try.ntmps68;go_wp2;refine bodyPost_ret (v:=.tuple #[.agg #[.int .i64 2,.int .i64 (0),.int .i64 0,.bool false,.int .i64 0,.int .i64 3],.bool true]) (by simp [results,Try.results68,go_sem]) rfl ⟨rfl,?_⟩;exact (Below.refl _ _).alloc (Nat.le_refl _) _
 by_cases h15:k=15
 · subst h15;go_enter Try.func68,Try.ntmps68;go_wp2;refine bodyPost_ret (v:=.tuple #[.agg #[.int .i64 0,.int .i64 (1),.int .i64 5,.bool false,.int .i64 0,.int .i64 2],.bool true]) (by simp [results,Try.results68,go_sem]) rfl ⟨rfl,?_⟩;exact (Below.refl _ _).alloc (Nat.le_refl _) _
 by_cases h16:k=16
 · subst h16;go_enter Try.func68,Try.ntmps68;go_wp2;refine bodyPost_ret (v:=.tuple #[.agg #[.int .i64 0,.int .i64 (0),.int .i64 0,.bool true,.int .i64 0,.int .i64 1],.bool true]) (by simp [results,Try.results68,go_sem]) rfl ⟨rfl,?_⟩;exact (Below.refl _ _).alloc (Nat.le_refl _) _
 by_cases h17:k=17
 · subst h17;go_enter Try.func68,Try.ntmps68;go_wp2;refine bodyPost_ret (v:=.tuple #[.agg #[.int .i64 1,.int .i64 (0),.int .i64 0,.bool false,.int .i64 0,.int .i64 2],.bool true]) (by simp [results,Try.results68,go_sem]) rfl ⟨rfl,?_⟩;exact (Below.refl _ _).alloc (Nat.le_refl _) _
 have e1:shN k=0:=by unfold shN;simp [h3,h4,h6,h7,h17,h14]
 have e2:shL k=0:=by unfold shL;simp [h1,h15]
 have e3:shM k=0:=by unfold shM;simp [h1,h2,h6,h7,h15]
 have e4:shT k=false:=by unfold shT;simp [h4,h7,h12,h16]
 have e5:shS k=0:=by unfold shS;simp [h3]
 have e6:shP k=0:=by unfold shP;simp [h4,h10,h11,h16,h5,h6,h7,h9,h13,h15,h17,h8,h14]
 have e7:kOk k=false:=by unfold kOk;simp;omega
 rw [e1,e2,e3,e4,e5,e6,e7]
 have b1:(k==1)=false:=beq_eq_false_iff_ne.2 h1
 have b2:(k==2)=false:=beq_eq_false_iff_ne.2 h2
 have b3:(k==3)=false:=beq_eq_false_iff_ne.2 h3
 have b4:(k==4)=false:=beq_eq_false_iff_ne.2 h4
 have b5:(k==5)=false:=beq_eq_false_iff_ne.2 h5
 have b6:(k==6)=false:=beq_eq_false_iff_ne.2 h6
 have b7:(k==7)=false:=beq_eq_false_iff_ne.2 h7
 have b8:(k==8)=false:=beq_eq_false_iff_ne.2 h8
 have b9:(k==9)=false:=beq_eq_false_iff_ne.2 h9
 have b10:(k==10)=false:=beq_eq_false_iff_ne.2 h10
 have b11:(k==11)=false:=beq_eq_false_iff_ne.2 h11
 have b12:(k==12)=false:=beq_eq_false_iff_ne.2 h12
 have b13:(k==13)=false:=beq_eq_false_iff_ne.2 h13
 have b14:(k==14)=false:=beq_eq_false_iff_ne.2 h14
 have b15:(k==15)=false:=beq_eq_false_iff_ne.2 h15
 have b16:(k==16)=false:=beq_eq_false_iff_ne.2 h16
 have b17:(k==17)=false:=beq_eq_false_iff_ne.2 h17
 clear e1 e2 e3 e4 e5 e6 e7 h1 h2 h3 h4 h5 h6 h7 h8 h9 h10 h11 h12 h13 h14 h15 h16 h17
 go_enter Try.func68,Try.ntmps68;go_wp2;refine bodyPost_ret (v:=.tuple #[.agg #[.int .i64 0,.int .i64 0,.int .i64 0,.bool false,.int .i64 0,.int .i64 0],.bool false]) (by simp [results,Try.results68,go_sem]) rfl ⟨rfl,?_⟩;exact (Below.refl _ _).alloc (Nat.le_refl _) _
theorem nodeM_k {t:Tm} (h:kOk t.K=false):Qaz t=false:=by simp [Qaz,h]
theorem nodeM_n {t:Tm} (h:¬ (shL t.K≤t.N∧t.N≤shM t.K)):Qaz t=false:=by unfold Qaz;rw [decide_eq_false h];simp
theorem nodeM_p {t:Tm} (h:¬ (t.A.length:Int)=shP t.K):Qaz t=false:=by unfold Qaz;rw [decide_eq_false h];simp
theorem nodeM_f {t:Tm} (h:fixB t.K t.A=false):Qaz t=false:=by unfold Qaz;rw [h];simp
theorem nodeM_s {t:Tm} (h:Qcz (shN t.K) t.S t.Z=false):Qaz t=false:=by unfold Qaz;rw [h];simp
theorem nodeM_all {t:Tm} (h1:kOk t.K=true) (h2:shL t.K≤t.N∧t.N≤shM t.K) (h3:(t.A.length:Int)=shP t.K) (h4:fixB t.K t.A=true) (h5:Qcz (shN t.K) t.S t.Z=true):Qaz t=Qdh t.K t.T t.Ts:=by
 unfold Qaz;rw [h1,decide_eq_true h2,decide_eq_true h3,h4,h5];simp
theorem fixB_seven {k:Int} {l:List Tm} (h:k=7) (hl:0<l.length):fixB k l=decide (l[0].K=4):=by
 unfold fixB;rw [if_pos h]
 cases l with
 | nil=>simp at hl
 | cons x l=>rfl
theorem typesB_eq (t:Tm):Qdh t.K t.T t.Ts=(typesHead (shT t.K) (shS t.K) ⟨t.T.K,t.T.N,t.T.A⟩ t.Ts.length&&t.Ts.all okT):=by
 rw [Qap];rfl
set_option maxHeartbeats 2000000 in
theorem termNodeOk_any (D d L B:Nat) (t:Tm) (a1:Option Addr) (l1 c1:Nat) (a2:Option Addr) (l2 c2:Nat) (a3:Option Addr) (l3 c3:Nat) (w:World) (hB:B≤w.heap.size) (hf:Fm L B w D d t a1 l1 a2 l2 a3 l3) :
 Calls Try.prog 47 #[.agg #[.int .i64 t.K,.int .i64 t.N,.string t.S,.string t.Z,.int .i64 t.T.K,.int .i64 t.T.N,.slice a1 l1 c1,.slice a2 l2 c2,.slice a3 l3 c3]] w fun e w'=>e=.returned (.bool (Qaz t))∧Below w.heap.size w w':=by
 have hl3:=hf.m.len.2
 have HL3:Hid (l3=t.A.length):=hf.m.len.1
 have HL2:Hid (l2=t.Ts.length):=hf.t2.len.1
 have bN:=shN_bd t.K
 have bL:=shL_bd t.K
 have bM:=shM_bd t.K
 have bS:=shS_bd t.K
 have bP:=shP_bd t.K
 have hb0:Below w.heap.size w (w.alloc (.cells #[.int .i64 t.K,.int .i64 t.N,.string t.S,.string t.Z,.int .i64 t.T.K,.int .i64 t.T.N,.slice a1 l1 c1,.slice a2 l2 c2,.slice a3 l3 c3] 29)):=(Below.refl _ _).alloc (Nat.le_refl _) _
 cases hk:kOk t.K
 · have HN:Hid (Qaz t=false):=nodeM_k hk
   have HK:Hid (kOk t.K=false):=hk
   clear hk
   go_enter Try.func47,Try.ntmps47
   go_wp2_with fail
   refine (shapeOf_any _ _).mono ?_
   rintro e w1 ⟨rfl,hb1⟩
   rw [HK.out]
   go_wp2_with fail
   go_ret
   exact⟨Qak HN.out.symm,(hb0.trans (hb1.mono (by simp))).alloc (by have:=hb1.size;simp at this;omega) _⟩
 have HK:Hid (kOk t.K=true):=hk
 clear hk
 go_enter Try.func47,Try.ntmps47
 go_wp2_with fail
 refine (shapeOf_any _ _).mono ?_
 rintro e w1 ⟨rfl,hb1⟩
 rw [HK.out]
 have hz1:=hb1.size
 simp only [World.size_alloc] at hz1
 have hbw1:Below w.heap.size w w1:=hb0.trans (hb1.mono (by simp))
 have y0:=(hb1.block w.heap.size (by simp)).trans (Qac rfl)
 obtain⟨f0,f1,f2,f3,f4,f5,f6,f7,f8⟩:=Nine.box y0
 simp only [Nat.zero_add] at f1 f2 f3 f4 f5 f6 f7 f8
 obtain⟨X,hX⟩:∃ X,X=w1.alloc (.cells #[.int .i64 (shN t.K),.int .i64 (shL t.K),.int .i64 (shM t.K),.bool (shT t.K),.int .i64 (shS t.K),.int .i64 (shP t.K)] 101):=⟨_,rfl⟩
 have hXb:Below w.heap.size w X:=by rw [hX];exact hbw1.alloc (by omega) _
 have hXs:X.heap.size=w1.heap.size+1:=by rw [hX];simp
 have HX:Hid (X=_):=hX
 clear hX
 have hne:¬ w.heap.size=w1.heap.size:=by omega
 have hlt1:w.heap.size<w1.heap.size:=by omega
 have hX1:X.heap[w1.heap.size]?=some (.cells #[.int .i64 (shN t.K),.int .i64 (shL t.K),.int .i64 (shM t.K),.bool (shT t.K),.int .i64 (shS t.K),.int .i64 (shP t.K)] 101 (0,0)):=by rw [HX.out];exact Qac rfl
 have hX0:X.heap[w.heap.size]?=some (.cells #[.int .i64 t.K,.int .i64 t.N,.string t.S,.string t.Z,.int .i64 t.T.K,.int .i64 t.T.N,.slice a1 l1 c1,.slice a2 l2 c2,.slice a3 l3 c3] 29 (0,0)):=by rw [HX.out,Below.heap_alloc _ _ _ hlt1];exact y0
 by_cases d1:t.N<shL t.K
 · have HN:Hid (Qaz t=false):=nodeM_n (by omega)
   go_wp2_with fail
   go_ret
   rw [← HX.out]
   exact⟨Qak HN.out.symm,hXb⟩
 by_cases d2:shM t.K<t.N
 · have HN:Hid (Qaz t=false):=nodeM_n (by omega)
   go_wp2_with fail
   go_ret
   rw [← HX.out]
   exact⟨Qak HN.out.symm,hXb⟩
 have c12:Hid (shL t.K≤t.N∧t.N≤shM t.K):=⟨by omega,by omega⟩
 by_cases c3:(l3:Int)=shP t.K
 case' neg =>
  have HN:Hid (Qaz t=false):=nodeM_p (by rw [← HL3.out];exact c3)
  have c3b:((l3:Int) != shP t.K)=true:=by simp [c3]
  clear c3
  go_wp2_with fail
  go_ret
  rw [← HX.out]
  exact⟨Qak HN.out.symm,hXb⟩
 have HP:Hid ((l3:Int)=shP t.K):=c3
 have c3b:((l3:Int) != shP t.K)=false:=by simp [c3]
 have c4:∃ b:Bool,fixB t.K t.A=b∧(t.K=7->∃ x o,a3=some ⟨x,o,none⟩∧0<l3∧x<B∧∃ q,w.cell? ⟨x,o,none⟩=some (.int .i64 q)∧b=decide (q=4))∧(¬ t.K=7->b=true):=by
  refine⟨_,rfl,fun h7=>?_,fun h7=>by simp [fixB,h7]⟩
  have hp2:shP t.K=2:=by rw [h7];rfl
  have h2:t.A.length=2:=by have:=HL3.out;omega
  obtain⟨x,o,e,_,hx,q1,q2,q3,q4,q5,q6,q7,q8,q9,h9,_⟩:=hf.m.get 0 (by omega)
  refine⟨x,o,e,by omega,hx,t.A[0].K,by simpa using h9.c0,?_⟩
  exact fixB_seven h7 (by omega)
 clear c3
 obtain⟨fx,HF,c7,c7n⟩:=c4
 replace HF:Hid (_=_):=HF
 have HT:Hid (fx=true->Qcz (shN t.K) t.S t.Z=true->Qaz t=(typesHead (shT t.K) (shS t.K) ⟨t.T.K,t.T.N,t.T.A⟩ l2&&t.Ts.all okT)):=fun h h'=>by
  rw [nodeM_all HK.out c12.out (by rw [← HL3.out];exact HP.out) (HF.out.trans h) h',typesB_eq,HL2.out]
 have HN0:Hid (fx=false->Qaz t=false):=fun h=>nodeM_f (HF.out.trans h)
 have HNs:Hid (Qcz (shN t.K) t.S t.Z=false->Qaz t=false):=nodeM_s
 have hfX:=Fm.below hXb hB hf
 by_cases h7:t.K=7
 case' pos =>
  obtain⟨x,o,rfl,hpos,hxB,q,hq,rfl⟩:=c7 h7
  clear c7 c7n HF
  have hq1:w1.cell? ⟨x,o,none⟩=some (.int .i64 q):=(Qag hbw1 (by omega) _).trans hq
  have hx1:x<w1.heap.size:=by omega
  have h7b:(t.K==7)=true:=by simp [h7]
  clear h7 hq
  cases h4:(q != 4)
  case' true =>
   have HN:Hid (Qaz t=false):=HN0.out (by simpa using h4)
   go_wp2_with fail
   go_ret
   rw [← HX.out]
   exact⟨Qak HN.out.symm,hXb⟩
  replace HT:Hid (_->_):=HT.out (by simpa using h4)
 case' neg =>
  replace HT:Hid (_->_):=HT.out (c7n h7)
  have h7b:(t.K==7)=false:=by simp [h7]
  clear c7 c7n HF h7
 all_goals
  cases hn:Qcz (shN t.K) t.S t.Z
  case' false =>
   replace HNs:Hid (_=_):=HNs.out hn
   have HB:Hid (Qcz (shN t.K) t.S t.Z=false):=hn
   clear hn
   go_wp2_with fail
   rw [← HX.out]
   refine (namesOk_any _ _ _ _ _ _ _ _ _ _ _ hf.s hf.z).mono ?_
   rintro e w2 ⟨rfl,hb2⟩
   rw [HB.out]
   go_wp2_with fail
   go_ret
   exact⟨Qak HNs.out.symm,hXb.trans (hb2.mono (by omega))⟩
  case' true =>
   replace HT:Hid (_=_):=HT.out hn
   have HB:Hid (Qcz (shN t.K) t.S t.Z=true):=hn
   clear hn
   go_wp2_with fail
   rw [← HX.out]
   refine (namesOk_any _ _ _ _ _ _ _ _ _ _ _ hf.s hf.z).mono ?_
   rintro e w2 ⟨rfl,hb2⟩
   rw [HB.out]
   have hz2:=hb2.size
   have z1:=(hb2.block _ (by omega)).trans hX1
   have z0:=(hb2.block _ (by omega)).trans hX0
   clear f0 f1 f2 f3 f4 f5 f6 f7 f8
   obtain⟨f0,f1,f2,f3,f4,f5,f6,f7,f8⟩:=Nine.box z0
   have p0:=Qaa z1 0
   have p1:=Qaa z1 1
   have p2:=Qaa z1 2
   have p3:=Qaa z1 3
   have p4:=Qaa z1 4
   have p5:=Qaa z1 5
   simp only [List.getElem?_toArray,List.getElem?_cons_zero,List.getElem?_cons_succ] at p0 p1 p2 p3 p4 p5
   have hbw2:Below w.heap.size w w2:=hXb.trans (hb2.mono (by omega))
   have hf2:=Fm.below hbw2 hB hf
   go_wp2_with fail
   refine (typesOk_any D L B _ _ _ _ _ _ _ _ _ _ _ _ _ t.T.A t.Ts _ _ _ _ _ _ _ (by omega) (by omega) (by omega) hf2.t1 hf2.t2).mono ?_
   rintro e w3 ⟨rfl,hb3⟩
   rw [← HT.out]
   go_wp2_with fail
   go_ret
   exact⟨rfl,hbw2.trans (hb3.mono (by omega))⟩
set_option maxHeartbeats 1000000 in
theorem Qdi (k n:Int) (ao:Option Addr) (len cap:Nat) (w:World) (hl:len≤9223372036854775807) :
 Calls Try.prog 62 #[.agg #[.int .i64 k,.int .i64 n,.slice ao len cap],.agg #[.int .i64 0,.int .i64 0,.slice none 0 0]] w fun e w'=>e=.returned (.bool ((k==0)&&(n==0)&&((len:Int)==0)))∧Below w.heap.size w w':=by
 have hbel:Below w.heap.size w ((w.alloc (.cells #[.int .i64 k,.int .i64 n,.slice ao len cap] 26)).alloc (.cells #[.int .i64 0,.int .i64 0,.slice none 0 0] 26)):=((Below.refl _ _).alloc (Nat.le_refl _) _).alloc (by simp) _
 cases h1:(k==0)
 case' false=>have h1':(k != 0)=true:=(by simp only [bne,h1];rfl)
 case' true=>have h1':(k != 0)=false:=(by simp only [bne,h1];rfl)
 all_goals cases h2:(n==0)
 all_goals (have h2':(n != 0)=!(n==0):=rfl;rw [h2] at h2')
 all_goals (by_cases h3:len=0)
 all_goals first
  | (subst h3
     go_enter Try.func62,Try.ntmps62
     go_wp2_with fail
     first
      | (go_ret;exact⟨rfl,hbel⟩)
      | (refine wp_loop_rounds 1 ?_;rw [rounds_succ];go_wp2_with fail;go_ret;exact⟨rfl,hbel⟩))
  | (have h3':((len:Int) != 0)=true:=(by simp;omega)
     have HF:Hid (((len:Int)==0)=false):=(by show _=_;rw [beq_eq_false_iff_ne];omega)
     go_enter Try.func62,Try.ntmps62
     go_wp2_with fail
     go_ret
     exact⟨Qak (by rw [HF.out];simp),hbel⟩)
def bad2 (b1 b2 sB nS eS zB nZ eZ eq:Bool):Bool:=b1 || !b2 || (sB != nS) || (!sB&&!eS) || (zB != nZ) || (!zB&&!eZ) || (zB&&eq)
def bad4 (tB ok zr g2 k3 g0:Bool):Bool:=(tB != ok) || (!tB&&!zr) || g2 || (k3&&g0)
theorem nameW_nil {s:ByteArray} (h:Qbn false s=true):s.toList.isEmpty=false:=by
 have h1:Qef s=decide (s.size=0):=isNil_size s
 unfold Qef at h1
 rw [h1,decide_eq_false_iff_not]
 simp only [Qbn,Bool.and_eq_true,decide_eq_true_eq] at h
 omega
theorem okT_zero {t:Tr} (h:okT t=true):zeroT t=false:=by
 rw [Bool.eq_false_iff];intro hz
 simp only [zeroT,Bool.and_eq_true,beq_iff_eq] at hz
 have h1:Qbk t.K t.N t.A.length=false:=by
  rw [hz.1.1];unfold Qbk parts;simp
 simp only [okT,Qcq,Qai,h1] at h
 cases h
theorem names_eq (k:Int) (s z:ByteArray):Qcz (shN k) s z=(!((ofS k != Qbn false s) || (!ofS k&&!s.toList.isEmpty) || (ofZ k != Qbn false z) || (!ofZ k&&!z.toList.isEmpty) || (ofZ k&&(s.toList==z.toList)))):=by
 have hs:Qbn false s=true->s.toList.isEmpty=false:=nameW_nil
 have hz:Qbn false z=true->z.toList.isEmpty=false:=nameW_nil
 by_cases h14:k=14
 · have e1:shN k=2:=by rw [h14];rfl
   have e2:ofS k=true:=by rw [h14];rfl
   have e3:ofZ k=true:=by rw [h14];rfl
   rw [e1,e2,e3]
   show (Qcg s&&Qcg z&&!(s.toList==z.toList))=_
   rw [← nameP_false,← nameP_false]
   cases Qbn false s <;> cases Qbn false z <;> cases (s.toList==z.toList) <;> rfl
 · have e3:ofZ k=false:=by unfold ofZ;rw [decide_eq_false h14]
   by_cases h1:k=3∨k=4∨k=6∨k=7∨k=17
   · have e1:shN k=1:=by unfold shN;rw [if_pos h1]
     have e2:ofS k=true:=by unfold ofS;rw [decide_eq_true];omega
     rw [e1,e2,e3]
     show (Qcg s&&Qef z)=_
     rw [← nameP_false]
     unfold Qef
     cases h2:Qbn false s <;> cases h3:Qbn false z <;> cases h4:z.toList.isEmpty <;> simp_all
   · have e1:shN k=0:=by unfold shN;rw [if_neg h1,if_neg h14]
     have e2:ofS k=false:=by unfold ofS;rw [decide_eq_false];omega
     rw [e1,e2,e3]
     show (Qef s&&Qef z)=_
     unfold Qef
     cases h2:Qbn false s <;> cases h3:Qbn false z <;> cases h4:z.toList.isEmpty <;> cases h5:s.toList.isEmpty <;> simp_all
theorem types_eq (k:Int) (t:Tr) (ts:List Tr):Qdh k t ts=(!(bad4 (shT k) (okT t) (zeroT t) (decide (2<(ts.length:Int))) (k != 3) (decide (0<(ts.length:Int))))&&ts.all okT):=by
 have hz:okT t=true->zeroT t=false:=okT_zero
 have hl:decide ((ts.length:Int)≤shS k)=!(decide (2<(ts.length:Int)) || ((k != 3)&&decide (0<(ts.length:Int)))):=by
  unfold shS
  by_cases h3:k=3
  · have e:(k != 3)=false:=by simp [h3]
    rw [if_pos h3,e,Bool.false_and,Bool.or_false,Bool.eq_iff_iff];simp
  · have e:(k != 3)=true:=by simp [h3]
    rw [if_neg h3,e,Bool.true_and,Bool.eq_iff_iff,decide_eq_true_eq,Bool.not_eq_true',Bool.or_eq_false_iff,decide_eq_false_iff_not,decide_eq_false_iff_not];omega
 unfold Qdh bad4
 rw [hl]
 cases shT k <;> cases h1:okT t <;> cases h2:zeroT t <;> simp_all
theorem nodeM_one (t:Tm):Qaz t=(!(bad2 ((t.A.length:Int) != ofP t.K) (numB t.K t.N) (ofS t.K) (Qbn false t.S) t.S.toList.isEmpty (ofZ t.K) (Qbn false t.Z) t.Z.toList.isEmpty (t.S.toList==t.Z.toList))&&!(bad4 (shT t.K) (okT t.T) (zeroT t.T) (decide (2<(t.Ts.length:Int))) (t.K != 3) (decide (0<(t.Ts.length:Int))))&&t.Ts.all okT&&fixB t.K t.A):=by
 unfold Qaz
 rw [names_eq,types_eq]
 have e1:(kOk t.K&&decide ((t.A.length:Int)=shP t.K))=!((t.A.length:Int) != ofP t.K):=by
  unfold ofP
  cases kOk t.K
  · rw [if_neg Bool.false_ne_true,Bool.false_and,eq_comm,Bool.not_eq_false']
    rw [bne_iff_ne];omega
  · rw [if_pos rfl,Bool.true_and,Bool.eq_iff_iff];simp
 have e2:numB t.K t.N=decide (shL t.K≤t.N∧t.N≤shM t.K):=rfl
 rw [e2]
 unfold bad2
 generalize decide (shL t.K≤t.N∧t.N≤shM t.K)=b2
 generalize ((t.A.length:Int) != ofP t.K)=b1 at e1 ⊢
 generalize (bad4 _ _ _ _ _ _)=b4
 generalize (ofS t.K != Qbn false t.S)=c1
 generalize (!ofS t.K&&!t.S.toList.isEmpty)=c2
 generalize (ofZ t.K != Qbn false t.Z)=c3
 generalize (!ofZ t.K&&!t.Z.toList.isEmpty)=c4
 generalize (ofZ t.K&&t.S.toList==t.Z.toList)=c5
 generalize kOk t.K=k1 at e1 ⊢
 generalize decide ((t.A.length:Int)=shP t.K)=p1 at e1 ⊢
 generalize fixB t.K t.A=fx
 generalize t.Ts.all okT=al
 cases b1 <;> cases k1 <;> cases p1 <;> simp at e1 <;> cases b2 <;> cases b4 <;> cases c1 <;> cases c2 <;> cases c3 <;> cases c4 <;> cases c5 <;> cases fx <;> cases al <;> rfl
theorem ofZ_ofS {k:Int} (h:ofZ k=true):ofS k=true:=by
 simp only [ofZ,ofS,decide_eq_true_eq] at *;omega
end Go.Proofs.Ytleghjgpnefliaa
