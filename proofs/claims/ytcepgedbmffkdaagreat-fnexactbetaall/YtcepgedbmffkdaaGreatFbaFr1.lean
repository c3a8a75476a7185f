/-
  What the program's 'formMade' comes to, kind by kind. (Written by mkfr.py.)
-/
import Derived.Test.YtcepgedbmffkdaaGreatFbaZ7
import Derived.BigQuiet
import Derived.Deep.Cut
import Derived.Deep.CutRange
namespace Go.Proofs.YtcepgedbmffkdaaGreat
open Go.RowKit
set_option linter.unusedVariables false
set_option linter.unusedSimpArgs false
def Prt (w:World) (ap:Option Addr) (n:Nat) (q:Nat→Value):Prop:=∀ i,i < n→∃ b o,ap=some ⟨b,o,none⟩∧b < w.heap.size∧w.cell? ⟨b,o+i,none⟩=some (q i)
set_option maxRecDepth 100000 in
set_option maxHeartbeats 1000000 in
theorem made_1 (nd:Int) (t:Tm) (a1:Option Addr) (l1 c1:Nat) (a2:Option Addr) (l2 c2:Nat) (a3:Option Addr) (l3 c3:Nat) (ap:Option Addr) (cp:Nat) (τ:Nat→TypeId) (u:Nat→Value) (w:World) (hK:t.K=1) (hq:Prt w ap 0 fun i=>.iface (τ i) (u i)) :
    Calls Tryz.prog 52 #[.int .i64 nd,.agg #[.int .i64 t.K,.int .i64 t.N,.string t.S,.string t.Z,.int .i64 t.T.K,.int .i64 t.T.N,.slice a1 l1 c1,.slice a2 l2 c2,.slice a3 l3 c3],.slice ap 0 cp] w fun e w'=>e=.returned (.iface 105 (.agg #[.int .i64 t.N]))∧Below w.heap.size w w':=by
  obtain ⟨X,hX⟩:∃ X,X=w.alloc (.cells #[.int .i64 t.K,.int .i64 t.N,.string t.S,.string t.Z,.int .i64 t.T.K,.int .i64 t.T.N,.slice a1 l1 c1,.slice a2 l2 c2,.slice a3 l3 c3] 34):=⟨_,rfl⟩
  have hXb:Below w.heap.size w X:=by rw [hX];exact (Below.refl _ _).alloc (Nat.le_refl _) _
  have hX0:X.heap[w.heap.size]?=some (.cells #[.int .i64 t.K,.int .i64 t.N,.string t.S,.string t.Z,.int .i64 t.T.K,.int .i64 t.T.N,.slice a1 l1 c1,.slice a2 l2 c2,.slice a3 l3 c3] 34 (0,0)):=by rw [hX];exact heap_new rfl
  have HX:Hid (X=_):=hX
  obtain ⟨e0,e1,e2,e3,e4,e5,e6,e7,e8⟩:=Nine.box hX0
  rw [hK] at e0 HX ⊢
  clear hX hX0 hK
  go_enter Tryz.func52,Tryz.ntmps52
  go_upto_region 1 with fail
  rw [← HX.out]
  go_wp2_with fail
  go_ret
  exact ⟨rfl,hXb⟩
set_option maxRecDepth 100000 in
set_option maxHeartbeats 1000000 in
theorem made_2 (nd:Int) (t:Tm) (a1:Option Addr) (l1 c1:Nat) (a2:Option Addr) (l2 c2:Nat) (a3:Option Addr) (l3 c3:Nat) (ap:Option Addr) (cp:Nat) (τ:Nat→TypeId) (u:Nat→Value) (w:World) (hK:t.K=2) (hq:Prt w ap 0 fun i=>.iface (τ i) (u i)) :
    Calls Tryz.prog 52 #[.int .i64 nd,.agg #[.int .i64 t.K,.int .i64 t.N,.string t.S,.string t.Z,.int .i64 t.T.K,.int .i64 t.T.N,.slice a1 l1 c1,.slice a2 l2 c2,.slice a3 l3 c3],.slice ap 0 cp] w fun e w'=>e=.returned (.iface 106 (.agg #[.int .i64 t.N]))∧Below w.heap.size w w':=by
  obtain ⟨X,hX⟩:∃ X,X=w.alloc (.cells #[.int .i64 t.K,.int .i64 t.N,.string t.S,.string t.Z,.int .i64 t.T.K,.int .i64 t.T.N,.slice a1 l1 c1,.slice a2 l2 c2,.slice a3 l3 c3] 34):=⟨_,rfl⟩
  have hXb:Below w.heap.size w X:=by rw [hX];exact (Below.refl _ _).alloc (Nat.le_refl _) _
  have hX0:X.heap[w.heap.size]?=some (.cells #[.int .i64 t.K,.int .i64 t.N,.string t.S,.string t.Z,.int .i64 t.T.K,.int .i64 t.T.N,.slice a1 l1 c1,.slice a2 l2 c2,.slice a3 l3 c3] 34 (0,0)):=by rw [hX];exact heap_new rfl
  have HX:Hid (X=_):=hX
  obtain ⟨e0,e1,e2,e3,e4,e5,e6,e7,e8⟩:=Nine.box hX0
  rw [hK] at e0 HX ⊢
  clear hX hX0 hK
  go_enter Tryz.func52,Tryz.ntmps52
  go_upto_region 1 with fail
  rw [← HX.out]
  go_wp2_with fail
  go_ret
  exact ⟨rfl,hXb⟩
set_option maxRecDepth 100000 in
set_option maxHeartbeats 1000000 in
theorem made_3 (nd:Int) (t:Tm) (a1:Option Addr) (l1 c1:Nat) (a2:Option Addr) (l2 c2:Nat) (a3:Option Addr) (l3 c3:Nat) (ap:Option Addr) (cp:Nat) (τ:Nat→TypeId) (u:Nat→Value) (w:World) (hK:t.K=3) (hq:Prt w ap 0 fun i=>.iface (τ i) (u i)) :
    Calls Tryz.prog 52 #[.int .i64 nd,.agg #[.int .i64 t.K,.int .i64 t.N,.string t.S,.string t.Z,.int .i64 t.T.K,.int .i64 t.T.N,.slice a1 l1 c1,.slice a2 l2 c2,.slice a3 l3 c3],.slice ap 0 cp] w fun e w'=>e=.returned (.iface 108 (.agg #[.string t.S,.slice a2 l2 c2]))∧Below w.heap.size w w':=by
  obtain ⟨X,hX⟩:∃ X,X=w.alloc (.cells #[.int .i64 t.K,.int .i64 t.N,.string t.S,.string t.Z,.int .i64 t.T.K,.int .i64 t.T.N,.slice a1 l1 c1,.slice a2 l2 c2,.slice a3 l3 c3] 34):=⟨_,rfl⟩
  have hXb:Below w.heap.size w X:=by rw [hX];exact (Below.refl _ _).alloc (Nat.le_refl _) _
  have hX0:X.heap[w.heap.size]?=some (.cells #[.int .i64 t.K,.int .i64 t.N,.string t.S,.string t.Z,.int .i64 t.T.K,.int .i64 t.T.N,.slice a1 l1 c1,.slice a2 l2 c2,.slice a3 l3 c3] 34 (0,0)):=by rw [hX];exact heap_new rfl
  have HX:Hid (X=_):=hX
  obtain ⟨e0,e1,e2,e3,e4,e5,e6,e7,e8⟩:=Nine.box hX0
  rw [hK] at e0 HX ⊢
  clear hX hX0 hK
  go_enter Tryz.func52,Tryz.ntmps52
  go_upto_region 1 with fail
  rw [← HX.out]
  go_wp2_with fail
  go_ret
  exact ⟨rfl,hXb⟩
set_option maxRecDepth 100000 in
set_option maxHeartbeats 1000000 in
theorem made_4 (nd:Int) (t:Tm) (a1:Option Addr) (l1 c1:Nat) (a2:Option Addr) (l2 c2:Nat) (a3:Option Addr) (l3 c3:Nat) (ap:Option Addr) (cp:Nat) (τ:Nat→TypeId) (u:Nat→Value) (w:World) (hK:t.K=4) (hq:Prt w ap 1 fun i=>.iface (τ i) (u i)) :
    Calls Tryz.prog 52 #[.int .i64 nd,.agg #[.int .i64 t.K,.int .i64 t.N,.string t.S,.string t.Z,.int .i64 t.T.K,.int .i64 t.T.N,.slice a1 l1 c1,.slice a2 l2 c2,.slice a3 l3 c3],.slice ap 1 cp] w fun e w'=>e=.returned (.iface 110 (.agg #[.int .i64 nd,.string t.S,.int .i64 t.T.K,.int .i64 t.T.N,.slice a1 l1 c1,.iface (τ 0) (u 0)]))∧Below w.heap.size w w':=by
  obtain ⟨X,hX⟩:∃ X,X=w.alloc (.cells #[.int .i64 t.K,.int .i64 t.N,.string t.S,.string t.Z,.int .i64 t.T.K,.int .i64 t.T.N,.slice a1 l1 c1,.slice a2 l2 c2,.slice a3 l3 c3] 34):=⟨_,rfl⟩
  have hXb:Below w.heap.size w X:=by rw [hX];exact (Below.refl _ _).alloc (Nat.le_refl _) _
  have hX0:X.heap[w.heap.size]?=some (.cells #[.int .i64 t.K,.int .i64 t.N,.string t.S,.string t.Z,.int .i64 t.T.K,.int .i64 t.T.N,.slice a1 l1 c1,.slice a2 l2 c2,.slice a3 l3 c3] 34 (0,0)):=by rw [hX];exact heap_new rfl
  have HX:Hid (X=_):=hX
  obtain ⟨e0,e1,e2,e3,e4,e5,e6,e7,e8⟩:=Nine.box hX0
  rw [hK] at e0 HX ⊢
  obtain ⟨b,o,rfl,hb,g0⟩:=hq 0 (by omega)
  have g0:=(bcell hXb hb _).trans g0
  rw [Nat.add_zero] at g0
  clear hq
  obtain ⟨y0,hy0⟩:∃ x,x=τ 0:=⟨_,rfl⟩
  obtain ⟨x0,hx0⟩:∃ x,x=u 0:=⟨_,rfl⟩
  simp only [← hx0,← hy0] at g0 ⊢
  clear hx0 hy0
  clear hX hX0 hK
  go_enter Tryz.func52,Tryz.ntmps52
  go_upto_region 1 with fail
  rw [← HX.out]
  go_wp2_with fail
  go_quiet (fail)
  go_wp2_with fail
  go_ret
  exact ⟨rfl,⟨hXb.os,hXb.tape,hXb.output,hXb.size,hXb.block⟩⟩
set_option maxRecDepth 100000 in
set_option maxHeartbeats 1000000 in
theorem made_5 (nd:Int) (t:Tm) (a1:Option Addr) (l1 c1:Nat) (a2:Option Addr) (l2 c2:Nat) (a3:Option Addr) (l3 c3:Nat) (ap:Option Addr) (cp:Nat) (τ:Nat→TypeId) (u:Nat→Value) (w:World) (hK:t.K=5) (hq:Prt w ap 2 fun i=>.iface (τ i) (u i)) :
    Calls Tryz.prog 52 #[.int .i64 nd,.agg #[.int .i64 t.K,.int .i64 t.N,.string t.S,.string t.Z,.int .i64 t.T.K,.int .i64 t.T.N,.slice a1 l1 c1,.slice a2 l2 c2,.slice a3 l3 c3],.slice ap 2 cp] w fun e w'=>e=.returned (.iface 112 (.agg #[.int .i64 nd,.iface (τ 0) (u 0),.iface (τ 1) (u 1)]))∧Below w.heap.size w w':=by
  obtain ⟨X,hX⟩:∃ X,X=w.alloc (.cells #[.int .i64 t.K,.int .i64 t.N,.string t.S,.string t.Z,.int .i64 t.T.K,.int .i64 t.T.N,.slice a1 l1 c1,.slice a2 l2 c2,.slice a3 l3 c3] 34):=⟨_,rfl⟩
  have hXb:Below w.heap.size w X:=by rw [hX];exact (Below.refl _ _).alloc (Nat.le_refl _) _
  have hX0:X.heap[w.heap.size]?=some (.cells #[.int .i64 t.K,.int .i64 t.N,.string t.S,.string t.Z,.int .i64 t.T.K,.int .i64 t.T.N,.slice a1 l1 c1,.slice a2 l2 c2,.slice a3 l3 c3] 34 (0,0)):=by rw [hX];exact heap_new rfl
  have HX:Hid (X=_):=hX
  obtain ⟨e0,e1,e2,e3,e4,e5,e6,e7,e8⟩:=Nine.box hX0
  rw [hK] at e0 HX ⊢
  obtain ⟨b,o,rfl,hb,g0⟩:=hq 0 (by omega)
  have g0:=(bcell hXb hb _).trans g0
  rw [Nat.add_zero] at g0
  obtain ⟨b1,o1,hbo1,hb1,g1⟩:=hq 1 (by omega)
  cases hbo1
  have g1:=(bcell hXb hb1 _).trans g1
  clear hq
  obtain ⟨y0,hy0⟩:∃ x,x=τ 0:=⟨_,rfl⟩
  obtain ⟨x0,hx0⟩:∃ x,x=u 0:=⟨_,rfl⟩
  simp only [← hx0,← hy0] at g0 ⊢
  obtain ⟨y1,hy1⟩:∃ x,x=τ 1:=⟨_,rfl⟩
  obtain ⟨x1,hx1⟩:∃ x,x=u 1:=⟨_,rfl⟩
  simp only [← hx1,← hy1] at g1 ⊢
  clear hx0 hy0 hx1 hy1
  clear hX hX0 hK
  go_enter Tryz.func52,Tryz.ntmps52
  go_upto_region 1 with fail
  rw [← HX.out]
  go_wp2_with fail
  go_quiet (fail)
  go_wp2_with fail
  go_ret
  exact ⟨rfl,⟨hXb.os,hXb.tape,hXb.output,hXb.size,hXb.block⟩⟩
set_option maxRecDepth 100000 in
set_option maxHeartbeats 1000000 in
theorem made_6 (nd:Int) (t:Tm) (a1:Option Addr) (l1 c1:Nat) (a2:Option Addr) (l2 c2:Nat) (a3:Option Addr) (l3 c3:Nat) (ap:Option Addr) (cp:Nat) (τ:Nat→TypeId) (u:Nat→Value) (w:World) (hK:t.K=6) (hq:Prt w ap 2 fun i=>.iface (τ i) (u i)) :
    Calls Tryz.prog 52 #[.int .i64 nd,.agg #[.int .i64 t.K,.int .i64 t.N,.string t.S,.string t.Z,.int .i64 t.T.K,.int .i64 t.T.N,.slice a1 l1 c1,.slice a2 l2 c2,.slice a3 l3 c3],.slice ap 2 cp] w fun e w'=>e=.returned (.iface 114 (.agg #[.string t.S,.int .i64 t.N,.iface (τ 0) (u 0),.iface (τ 1) (u 1)]))∧Below w.heap.size w w':=by
  obtain ⟨X,hX⟩:∃ X,X=w.alloc (.cells #[.int .i64 t.K,.int .i64 t.N,.string t.S,.string t.Z,.int .i64 t.T.K,.int .i64 t.T.N,.slice a1 l1 c1,.slice a2 l2 c2,.slice a3 l3 c3] 34):=⟨_,rfl⟩
  have hXb:Below w.heap.size w X:=by rw [hX];exact (Below.refl _ _).alloc (Nat.le_refl _) _
  have hX0:X.heap[w.heap.size]?=some (.cells #[.int .i64 t.K,.int .i64 t.N,.string t.S,.string t.Z,.int .i64 t.T.K,.int .i64 t.T.N,.slice a1 l1 c1,.slice a2 l2 c2,.slice a3 l3 c3] 34 (0,0)):=by rw [hX];exact heap_new rfl
  have HX:Hid (X=_):=hX
  obtain ⟨e0,e1,e2,e3,e4,e5,e6,e7,e8⟩:=Nine.box hX0
  rw [hK] at e0 HX ⊢
  obtain ⟨b,o,rfl,hb,g0⟩:=hq 0 (by omega)
  have g0:=(bcell hXb hb _).trans g0
  rw [Nat.add_zero] at g0
  obtain ⟨b1,o1,hbo1,hb1,g1⟩:=hq 1 (by omega)
  cases hbo1
  have g1:=(bcell hXb hb1 _).trans g1
  clear hq
  obtain ⟨y0,hy0⟩:∃ x,x=τ 0:=⟨_,rfl⟩
  obtain ⟨x0,hx0⟩:∃ x,x=u 0:=⟨_,rfl⟩
  simp only [← hx0,← hy0] at g0 ⊢
  obtain ⟨y1,hy1⟩:∃ x,x=τ 1:=⟨_,rfl⟩
  obtain ⟨x1,hx1⟩:∃ x,x=u 1:=⟨_,rfl⟩
  simp only [← hx1,← hy1] at g1 ⊢
  clear hx0 hy0 hx1 hy1
  clear hX hX0 hK
  go_enter Tryz.func52,Tryz.ntmps52
  go_upto_region 1 with fail
  rw [← HX.out]
  go_wp2_with fail
  go_quiet (fail)
  go_wp2_with fail
  go_ret
  exact ⟨rfl,⟨hXb.os,hXb.tape,hXb.output,hXb.size,hXb.block⟩⟩
set_option maxRecDepth 100000 in
set_option maxHeartbeats 1000000 in
theorem made_7 (nd:Int) (t:Tm) (a1:Option Addr) (l1 c1:Nat) (a2:Option Addr) (l2 c2:Nat) (a3:Option Addr) (l3 c3:Nat) (ap:Option Addr) (cp:Nat) (τ:Nat→TypeId) (u:Nat→Value) (w:World) (hK:t.K=7) (hq:Prt w ap 2 fun i=>.iface (τ i) (u i)) :
    Calls Tryz.prog 52 #[.int .i64 nd,.agg #[.int .i64 t.K,.int .i64 t.N,.string t.S,.string t.Z,.int .i64 t.T.K,.int .i64 t.T.N,.slice a1 l1 c1,.slice a2 l2 c2,.slice a3 l3 c3],.slice ap 2 cp] w fun e w'=>e=.returned (.iface 116 (.agg #[.string t.S,.int .i64 t.N,.int .i64 t.T.K,.int .i64 t.T.N,.slice a1 l1 c1,.iface (τ 0) (u 0),.iface (τ 1) (u 1)]))∧Below w.heap.size w w':=by
  obtain ⟨X,hX⟩:∃ X,X=w.alloc (.cells #[.int .i64 t.K,.int .i64 t.N,.string t.S,.string t.Z,.int .i64 t.T.K,.int .i64 t.T.N,.slice a1 l1 c1,.slice a2 l2 c2,.slice a3 l3 c3] 34):=⟨_,rfl⟩
  have hXb:Below w.heap.size w X:=by rw [hX];exact (Below.refl _ _).alloc (Nat.le_refl _) _
  have hX0:X.heap[w.heap.size]?=some (.cells #[.int .i64 t.K,.int .i64 t.N,.string t.S,.string t.Z,.int .i64 t.T.K,.int .i64 t.T.N,.slice a1 l1 c1,.slice a2 l2 c2,.slice a3 l3 c3] 34 (0,0)):=by rw [hX];exact heap_new rfl
  have HX:Hid (X=_):=hX
  obtain ⟨e0,e1,e2,e3,e4,e5,e6,e7,e8⟩:=Nine.box hX0
  rw [hK] at e0 HX ⊢
  obtain ⟨b,o,rfl,hb,g0⟩:=hq 0 (by omega)
  have g0:=(bcell hXb hb _).trans g0
  rw [Nat.add_zero] at g0
  obtain ⟨b1,o1,hbo1,hb1,g1⟩:=hq 1 (by omega)
  cases hbo1
  have g1:=(bcell hXb hb1 _).trans g1
  clear hq
  obtain ⟨y0,hy0⟩:∃ x,x=τ 0:=⟨_,rfl⟩
  obtain ⟨x0,hx0⟩:∃ x,x=u 0:=⟨_,rfl⟩
  simp only [← hx0,← hy0] at g0 ⊢
  obtain ⟨y1,hy1⟩:∃ x,x=τ 1:=⟨_,rfl⟩
  obtain ⟨x1,hx1⟩:∃ x,x=u 1:=⟨_,rfl⟩
  simp only [← hx1,← hy1] at g1 ⊢
  clear hx0 hy0 hx1 hy1
  clear hX hX0 hK
  go_enter Tryz.func52,Tryz.ntmps52
  go_upto_region 1 with fail
  rw [← HX.out]
  go_wp2_with fail
  go_quiet (fail)
  go_wp2_with fail
  go_ret
  exact ⟨rfl,⟨hXb.os,hXb.tape,hXb.output,hXb.size,hXb.block⟩⟩
set_option maxRecDepth 100000 in
set_option maxHeartbeats 1000000 in
theorem made_8 (nd:Int) (t:Tm) (a1:Option Addr) (l1 c1:Nat) (a2:Option Addr) (l2 c2:Nat) (a3:Option Addr) (l3 c3:Nat) (ap:Option Addr) (cp:Nat) (τ:Nat→TypeId) (u:Nat→Value) (w:World) (hK:t.K=8) (hq:Prt w ap 3 fun i=>.iface (τ i) (u i)) :
    Calls Tryz.prog 52 #[.int .i64 nd,.agg #[.int .i64 t.K,.int .i64 t.N,.string t.S,.string t.Z,.int .i64 t.T.K,.int .i64 t.T.N,.slice a1 l1 c1,.slice a2 l2 c2,.slice a3 l3 c3],.slice ap 3 cp] w fun e w'=>e=.returned (.iface 118 (.agg #[.iface (τ 0) (u 0),.iface (τ 1) (u 1),.iface (τ 2) (u 2)]))∧Below w.heap.size w w':=by
  obtain ⟨X,hX⟩:∃ X,X=w.alloc (.cells #[.int .i64 t.K,.int .i64 t.N,.string t.S,.string t.Z,.int .i64 t.T.K,.int .i64 t.T.N,.slice a1 l1 c1,.slice a2 l2 c2,.slice a3 l3 c3] 34):=⟨_,rfl⟩
  have hXb:Below w.heap.size w X:=by rw [hX];exact (Below.refl _ _).alloc (Nat.le_refl _) _
  have hX0:X.heap[w.heap.size]?=some (.cells #[.int .i64 t.K,.int .i64 t.N,.string t.S,.string t.Z,.int .i64 t.T.K,.int .i64 t.T.N,.slice a1 l1 c1,.slice a2 l2 c2,.slice a3 l3 c3] 34 (0,0)):=by rw [hX];exact heap_new rfl
  have HX:Hid (X=_):=hX
  obtain ⟨e0,e1,e2,e3,e4,e5,e6,e7,e8⟩:=Nine.box hX0
  rw [hK] at e0 HX ⊢
  obtain ⟨b,o,rfl,hb,g0⟩:=hq 0 (by omega)
  have g0:=(bcell hXb hb _).trans g0
  rw [Nat.add_zero] at g0
  obtain ⟨b1,o1,hbo1,hb1,g1⟩:=hq 1 (by omega)
  cases hbo1
  have g1:=(bcell hXb hb1 _).trans g1
  obtain ⟨b2,o2,hbo2,hb2,g2⟩:=hq 2 (by omega)
  cases hbo2
  have g2:=(bcell hXb hb2 _).trans g2
  clear hq
  obtain ⟨y0,hy0⟩:∃ x,x=τ 0:=⟨_,rfl⟩
  obtain ⟨x0,hx0⟩:∃ x,x=u 0:=⟨_,rfl⟩
  simp only [← hx0,← hy0] at g0 ⊢
  obtain ⟨y1,hy1⟩:∃ x,x=τ 1:=⟨_,rfl⟩
  obtain ⟨x1,hx1⟩:∃ x,x=u 1:=⟨_,rfl⟩
  simp only [← hx1,← hy1] at g1 ⊢
  obtain ⟨y2,hy2⟩:∃ x,x=τ 2:=⟨_,rfl⟩
  obtain ⟨x2,hx2⟩:∃ x,x=u 2:=⟨_,rfl⟩
  simp only [← hx2,← hy2] at g2 ⊢
  clear hx0 hy0 hx1 hy1 hx2 hy2
  clear hX hX0 hK
  go_enter Tryz.func52,Tryz.ntmps52
  go_upto_region 1 with fail
  rw [← HX.out]
  go_wp2_with fail
  go_quiet (fail)
  go_wp2_with fail
  go_ret
  exact ⟨rfl,⟨hXb.os,hXb.tape,hXb.output,hXb.size,hXb.block⟩⟩
set_option maxRecDepth 100000 in
set_option maxHeartbeats 1000000 in
theorem made_9 (nd:Int) (t:Tm) (a1:Option Addr) (l1 c1:Nat) (a2:Option Addr) (l2 c2:Nat) (a3:Option Addr) (l3 c3:Nat) (ap:Option Addr) (cp:Nat) (τ:Nat→TypeId) (u:Nat→Value) (w:World) (hK:t.K=9) (hq:Prt w ap 2 fun i=>.iface (τ i) (u i)) :
    Calls Tryz.prog 52 #[.int .i64 nd,.agg #[.int .i64 t.K,.int .i64 t.N,.string t.S,.string t.Z,.int .i64 t.T.K,.int .i64 t.T.N,.slice a1 l1 c1,.slice a2 l2 c2,.slice a3 l3 c3],.slice ap 2 cp] w fun e w'=>e=.returned (.iface 120 (.agg #[.iface (τ 0) (u 0),.iface (τ 1) (u 1)]))∧Below w.heap.size w w':=by
  obtain ⟨X,hX⟩:∃ X,X=w.alloc (.cells #[.int .i64 t.K,.int .i64 t.N,.string t.S,.string t.Z,.int .i64 t.T.K,.int .i64 t.T.N,.slice a1 l1 c1,.slice a2 l2 c2,.slice a3 l3 c3] 34):=⟨_,rfl⟩
  have hXb:Below w.heap.size w X:=by rw [hX];exact (Below.refl _ _).alloc (Nat.le_refl _) _
  have hX0:X.heap[w.heap.size]?=some (.cells #[.int .i64 t.K,.int .i64 t.N,.string t.S,.string t.Z,.int .i64 t.T.K,.int .i64 t.T.N,.slice a1 l1 c1,.slice a2 l2 c2,.slice a3 l3 c3] 34 (0,0)):=by rw [hX];exact heap_new rfl
  have HX:Hid (X=_):=hX
  obtain ⟨e0,e1,e2,e3,e4,e5,e6,e7,e8⟩:=Nine.box hX0
  rw [hK] at e0 HX ⊢
  obtain ⟨b,o,rfl,hb,g0⟩:=hq 0 (by omega)
  have g0:=(bcell hXb hb _).trans g0
  rw [Nat.add_zero] at g0
  obtain ⟨b1,o1,hbo1,hb1,g1⟩:=hq 1 (by omega)
  cases hbo1
  have g1:=(bcell hXb hb1 _).trans g1
  clear hq
  obtain ⟨y0,hy0⟩:∃ x,x=τ 0:=⟨_,rfl⟩
  obtain ⟨x0,hx0⟩:∃ x,x=u 0:=⟨_,rfl⟩
  simp only [← hx0,← hy0] at g0 ⊢
  obtain ⟨y1,hy1⟩:∃ x,x=τ 1:=⟨_,rfl⟩
  obtain ⟨x1,hx1⟩:∃ x,x=u 1:=⟨_,rfl⟩
  simp only [← hx1,← hy1] at g1 ⊢
  clear hx0 hy0 hx1 hy1
  clear hX hX0 hK
  go_enter Tryz.func52,Tryz.ntmps52
  go_upto_region 1 with fail
  rw [← HX.out]
  go_wp2_with fail
  go_quiet (fail)
  go_wp2_with fail
  go_ret
  exact ⟨rfl,⟨hXb.os,hXb.tape,hXb.output,hXb.size,hXb.block⟩⟩
set_option maxRecDepth 100000 in
set_option maxHeartbeats 1000000 in
theorem made_10 (nd:Int) (t:Tm) (a1:Option Addr) (l1 c1:Nat) (a2:Option Addr) (l2 c2:Nat) (a3:Option Addr) (l3 c3:Nat) (ap:Option Addr) (cp:Nat) (τ:Nat→TypeId) (u:Nat→Value) (w:World) (hK:t.K=10) (hq:Prt w ap 1 fun i=>.iface (τ i) (u i)) :
    Calls Tryz.prog 52 #[.int .i64 nd,.agg #[.int .i64 t.K,.int .i64 t.N,.string t.S,.string t.Z,.int .i64 t.T.K,.int .i64 t.T.N,.slice a1 l1 c1,.slice a2 l2 c2,.slice a3 l3 c3],.slice ap 1 cp] w fun e w'=>e=.returned (.iface 122 (.agg #[.iface (τ 0) (u 0)]))∧Below w.heap.size w w':=by
  obtain ⟨X,hX⟩:∃ X,X=w.alloc (.cells #[.int .i64 t.K,.int .i64 t.N,.string t.S,.string t.Z,.int .i64 t.T.K,.int .i64 t.T.N,.slice a1 l1 c1,.slice a2 l2 c2,.slice a3 l3 c3] 34):=⟨_,rfl⟩
  have hXb:Below w.heap.size w X:=by rw [hX];exact (Below.refl _ _).alloc (Nat.le_refl _) _
  have hX0:X.heap[w.heap.size]?=some (.cells #[.int .i64 t.K,.int .i64 t.N,.string t.S,.string t.Z,.int .i64 t.T.K,.int .i64 t.T.N,.slice a1 l1 c1,.slice a2 l2 c2,.slice a3 l3 c3] 34 (0,0)):=by rw [hX];exact heap_new rfl
  have HX:Hid (X=_):=hX
  obtain ⟨e0,e1,e2,e3,e4,e5,e6,e7,e8⟩:=Nine.box hX0
  rw [hK] at e0 HX ⊢
  obtain ⟨b,o,rfl,hb,g0⟩:=hq 0 (by omega)
  have g0:=(bcell hXb hb _).trans g0
  rw [Nat.add_zero] at g0
  clear hq
  obtain ⟨y0,hy0⟩:∃ x,x=τ 0:=⟨_,rfl⟩
  obtain ⟨x0,hx0⟩:∃ x,x=u 0:=⟨_,rfl⟩
  simp only [← hx0,← hy0] at g0 ⊢
  clear hx0 hy0
  clear hX hX0 hK
  go_enter Tryz.func52,Tryz.ntmps52
  go_upto_region 1 with fail
  rw [← HX.out]
  go_wp2_with fail
  go_ret
  exact ⟨rfl,hXb⟩
set_option maxRecDepth 100000 in
set_option maxHeartbeats 1000000 in
theorem made_11 (nd:Int) (t:Tm) (a1:Option Addr) (l1 c1:Nat) (a2:Option Addr) (l2 c2:Nat) (a3:Option Addr) (l3 c3:Nat) (ap:Option Addr) (cp:Nat) (τ:Nat→TypeId) (u:Nat→Value) (w:World) (hK:t.K=11) (hq:Prt w ap 1 fun i=>.iface (τ i) (u i)) :
    Calls Tryz.prog 52 #[.int .i64 nd,.agg #[.int .i64 t.K,.int .i64 t.N,.string t.S,.string t.Z,.int .i64 t.T.K,.int .i64 t.T.N,.slice a1 l1 c1,.slice a2 l2 c2,.slice a3 l3 c3],.slice ap 1 cp] w fun e w'=>e=.returned (.iface 123 (.agg #[.iface (τ 0) (u 0)]))∧Below w.heap.size w w':=by
  obtain ⟨X,hX⟩:∃ X,X=w.alloc (.cells #[.int .i64 t.K,.int .i64 t.N,.string t.S,.string t.Z,.int .i64 t.T.K,.int .i64 t.T.N,.slice a1 l1 c1,.slice a2 l2 c2,.slice a3 l3 c3] 34):=⟨_,rfl⟩
  have hXb:Below w.heap.size w X:=by rw [hX];exact (Below.refl _ _).alloc (Nat.le_refl _) _
  have hX0:X.heap[w.heap.size]?=some (.cells #[.int .i64 t.K,.int .i64 t.N,.string t.S,.string t.Z,.int .i64 t.T.K,.int .i64 t.T.N,.slice a1 l1 c1,.slice a2 l2 c2,.slice a3 l3 c3] 34 (0,0)):=by rw [hX];exact heap_new rfl
  have HX:Hid (X=_):=hX
  obtain ⟨e0,e1,e2,e3,e4,e5,e6,e7,e8⟩:=Nine.box hX0
  rw [hK] at e0 HX ⊢
  obtain ⟨b,o,rfl,hb,g0⟩:=hq 0 (by omega)
  have g0:=(bcell hXb hb _).trans g0
  rw [Nat.add_zero] at g0
  clear hq
  obtain ⟨y0,hy0⟩:∃ x,x=τ 0:=⟨_,rfl⟩
  obtain ⟨x0,hx0⟩:∃ x,x=u 0:=⟨_,rfl⟩
  simp only [← hx0,← hy0] at g0 ⊢
  clear hx0 hy0
  clear hX hX0 hK
  go_enter Tryz.func52,Tryz.ntmps52
  go_upto_region 1 with fail
  rw [← HX.out]
  go_wp2_with fail
  go_ret
  exact ⟨rfl,hXb⟩
set_option maxRecDepth 100000 in
set_option maxHeartbeats 1000000 in
theorem made_12 (nd:Int) (t:Tm) (a1:Option Addr) (l1 c1:Nat) (a2:Option Addr) (l2 c2:Nat) (a3:Option Addr) (l3 c3:Nat) (ap:Option Addr) (cp:Nat) (τ:Nat→TypeId) (u:Nat→Value) (w:World) (hK:t.K=12) (hq:Prt w ap 0 fun i=>.iface (τ i) (u i)) :
    Calls Tryz.prog 52 #[.int .i64 nd,.agg #[.int .i64 t.K,.int .i64 t.N,.string t.S,.string t.Z,.int .i64 t.T.K,.int .i64 t.T.N,.slice a1 l1 c1,.slice a2 l2 c2,.slice a3 l3 c3],.slice ap 0 cp] w fun e w'=>e=.returned (.iface 125 (.agg #[.int .i64 t.T.K,.int .i64 t.T.N,.slice a1 l1 c1]))∧Below w.heap.size w w':=by
  obtain ⟨X,hX⟩:∃ X,X=w.alloc (.cells #[.int .i64 t.K,.int .i64 t.N,.string t.S,.string t.Z,.int .i64 t.T.K,.int .i64 t.T.N,.slice a1 l1 c1,.slice a2 l2 c2,.slice a3 l3 c3] 34):=⟨_,rfl⟩
  have hXb:Below w.heap.size w X:=by rw [hX];exact (Below.refl _ _).alloc (Nat.le_refl _) _
  have hX0:X.heap[w.heap.size]?=some (.cells #[.int .i64 t.K,.int .i64 t.N,.string t.S,.string t.Z,.int .i64 t.T.K,.int .i64 t.T.N,.slice a1 l1 c1,.slice a2 l2 c2,.slice a3 l3 c3] 34 (0,0)):=by rw [hX];exact heap_new rfl
  have HX:Hid (X=_):=hX
  obtain ⟨e0,e1,e2,e3,e4,e5,e6,e7,e8⟩:=Nine.box hX0
  rw [hK] at e0 HX ⊢
  clear hX hX0 hK
  go_enter Tryz.func52,Tryz.ntmps52
  go_upto_region 1 with fail
  rw [← HX.out]
  go_wp2_with fail
  go_ret
  exact ⟨rfl,hXb⟩
set_option maxRecDepth 100000 in
set_option maxHeartbeats 1000000 in
theorem made_13 (nd:Int) (t:Tm) (a1:Option Addr) (l1 c1:Nat) (a2:Option Addr) (l2 c2:Nat) (a3:Option Addr) (l3 c3:Nat) (ap:Option Addr) (cp:Nat) (τ:Nat→TypeId) (u:Nat→Value) (w:World) (hK:t.K=13) (hq:Prt w ap 2 fun i=>.iface (τ i) (u i)) :
    Calls Tryz.prog 52 #[.int .i64 nd,.agg #[.int .i64 t.K,.int .i64 t.N,.string t.S,.string t.Z,.int .i64 t.T.K,.int .i64 t.T.N,.slice a1 l1 c1,.slice a2 l2 c2,.slice a3 l3 c3],.slice ap 2 cp] w fun e w'=>e=.returned (.iface 127 (.agg #[.iface (τ 0) (u 0),.iface (τ 1) (u 1)]))∧Below w.heap.size w w':=by
  obtain ⟨X,hX⟩:∃ X,X=w.alloc (.cells #[.int .i64 t.K,.int .i64 t.N,.string t.S,.string t.Z,.int .i64 t.T.K,.int .i64 t.T.N,.slice a1 l1 c1,.slice a2 l2 c2,.slice a3 l3 c3] 34):=⟨_,rfl⟩
  have hXb:Below w.heap.size w X:=by rw [hX];exact (Below.refl _ _).alloc (Nat.le_refl _) _
  have hX0:X.heap[w.heap.size]?=some (.cells #[.int .i64 t.K,.int .i64 t.N,.string t.S,.string t.Z,.int .i64 t.T.K,.int .i64 t.T.N,.slice a1 l1 c1,.slice a2 l2 c2,.slice a3 l3 c3] 34 (0,0)):=by rw [hX];exact heap_new rfl
  have HX:Hid (X=_):=hX
  obtain ⟨e0,e1,e2,e3,e4,e5,e6,e7,e8⟩:=Nine.box hX0
  rw [hK] at e0 HX ⊢
  obtain ⟨b,o,rfl,hb,g0⟩:=hq 0 (by omega)
  have g0:=(bcell hXb hb _).trans g0
  rw [Nat.add_zero] at g0
  obtain ⟨b1,o1,hbo1,hb1,g1⟩:=hq 1 (by omega)
  cases hbo1
  have g1:=(bcell hXb hb1 _).trans g1
  clear hq
  obtain ⟨y0,hy0⟩:∃ x,x=τ 0:=⟨_,rfl⟩
  obtain ⟨x0,hx0⟩:∃ x,x=u 0:=⟨_,rfl⟩
  simp only [← hx0,← hy0] at g0 ⊢
  obtain ⟨y1,hy1⟩:∃ x,x=τ 1:=⟨_,rfl⟩
  obtain ⟨x1,hx1⟩:∃ x,x=u 1:=⟨_,rfl⟩
  simp only [← hx1,← hy1] at g1 ⊢
  clear hx0 hy0 hx1 hy1
  clear hX hX0 hK
  go_enter Tryz.func52,Tryz.ntmps52
  go_upto_region 1 with fail
  rw [← HX.out]
  go_wp2_with fail
  go_quiet (fail)
  go_wp2_with fail
  go_ret
  exact ⟨rfl,⟨hXb.os,hXb.tape,hXb.output,hXb.size,hXb.block⟩⟩
set_option maxRecDepth 100000 in
set_option maxHeartbeats 1000000 in
theorem made_14 (nd:Int) (t:Tm) (a1:Option Addr) (l1 c1:Nat) (a2:Option Addr) (l2 c2:Nat) (a3:Option Addr) (l3 c3:Nat) (ap:Option Addr) (cp:Nat) (τ:Nat→TypeId) (u:Nat→Value) (w:World) (hK:t.K=14) (hq:Prt w ap 3 fun i=>.iface (τ i) (u i)) :
    Calls Tryz.prog 52 #[.int .i64 nd,.agg #[.int .i64 t.K,.int .i64 t.N,.string t.S,.string t.Z,.int .i64 t.T.K,.int .i64 t.T.N,.slice a1 l1 c1,.slice a2 l2 c2,.slice a3 l3 c3],.slice ap 3 cp] w fun e w'=>e=.returned (.iface 129 (.agg #[.string t.S,.string t.Z,.iface (τ 0) (u 0),.iface (τ 1) (u 1),.iface (τ 2) (u 2)]))∧Below w.heap.size w w':=by
  obtain ⟨X,hX⟩:∃ X,X=w.alloc (.cells #[.int .i64 t.K,.int .i64 t.N,.string t.S,.string t.Z,.int .i64 t.T.K,.int .i64 t.T.N,.slice a1 l1 c1,.slice a2 l2 c2,.slice a3 l3 c3] 34):=⟨_,rfl⟩
  have hXb:Below w.heap.size w X:=by rw [hX];exact (Below.refl _ _).alloc (Nat.le_refl _) _
  have hX0:X.heap[w.heap.size]?=some (.cells #[.int .i64 t.K,.int .i64 t.N,.string t.S,.string t.Z,.int .i64 t.T.K,.int .i64 t.T.N,.slice a1 l1 c1,.slice a2 l2 c2,.slice a3 l3 c3] 34 (0,0)):=by rw [hX];exact heap_new rfl
  have HX:Hid (X=_):=hX
  obtain ⟨e0,e1,e2,e3,e4,e5,e6,e7,e8⟩:=Nine.box hX0
  rw [hK] at e0 HX ⊢
  obtain ⟨b,o,rfl,hb,g0⟩:=hq 0 (by omega)
  have g0:=(bcell hXb hb _).trans g0
  rw [Nat.add_zero] at g0
  obtain ⟨b1,o1,hbo1,hb1,g1⟩:=hq 1 (by omega)
  cases hbo1
  have g1:=(bcell hXb hb1 _).trans g1
  obtain ⟨b2,o2,hbo2,hb2,g2⟩:=hq 2 (by omega)
  cases hbo2
  have g2:=(bcell hXb hb2 _).trans g2
  clear hq
  obtain ⟨y0,hy0⟩:∃ x,x=τ 0:=⟨_,rfl⟩
  obtain ⟨x0,hx0⟩:∃ x,x=u 0:=⟨_,rfl⟩
  simp only [← hx0,← hy0] at g0 ⊢
  obtain ⟨y1,hy1⟩:∃ x,x=τ 1:=⟨_,rfl⟩
  obtain ⟨x1,hx1⟩:∃ x,x=u 1:=⟨_,rfl⟩
  simp only [← hx1,← hy1] at g1 ⊢
  obtain ⟨y2,hy2⟩:∃ x,x=τ 2:=⟨_,rfl⟩
  obtain ⟨x2,hx2⟩:∃ x,x=u 2:=⟨_,rfl⟩
  simp only [← hx2,← hy2] at g2 ⊢
  clear hx0 hy0 hx1 hy1 hx2 hy2
  clear hX hX0 hK
  go_enter Tryz.func52,Tryz.ntmps52
  go_upto_region 1 with fail
  rw [← HX.out]
  go_wp2_with fail
  go_quiet (fail)
  go_wp2_with fail
  go_ret
  exact ⟨rfl,⟨hXb.os,hXb.tape,hXb.output,hXb.size,hXb.block⟩⟩
set_option maxRecDepth 100000 in
set_option maxHeartbeats 1000000 in
theorem made_15 (nd:Int) (t:Tm) (a1:Option Addr) (l1 c1:Nat) (a2:Option Addr) (l2 c2:Nat) (a3:Option Addr) (l3 c3:Nat) (ap:Option Addr) (cp:Nat) (τ:Nat→TypeId) (u:Nat→Value) (w:World) (hK:t.K=15) (hq:Prt w ap 2 fun i=>.iface (τ i) (u i)) :
    Calls Tryz.prog 52 #[.int .i64 nd,.agg #[.int .i64 t.K,.int .i64 t.N,.string t.S,.string t.Z,.int .i64 t.T.K,.int .i64 t.T.N,.slice a1 l1 c1,.slice a2 l2 c2,.slice a3 l3 c3],.slice ap 2 cp] w fun e w'=>e=.returned (.iface 131 (.agg #[.int .i64 t.N,.iface (τ 0) (u 0),.iface (τ 1) (u 1)]))∧Below w.heap.size w w':=by
  obtain ⟨X,hX⟩:∃ X,X=w.alloc (.cells #[.int .i64 t.K,.int .i64 t.N,.string t.S,.string t.Z,.int .i64 t.T.K,.int .i64 t.T.N,.slice a1 l1 c1,.slice a2 l2 c2,.slice a3 l3 c3] 34):=⟨_,rfl⟩
  have hXb:Below w.heap.size w X:=by rw [hX];exact (Below.refl _ _).alloc (Nat.le_refl _) _
  have hX0:X.heap[w.heap.size]?=some (.cells #[.int .i64 t.K,.int .i64 t.N,.string t.S,.string t.Z,.int .i64 t.T.K,.int .i64 t.T.N,.slice a1 l1 c1,.slice a2 l2 c2,.slice a3 l3 c3] 34 (0,0)):=by rw [hX];exact heap_new rfl
  have HX:Hid (X=_):=hX
  obtain ⟨e0,e1,e2,e3,e4,e5,e6,e7,e8⟩:=Nine.box hX0
  rw [hK] at e0 HX ⊢
  obtain ⟨b,o,rfl,hb,g0⟩:=hq 0 (by omega)
  have g0:=(bcell hXb hb _).trans g0
  rw [Nat.add_zero] at g0
  obtain ⟨b1,o1,hbo1,hb1,g1⟩:=hq 1 (by omega)
  cases hbo1
  have g1:=(bcell hXb hb1 _).trans g1
  clear hq
  obtain ⟨y0,hy0⟩:∃ x,x=τ 0:=⟨_,rfl⟩
  obtain ⟨x0,hx0⟩:∃ x,x=u 0:=⟨_,rfl⟩
  simp only [← hx0,← hy0] at g0 ⊢
  obtain ⟨y1,hy1⟩:∃ x,x=τ 1:=⟨_,rfl⟩
  obtain ⟨x1,hx1⟩:∃ x,x=u 1:=⟨_,rfl⟩
  simp only [← hx1,← hy1] at g1 ⊢
  clear hx0 hy0 hx1 hy1
  clear hX hX0 hK
  go_enter Tryz.func52,Tryz.ntmps52
  go_upto_region 1 with fail
  rw [← HX.out]
  go_wp2_with fail
  go_quiet (fail)
  go_wp2_with fail
  go_ret
  exact ⟨rfl,⟨hXb.os,hXb.tape,hXb.output,hXb.size,hXb.block⟩⟩
set_option maxRecDepth 100000 in
set_option maxHeartbeats 1000000 in
theorem made_16 (nd:Int) (t:Tm) (a1:Option Addr) (l1 c1:Nat) (a2:Option Addr) (l2 c2:Nat) (a3:Option Addr) (l3 c3:Nat) (ap:Option Addr) (cp:Nat) (τ:Nat→TypeId) (u:Nat→Value) (w:World) (hK:t.K=16) (hq:Prt w ap 1 fun i=>.iface (τ i) (u i)) :
    Calls Tryz.prog 52 #[.int .i64 nd,.agg #[.int .i64 t.K,.int .i64 t.N,.string t.S,.string t.Z,.int .i64 t.T.K,.int .i64 t.T.N,.slice a1 l1 c1,.slice a2 l2 c2,.slice a3 l3 c3],.slice ap 1 cp] w fun e w'=>e=.returned (.iface 133 (.agg #[.int .i64 t.T.K,.int .i64 t.T.N,.slice a1 l1 c1,.iface (τ 0) (u 0)]))∧Below w.heap.size w w':=by
  obtain ⟨X,hX⟩:∃ X,X=w.alloc (.cells #[.int .i64 t.K,.int .i64 t.N,.string t.S,.string t.Z,.int .i64 t.T.K,.int .i64 t.T.N,.slice a1 l1 c1,.slice a2 l2 c2,.slice a3 l3 c3] 34):=⟨_,rfl⟩
  have hXb:Below w.heap.size w X:=by rw [hX];exact (Below.refl _ _).alloc (Nat.le_refl _) _
  have hX0:X.heap[w.heap.size]?=some (.cells #[.int .i64 t.K,.int .i64 t.N,.string t.S,.string t.Z,.int .i64 t.T.K,.int .i64 t.T.N,.slice a1 l1 c1,.slice a2 l2 c2,.slice a3 l3 c3] 34 (0,0)):=by rw [hX];exact heap_new rfl
  have HX:Hid (X=_):=hX
  obtain ⟨e0,e1,e2,e3,e4,e5,e6,e7,e8⟩:=Nine.box hX0
  rw [hK] at e0 HX ⊢
  obtain ⟨b,o,rfl,hb,g0⟩:=hq 0 (by omega)
  have g0:=(bcell hXb hb _).trans g0
  rw [Nat.add_zero] at g0
  clear hq
  obtain ⟨y0,hy0⟩:∃ x,x=τ 0:=⟨_,rfl⟩
  obtain ⟨x0,hx0⟩:∃ x,x=u 0:=⟨_,rfl⟩
  simp only [← hx0,← hy0] at g0 ⊢
  clear hx0 hy0
  clear hX hX0 hK
  go_enter Tryz.func52,Tryz.ntmps52
  go_upto_region 1 with fail
  rw [← HX.out]
  go_wp2_with fail
  go_quiet (fail)
  go_wp2_with fail
  go_ret
  exact ⟨rfl,⟨hXb.os,hXb.tape,hXb.output,hXb.size,hXb.block⟩⟩
set_option maxRecDepth 100000 in
set_option maxHeartbeats 1000000 in
theorem made_17 (nd:Int) (t:Tm) (a1:Option Addr) (l1 c1:Nat) (a2:Option Addr) (l2 c2:Nat) (a3:Option Addr) (l3 c3:Nat) (ap:Option Addr) (cp:Nat) (τ:Nat→TypeId) (u:Nat→Value) (w:World) (hK:t.K=17) (hq:Prt w ap 2 fun i=>.iface (τ i) (u i)) :
    Calls Tryz.prog 52 #[.int .i64 nd,.agg #[.int .i64 t.K,.int .i64 t.N,.string t.S,.string t.Z,.int .i64 t.T.K,.int .i64 t.T.N,.slice a1 l1 c1,.slice a2 l2 c2,.slice a3 l3 c3],.slice ap 2 cp] w fun e w'=>e=.returned (.iface 135 (.agg #[.string t.S,.iface (τ 0) (u 0),.iface (τ 1) (u 1)]))∧Below w.heap.size w w':=by
  obtain ⟨X,hX⟩:∃ X,X=w.alloc (.cells #[.int .i64 t.K,.int .i64 t.N,.string t.S,.string t.Z,.int .i64 t.T.K,.int .i64 t.T.N,.slice a1 l1 c1,.slice a2 l2 c2,.slice a3 l3 c3] 34):=⟨_,rfl⟩
  have hXb:Below w.heap.size w X:=by rw [hX];exact (Below.refl _ _).alloc (Nat.le_refl _) _
  have hX0:X.heap[w.heap.size]?=some (.cells #[.int .i64 t.K,.int .i64 t.N,.string t.S,.string t.Z,.int .i64 t.T.K,.int .i64 t.T.N,.slice a1 l1 c1,.slice a2 l2 c2,.slice a3 l3 c3] 34 (0,0)):=by rw [hX];exact heap_new rfl
  have HX:Hid (X=_):=hX
  obtain ⟨e0,e1,e2,e3,e4,e5,e6,e7,e8⟩:=Nine.box hX0
  rw [hK] at e0 HX ⊢
  obtain ⟨b,o,rfl,hb,g0⟩:=hq 0 (by omega)
  have g0:=(bcell hXb hb _).trans g0
  rw [Nat.add_zero] at g0
  obtain ⟨b1,o1,hbo1,hb1,g1⟩:=hq 1 (by omega)
  cases hbo1
  have g1:=(bcell hXb hb1 _).trans g1
  clear hq
  obtain ⟨y0,hy0⟩:∃ x,x=τ 0:=⟨_,rfl⟩
  obtain ⟨x0,hx0⟩:∃ x,x=u 0:=⟨_,rfl⟩
  simp only [← hx0,← hy0] at g0 ⊢
  obtain ⟨y1,hy1⟩:∃ x,x=τ 1:=⟨_,rfl⟩
  obtain ⟨x1,hx1⟩:∃ x,x=u 1:=⟨_,rfl⟩
  simp only [← hx1,← hy1] at g1 ⊢
  clear hx0 hy0 hx1 hy1
  clear hX hX0 hK
  go_enter Tryz.func52,Tryz.ntmps52
  go_upto_region 1 with fail
  rw [← HX.out]
  go_wp2_with fail
  go_quiet (fail)
  go_wp2_with fail
  go_ret
  exact ⟨rfl,⟨hXb.os,hXb.tape,hXb.output,hXb.size,hXb.block⟩⟩
end Go.Proofs.YtcepgedbmffkdaaGreat
