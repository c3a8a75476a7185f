/-
  Free names: 'gather' at the kinds that bind nothing.
-/
import Derived.Test.YtcepgedbmffkdaaGreatFbaZ8
import Derived.Handy
namespace Go.Proofs.YtcepgedbmffkdaaGreat
open Go.RowKit
set_option linter.unusedVariables false
set_option linter.unusedSimpArgs false
theorem parts_1 (s z:ByteArray) (nd n tk tn:Int) (a1:Option Addr) (l1 c1:Nat) (a2:Option Addr) (l2 c2:Nat) (τ0 τ1 τ2:TypeId) (u0 u1 u2:Value) (w:World):Calls Tryz.prog 157 #[.agg #[.int .i64 n]] w fun e w'=>e=.returned (.slice none 0 0)∧Below w.heap.size w w':=by
  go_enter Tryz.func157,Tryz.ntmps157
  go_wp2_with fail
  go_ret
  exact ⟨rfl,by first | exact Below.refl _ _ | exact (Below.refl _ _).alloc (Nat.le_refl _) _⟩
set_option maxRecDepth 100000 in
set_option maxHeartbeats 1000000 in
theorem ga_1 (l:Nat) (IH:SaidGa l) (L B D:Nat) (w0:World) (s z:ByteArray) (nd n tk tn:Int) (a1:Option Addr) (l1 c1:Nat) (a2:Option Addr) (l2 c2:Nat) (τ0 τ1 τ2:TypeId) (u0 u1 u2:Value)  (p:Nat) (vb vf:Value) (Bd Fr:List (List UInt8)) (w:World) (h:FnSt p w vb vf Bd Fr) (h1:Bd.length+2 * l+2≤1000) (h2:Fr.length+1≤1000) :
    Calls Tryz.prog 71 #[.pointer (some ⟨p,0,none⟩),.iface 105 (.agg #[.int .i64 n])] w fun e w'=>∃ vb' vf',e=.returned (.tuple #[])∧Kp p vb vf w vb' vf' w'∧FnSt p w' vb' vf' Bd Fr:=by
  have as0:=fun (W:World) (v:Value)=>no_varForm W 105 v (by decide)
  have as1:=fun (W:World) (v:Value)=>no_fnForm W 105 v (by decide)
  have as2:=fun (W:World) (v:Value)=>no_letForm W 105 v (by decide)
  have as3:=fun (W:World) (v:Value)=>no_fixForm W 105 v (by decide)
  have as4:=fun (W:World) (v:Value)=>no_caseForm W 105 v (by decide)
  have as5:=fun (W:World) (v:Value)=>no_tryForm W 105 v (by decide)
  have hp:=h.lt
  go_enter Tryz.func71,Tryz.ntmps71
  go_wp2_with fail
  refine (parts_1 s z nd n tk tn a1 l1 c1 a2 l2 c2 τ0 τ1 τ2 u0 u1 u2 w).mono ?_
  rintro e X ⟨rfl,hXb⟩
  have hs0:=h.below hXb
  have k0:Kp p vb vf X vb vf X:=Kp.refl
  go_wp2_with fail
  refine wp_loop_rounds 1 ?_
  rw [rounds_succ]
  go_wp2_with fail
  refine bodyPost_end (v:=.tuple #[]) (by simp [results,Tryz.results71,go_sem]) rfl ?_
  exact ⟨_,_,rfl,(Kp.of_below hXb).trans k0,hs0⟩
theorem parts_2 (s z:ByteArray) (nd n tk tn:Int) (a1:Option Addr) (l1 c1:Nat) (a2:Option Addr) (l2 c2:Nat) (τ0 τ1 τ2:TypeId) (u0 u1 u2:Value) (w:World):Calls Tryz.prog 158 #[.agg #[.int .i64 n]] w fun e w'=>e=.returned (.slice none 0 0)∧Below w.heap.size w w':=by
  go_enter Tryz.func158,Tryz.ntmps158
  go_wp2_with fail
  go_ret
  exact ⟨rfl,by first | exact Below.refl _ _ | exact (Below.refl _ _).alloc (Nat.le_refl _) _⟩
set_option maxRecDepth 100000 in
set_option maxHeartbeats 1000000 in
theorem ga_2 (l:Nat) (IH:SaidGa l) (L B D:Nat) (w0:World) (s z:ByteArray) (nd n tk tn:Int) (a1:Option Addr) (l1 c1:Nat) (a2:Option Addr) (l2 c2:Nat) (τ0 τ1 τ2:TypeId) (u0 u1 u2:Value)  (p:Nat) (vb vf:Value) (Bd Fr:List (List UInt8)) (w:World) (h:FnSt p w vb vf Bd Fr) (h1:Bd.length+2 * l+2≤1000) (h2:Fr.length+1≤1000) :
    Calls Tryz.prog 71 #[.pointer (some ⟨p,0,none⟩),.iface 106 (.agg #[.int .i64 n])] w fun e w'=>∃ vb' vf',e=.returned (.tuple #[])∧Kp p vb vf w vb' vf' w'∧FnSt p w' vb' vf' Bd Fr:=by
  have as0:=fun (W:World) (v:Value)=>no_varForm W 106 v (by decide)
  have as1:=fun (W:World) (v:Value)=>no_fnForm W 106 v (by decide)
  have as2:=fun (W:World) (v:Value)=>no_letForm W 106 v (by decide)
  have as3:=fun (W:World) (v:Value)=>no_fixForm W 106 v (by decide)
  have as4:=fun (W:World) (v:Value)=>no_caseForm W 106 v (by decide)
  have as5:=fun (W:World) (v:Value)=>no_tryForm W 106 v (by decide)
  have hp:=h.lt
  go_enter Tryz.func71,Tryz.ntmps71
  go_wp2_with fail
  refine (parts_2 s z nd n tk tn a1 l1 c1 a2 l2 c2 τ0 τ1 τ2 u0 u1 u2 w).mono ?_
  rintro e X ⟨rfl,hXb⟩
  have hs0:=h.below hXb
  have k0:Kp p vb vf X vb vf X:=Kp.refl
  go_wp2_with fail
  refine wp_loop_rounds 1 ?_
  rw [rounds_succ]
  go_wp2_with fail
  refine bodyPost_end (v:=.tuple #[]) (by simp [results,Tryz.results71,go_sem]) rfl ?_
  exact ⟨_,_,rfl,(Kp.of_below hXb).trans k0,hs0⟩
theorem parts_5 (s z:ByteArray) (nd n tk tn:Int) (a1:Option Addr) (l1 c1:Nat) (a2:Option Addr) (l2 c2:Nat) (τ0 τ1 τ2:TypeId) (u0 u1 u2:Value) (w:World):Calls Tryz.prog 161 #[.agg #[.int .i64 nd,.iface τ0 u0,.iface τ1 u1]] w fun e w'=>∃ g,e=.returned (.slice (some ⟨g,0,none⟩) 2 2)∧Below w.heap.size w w'∧w.heap.size≤g∧w'.heap[g]?=some (.cells #[.iface τ0 u0,.iface τ1 u1] 52 (0,0)):=by
  go_enter Tryz.func161,Tryz.ntmps161
  go_wp2_with fail
  go_ret
  exact ⟨_,rfl,((Below.refl _ _).alloc (Nat.le_refl _) _).alloc (by simp) _,by omega,heap_new (by simp)⟩
set_option maxRecDepth 100000 in
set_option maxHeartbeats 1000000 in
theorem ga_5 (l:Nat) (IH:SaidGa l) (L B D:Nat) (w0:World) (s z:ByteArray) (nd n tk tn:Int) (a1:Option Addr) (l1 c1:Nat) (a2:Option Addr) (l2 c2:Nat) (τ0 τ1 τ2:TypeId) (u0 u1 u2:Value) (x0:Tm) (m0:Nat) (hv0:Fv L B w0 D l x0 (.iface τ0 u0)) (hm0:nodesM l x0=some m0) (x1:Tm) (m1:Nat) (hv1:Fv L B w0 D l x1 (.iface τ1 u1)) (hm1:nodesM l x1=some m1) (p:Nat) (vb vf:Value) (Bd Fr:List (List UInt8)) (w:World) (h:FnSt p w vb vf Bd Fr) (h1:Bd.length+2 * l+2≤1000) (h2:Fr.length+1+m0+m1≤1000) :
    Calls Tryz.prog 71 #[.pointer (some ⟨p,0,none⟩),.iface 112 (.agg #[.int .i64 nd,.iface τ0 u0,.iface τ1 u1])] w fun e w'=>∃ vb' vf',e=.returned (.tuple #[])∧Kp p vb vf w vb' vf' w'∧FnSt p w' vb' vf' Bd (freeW l x1 Bd (freeW l x0 Bd Fr)):=by
  have as0:=fun (W:World) (v:Value)=>no_varForm W 112 v (by decide)
  have as1:=fun (W:World) (v:Value)=>no_fnForm W 112 v (by decide)
  have as2:=fun (W:World) (v:Value)=>no_letForm W 112 v (by decide)
  have as3:=fun (W:World) (v:Value)=>no_fixForm W 112 v (by decide)
  have as4:=fun (W:World) (v:Value)=>no_caseForm W 112 v (by decide)
  have as5:=fun (W:World) (v:Value)=>no_tryForm W 112 v (by decide)
  have hp:=h.lt
  have HV0:Hid (Fv L B w0 D l x0 (.iface τ0 u0)):=hv0
  have HM0:Hid (nodesM l x0=some m0):=hm0
  clear hv0 hm0
  have HV1:Hid (Fv L B w0 D l x1 (.iface τ1 u1)):=hv1
  have HM1:Hid (nodesM l x1=some m1):=hm1
  clear hv1 hm1
  go_enter Tryz.func71,Tryz.ntmps71
  go_wp2_with fail
  refine (parts_5 s z nd n tk tn a1 l1 c1 a2 l2 c2 τ0 τ1 τ2 u0 u1 u2 w).mono ?_
  rintro e X ⟨g,rfl,hXb,hgw,hx⟩
  have hs0:=h.below hXb
  have hne1:vb.ownBlock≠some g:=fun e=>by have:=(toks_own h.bound e).2;omega
  have hne2:vf.ownBlock≠some g:=fun e=>by have:=(toks_own h.free e).2;omega
  have hgX:g < X.heap.size:=(Array.getElem?_eq_some_iff.1 hx).1
  have k0:Kp p vb vf X vb vf X:=Kp.refl
  have q0_0:X.cell? ⟨g,0,none⟩=some (.iface τ0 u0):=row_cell hx 0
  have q0_1:X.cell? ⟨g,1,none⟩=some (.iface τ1 u1):=row_cell hx 1
  go_wp2_with fail
  refine wp_loop_rounds 3 ?_
  rw [rounds_succ]
  go_wp2_with fail
  refine (IH L B D w0 x0 _ p _ _ Bd Fr m0 _ HV0.out HM0.out hs0 (by omega) (by omega)).mono ?_
  rintro e w1 ⟨vb1,vf1,rfl,kk1,hs1⟩
  have k1:=k0.trans kk1
  have HL1:Hid ((freeW l x0 Bd Fr).length≤Fr.length+m0):=freeW_len _ _ _ _ _ HM0.out
  have hx1:=(k1.block g hgX (by omega) hne1 hne2).trans hx
  have q1_0:w1.cell? ⟨g,0,none⟩=some (.iface τ0 u0):=row_cell hx1 0
  have q1_1:w1.cell? ⟨g,1,none⟩=some (.iface τ1 u1):=row_cell hx1 1
  clear kk1
  go_wp2_with fail
  rw [rounds_succ]
  go_wp2_with fail
  refine (IH L B D w0 x1 _ p _ _ Bd (freeW l x0 Bd Fr) m1 _ HV1.out HM1.out hs1 (by omega) (by have:=HL1.out;omega)).mono ?_
  rintro e w2 ⟨vb2,vf2,rfl,kk2,hs2⟩
  have k2:=k1.trans kk2
  have HL2:Hid ((freeW l x1 Bd (freeW l x0 Bd Fr)).length≤(freeW l x0 Bd Fr).length+m1):=freeW_len _ _ _ _ _ HM1.out
  have hx2:=(k2.block g hgX (by omega) hne1 hne2).trans hx
  have q2_0:w2.cell? ⟨g,0,none⟩=some (.iface τ0 u0):=row_cell hx2 0
  have q2_1:w2.cell? ⟨g,1,none⟩=some (.iface τ1 u1):=row_cell hx2 1
  clear kk2
  go_wp2_with fail
  rw [rounds_succ]
  go_wp2_with fail
  refine bodyPost_end (v:=.tuple #[]) (by simp [results,Tryz.results71,go_sem]) rfl ?_
  exact ⟨_,_,rfl,(Kp.of_below hXb).trans k2,hs2⟩
theorem parts_8 (s z:ByteArray) (nd n tk tn:Int) (a1:Option Addr) (l1 c1:Nat) (a2:Option Addr) (l2 c2:Nat) (τ0 τ1 τ2:TypeId) (u0 u1 u2:Value) (w:World):Calls Tryz.prog 164 #[.agg #[.iface τ0 u0,.iface τ1 u1,.iface τ2 u2]] w fun e w'=>∃ g,e=.returned (.slice (some ⟨g,0,none⟩) 3 3)∧Below w.heap.size w w'∧w.heap.size≤g∧w'.heap[g]?=some (.cells #[.iface τ0 u0,.iface τ1 u1,.iface τ2 u2] 52 (0,0)):=by
  go_enter Tryz.func164,Tryz.ntmps164
  go_wp2_with fail
  go_ret
  exact ⟨_,rfl,((Below.refl _ _).alloc (Nat.le_refl _) _).alloc (by simp) _,by omega,heap_new (by simp)⟩
set_option maxRecDepth 100000 in
set_option maxHeartbeats 1000000 in
theorem ga_8 (l:Nat) (IH:SaidGa l) (L B D:Nat) (w0:World) (s z:ByteArray) (nd n tk tn:Int) (a1:Option Addr) (l1 c1:Nat) (a2:Option Addr) (l2 c2:Nat) (τ0 τ1 τ2:TypeId) (u0 u1 u2:Value) (x0:Tm) (m0:Nat) (hv0:Fv L B w0 D l x0 (.iface τ0 u0)) (hm0:nodesM l x0=some m0) (x1:Tm) (m1:Nat) (hv1:Fv L B w0 D l x1 (.iface τ1 u1)) (hm1:nodesM l x1=some m1) (x2:Tm) (m2:Nat) (hv2:Fv L B w0 D l x2 (.iface τ2 u2)) (hm2:nodesM l x2=some m2) (p:Nat) (vb vf:Value) (Bd Fr:List (List UInt8)) (w:World) (h:FnSt p w vb vf Bd Fr) (h1:Bd.length+2 * l+2≤1000) (h2:Fr.length+1+m0+m1+m2≤1000) :
    Calls Tryz.prog 71 #[.pointer (some ⟨p,0,none⟩),.iface 118 (.agg #[.iface τ0 u0,.iface τ1 u1,.iface τ2 u2])] w fun e w'=>∃ vb' vf',e=.returned (.tuple #[])∧Kp p vb vf w vb' vf' w'∧FnSt p w' vb' vf' Bd (freeW l x2 Bd (freeW l x1 Bd (freeW l x0 Bd Fr))):=by
  have as0:=fun (W:World) (v:Value)=>no_varForm W 118 v (by decide)
  have as1:=fun (W:World) (v:Value)=>no_fnForm W 118 v (by decide)
  have as2:=fun (W:World) (v:Value)=>no_letForm W 118 v (by decide)
  have as3:=fun (W:World) (v:Value)=>no_fixForm W 118 v (by decide)
  have as4:=fun (W:World) (v:Value)=>no_caseForm W 118 v (by decide)
  have as5:=fun (W:World) (v:Value)=>no_tryForm W 118 v (by decide)
  have hp:=h.lt
  have HV0:Hid (Fv L B w0 D l x0 (.iface τ0 u0)):=hv0
  have HM0:Hid (nodesM l x0=some m0):=hm0
  clear hv0 hm0
  have HV1:Hid (Fv L B w0 D l x1 (.iface τ1 u1)):=hv1
  have HM1:Hid (nodesM l x1=some m1):=hm1
  clear hv1 hm1
  have HV2:Hid (Fv L B w0 D l x2 (.iface τ2 u2)):=hv2
  have HM2:Hid (nodesM l x2=some m2):=hm2
  clear hv2 hm2
  go_enter Tryz.func71,Tryz.ntmps71
  go_wp2_with fail
  refine (parts_8 s z nd n tk tn a1 l1 c1 a2 l2 c2 τ0 τ1 τ2 u0 u1 u2 w).mono ?_
  rintro e X ⟨g,rfl,hXb,hgw,hx⟩
  have hs0:=h.below hXb
  have hne1:vb.ownBlock≠some g:=fun e=>by have:=(toks_own h.bound e).2;omega
  have hne2:vf.ownBlock≠some g:=fun e=>by have:=(toks_own h.free e).2;omega
  have hgX:g < X.heap.size:=(Array.getElem?_eq_some_iff.1 hx).1
  have k0:Kp p vb vf X vb vf X:=Kp.refl
  have q0_0:X.cell? ⟨g,0,none⟩=some (.iface τ0 u0):=row_cell hx 0
  have q0_1:X.cell? ⟨g,1,none⟩=some (.iface τ1 u1):=row_cell hx 1
  have q0_2:X.cell? ⟨g,2,none⟩=some (.iface τ2 u2):=row_cell hx 2
  go_wp2_with fail
  refine wp_loop_rounds 4 ?_
  rw [rounds_succ]
  go_wp2_with fail
  refine (IH L B D w0 x0 _ p _ _ Bd Fr m0 _ HV0.out HM0.out hs0 (by omega) (by omega)).mono ?_
  rintro e w1 ⟨vb1,vf1,rfl,kk1,hs1⟩
  have k1:=k0.trans kk1
  have HL1:Hid ((freeW l x0 Bd Fr).length≤Fr.length+m0):=freeW_len _ _ _ _ _ HM0.out
  have hx1:=(k1.block g hgX (by omega) hne1 hne2).trans hx
  have q1_0:w1.cell? ⟨g,0,none⟩=some (.iface τ0 u0):=row_cell hx1 0
  have q1_1:w1.cell? ⟨g,1,none⟩=some (.iface τ1 u1):=row_cell hx1 1
  have q1_2:w1.cell? ⟨g,2,none⟩=some (.iface τ2 u2):=row_cell hx1 2
  clear kk1
  go_wp2_with fail
  rw [rounds_succ]
  go_wp2_with fail
  refine (IH L B D w0 x1 _ p _ _ Bd (freeW l x0 Bd Fr) m1 _ HV1.out HM1.out hs1 (by omega) (by have:=HL1.out;omega)).mono ?_
  rintro e w2 ⟨vb2,vf2,rfl,kk2,hs2⟩
  have k2:=k1.trans kk2
  have HL2:Hid ((freeW l x1 Bd (freeW l x0 Bd Fr)).length≤(freeW l x0 Bd Fr).length+m1):=freeW_len _ _ _ _ _ HM1.out
  have hx2:=(k2.block g hgX (by omega) hne1 hne2).trans hx
  have q2_0:w2.cell? ⟨g,0,none⟩=some (.iface τ0 u0):=row_cell hx2 0
  have q2_1:w2.cell? ⟨g,1,none⟩=some (.iface τ1 u1):=row_cell hx2 1
  have q2_2:w2.cell? ⟨g,2,none⟩=some (.iface τ2 u2):=row_cell hx2 2
  clear kk2
  go_wp2_with fail
  rw [rounds_succ]
  go_wp2_with fail
  refine (IH L B D w0 x2 _ p _ _ Bd (freeW l x1 Bd (freeW l x0 Bd Fr)) m2 _ HV2.out HM2.out hs2 (by omega) (by have:=HL1.out;have:=HL2.out;omega)).mono ?_
  rintro e w3 ⟨vb3,vf3,rfl,kk3,hs3⟩
  have k3:=k2.trans kk3
  have HL3:Hid ((freeW l x2 Bd (freeW l x1 Bd (freeW l x0 Bd Fr))).length≤(freeW l x1 Bd (freeW l x0 Bd Fr)).length+m2):=freeW_len _ _ _ _ _ HM2.out
  have hx3:=(k3.block g hgX (by omega) hne1 hne2).trans hx
  have q3_0:w3.cell? ⟨g,0,none⟩=some (.iface τ0 u0):=row_cell hx3 0
  have q3_1:w3.cell? ⟨g,1,none⟩=some (.iface τ1 u1):=row_cell hx3 1
  have q3_2:w3.cell? ⟨g,2,none⟩=some (.iface τ2 u2):=row_cell hx3 2
  clear kk3
  go_wp2_with fail
  rw [rounds_succ]
  go_wp2_with fail
  refine bodyPost_end (v:=.tuple #[]) (by simp [results,Tryz.results71,go_sem]) rfl ?_
  exact ⟨_,_,rfl,(Kp.of_below hXb).trans k3,hs3⟩
theorem parts_9 (s z:ByteArray) (nd n tk tn:Int) (a1:Option Addr) (l1 c1:Nat) (a2:Option Addr) (l2 c2:Nat) (τ0 τ1 τ2:TypeId) (u0 u1 u2:Value) (w:World):Calls Tryz.prog 165 #[.agg #[.iface τ0 u0,.iface τ1 u1]] w fun e w'=>∃ g,e=.returned (.slice (some ⟨g,0,none⟩) 2 2)∧Below w.heap.size w w'∧w.heap.size≤g∧w'.heap[g]?=some (.cells #[.iface τ0 u0,.iface τ1 u1] 52 (0,0)):=by
  go_enter Tryz.func165,Tryz.ntmps165
  go_wp2_with fail
  go_ret
  exact ⟨_,rfl,((Below.refl _ _).alloc (Nat.le_refl _) _).alloc (by simp) _,by omega,heap_new (by simp)⟩
set_option maxRecDepth 100000 in
set_option maxHeartbeats 1000000 in
theorem ga_9 (l:Nat) (IH:SaidGa l) (L B D:Nat) (w0:World) (s z:ByteArray) (nd n tk tn:Int) (a1:Option Addr) (l1 c1:Nat) (a2:Option Addr) (l2 c2:Nat) (τ0 τ1 τ2:TypeId) (u0 u1 u2:Value) (x0:Tm) (m0:Nat) (hv0:Fv L B w0 D l x0 (.iface τ0 u0)) (hm0:nodesM l x0=some m0) (x1:Tm) (m1:Nat) (hv1:Fv L B w0 D l x1 (.iface τ1 u1)) (hm1:nodesM l x1=some m1) (p:Nat) (vb vf:Value) (Bd Fr:List (List UInt8)) (w:World) (h:FnSt p w vb vf Bd Fr) (h1:Bd.length+2 * l+2≤1000) (h2:Fr.length+1+m0+m1≤1000) :
    Calls Tryz.prog 71 #[.pointer (some ⟨p,0,none⟩),.iface 120 (.agg #[.iface τ0 u0,.iface τ1 u1])] w fun e w'=>∃ vb' vf',e=.returned (.tuple #[])∧Kp p vb vf w vb' vf' w'∧FnSt p w' vb' vf' Bd (freeW l x1 Bd (freeW l x0 Bd Fr)):=by
  have as0:=fun (W:World) (v:Value)=>no_varForm W 120 v (by decide)
  have as1:=fun (W:World) (v:Value)=>no_fnForm W 120 v (by decide)
  have as2:=fun (W:World) (v:Value)=>no_letForm W 120 v (by decide)
  have as3:=fun (W:World) (v:Value)=>no_fixForm W 120 v (by decide)
  have as4:=fun (W:World) (v:Value)=>no_caseForm W 120 v (by decide)
  have as5:=fun (W:World) (v:Value)=>no_tryForm W 120 v (by decide)
  have hp:=h.lt
  have HV0:Hid (Fv L B w0 D l x0 (.iface τ0 u0)):=hv0
  have HM0:Hid (nodesM l x0=some m0):=hm0
  clear hv0 hm0
  have HV1:Hid (Fv L B w0 D l x1 (.iface τ1 u1)):=hv1
  have HM1:Hid (nodesM l x1=some m1):=hm1
  clear hv1 hm1
  go_enter Tryz.func71,Tryz.ntmps71
  go_wp2_with fail
  refine (parts_9 s z nd n tk tn a1 l1 c1 a2 l2 c2 τ0 τ1 τ2 u0 u1 u2 w).mono ?_
  rintro e X ⟨g,rfl,hXb,hgw,hx⟩
  have hs0:=h.below hXb
  have hne1:vb.ownBlock≠some g:=fun e=>by have:=(toks_own h.bound e).2;omega
  have hne2:vf.ownBlock≠some g:=fun e=>by have:=(toks_own h.free e).2;omega
  have hgX:g < X.heap.size:=(Array.getElem?_eq_some_iff.1 hx).1
  have k0:Kp p vb vf X vb vf X:=Kp.refl
  have q0_0:X.cell? ⟨g,0,none⟩=some (.iface τ0 u0):=row_cell hx 0
  have q0_1:X.cell? ⟨g,1,none⟩=some (.iface τ1 u1):=row_cell hx 1
  go_wp2_with fail
  refine wp_loop_rounds 3 ?_
  rw [rounds_succ]
  go_wp2_with fail
  refine (IH L B D w0 x0 _ p _ _ Bd Fr m0 _ HV0.out HM0.out hs0 (by omega) (by omega)).mono ?_
  rintro e w1 ⟨vb1,vf1,rfl,kk1,hs1⟩
  have k1:=k0.trans kk1
  have HL1:Hid ((freeW l x0 Bd Fr).length≤Fr.length+m0):=freeW_len _ _ _ _ _ HM0.out
  have hx1:=(k1.block g hgX (by omega) hne1 hne2).trans hx
  have q1_0:w1.cell? ⟨g,0,none⟩=some (.iface τ0 u0):=row_cell hx1 0
  have q1_1:w1.cell? ⟨g,1,none⟩=some (.iface τ1 u1):=row_cell hx1 1
  clear kk1
  go_wp2_with fail
  rw [rounds_succ]
  go_wp2_with fail
  refine (IH L B D w0 x1 _ p _ _ Bd (freeW l x0 Bd Fr) m1 _ HV1.out HM1.out hs1 (by omega) (by have:=HL1.out;omega)).mono ?_
  rintro e w2 ⟨vb2,vf2,rfl,kk2,hs2⟩
  have k2:=k1.trans kk2
  have HL2:Hid ((freeW l x1 Bd (freeW l x0 Bd Fr)).length≤(freeW l x0 Bd Fr).length+m1):=freeW_len _ _ _ _ _ HM1.out
  have hx2:=(k2.block g hgX (by omega) hne1 hne2).trans hx
  have q2_0:w2.cell? ⟨g,0,none⟩=some (.iface τ0 u0):=row_cell hx2 0
  have q2_1:w2.cell? ⟨g,1,none⟩=some (.iface τ1 u1):=row_cell hx2 1
  clear kk2
  go_wp2_with fail
  rw [rounds_succ]
  go_wp2_with fail
  refine bodyPost_end (v:=.tuple #[]) (by simp [results,Tryz.results71,go_sem]) rfl ?_
  exact ⟨_,_,rfl,(Kp.of_below hXb).trans k2,hs2⟩
theorem parts_10 (s z:ByteArray) (nd n tk tn:Int) (a1:Option Addr) (l1 c1:Nat) (a2:Option Addr) (l2 c2:Nat) (τ0 τ1 τ2:TypeId) (u0 u1 u2:Value) (w:World):Calls Tryz.prog 166 #[.agg #[.iface τ0 u0]] w fun e w'=>∃ g,e=.returned (.slice (some ⟨g,0,none⟩) 1 1)∧Below w.heap.size w w'∧w.heap.size≤g∧w'.heap[g]?=some (.cells #[.iface τ0 u0] 52 (0,0)):=by
  go_enter Tryz.func166,Tryz.ntmps166
  go_wp2_with fail
  go_ret
  exact ⟨_,rfl,((Below.refl _ _).alloc (Nat.le_refl _) _).alloc (by simp) _,by omega,heap_new (by simp)⟩
set_option maxRecDepth 100000 in
set_option maxHeartbeats 1000000 in
theorem ga_10 (l:Nat) (IH:SaidGa l) (L B D:Nat) (w0:World) (s z:ByteArray) (nd n tk tn:Int) (a1:Option Addr) (l1 c1:Nat) (a2:Option Addr) (l2 c2:Nat) (τ0 τ1 τ2:TypeId) (u0 u1 u2:Value) (x0:Tm) (m0:Nat) (hv0:Fv L B w0 D l x0 (.iface τ0 u0)) (hm0:nodesM l x0=some m0) (p:Nat) (vb vf:Value) (Bd Fr:List (List UInt8)) (w:World) (h:FnSt p w vb vf Bd Fr) (h1:Bd.length+2 * l+2≤1000) (h2:Fr.length+1+m0≤1000) :
    Calls Tryz.prog 71 #[.pointer (some ⟨p,0,none⟩),.iface 122 (.agg #[.iface τ0 u0])] w fun e w'=>∃ vb' vf',e=.returned (.tuple #[])∧Kp p vb vf w vb' vf' w'∧FnSt p w' vb' vf' Bd (freeW l x0 Bd Fr):=by
  have as0:=fun (W:World) (v:Value)=>no_varForm W 122 v (by decide)
  have as1:=fun (W:World) (v:Value)=>no_fnForm W 122 v (by decide)
  have as2:=fun (W:World) (v:Value)=>no_letForm W 122 v (by decide)
  have as3:=fun (W:World) (v:Value)=>no_fixForm W 122 v (by decide)
  have as4:=fun (W:World) (v:Value)=>no_caseForm W 122 v (by decide)
  have as5:=fun (W:World) (v:Value)=>no_tryForm W 122 v (by decide)
  have hp:=h.lt
  have HV0:Hid (Fv L B w0 D l x0 (.iface τ0 u0)):=hv0
  have HM0:Hid (nodesM l x0=some m0):=hm0
  clear hv0 hm0
  go_enter Tryz.func71,Tryz.ntmps71
  go_wp2_with fail
  refine (parts_10 s z nd n tk tn a1 l1 c1 a2 l2 c2 τ0 τ1 τ2 u0 u1 u2 w).mono ?_
  rintro e X ⟨g,rfl,hXb,hgw,hx⟩
  have hs0:=h.below hXb
  have hne1:vb.ownBlock≠some g:=fun e=>by have:=(toks_own h.bound e).2;omega
  have hne2:vf.ownBlock≠some g:=fun e=>by have:=(toks_own h.free e).2;omega
  have hgX:g < X.heap.size:=(Array.getElem?_eq_some_iff.1 hx).1
  have k0:Kp p vb vf X vb vf X:=Kp.refl
  have q0_0:X.cell? ⟨g,0,none⟩=some (.iface τ0 u0):=row_cell hx 0
  go_wp2_with fail
  refine wp_loop_rounds 2 ?_
  rw [rounds_succ]
  go_wp2_with fail
  refine (IH L B D w0 x0 _ p _ _ Bd Fr m0 _ HV0.out HM0.out hs0 (by omega) (by omega)).mono ?_
  rintro e w1 ⟨vb1,vf1,rfl,kk1,hs1⟩
  have k1:=k0.trans kk1
  have HL1:Hid ((freeW l x0 Bd Fr).length≤Fr.length+m0):=freeW_len _ _ _ _ _ HM0.out
  have hx1:=(k1.block g hgX (by omega) hne1 hne2).trans hx
  have q1_0:w1.cell? ⟨g,0,none⟩=some (.iface τ0 u0):=row_cell hx1 0
  clear kk1
  go_wp2_with fail
  rw [rounds_succ]
  go_wp2_with fail
  refine bodyPost_end (v:=.tuple #[]) (by simp [results,Tryz.results71,go_sem]) rfl ?_
  exact ⟨_,_,rfl,(Kp.of_below hXb).trans k1,hs1⟩
theorem parts_11 (s z:ByteArray) (nd n tk tn:Int) (a1:Option Addr) (l1 c1:Nat) (a2:Option Addr) (l2 c2:Nat) (τ0 τ1 τ2:TypeId) (u0 u1 u2:Value) (w:World):Calls Tryz.prog 167 #[.agg #[.iface τ0 u0]] w fun e w'=>∃ g,e=.returned (.slice (some ⟨g,0,none⟩) 1 1)∧Below w.heap.size w w'∧w.heap.size≤g∧w'.heap[g]?=some (.cells #[.iface τ0 u0] 52 (0,0)):=by
  go_enter Tryz.func167,Tryz.ntmps167
  go_wp2_with fail
  go_ret
  exact ⟨_,rfl,((Below.refl _ _).alloc (Nat.le_refl _) _).alloc (by simp) _,by omega,heap_new (by simp)⟩
set_option maxRecDepth 100000 in
set_option maxHeartbeats 1000000 in
theorem ga_11 (l:Nat) (IH:SaidGa l) (L B D:Nat) (w0:World) (s z:ByteArray) (nd n tk tn:Int) (a1:Option Addr) (l1 c1:Nat) (a2:Option Addr) (l2 c2:Nat) (τ0 τ1 τ2:TypeId) (u0 u1 u2:Value) (x0:Tm) (m0:Nat) (hv0:Fv L B w0 D l x0 (.iface τ0 u0)) (hm0:nodesM l x0=some m0) (p:Nat) (vb vf:Value) (Bd Fr:List (List UInt8)) (w:World) (h:FnSt p w vb vf Bd Fr) (h1:Bd.length+2 * l+2≤1000) (h2:Fr.length+1+m0≤1000) :
    Calls Tryz.prog 71 #[.pointer (some ⟨p,0,none⟩),.iface 123 (.agg #[.iface τ0 u0])] w fun e w'=>∃ vb' vf',e=.returned (.tuple #[])∧Kp p vb vf w vb' vf' w'∧FnSt p w' vb' vf' Bd (freeW l x0 Bd Fr):=by
  have as0:=fun (W:World) (v:Value)=>no_varForm W 123 v (by decide)
  have as1:=fun (W:World) (v:Value)=>no_fnForm W 123 v (by decide)
  have as2:=fun (W:World) (v:Value)=>no_letForm W 123 v (by decide)
  have as3:=fun (W:World) (v:Value)=>no_fixForm W 123 v (by decide)
  have as4:=fun (W:World) (v:Value)=>no_caseForm W 123 v (by decide)
  have as5:=fun (W:World) (v:Value)=>no_tryForm W 123 v (by decide)
  have hp:=h.lt
  have HV0:Hid (Fv L B w0 D l x0 (.iface τ0 u0)):=hv0
  have HM0:Hid (nodesM l x0=some m0):=hm0
  clear hv0 hm0
  go_enter Tryz.func71,Tryz.ntmps71
  go_wp2_with fail
  refine (parts_11 s z nd n tk tn a1 l1 c1 a2 l2 c2 τ0 τ1 τ2 u0 u1 u2 w).mono ?_
  rintro e X ⟨g,rfl,hXb,hgw,hx⟩
  have hs0:=h.below hXb
  have hne1:vb.ownBlock≠some g:=fun e=>by have:=(toks_own h.bound e).2;omega
  have hne2:vf.ownBlock≠some g:=fun e=>by have:=(toks_own h.free e).2;omega
  have hgX:g < X.heap.size:=(Array.getElem?_eq_some_iff.1 hx).1
  have k0:Kp p vb vf X vb vf X:=Kp.refl
  have q0_0:X.cell? ⟨g,0,none⟩=some (.iface τ0 u0):=row_cell hx 0
  go_wp2_with fail
  refine wp_loop_rounds 2 ?_
  rw [rounds_succ]
  go_wp2_with fail
  refine (IH L B D w0 x0 _ p _ _ Bd Fr m0 _ HV0.out HM0.out hs0 (by omega) (by omega)).mono ?_
  rintro e w1 ⟨vb1,vf1,rfl,kk1,hs1⟩
  have k1:=k0.trans kk1
  have HL1:Hid ((freeW l x0 Bd Fr).length≤Fr.length+m0):=freeW_len _ _ _ _ _ HM0.out
  have hx1:=(k1.block g hgX (by omega) hne1 hne2).trans hx
  have q1_0:w1.cell? ⟨g,0,none⟩=some (.iface τ0 u0):=row_cell hx1 0
  clear kk1
  go_wp2_with fail
  rw [rounds_succ]
  go_wp2_with fail
  refine bodyPost_end (v:=.tuple #[]) (by simp [results,Tryz.results71,go_sem]) rfl ?_
  exact ⟨_,_,rfl,(Kp.of_below hXb).trans k1,hs1⟩
theorem parts_12 (s z:ByteArray) (nd n tk tn:Int) (a1:Option Addr) (l1 c1:Nat) (a2:Option Addr) (l2 c2:Nat) (τ0 τ1 τ2:TypeId) (u0 u1 u2:Value) (w:World):Calls Tryz.prog 168 #[.agg #[.int .i64 tk,.int .i64 tn,.slice a1 l1 c1]] w fun e w'=>e=.returned (.slice none 0 0)∧Below w.heap.size w w':=by
  go_enter Tryz.func168,Tryz.ntmps168
  go_wp2_with fail
  go_ret
  exact ⟨rfl,by first | exact Below.refl _ _ | exact (Below.refl _ _).alloc (Nat.le_refl _) _⟩
set_option maxRecDepth 100000 in
set_option maxHeartbeats 1000000 in
theorem ga_12 (l:Nat) (IH:SaidGa l) (L B D:Nat) (w0:World) (s z:ByteArray) (nd n tk tn:Int) (a1:Option Addr) (l1 c1:Nat) (a2:Option Addr) (l2 c2:Nat) (τ0 τ1 τ2:TypeId) (u0 u1 u2:Value)  (p:Nat) (vb vf:Value) (Bd Fr:List (List UInt8)) (w:World) (h:FnSt p w vb vf Bd Fr) (h1:Bd.length+2 * l+2≤1000) (h2:Fr.length+1≤1000) :
    Calls Tryz.prog 71 #[.pointer (some ⟨p,0,none⟩),.iface 125 (.agg #[.int .i64 tk,.int .i64 tn,.slice a1 l1 c1])] w fun e w'=>∃ vb' vf',e=.returned (.tuple #[])∧Kp p vb vf w vb' vf' w'∧FnSt p w' vb' vf' Bd Fr:=by
  have as0:=fun (W:World) (v:Value)=>no_varForm W 125 v (by decide)
  have as1:=fun (W:World) (v:Value)=>no_fnForm W 125 v (by decide)
  have as2:=fun (W:World) (v:Value)=>no_letForm W 125 v (by decide)
  have as3:=fun (W:World) (v:Value)=>no_fixForm W 125 v (by decide)
  have as4:=fun (W:World) (v:Value)=>no_caseForm W 125 v (by decide)
  have as5:=fun (W:World) (v:Value)=>no_tryForm W 125 v (by decide)
  have hp:=h.lt
  go_enter Tryz.func71,Tryz.ntmps71
  go_wp2_with fail
  refine (parts_12 s z nd n tk tn a1 l1 c1 a2 l2 c2 τ0 τ1 τ2 u0 u1 u2 w).mono ?_
  rintro e X ⟨rfl,hXb⟩
  have hs0:=h.below hXb
  have k0:Kp p vb vf X vb vf X:=Kp.refl
  go_wp2_with fail
  refine wp_loop_rounds 1 ?_
  rw [rounds_succ]
  go_wp2_with fail
  refine bodyPost_end (v:=.tuple #[]) (by simp [results,Tryz.results71,go_sem]) rfl ?_
  exact ⟨_,_,rfl,(Kp.of_below hXb).trans k0,hs0⟩
theorem parts_13 (s z:ByteArray) (nd n tk tn:Int) (a1:Option Addr) (l1 c1:Nat) (a2:Option Addr) (l2 c2:Nat) (τ0 τ1 τ2:TypeId) (u0 u1 u2:Value) (w:World):Calls Tryz.prog 169 #[.agg #[.iface τ0 u0,.iface τ1 u1]] w fun e w'=>∃ g,e=.returned (.slice (some ⟨g,0,none⟩) 2 2)∧Below w.heap.size w w'∧w.heap.size≤g∧w'.heap[g]?=some (.cells #[.iface τ0 u0,.iface τ1 u1] 52 (0,0)):=by
  go_enter Tryz.func169,Tryz.ntmps169
  go_wp2_with fail
  go_ret
  exact ⟨_,rfl,((Below.refl _ _).alloc (Nat.le_refl _) _).alloc (by simp) _,by omega,heap_new (by simp)⟩
set_option maxRecDepth 100000 in
set_option maxHeartbeats 1000000 in
theorem ga_13 (l:Nat) (IH:SaidGa l) (L B D:Nat) (w0:World) (s z:ByteArray) (nd n tk tn:Int) (a1:Option Addr) (l1 c1:Nat) (a2:Option Addr) (l2 c2:Nat) (τ0 τ1 τ2:TypeId) (u0 u1 u2:Value) (x0:Tm) (m0:Nat) (hv0:Fv L B w0 D l x0 (.iface τ0 u0)) (hm0:nodesM l x0=some m0) (x1:Tm) (m1:Nat) (hv1:Fv L B w0 D l x1 (.iface τ1 u1)) (hm1:nodesM l x1=some m1) (p:Nat) (vb vf:Value) (Bd Fr:List (List UInt8)) (w:World) (h:FnSt p w vb vf Bd Fr) (h1:Bd.length+2 * l+2≤1000) (h2:Fr.length+1+m0+m1≤1000) :
    Calls Tryz.prog 71 #[.pointer (some ⟨p,0,none⟩),.iface 127 (.agg #[.iface τ0 u0,.iface τ1 u1])] w fun e w'=>∃ vb' vf',e=.returned (.tuple #[])∧Kp p vb vf w vb' vf' w'∧FnSt p w' vb' vf' Bd (freeW l x1 Bd (freeW l x0 Bd Fr)):=by
  have as0:=fun (W:World) (v:Value)=>no_varForm W 127 v (by decide)
  have as1:=fun (W:World) (v:Value)=>no_fnForm W 127 v (by decide)
  have as2:=fun (W:World) (v:Value)=>no_letForm W 127 v (by decide)
  have as3:=fun (W:World) (v:Value)=>no_fixForm W 127 v (by decide)
  have as4:=fun (W:World) (v:Value)=>no_caseForm W 127 v (by decide)
  have as5:=fun (W:World) (v:Value)=>no_tryForm W 127 v (by decide)
  have hp:=h.lt
  have HV0:Hid (Fv L B w0 D l x0 (.iface τ0 u0)):=hv0
  have HM0:Hid (nodesM l x0=some m0):=hm0
  clear hv0 hm0
  have HV1:Hid (Fv L B w0 D l x1 (.iface τ1 u1)):=hv1
  have HM1:Hid (nodesM l x1=some m1):=hm1
  clear hv1 hm1
  go_enter Tryz.func71,Tryz.ntmps71
  go_wp2_with fail
  refine (parts_13 s z nd n tk tn a1 l1 c1 a2 l2 c2 τ0 τ1 τ2 u0 u1 u2 w).mono ?_
  rintro e X ⟨g,rfl,hXb,hgw,hx⟩
  have hs0:=h.below hXb
  have hne1:vb.ownBlock≠some g:=fun e=>by have:=(toks_own h.bound e).2;omega
  have hne2:vf.ownBlock≠some g:=fun e=>by have:=(toks_own h.free e).2;omega
  have hgX:g < X.heap.size:=(Array.getElem?_eq_some_iff.1 hx).1
  have k0:Kp p vb vf X vb vf X:=Kp.refl
  have q0_0:X.cell? ⟨g,0,none⟩=some (.iface τ0 u0):=row_cell hx 0
  have q0_1:X.cell? ⟨g,1,none⟩=some (.iface τ1 u1):=row_cell hx 1
  go_wp2_with fail
  refine wp_loop_rounds 3 ?_
  rw [rounds_succ]
  go_wp2_with fail
  refine (IH L B D w0 x0 _ p _ _ Bd Fr m0 _ HV0.out HM0.out hs0 (by omega) (by omega)).mono ?_
  rintro e w1 ⟨vb1,vf1,rfl,kk1,hs1⟩
  have k1:=k0.trans kk1
  have HL1:Hid ((freeW l x0 Bd Fr).length≤Fr.length+m0):=freeW_len _ _ _ _ _ HM0.out
  have hx1:=(k1.block g hgX (by omega) hne1 hne2).trans hx
  have q1_0:w1.cell? ⟨g,0,none⟩=some (.iface τ0 u0):=row_cell hx1 0
  have q1_1:w1.cell? ⟨g,1,none⟩=some (.iface τ1 u1):=row_cell hx1 1
  clear kk1
  go_wp2_with fail
  rw [rounds_succ]
  go_wp2_with fail
  refine (IH L B D w0 x1 _ p _ _ Bd (freeW l x0 Bd Fr) m1 _ HV1.out HM1.out hs1 (by omega) (by have:=HL1.out;omega)).mono ?_
  rintro e w2 ⟨vb2,vf2,rfl,kk2,hs2⟩
  have k2:=k1.trans kk2
  have HL2:Hid ((freeW l x1 Bd (freeW l x0 Bd Fr)).length≤(freeW l x0 Bd Fr).length+m1):=freeW_len _ _ _ _ _ HM1.out
  have hx2:=(k2.block g hgX (by omega) hne1 hne2).trans hx
  have q2_0:w2.cell? ⟨g,0,none⟩=some (.iface τ0 u0):=row_cell hx2 0
  have q2_1:w2.cell? ⟨g,1,none⟩=some (.iface τ1 u1):=row_cell hx2 1
  clear kk2
  go_wp2_with fail
  rw [rounds_succ]
  go_wp2_with fail
  refine bodyPost_end (v:=.tuple #[]) (by simp [results,Tryz.results71,go_sem]) rfl ?_
  exact ⟨_,_,rfl,(Kp.of_below hXb).trans k2,hs2⟩
theorem parts_15 (s z:ByteArray) (nd n tk tn:Int) (a1:Option Addr) (l1 c1:Nat) (a2:Option Addr) (l2 c2:Nat) (τ0 τ1 τ2:TypeId) (u0 u1 u2:Value) (w:World):Calls Tryz.prog 171 #[.agg #[.int .i64 n,.iface τ0 u0,.iface τ1 u1]] w fun e w'=>∃ g,e=.returned (.slice (some ⟨g,0,none⟩) 2 2)∧Below w.heap.size w w'∧w.heap.size≤g∧w'.heap[g]?=some (.cells #[.iface τ0 u0,.iface τ1 u1] 52 (0,0)):=by
  go_enter Tryz.func171,Tryz.ntmps171
  go_wp2_with fail
  go_ret
  exact ⟨_,rfl,((Below.refl _ _).alloc (Nat.le_refl _) _).alloc (by simp) _,by omega,heap_new (by simp)⟩
set_option maxRecDepth 100000 in
set_option maxHeartbeats 1000000 in
theorem ga_15 (l:Nat) (IH:SaidGa l) (L B D:Nat) (w0:World) (s z:ByteArray) (nd n tk tn:Int) (a1:Option Addr) (l1 c1:Nat) (a2:Option Addr) (l2 c2:Nat) (τ0 τ1 τ2:TypeId) (u0 u1 u2:Value) (x0:Tm) (m0:Nat) (hv0:Fv L B w0 D l x0 (.iface τ0 u0)) (hm0:nodesM l x0=some m0) (x1:Tm) (m1:Nat) (hv1:Fv L B w0 D l x1 (.iface τ1 u1)) (hm1:nodesM l x1=some m1) (p:Nat) (vb vf:Value) (Bd Fr:List (List UInt8)) (w:World) (h:FnSt p w vb vf Bd Fr) (h1:Bd.length+2 * l+2≤1000) (h2:Fr.length+1+m0+m1≤1000) :
    Calls Tryz.prog 71 #[.pointer (some ⟨p,0,none⟩),.iface 131 (.agg #[.int .i64 n,.iface τ0 u0,.iface τ1 u1])] w fun e w'=>∃ vb' vf',e=.returned (.tuple #[])∧Kp p vb vf w vb' vf' w'∧FnSt p w' vb' vf' Bd (freeW l x1 Bd (freeW l x0 Bd Fr)):=by
  have as0:=fun (W:World) (v:Value)=>no_varForm W 131 v (by decide)
  have as1:=fun (W:World) (v:Value)=>no_fnForm W 131 v (by decide)
  have as2:=fun (W:World) (v:Value)=>no_letForm W 131 v (by decide)
  have as3:=fun (W:World) (v:Value)=>no_fixForm W 131 v (by decide)
  have as4:=fun (W:World) (v:Value)=>no_caseForm W 131 v (by decide)
  have as5:=fun (W:World) (v:Value)=>no_tryForm W 131 v (by decide)
  have hp:=h.lt
  have HV0:Hid (Fv L B w0 D l x0 (.iface τ0 u0)):=hv0
  have HM0:Hid (nodesM l x0=some m0):=hm0
  clear hv0 hm0
  have HV1:Hid (Fv L B w0 D l x1 (.iface τ1 u1)):=hv1
  have HM1:Hid (nodesM l x1=some m1):=hm1
  clear hv1 hm1
  go_enter Tryz.func71,Tryz.ntmps71
  go_wp2_with fail
  refine (parts_15 s z nd n tk tn a1 l1 c1 a2 l2 c2 τ0 τ1 τ2 u0 u1 u2 w).mono ?_
  rintro e X ⟨g,rfl,hXb,hgw,hx⟩
  have hs0:=h.below hXb
  have hne1:vb.ownBlock≠some g:=fun e=>by have:=(toks_own h.bound e).2;omega
  have hne2:vf.ownBlock≠some g:=fun e=>by have:=(toks_own h.free e).2;omega
  have hgX:g < X.heap.size:=(Array.getElem?_eq_some_iff.1 hx).1
  have k0:Kp p vb vf X vb vf X:=Kp.refl
  have q0_0:X.cell? ⟨g,0,none⟩=some (.iface τ0 u0):=row_cell hx 0
  have q0_1:X.cell? ⟨g,1,none⟩=some (.iface τ1 u1):=row_cell hx 1
  go_wp2_with fail
  refine wp_loop_rounds 3 ?_
  rw [rounds_succ]
  go_wp2_with fail
  refine (IH L B D w0 x0 _ p _ _ Bd Fr m0 _ HV0.out HM0.out hs0 (by omega) (by omega)).mono ?_
  rintro e w1 ⟨vb1,vf1,rfl,kk1,hs1⟩
  have k1:=k0.trans kk1
  have HL1:Hid ((freeW l x0 Bd Fr).length≤Fr.length+m0):=freeW_len _ _ _ _ _ HM0.out
  have hx1:=(k1.block g hgX (by omega) hne1 hne2).trans hx
  have q1_0:w1.cell? ⟨g,0,none⟩=some (.iface τ0 u0):=row_cell hx1 0
  have q1_1:w1.cell? ⟨g,1,none⟩=some (.iface τ1 u1):=row_cell hx1 1
  clear kk1
  go_wp2_with fail
  rw [rounds_succ]
  go_wp2_with fail
  refine (IH L B D w0 x1 _ p _ _ Bd (freeW l x0 Bd Fr) m1 _ HV1.out HM1.out hs1 (by omega) (by have:=HL1.out;omega)).mono ?_
  rintro e w2 ⟨vb2,vf2,rfl,kk2,hs2⟩
  have k2:=k1.trans kk2
  have HL2:Hid ((freeW l x1 Bd (freeW l x0 Bd Fr)).length≤(freeW l x0 Bd Fr).length+m1):=freeW_len _ _ _ _ _ HM1.out
  have hx2:=(k2.block g hgX (by omega) hne1 hne2).trans hx
  have q2_0:w2.cell? ⟨g,0,none⟩=some (.iface τ0 u0):=row_cell hx2 0
  have q2_1:w2.cell? ⟨g,1,none⟩=some (.iface τ1 u1):=row_cell hx2 1
  clear kk2
  go_wp2_with fail
  rw [rounds_succ]
  go_wp2_with fail
  refine bodyPost_end (v:=.tuple #[]) (by simp [results,Tryz.results71,go_sem]) rfl ?_
  exact ⟨_,_,rfl,(Kp.of_below hXb).trans k2,hs2⟩
theorem parts_16 (s z:ByteArray) (nd n tk tn:Int) (a1:Option Addr) (l1 c1:Nat) (a2:Option Addr) (l2 c2:Nat) (τ0 τ1 τ2:TypeId) (u0 u1 u2:Value) (w:World):Calls Tryz.prog 172 #[.agg #[.int .i64 tk,.int .i64 tn,.slice a1 l1 c1,.iface τ0 u0]] w fun e w'=>∃ g,e=.returned (.slice (some ⟨g,0,none⟩) 1 1)∧Below w.heap.size w w'∧w.heap.size≤g∧w'.heap[g]?=some (.cells #[.iface τ0 u0] 52 (0,0)):=by
  go_enter Tryz.func172,Tryz.ntmps172
  go_wp2_with fail
  go_ret
  exact ⟨_,rfl,((Below.refl _ _).alloc (Nat.le_refl _) _).alloc (by simp) _,by omega,heap_new (by simp)⟩
set_option maxRecDepth 100000 in
set_option maxHeartbeats 1000000 in
theorem ga_16 (l:Nat) (IH:SaidGa l) (L B D:Nat) (w0:World) (s z:ByteArray) (nd n tk tn:Int) (a1:Option Addr) (l1 c1:Nat) (a2:Option Addr) (l2 c2:Nat) (τ0 τ1 τ2:TypeId) (u0 u1 u2:Value) (x0:Tm) (m0:Nat) (hv0:Fv L B w0 D l x0 (.iface τ0 u0)) (hm0:nodesM l x0=some m0) (p:Nat) (vb vf:Value) (Bd Fr:List (List UInt8)) (w:World) (h:FnSt p w vb vf Bd Fr) (h1:Bd.length+2 * l+2≤1000) (h2:Fr.length+1+m0≤1000) :
    Calls Tryz.prog 71 #[.pointer (some ⟨p,0,none⟩),.iface 133 (.agg #[.int .i64 tk,.int .i64 tn,.slice a1 l1 c1,.iface τ0 u0])] w fun e w'=>∃ vb' vf',e=.returned (.tuple #[])∧Kp p vb vf w vb' vf' w'∧FnSt p w' vb' vf' Bd (freeW l x0 Bd Fr):=by
  have as0:=fun (W:World) (v:Value)=>no_varForm W 133 v (by decide)
  have as1:=fun (W:World) (v:Value)=>no_fnForm W 133 v (by decide)
  have as2:=fun (W:World) (v:Value)=>no_letForm W 133 v (by decide)
  have as3:=fun (W:World) (v:Value)=>no_fixForm W 133 v (by decide)
  have as4:=fun (W:World) (v:Value)=>no_caseForm W 133 v (by decide)
  have as5:=fun (W:World) (v:Value)=>no_tryForm W 133 v (by decide)
  have hp:=h.lt
  have HV0:Hid (Fv L B w0 D l x0 (.iface τ0 u0)):=hv0
  have HM0:Hid (nodesM l x0=some m0):=hm0
  clear hv0 hm0
  go_enter Tryz.func71,Tryz.ntmps71
  go_wp2_with fail
  refine (parts_16 s z nd n tk tn a1 l1 c1 a2 l2 c2 τ0 τ1 τ2 u0 u1 u2 w).mono ?_
  rintro e X ⟨g,rfl,hXb,hgw,hx⟩
  have hs0:=h.below hXb
  have hne1:vb.ownBlock≠some g:=fun e=>by have:=(toks_own h.bound e).2;omega
  have hne2:vf.ownBlock≠some g:=fun e=>by have:=(toks_own h.free e).2;omega
  have hgX:g < X.heap.size:=(Array.getElem?_eq_some_iff.1 hx).1
  have k0:Kp p vb vf X vb vf X:=Kp.refl
  have q0_0:X.cell? ⟨g,0,none⟩=some (.iface τ0 u0):=row_cell hx 0
  go_wp2_with fail
  refine wp_loop_rounds 2 ?_
  rw [rounds_succ]
  go_wp2_with fail
  refine (IH L B D w0 x0 _ p _ _ Bd Fr m0 _ HV0.out HM0.out hs0 (by omega) (by omega)).mono ?_
  rintro e w1 ⟨vb1,vf1,rfl,kk1,hs1⟩
  have k1:=k0.trans kk1
  have HL1:Hid ((freeW l x0 Bd Fr).length≤Fr.length+m0):=freeW_len _ _ _ _ _ HM0.out
  have hx1:=(k1.block g hgX (by omega) hne1 hne2).trans hx
  have q1_0:w1.cell? ⟨g,0,none⟩=some (.iface τ0 u0):=row_cell hx1 0
  clear kk1
  go_wp2_with fail
  rw [rounds_succ]
  go_wp2_with fail
  refine bodyPost_end (v:=.tuple #[]) (by simp [results,Tryz.results71,go_sem]) rfl ?_
  exact ⟨_,_,rfl,(Kp.of_below hXb).trans k1,hs1⟩
end Go.Proofs.YtcepgedbmffkdaaGreat
