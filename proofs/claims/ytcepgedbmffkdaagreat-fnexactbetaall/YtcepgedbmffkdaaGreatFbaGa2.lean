/-
  Free names: 'gather' at the kinds that bind names, and at a name.
-/
import Derived.Test.YtcepgedbmffkdaaGreatFbaZ8
namespace Go.Proofs.YtcepgedbmffkdaaGreat
open Go.RowKit
set_option linter.unusedVariables false
set_option linter.unusedSimpArgs false
theorem one_name {w:World} {g:Nat} (hg:g=w.heap.size) (s:ByteArray):∀ j u,([bs s].map tk)[j]?=some u→(w.alloc (.cells #[.string s] 9)).cell? ⟨g,0+j,none⟩=some u:=by
  intro j u hu
  have hj:j=0:=by
    have:=(List.getElem?_eq_some_iff.1 hu).1
    simpa using this
  subst hj
  have e:tk (bs s)=u:=by simpa using hu
  rw [← e,tk_bs,row_cell (heap_new hg)]
  rfl
theorem two_names {w:World} {g:Nat} (hg:g=w.heap.size) (s z:ByteArray):∀ j u,([bs s,bs z].map tk)[j]?=some u→(w.alloc (.cells #[.string s,.string z] 9)).cell? ⟨g,0+j,none⟩=some u:=by
  intro j u hu
  have hj:j < 2:=by
    have:=(List.getElem?_eq_some_iff.1 hu).1
    simpa using this
  have hj2:j=0∨j=1:=by omega
  rcases hj2 with rfl | rfl
  · have e:tk (bs s)=u:=by simpa using hu
    rw [← e,tk_bs,row_cell (heap_new hg)]
    rfl
  · have e:tk (bs z)=u:=by simpa using hu
    rw [← e,tk_bs,row_cell (heap_new hg)]
    rfl
set_option maxRecDepth 100000 in
set_option maxHeartbeats 1000000 in
theorem ga_3 (l:Nat) (IH:SaidGa l) (L B D:Nat) (w0:World) (s z:ByteArray) (nd n tk tn:Int) (a1:Option Addr) (l1 c1:Nat) (a2:Option Addr) (l2 c2:Nat) (τ0 τ1 τ2:TypeId) (u0 u1 u2:Value)  (p:Nat) (vb vf:Value) (Bd Fr:List (List UInt8)) (w:World) (h:FnSt p w vb vf Bd Fr) (h1:Bd.length+2 * l+2≤1000) (h2:Fr.length+1≤1000) :
    Calls Tryz.prog 71 #[.pointer (some ⟨p,0,none⟩),.iface 108 (.agg #[.string s,.slice a2 l2 c2])] w fun e w'=>∃ vb' vf',e=.returned (.tuple #[])∧Kp p vb vf w vb' vf' w'∧FnSt p w' vb' vf' Bd (meetW Bd Fr (bs s)):=by
  have as0:=fun (W:World) (v:Value)=>is_varForm W v
  have hp:=h.lt
  obtain ⟨X,hX⟩:∃ X,X=w.alloc (.cells #[.string s,.slice a2 l2 c2] 108):=⟨_,rfl⟩
  have hXb:Below w.heap.size w X:=by rw [hX];exact (Below.refl _ _).alloc (Nat.le_refl _) _
  have hXs:X.heap.size=w.heap.size+1:=by rw [hX];simp
  have hx:X.heap[w.heap.size]?=some (.cells #[.string s,.slice a2 l2 c2] 108 (0,0)):=by rw [hX];exact heap_new rfl
  have hne1:vb.ownBlock≠some w.heap.size:=fun e=>by have:=(toks_own h.bound e).2;omega
  have hne2:vf.ownBlock≠some w.heap.size:=fun e=>by have:=(toks_own h.free e).2;omega
  have hs0:=h.below hXb
  have k0:Kp p vb vf X vb vf X:=Kp.refl
  have HX:Hid (X=_):=hX
  clear hX
  have HXS:Hid (X.heap.size=w.heap.size+1):=hXs
  clear hXs
  go_enter Tryz.func71,Tryz.ntmps71
  go_wp2_with fail
  rw [← HX.out]
  refine (meet_any p s _ _ _ Bd Fr hs0 (by omega) (by omega)).mono ?_
  rintro e w1 ⟨vb1,vf1,rfl,kk1,hs1⟩
  have k1:=k0.trans kk1
  clear kk1
  go_wp2_with fail
  refine bodyPost_end (v:=.tuple #[]) (by simp [results,Tryz.results71,go_sem]) rfl ?_
  exact ⟨_,_,rfl,(Kp.of_below hXb).trans k1,hs1⟩
set_option maxRecDepth 100000 in
set_option maxHeartbeats 1000000 in
theorem ga_4 (l:Nat) (IH:SaidGa l) (L B D:Nat) (w0:World) (s z:ByteArray) (nd n tk tn:Int) (a1:Option Addr) (l1 c1:Nat) (a2:Option Addr) (l2 c2:Nat) (τ0 τ1 τ2:TypeId) (u0 u1 u2:Value) (x0:Tm) (m0:Nat) (hv0:Fv L B w0 D l x0 (.iface τ0 u0)) (hm0:nodesM l x0=some m0) (p:Nat) (vb vf:Value) (Bd Fr:List (List UInt8)) (w:World) (h:FnSt p w vb vf Bd Fr) (h1:Bd.length+2 * l+2≤1000) (h2:Fr.length+1+m0≤1000) :
    Calls Tryz.prog 71 #[.pointer (some ⟨p,0,none⟩),.iface 110 (.agg #[.int .i64 nd,.string s,.int .i64 tk,.int .i64 tn,.slice a1 l1 c1,.iface τ0 u0])] w fun e w'=>∃ vb' vf',e=.returned (.tuple #[])∧Kp p vb vf w vb' vf' w'∧FnSt p w' vb' vf' Bd (freeW l x0 (Bd ++ [bs s]) Fr):=by
  have as0:=fun (W:World) (v:Value)=>no_varForm W 110 v (by decide)
  have as1:=fun (W:World) (v:Value)=>is_fnForm W v
  have hp:=h.lt
  obtain ⟨X,hX⟩:∃ X,X=w.alloc (.cells #[.int .i64 nd,.string s,.int .i64 tk,.int .i64 tn,.slice a1 l1 c1,.iface τ0 u0] 110):=⟨_,rfl⟩
  have hXb:Below w.heap.size w X:=by rw [hX];exact (Below.refl _ _).alloc (Nat.le_refl _) _
  have hXs:X.heap.size=w.heap.size+1:=by rw [hX];simp
  have hx:X.heap[w.heap.size]?=some (.cells #[.int .i64 nd,.string s,.int .i64 tk,.int .i64 tn,.slice a1 l1 c1,.iface τ0 u0] 110 (0,0)):=by rw [hX];exact heap_new rfl
  have hne1:vb.ownBlock≠some w.heap.size:=fun e=>by have:=(toks_own h.bound e).2;omega
  have hne2:vf.ownBlock≠some w.heap.size:=fun e=>by have:=(toks_own h.free e).2;omega
  have hs0:=h.below hXb
  have k0:Kp p vb vf X vb vf X:=Kp.refl
  have HX:Hid (X=_):=hX
  clear hX
  have HV0:Hid (Fv L B w0 D l x0 (.iface τ0 u0)):=hv0
  have HM0:Hid (nodesM l x0=some m0):=hm0
  clear hv0 hm0
  have HXS:Hid (X.heap.size=w.heap.size+1):=hXs
  clear hXs
  go_enter Tryz.func71,Tryz.ntmps71
  go_wp2_with fail
  rw [← HX.out]
  have hA0:Below X.heap.size X (X.alloc (.cells #[.string s] 9)):=(Below.refl _ _).alloc (Nat.le_refl _) _
  refine (gb_any l IH L B D w0 x0 _ p _ _ Bd Fr [bs s] m0 (w.heap.size+1) 1 _ HV0.out HM0.out (hs0.below hA0) (by omega) (by omega) (by simp) (by simp) (one_name HXS.out.symm s)).mono ?_
  rintro e w1 ⟨vb1,vf1,rfl,kk1,hs1⟩
  have k1:=(k0.trans (Kp.of_below hA0)).trans kk1
  clear kk1
  go_wp2_with fail
  refine bodyPost_end (v:=.tuple #[]) (by simp [results,Tryz.results71,go_sem]) rfl ?_
  exact ⟨_,_,rfl,(Kp.of_below hXb).trans k1,hs1⟩
set_option maxRecDepth 100000 in
set_option maxHeartbeats 1000000 in
theorem ga_6 (l:Nat) (IH:SaidGa l) (L B D:Nat) (w0:World) (s z:ByteArray) (nd n tk tn:Int) (a1:Option Addr) (l1 c1:Nat) (a2:Option Addr) (l2 c2:Nat) (τ0 τ1 τ2:TypeId) (u0 u1 u2:Value) (x0:Tm) (m0:Nat) (hv0:Fv L B w0 D l x0 (.iface τ0 u0)) (hm0:nodesM l x0=some m0) (x1:Tm) (m1:Nat) (hv1:Fv L B w0 D l x1 (.iface τ1 u1)) (hm1:nodesM l x1=some m1) (p:Nat) (vb vf:Value) (Bd Fr:List (List UInt8)) (w:World) (h:FnSt p w vb vf Bd Fr) (h1:Bd.length+2 * l+2≤1000) (h2:Fr.length+1+m0+m1≤1000) :
    Calls Tryz.prog 71 #[.pointer (some ⟨p,0,none⟩),.iface 114 (.agg #[.string s,.int .i64 n,.iface τ0 u0,.iface τ1 u1])] w fun e w'=>∃ vb' vf',e=.returned (.tuple #[])∧Kp p vb vf w vb' vf' w'∧FnSt p w' vb' vf' Bd (freeW l x1 (Bd ++ [bs s]) (freeW l x0 Bd Fr)):=by
  have as0:=fun (W:World) (v:Value)=>no_varForm W 114 v (by decide)
  have as1:=fun (W:World) (v:Value)=>no_fnForm W 114 v (by decide)
  have as2:=fun (W:World) (v:Value)=>is_letForm W v
  have hp:=h.lt
  obtain ⟨X,hX⟩:∃ X,X=w.alloc (.cells #[.string s,.int .i64 n,.iface τ0 u0,.iface τ1 u1] 114):=⟨_,rfl⟩
  have hXb:Below w.heap.size w X:=by rw [hX];exact (Below.refl _ _).alloc (Nat.le_refl _) _
  have hXs:X.heap.size=w.heap.size+1:=by rw [hX];simp
  have hx:X.heap[w.heap.size]?=some (.cells #[.string s,.int .i64 n,.iface τ0 u0,.iface τ1 u1] 114 (0,0)):=by rw [hX];exact heap_new rfl
  have hne1:vb.ownBlock≠some w.heap.size:=fun e=>by have:=(toks_own h.bound e).2;omega
  have hne2:vf.ownBlock≠some w.heap.size:=fun e=>by have:=(toks_own h.free e).2;omega
  have hs0:=h.below hXb
  have k0:Kp p vb vf X vb vf X:=Kp.refl
  have HX:Hid (X=_):=hX
  clear hX
  have HV0:Hid (Fv L B w0 D l x0 (.iface τ0 u0)):=hv0
  have HM0:Hid (nodesM l x0=some m0):=hm0
  clear hv0 hm0
  have HV1:Hid (Fv L B w0 D l x1 (.iface τ1 u1)):=hv1
  have HM1:Hid (nodesM l x1=some m1):=hm1
  clear hv1 hm1
  have HXS:Hid (X.heap.size=w.heap.size+1):=hXs
  clear hXs
  go_enter Tryz.func71,Tryz.ntmps71
  go_wp2_with fail
  rw [← HX.out]
  refine (IH L B D w0 x0 _ p _ _ Bd Fr m0 _ HV0.out HM0.out hs0 (by omega) (by omega)).mono ?_
  rintro e w1 ⟨vb1,vf1,rfl,kk1,hs1⟩
  have k1:=k0.trans kk1
  have hx1:=(k1.block w.heap.size (by have:=HXS.out;omega) (by omega) hne1 hne2).trans hx
  have q1_0:w1.cell? ⟨w.heap.size,0,none⟩=some (.string s):=row_cell hx1 0
  have q1_1:w1.cell? ⟨w.heap.size,1,none⟩=some (.int .i64 n):=row_cell hx1 1
  have q1_2:w1.cell? ⟨w.heap.size,2,none⟩=some (.iface τ0 u0):=row_cell hx1 2
  have q1_3:w1.cell? ⟨w.heap.size,3,none⟩=some (.iface τ1 u1):=row_cell hx1 3
  have HL1:Hid ((freeW l x0 Bd Fr).length≤Fr.length+m0):=freeW_len _ _ _ _ _ HM0.out
  clear kk1
  go_wp2_with fail
  have hA1:Below w1.heap.size w1 (w1.alloc (.cells #[.string s] 9)):=(Below.refl _ _).alloc (Nat.le_refl _) _
  refine (gb_any l IH L B D w0 x1 _ p _ _ Bd (freeW l x0 Bd Fr) [bs s] m1 w1.heap.size 1 _ HV1.out HM1.out (hs1.below hA1) (by omega) (by have:=HL1.out;omega) (by simp) (by simp) (one_name rfl s)).mono ?_
  rintro e w2 ⟨vb2,vf2,rfl,kk2,hs2⟩
  have k2:=(k1.trans (Kp.of_below hA1)).trans kk2
  clear kk2
  go_wp2_with fail
  refine bodyPost_end (v:=.tuple #[]) (by simp [results,Tryz.results71,go_sem]) rfl ?_
  exact ⟨_,_,rfl,(Kp.of_below hXb).trans k2,hs2⟩
set_option maxRecDepth 100000 in
set_option maxHeartbeats 1000000 in
theorem ga_7 (l:Nat) (IH:SaidGa l) (L B D:Nat) (w0:World) (s z:ByteArray) (nd n tk tn:Int) (a1:Option Addr) (l1 c1:Nat) (a2:Option Addr) (l2 c2:Nat) (τ0 τ1 τ2:TypeId) (u0 u1 u2:Value) (x0:Tm) (m0:Nat) (hv0:Fv L B w0 D l x0 (.iface τ0 u0)) (hm0:nodesM l x0=some m0) (x1:Tm) (m1:Nat) (hv1:Fv L B w0 D l x1 (.iface τ1 u1)) (hm1:nodesM l x1=some m1) (p:Nat) (vb vf:Value) (Bd Fr:List (List UInt8)) (w:World) (h:FnSt p w vb vf Bd Fr) (h1:Bd.length+2 * l+2≤1000) (h2:Fr.length+1+m0+m1≤1000) :
    Calls Tryz.prog 71 #[.pointer (some ⟨p,0,none⟩),.iface 116 (.agg #[.string s,.int .i64 n,.int .i64 tk,.int .i64 tn,.slice a1 l1 c1,.iface τ0 u0,.iface τ1 u1])] w fun e w'=>∃ vb' vf',e=.returned (.tuple #[])∧Kp p vb vf w vb' vf' w'∧FnSt p w' vb' vf' Bd (freeW l x1 (Bd ++ [bs s]) (freeW l x0 (Bd ++ [bs s]) Fr)):=by
  have as0:=fun (W:World) (v:Value)=>no_varForm W 116 v (by decide)
  have as1:=fun (W:World) (v:Value)=>no_fnForm W 116 v (by decide)
  have as2:=fun (W:World) (v:Value)=>no_letForm W 116 v (by decide)
  have as3:=fun (W:World) (v:Value)=>is_fixForm W v
  have hp:=h.lt
  obtain ⟨X,hX⟩:∃ X,X=w.alloc (.cells #[.string s,.int .i64 n,.int .i64 tk,.int .i64 tn,.slice a1 l1 c1,.iface τ0 u0,.iface τ1 u1] 116):=⟨_,rfl⟩
  have hXb:Below w.heap.size w X:=by rw [hX];exact (Below.refl _ _).alloc (Nat.le_refl _) _
  have hXs:X.heap.size=w.heap.size+1:=by rw [hX];simp
  have hx:X.heap[w.heap.size]?=some (.cells #[.string s,.int .i64 n,.int .i64 tk,.int .i64 tn,.slice a1 l1 c1,.iface τ0 u0,.iface τ1 u1] 116 (0,0)):=by rw [hX];exact heap_new rfl
  have hne1:vb.ownBlock≠some w.heap.size:=fun e=>by have:=(toks_own h.bound e).2;omega
  have hne2:vf.ownBlock≠some w.heap.size:=fun e=>by have:=(toks_own h.free e).2;omega
  have hs0:=h.below hXb
  have k0:Kp p vb vf X vb vf X:=Kp.refl
  have HX:Hid (X=_):=hX
  clear hX
  have HV0:Hid (Fv L B w0 D l x0 (.iface τ0 u0)):=hv0
  have HM0:Hid (nodesM l x0=some m0):=hm0
  clear hv0 hm0
  have HV1:Hid (Fv L B w0 D l x1 (.iface τ1 u1)):=hv1
  have HM1:Hid (nodesM l x1=some m1):=hm1
  clear hv1 hm1
  have HXS:Hid (X.heap.size=w.heap.size+1):=hXs
  clear hXs
  go_enter Tryz.func71,Tryz.ntmps71
  go_wp2_with fail
  rw [← HX.out]
  have hA0:Below X.heap.size X (X.alloc (.cells #[.string s] 9)):=(Below.refl _ _).alloc (Nat.le_refl _) _
  refine (gb_any l IH L B D w0 x0 _ p _ _ Bd Fr [bs s] m0 (w.heap.size+1) 1 _ HV0.out HM0.out (hs0.below hA0) (by omega) (by omega) (by simp) (by simp) (one_name HXS.out.symm s)).mono ?_
  rintro e w1 ⟨vb1,vf1,rfl,kk1,hs1⟩
  have k1:=(k0.trans (Kp.of_below hA0)).trans kk1
  have hx1:=(k1.block w.heap.size (by have:=HXS.out;omega) (by omega) hne1 hne2).trans hx
  have q1_0:w1.cell? ⟨w.heap.size,0,none⟩=some (.string s):=row_cell hx1 0
  have q1_1:w1.cell? ⟨w.heap.size,1,none⟩=some (.int .i64 n):=row_cell hx1 1
  have q1_2:w1.cell? ⟨w.heap.size,2,none⟩=some (.int .i64 tk):=row_cell hx1 2
  have q1_3:w1.cell? ⟨w.heap.size,3,none⟩=some (.int .i64 tn):=row_cell hx1 3
  have q1_4:w1.cell? ⟨w.heap.size,4,none⟩=some (.slice a1 l1 c1):=row_cell hx1 4
  have q1_5:w1.cell? ⟨w.heap.size,5,none⟩=some (.iface τ0 u0):=row_cell hx1 5
  have q1_6:w1.cell? ⟨w.heap.size,6,none⟩=some (.iface τ1 u1):=row_cell hx1 6
  have HL1:Hid ((freeW l x0 (Bd ++ [bs s]) Fr).length≤Fr.length+m0):=freeW_len _ _ _ _ _ HM0.out
  clear kk1
  go_wp2_with fail
  have hA1:Below w1.heap.size w1 (w1.alloc (.cells #[.string s] 9)):=(Below.refl _ _).alloc (Nat.le_refl _) _
  refine (gb_any l IH L B D w0 x1 _ p _ _ Bd (freeW l x0 (Bd ++ [bs s]) Fr) [bs s] m1 w1.heap.size 1 _ HV1.out HM1.out (hs1.below hA1) (by omega) (by have:=HL1.out;omega) (by simp) (by simp) (one_name rfl s)).mono ?_
  rintro e w2 ⟨vb2,vf2,rfl,kk2,hs2⟩
  have k2:=(k1.trans (Kp.of_below hA1)).trans kk2
  clear kk2
  go_wp2_with fail
  refine bodyPost_end (v:=.tuple #[]) (by simp [results,Tryz.results71,go_sem]) rfl ?_
  exact ⟨_,_,rfl,(Kp.of_below hXb).trans k2,hs2⟩
set_option maxRecDepth 100000 in
set_option maxHeartbeats 1000000 in
theorem ga_14 (l:Nat) (IH:SaidGa l) (L B D:Nat) (w0:World) (s z:ByteArray) (nd n tk tn:Int) (a1:Option Addr) (l1 c1:Nat) (a2:Option Addr) (l2 c2:Nat) (τ0 τ1 τ2:TypeId) (u0 u1 u2:Value) (x0:Tm) (m0:Nat) (hv0:Fv L B w0 D l x0 (.iface τ0 u0)) (hm0:nodesM l x0=some m0) (x1:Tm) (m1:Nat) (hv1:Fv L B w0 D l x1 (.iface τ1 u1)) (hm1:nodesM l x1=some m1) (x2:Tm) (m2:Nat) (hv2:Fv L B w0 D l x2 (.iface τ2 u2)) (hm2:nodesM l x2=some m2) (p:Nat) (vb vf:Value) (Bd Fr:List (List UInt8)) (w:World) (h:FnSt p w vb vf Bd Fr) (h1:Bd.length+2 * l+2≤1000) (h2:Fr.length+1+m0+m1+m2≤1000) :
    Calls Tryz.prog 71 #[.pointer (some ⟨p,0,none⟩),.iface 129 (.agg #[.string s,.string z,.iface τ0 u0,.iface τ1 u1,.iface τ2 u2])] w fun e w'=>∃ vb' vf',e=.returned (.tuple #[])∧Kp p vb vf w vb' vf' w'∧FnSt p w' vb' vf' Bd (freeW l x2 (Bd ++ [bs s,bs z]) (freeW l x1 Bd (freeW l x0 Bd Fr))):=by
  have as0:=fun (W:World) (v:Value)=>no_varForm W 129 v (by decide)
  have as1:=fun (W:World) (v:Value)=>no_fnForm W 129 v (by decide)
  have as2:=fun (W:World) (v:Value)=>no_letForm W 129 v (by decide)
  have as3:=fun (W:World) (v:Value)=>no_fixForm W 129 v (by decide)
  have as4:=fun (W:World) (v:Value)=>is_caseForm W v
  have hp:=h.lt
  obtain ⟨X,hX⟩:∃ X,X=w.alloc (.cells #[.string s,.string z,.iface τ0 u0,.iface τ1 u1,.iface τ2 u2] 129):=⟨_,rfl⟩
  have hXb:Below w.heap.size w X:=by rw [hX];exact (Below.refl _ _).alloc (Nat.le_refl _) _
  have hXs:X.heap.size=w.heap.size+1:=by rw [hX];simp
  have hx:X.heap[w.heap.size]?=some (.cells #[.string s,.string z,.iface τ0 u0,.iface τ1 u1,.iface τ2 u2] 129 (0,0)):=by rw [hX];exact heap_new rfl
  have hne1:vb.ownBlock≠some w.heap.size:=fun e=>by have:=(toks_own h.bound e).2;omega
  have hne2:vf.ownBlock≠some w.heap.size:=fun e=>by have:=(toks_own h.free e).2;omega
  have hs0:=h.below hXb
  have k0:Kp p vb vf X vb vf X:=Kp.refl
  have HX:Hid (X=_):=hX
  clear hX
  have HV0:Hid (Fv L B w0 D l x0 (.iface τ0 u0)):=hv0
  have HM0:Hid (nodesM l x0=some m0):=hm0
  clear hv0 hm0
  have HV1:Hid (Fv L B w0 D l x1 (.iface τ1 u1)):=hv1
  have HM1:Hid (nodesM l x1=some m1):=hm1
  clear hv1 hm1
  have HV2:Hid (Fv L B w0 D l x2 (.iface τ2 u2)):=hv2
  have HM2:Hid (nodesM l x2=some m2):=hm2
  clear hv2 hm2
  have HXS:Hid (X.heap.size=w.heap.size+1):=hXs
  clear hXs
  go_enter Tryz.func71,Tryz.ntmps71
  go_wp2_with fail
  rw [← HX.out]
  refine (IH L B D w0 x0 _ p _ _ Bd Fr m0 _ HV0.out HM0.out hs0 (by omega) (by omega)).mono ?_
  rintro e w1 ⟨vb1,vf1,rfl,kk1,hs1⟩
  have k1:=k0.trans kk1
  have hx1:=(k1.block w.heap.size (by have:=HXS.out;omega) (by omega) hne1 hne2).trans hx
  have q1_0:w1.cell? ⟨w.heap.size,0,none⟩=some (.string s):=row_cell hx1 0
  have q1_1:w1.cell? ⟨w.heap.size,1,none⟩=some (.string z):=row_cell hx1 1
  have q1_2:w1.cell? ⟨w.heap.size,2,none⟩=some (.iface τ0 u0):=row_cell hx1 2
  have q1_3:w1.cell? ⟨w.heap.size,3,none⟩=some (.iface τ1 u1):=row_cell hx1 3
  have q1_4:w1.cell? ⟨w.heap.size,4,none⟩=some (.iface τ2 u2):=row_cell hx1 4
  have HL1:Hid ((freeW l x0 Bd Fr).length≤Fr.length+m0):=freeW_len _ _ _ _ _ HM0.out
  clear kk1
  go_wp2_with fail
  refine (IH L B D w0 x1 _ p _ _ Bd (freeW l x0 Bd Fr) m1 _ HV1.out HM1.out hs1 (by omega) (by have:=HL1.out;omega)).mono ?_
  rintro e w2 ⟨vb2,vf2,rfl,kk2,hs2⟩
  have k2:=k1.trans kk2
  have hx2:=(k2.block w.heap.size (by have:=HXS.out;omega) (by omega) hne1 hne2).trans hx
  have q2_0:w2.cell? ⟨w.heap.size,0,none⟩=some (.string s):=row_cell hx2 0
  have q2_1:w2.cell? ⟨w.heap.size,1,none⟩=some (.string z):=row_cell hx2 1
  have q2_2:w2.cell? ⟨w.heap.size,2,none⟩=some (.iface τ0 u0):=row_cell hx2 2
  have q2_3:w2.cell? ⟨w.heap.size,3,none⟩=some (.iface τ1 u1):=row_cell hx2 3
  have q2_4:w2.cell? ⟨w.heap.size,4,none⟩=some (.iface τ2 u2):=row_cell hx2 4
  have HL2:Hid ((freeW l x1 Bd (freeW l x0 Bd Fr)).length≤(freeW l x0 Bd Fr).length+m1):=freeW_len _ _ _ _ _ HM1.out
  clear kk2
  go_wp2_with fail
  have hA2:Below w2.heap.size w2 (w2.alloc (.cells #[.string s,.string z] 9)):=(Below.refl _ _).alloc (Nat.le_refl _) _
  refine (gb_any l IH L B D w0 x2 _ p _ _ Bd (freeW l x1 Bd (freeW l x0 Bd Fr)) [bs s,bs z] m2 w2.heap.size 2 _ HV2.out HM2.out (hs2.below hA2) (by omega) (by have:=HL1.out;have:=HL2.out;omega) (by simp) (by simp) (two_names rfl s z)).mono ?_
  rintro e w3 ⟨vb3,vf3,rfl,kk3,hs3⟩
  have k3:=(k2.trans (Kp.of_below hA2)).trans kk3
  clear kk3
  go_wp2_with fail
  refine bodyPost_end (v:=.tuple #[]) (by simp [results,Tryz.results71,go_sem]) rfl ?_
  exact ⟨_,_,rfl,(Kp.of_below hXb).trans k3,hs3⟩
set_option maxRecDepth 100000 in
set_option maxHeartbeats 1000000 in
theorem ga_17 (l:Nat) (IH:SaidGa l) (L B D:Nat) (w0:World) (s z:ByteArray) (nd n tk tn:Int) (a1:Option Addr) (l1 c1:Nat) (a2:Option Addr) (l2 c2:Nat) (τ0 τ1 τ2:TypeId) (u0 u1 u2:Value) (x0:Tm) (m0:Nat) (hv0:Fv L B w0 D l x0 (.iface τ0 u0)) (hm0:nodesM l x0=some m0) (x1:Tm) (m1:Nat) (hv1:Fv L B w0 D l x1 (.iface τ1 u1)) (hm1:nodesM l x1=some m1) (p:Nat) (vb vf:Value) (Bd Fr:List (List UInt8)) (w:World) (h:FnSt p w vb vf Bd Fr) (h1:Bd.length+2 * l+2≤1000) (h2:Fr.length+1+m0+m1≤1000) :
    Calls Tryz.prog 71 #[.pointer (some ⟨p,0,none⟩),.iface 135 (.agg #[.string s,.iface τ0 u0,.iface τ1 u1])] w fun e w'=>∃ vb' vf',e=.returned (.tuple #[])∧Kp p vb vf w vb' vf' w'∧FnSt p w' vb' vf' Bd (freeW l x1 (Bd ++ [bs s]) (freeW l x0 Bd Fr)):=by
  have as0:=fun (W:World) (v:Value)=>no_varForm W 135 v (by decide)
  have as1:=fun (W:World) (v:Value)=>no_fnForm W 135 v (by decide)
  have as2:=fun (W:World) (v:Value)=>no_letForm W 135 v (by decide)
  have as3:=fun (W:World) (v:Value)=>no_fixForm W 135 v (by decide)
  have as4:=fun (W:World) (v:Value)=>no_caseForm W 135 v (by decide)
  have as5:=fun (W:World) (v:Value)=>is_tryForm W v
  have hp:=h.lt
  obtain ⟨X,hX⟩:∃ X,X=w.alloc (.cells #[.string s,.iface τ0 u0,.iface τ1 u1] 135):=⟨_,rfl⟩
  have hXb:Below w.heap.size w X:=by rw [hX];exact (Below.refl _ _).alloc (Nat.le_refl _) _
  have hXs:X.heap.size=w.heap.size+1:=by rw [hX];simp
  have hx:X.heap[w.heap.size]?=some (.cells #[.string s,.iface τ0 u0,.iface τ1 u1] 135 (0,0)):=by rw [hX];exact heap_new rfl
  have hne1:vb.ownBlock≠some w.heap.size:=fun e=>by have:=(toks_own h.bound e).2;omega
  have hne2:vf.ownBlock≠some w.heap.size:=fun e=>by have:=(toks_own h.free e).2;omega
  have hs0:=h.below hXb
  have k0:Kp p vb vf X vb vf X:=Kp.refl
  have HX:Hid (X=_):=hX
  clear hX
  have HV0:Hid (Fv L B w0 D l x0 (.iface τ0 u0)):=hv0
  have HM0:Hid (nodesM l x0=some m0):=hm0
  clear hv0 hm0
  have HV1:Hid (Fv L B w0 D l x1 (.iface τ1 u1)):=hv1
  have HM1:Hid (nodesM l x1=some m1):=hm1
  clear hv1 hm1
  have HXS:Hid (X.heap.size=w.heap.size+1):=hXs
  clear hXs
  go_enter Tryz.func71,Tryz.ntmps71
  go_wp2_with fail
  rw [← HX.out]
  refine (IH L B D w0 x0 _ p _ _ Bd Fr m0 _ HV0.out HM0.out hs0 (by omega) (by omega)).mono ?_
  rintro e w1 ⟨vb1,vf1,rfl,kk1,hs1⟩
  have k1:=k0.trans kk1
  have hx1:=(k1.block w.heap.size (by have:=HXS.out;omega) (by omega) hne1 hne2).trans hx
  have q1_0:w1.cell? ⟨w.heap.size,0,none⟩=some (.string s):=row_cell hx1 0
  have q1_1:w1.cell? ⟨w.heap.size,1,none⟩=some (.iface τ0 u0):=row_cell hx1 1
  have q1_2:w1.cell? ⟨w.heap.size,2,none⟩=some (.iface τ1 u1):=row_cell hx1 2
  have HL1:Hid ((freeW l x0 Bd Fr).length≤Fr.length+m0):=freeW_len _ _ _ _ _ HM0.out
  clear kk1
  go_wp2_with fail
  have hA1:Below w1.heap.size w1 (w1.alloc (.cells #[.string s] 9)):=(Below.refl _ _).alloc (Nat.le_refl _) _
  refine (gb_any l IH L B D w0 x1 _ p _ _ Bd (freeW l x0 Bd Fr) [bs s] m1 w1.heap.size 1 _ HV1.out HM1.out (hs1.below hA1) (by omega) (by have:=HL1.out;omega) (by simp) (by simp) (one_name rfl s)).mono ?_
  rintro e w2 ⟨vb2,vf2,rfl,kk2,hs2⟩
  have k2:=(k1.trans (Kp.of_below hA1)).trans kk2
  clear kk2
  go_wp2_with fail
  refine bodyPost_end (v:=.tuple #[]) (by simp [results,Tryz.results71,go_sem]) rfl ?_
  exact ⟨_,_,rfl,(Kp.of_below hXb).trans k2,hs2⟩
end Go.Proofs.YtcepgedbmffkdaaGreat
