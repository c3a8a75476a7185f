/-
  Free names: what 'gather' comes to at every form.
-/
import Derived.Test.YtcepgedbmffkdaaGreatFbaGa2
import Derived.Test.YtcepgedbmffkdaaGreatFbaGa3
namespace Go.Proofs.YtcepgedbmffkdaaGreat
open Go.RowKit
set_option linter.unusedVariables false
set_option linter.unusedSimpArgs false
theorem list_0 {α:Type} (l:List α) (h:l.length=0):l=[]:=List.length_eq_zero_iff.1 h
theorem list_1 {α:Type} (l:List α) (h:l.length=1):l=[l[0]]:=by
  match l,h with
  | [a],_=>rfl
theorem list_2 {α:Type} (l:List α) (h:l.length=2):l=[l[0],l[1]]:=by
  match l,h with
  | [a,b],_=>rfl
theorem list_3 {α:Type} (l:List α) (h:l.length=3):l=[l[0],l[1],l[2]]:=by
  match l,h with
  | [a,b,c],_=>rfl
theorem nodes_0 (g:Tm→Option Nat) {b:Nat} (h:nodesG g []=some b):b=0:=by simp [nodesG] at h;exact h.symm
theorem nodes_1 (g:Tm→Option Nat) {x0:Tm} {m0 b:Nat} (h0:g x0=some m0) (h:nodesG g [x0]=some b):b=m0:=by simp [nodesG,h0] at h;omega
theorem nodes_2 (g:Tm→Option Nat) {x0 x1:Tm} {m0 m1 b:Nat} (h0:g x0=some m0) (h1:g x1=some m1) (h:nodesG g [x0,x1]=some b):b=m0+m1:=by simp [nodesG,h0,h1] at h;omega
theorem nodes_3 (g:Tm→Option Nat) {x0 x1 x2:Tm} {m0 m1 m2 b:Nat} (h0:g x0=some m0) (h1:g x1=some m1) (h2:g x2=some m2) (h:nodesG g [x0,x1,x2]=some b):b=m0+m1+m2:=by simp [nodesG,h0,h1,h2] at h;omega
theorem ga_zero:SaidGa 0:=by
  intro L B D w0 t v p vb vf Bd Fr m w hv
  exact hv.elim
set_option maxHeartbeats 4000000 in
theorem ga_succ (l:Nat) (IH:SaidGa l):SaidGa (l+1):=by
  intro L B D w0 t v p vb vf Bd Fr m w hv hm h h1 h2
  obtain ⟨nd,a1,l1,c1,a2,l2,c2,q,_,_,hq,rfl⟩:=hv
  obtain ⟨hn,hparts⟩:=nodesM_inv hm
  obtain ⟨hk1,hk2,hlen⟩:=nodeM_kinds hn
  have hG:∃ b,nodesG (nodesM l) t.A=some b∧m=1+b:=by
    simp only [nodesM,hn,if_true] at hm
    cases hz:nodesG (nodesM l) t.A with
    | none=>simp [hz] at hm
    | some b=>simp [hz] at hm;exact ⟨b,rfl,hm.symm⟩
  obtain ⟨b,hb,rfl⟩:=hG
  have hK:t.K=1∨t.K=2∨t.K=3∨t.K=4∨t.K=5∨t.K=6∨t.K=7∨t.K=8∨t.K=9∨t.K=10∨t.K=11∨t.K=12∨t.K=13∨t.K=14∨t.K=15∨t.K=16∨t.K=17:=by omega
  rcases hK with hK | hK | hK | hK | hK | hK | hK | hK | hK | hK | hK | hK | hK | hK | hK | hK | hK
  · have hl0:(t.A.length:Int)=0:=by rw [hlen,hK];rfl
    have hl:t.A.length=0:=by omega
    have eA:=list_0 t.A hl
    have hb2:nodesG (nodesM l) []=some b:=by rw [← eA];exact hb
    have hbs:=nodes_0 (nodesM l)  hb2
    have eR:freeW (l+1) t Bd Fr=Fr:=by
      show freeF (freeW l) t.K (bs t.S) (bs t.Z) 0 t.A Bd (if t.K=3 then meetW Bd Fr (bs t.S) else Fr)=_
      rw [hK]
      refine (congrArg (fun A=>freeF (freeW l) 1 (bs t.S) (bs t.Z) 0 A Bd (if (1:Int)=3 then meetW Bd Fr (bs t.S) else Fr)) eA).trans ?_
      simp [freeF,bindsW]
    rw [eR]
    have eF:fval nd t.K t.N t.S t.Z t.T.K t.T.N (.slice a1 l1 c1) (.slice a2 l2 c2) (q 0) (q 1) (q 2)=fval nd 1 t.N t.S t.Z t.T.K t.T.N (.slice a1 l1 c1) (.slice a2 l2 c2) (q 0) (q 1) (q 2):=by rw [hK]
    rw [eF]
    exact ga_1 l IH L B D w0 t.S t.Z nd t.N t.T.K t.T.N a1 l1 c1 a2 l2 c2 0 0 0 .nilIface .nilIface .nilIface  p vb vf Bd Fr w h (by omega) (by omega)
  · have hl0:(t.A.length:Int)=0:=by rw [hlen,hK];rfl
    have hl:t.A.length=0:=by omega
    have eA:=list_0 t.A hl
    have hb2:nodesG (nodesM l) []=some b:=by rw [← eA];exact hb
    have hbs:=nodes_0 (nodesM l)  hb2
    have eR:freeW (l+1) t Bd Fr=Fr:=by
      show freeF (freeW l) t.K (bs t.S) (bs t.Z) 0 t.A Bd (if t.K=3 then meetW Bd Fr (bs t.S) else Fr)=_
      rw [hK]
      refine (congrArg (fun A=>freeF (freeW l) 2 (bs t.S) (bs t.Z) 0 A Bd (if (2:Int)=3 then meetW Bd Fr (bs t.S) else Fr)) eA).trans ?_
      simp [freeF,bindsW]
    rw [eR]
    have eF:fval nd t.K t.N t.S t.Z t.T.K t.T.N (.slice a1 l1 c1) (.slice a2 l2 c2) (q 0) (q 1) (q 2)=fval nd 2 t.N t.S t.Z t.T.K t.T.N (.slice a1 l1 c1) (.slice a2 l2 c2) (q 0) (q 1) (q 2):=by rw [hK]
    rw [eF]
    exact ga_2 l IH L B D w0 t.S t.Z nd t.N t.T.K t.T.N a1 l1 c1 a2 l2 c2 0 0 0 .nilIface .nilIface .nilIface  p vb vf Bd Fr w h (by omega) (by omega)
  · have hl0:(t.A.length:Int)=0:=by rw [hlen,hK];rfl
    have hl:t.A.length=0:=by omega
    have eA:=list_0 t.A hl
    have hb2:nodesG (nodesM l) []=some b:=by rw [← eA];exact hb
    have hbs:=nodes_0 (nodesM l)  hb2
    have eR:freeW (l+1) t Bd Fr=(meetW Bd Fr (bs t.S)):=by
      show freeF (freeW l) t.K (bs t.S) (bs t.Z) 0 t.A Bd (if t.K=3 then meetW Bd Fr (bs t.S) else Fr)=_
      rw [hK]
      refine (congrArg (fun A=>freeF (freeW l) 3 (bs t.S) (bs t.Z) 0 A Bd (if (3:Int)=3 then meetW Bd Fr (bs t.S) else Fr)) eA).trans ?_
      simp [freeF,bindsW]
    rw [eR]
    have eF:fval nd t.K t.N t.S t.Z t.T.K t.T.N (.slice a1 l1 c1) (.slice a2 l2 c2) (q 0) (q 1) (q 2)=fval nd 3 t.N t.S t.Z t.T.K t.T.N (.slice a1 l1 c1) (.slice a2 l2 c2) (q 0) (q 1) (q 2):=by rw [hK]
    rw [eF]
    exact ga_3 l IH L B D w0 t.S t.Z nd t.N t.T.K t.T.N a1 l1 c1 a2 l2 c2 0 0 0 .nilIface .nilIface .nilIface  p vb vf Bd Fr w h (by omega) (by omega)
  · have hl0:(t.A.length:Int)=1:=by rw [hlen,hK];rfl
    have hl:t.A.length=1:=by omega
    have eA:=list_1 t.A hl
    obtain ⟨m0,hm0⟩:=hparts 0 (by omega)
    obtain ⟨τ0,u0,e0⟩:=Fv.iface (hq 0 (by omega))
    have hv0:=hq 0 (by omega)
    rw [e0] at hv0
    have hb2:nodesG (nodesM l) [t.A[0]]=some b:=by rw [← eA];exact hb
    have hbs:=nodes_1 (nodesM l) hm0 hb2
    have eR:freeW (l+1) t Bd Fr=(freeW l t.A[0] (Bd ++ [bs t.S]) Fr):=by
      show freeF (freeW l) t.K (bs t.S) (bs t.Z) 0 t.A Bd (if t.K=3 then meetW Bd Fr (bs t.S) else Fr)=_
      rw [hK]
      refine (congrArg (fun A=>freeF (freeW l) 4 (bs t.S) (bs t.Z) 0 A Bd (if (4:Int)=3 then meetW Bd Fr (bs t.S) else Fr)) eA).trans ?_
      simp [freeF,bindsW]
    rw [eR]
    have eF:fval nd t.K t.N t.S t.Z t.T.K t.T.N (.slice a1 l1 c1) (.slice a2 l2 c2) (q 0) (q 1) (q 2)=fval nd 4 t.N t.S t.Z t.T.K t.T.N (.slice a1 l1 c1) (.slice a2 l2 c2) (.iface τ0 u0) (q 1) (q 2):=by rw [hK,e0]
    rw [eF]
    exact ga_4 l IH L B D w0 t.S t.Z nd t.N t.T.K t.T.N a1 l1 c1 a2 l2 c2 τ0 0 0 u0 .nilIface .nilIface t.A[0] m0 hv0 hm0 p vb vf Bd Fr w h (by omega) (by omega)
  · have hl0:(t.A.length:Int)=2:=by rw [hlen,hK];rfl
    have hl:t.A.length=2:=by omega
    have eA:=list_2 t.A hl
    obtain ⟨m0,hm0⟩:=hparts 0 (by omega)
    obtain ⟨τ0,u0,e0⟩:=Fv.iface (hq 0 (by omega))
    have hv0:=hq 0 (by omega)
    rw [e0] at hv0
    obtain ⟨m1,hm1⟩:=hparts 1 (by omega)
    obtain ⟨τ1,u1,e1⟩:=Fv.iface (hq 1 (by omega))
    have hv1:=hq 1 (by omega)
    rw [e1] at hv1
    have hb2:nodesG (nodesM l) [t.A[0],t.A[1]]=some b:=by rw [← eA];exact hb
    have hbs:=nodes_2 (nodesM l) hm0 hm1 hb2
    have eR:freeW (l+1) t Bd Fr=(freeW l t.A[1] Bd (freeW l t.A[0] Bd Fr)):=by
      show freeF (freeW l) t.K (bs t.S) (bs t.Z) 0 t.A Bd (if t.K=3 then meetW Bd Fr (bs t.S) else Fr)=_
      rw [hK]
      refine (congrArg (fun A=>freeF (freeW l) 5 (bs t.S) (bs t.Z) 0 A Bd (if (5:Int)=3 then meetW Bd Fr (bs t.S) else Fr)) eA).trans ?_
      simp [freeF,bindsW]
    rw [eR]
    have eF:fval nd t.K t.N t.S t.Z t.T.K t.T.N (.slice a1 l1 c1) (.slice a2 l2 c2) (q 0) (q 1) (q 2)=fval nd 5 t.N t.S t.Z t.T.K t.T.N (.slice a1 l1 c1) (.slice a2 l2 c2) (.iface τ0 u0) (.iface τ1 u1) (q 2):=by rw [hK,e0,e1]
    rw [eF]
    exact ga_5 l IH L B D w0 t.S t.Z nd t.N t.T.K t.T.N a1 l1 c1 a2 l2 c2 τ0 τ1 0 u0 u1 .nilIface t.A[0] m0 hv0 hm0 t.A[1] m1 hv1 hm1 p vb vf Bd Fr w h (by omega) (by omega)
  · have hl0:(t.A.length:Int)=2:=by rw [hlen,hK];rfl
    have hl:t.A.length=2:=by omega
    have eA:=list_2 t.A hl
    obtain ⟨m0,hm0⟩:=hparts 0 (by omega)
    obtain ⟨τ0,u0,e0⟩:=Fv.iface (hq 0 (by omega))
    have hv0:=hq 0 (by omega)
    rw [e0] at hv0
    obtain ⟨m1,hm1⟩:=hparts 1 (by omega)
    obtain ⟨τ1,u1,e1⟩:=Fv.iface (hq 1 (by omega))
    have hv1:=hq 1 (by omega)
    rw [e1] at hv1
    have hb2:nodesG (nodesM l) [t.A[0],t.A[1]]=some b:=by rw [← eA];exact hb
    have hbs:=nodes_2 (nodesM l) hm0 hm1 hb2
    have eR:freeW (l+1) t Bd Fr=(freeW l t.A[1] (Bd ++ [bs t.S]) (freeW l t.A[0] Bd Fr)):=by
      show freeF (freeW l) t.K (bs t.S) (bs t.Z) 0 t.A Bd (if t.K=3 then meetW Bd Fr (bs t.S) else Fr)=_
      rw [hK]
      refine (congrArg (fun A=>freeF (freeW l) 6 (bs t.S) (bs t.Z) 0 A Bd (if (6:Int)=3 then meetW Bd Fr (bs t.S) else Fr)) eA).trans ?_
      simp [freeF,bindsW]
    rw [eR]
    have eF:fval nd t.K t.N t.S t.Z t.T.K t.T.N (.slice a1 l1 c1) (.slice a2 l2 c2) (q 0) (q 1) (q 2)=fval nd 6 t.N t.S t.Z t.T.K t.T.N (.slice a1 l1 c1) (.slice a2 l2 c2) (.iface τ0 u0) (.iface τ1 u1) (q 2):=by rw [hK,e0,e1]
    rw [eF]
    exact ga_6 l IH L B D w0 t.S t.Z nd t.N t.T.K t.T.N a1 l1 c1 a2 l2 c2 τ0 τ1 0 u0 u1 .nilIface t.A[0] m0 hv0 hm0 t.A[1] m1 hv1 hm1 p vb vf Bd Fr w h (by omega) (by omega)
  · have hl0:(t.A.length:Int)=2:=by rw [hlen,hK];rfl
    have hl:t.A.length=2:=by omega
    have eA:=list_2 t.A hl
    obtain ⟨m0,hm0⟩:=hparts 0 (by omega)
    obtain ⟨τ0,u0,e0⟩:=Fv.iface (hq 0 (by omega))
    have hv0:=hq 0 (by omega)
    rw [e0] at hv0
    obtain ⟨m1,hm1⟩:=hparts 1 (by omega)
    obtain ⟨τ1,u1,e1⟩:=Fv.iface (hq 1 (by omega))
    have hv1:=hq 1 (by omega)
    rw [e1] at hv1
    have hb2:nodesG (nodesM l) [t.A[0],t.A[1]]=some b:=by rw [← eA];exact hb
    have hbs:=nodes_2 (nodesM l) hm0 hm1 hb2
    have eR:freeW (l+1) t Bd Fr=(freeW l t.A[1] (Bd ++ [bs t.S]) (freeW l t.A[0] (Bd ++ [bs t.S]) Fr)):=by
      show freeF (freeW l) t.K (bs t.S) (bs t.Z) 0 t.A Bd (if t.K=3 then meetW Bd Fr (bs t.S) else Fr)=_
      rw [hK]
      refine (congrArg (fun A=>freeF (freeW l) 7 (bs t.S) (bs t.Z) 0 A Bd (if (7:Int)=3 then meetW Bd Fr (bs t.S) else Fr)) eA).trans ?_
      simp [freeF,bindsW]
    rw [eR]
    have eF:fval nd t.K t.N t.S t.Z t.T.K t.T.N (.slice a1 l1 c1) (.slice a2 l2 c2) (q 0) (q 1) (q 2)=fval nd 7 t.N t.S t.Z t.T.K t.T.N (.slice a1 l1 c1) (.slice a2 l2 c2) (.iface τ0 u0) (.iface τ1 u1) (q 2):=by rw [hK,e0,e1]
    rw [eF]
    exact ga_7 l IH L B D w0 t.S t.Z nd t.N t.T.K t.T.N a1 l1 c1 a2 l2 c2 τ0 τ1 0 u0 u1 .nilIface t.A[0] m0 hv0 hm0 t.A[1] m1 hv1 hm1 p vb vf Bd Fr w h (by omega) (by omega)
  · have hl0:(t.A.length:Int)=3:=by rw [hlen,hK];rfl
    have hl:t.A.length=3:=by omega
    have eA:=list_3 t.A hl
    obtain ⟨m0,hm0⟩:=hparts 0 (by omega)
    obtain ⟨τ0,u0,e0⟩:=Fv.iface (hq 0 (by omega))
    have hv0:=hq 0 (by omega)
    rw [e0] at hv0
    obtain ⟨m1,hm1⟩:=hparts 1 (by omega)
    obtain ⟨τ1,u1,e1⟩:=Fv.iface (hq 1 (by omega))
    have hv1:=hq 1 (by omega)
    rw [e1] at hv1
    obtain ⟨m2,hm2⟩:=hparts 2 (by omega)
    obtain ⟨τ2,u2,e2⟩:=Fv.iface (hq 2 (by omega))
    have hv2:=hq 2 (by omega)
    rw [e2] at hv2
    have hb2:nodesG (nodesM l) [t.A[0],t.A[1],t.A[2]]=some b:=by rw [← eA];exact hb
    have hbs:=nodes_3 (nodesM l) hm0 hm1 hm2 hb2
    have eR:freeW (l+1) t Bd Fr=(freeW l t.A[2] Bd (freeW l t.A[1] Bd (freeW l t.A[0] Bd Fr))):=by
      show freeF (freeW l) t.K (bs t.S) (bs t.Z) 0 t.A Bd (if t.K=3 then meetW Bd Fr (bs t.S) else Fr)=_
      rw [hK]
      refine (congrArg (fun A=>freeF (freeW l) 8 (bs t.S) (bs t.Z) 0 A Bd (if (8:Int)=3 then meetW Bd Fr (bs t.S) else Fr)) eA).trans ?_
      simp [freeF,bindsW]
    rw [eR]
    have eF:fval nd t.K t.N t.S t.Z t.T.K t.T.N (.slice a1 l1 c1) (.slice a2 l2 c2) (q 0) (q 1) (q 2)=fval nd 8 t.N t.S t.Z t.T.K t.T.N (.slice a1 l1 c1) (.slice a2 l2 c2) (.iface τ0 u0) (.iface τ1 u1) (.iface τ2 u2):=by rw [hK,e0,e1,e2]
    rw [eF]
    exact ga_8 l IH L B D w0 t.S t.Z nd t.N t.T.K t.T.N a1 l1 c1 a2 l2 c2 τ0 τ1 τ2 u0 u1 u2 t.A[0] m0 hv0 hm0 t.A[1] m1 hv1 hm1 t.A[2] m2 hv2 hm2 p vb vf Bd Fr w h (by omega) (by omega)
  · have hl0:(t.A.length:Int)=2:=by rw [hlen,hK];rfl
    have hl:t.A.length=2:=by omega
    have eA:=list_2 t.A hl
    obtain ⟨m0,hm0⟩:=hparts 0 (by omega)
    obtain ⟨τ0,u0,e0⟩:=Fv.iface (hq 0 (by omega))
    have hv0:=hq 0 (by omega)
    rw [e0] at hv0
    obtain ⟨m1,hm1⟩:=hparts 1 (by omega)
    obtain ⟨τ1,u1,e1⟩:=Fv.iface (hq 1 (by omega))
    have hv1:=hq 1 (by omega)
    rw [e1] at hv1
    have hb2:nodesG (nodesM l) [t.A[0],t.A[1]]=some b:=by rw [← eA];exact hb
    have hbs:=nodes_2 (nodesM l) hm0 hm1 hb2
    have eR:freeW (l+1) t Bd Fr=(freeW l t.A[1] Bd (freeW l t.A[0] Bd Fr)):=by
      show freeF (freeW l) t.K (bs t.S) (bs t.Z) 0 t.A Bd (if t.K=3 then meetW Bd Fr (bs t.S) else Fr)=_
      rw [hK]
      refine (congrArg (fun A=>freeF (freeW l) 9 (bs t.S) (bs t.Z) 0 A Bd (if (9:Int)=3 then meetW Bd Fr (bs t.S) else Fr)) eA).trans ?_
      simp [freeF,bindsW]
    rw [eR]
    have eF:fval nd t.K t.N t.S t.Z t.T.K t.T.N (.slice a1 l1 c1) (.slice a2 l2 c2) (q 0) (q 1) (q 2)=fval nd 9 t.N t.S t.Z t.T.K t.T.N (.slice a1 l1 c1) (.slice a2 l2 c2) (.iface τ0 u0) (.iface τ1 u1) (q 2):=by rw [hK,e0,e1]
    rw [eF]
    exact ga_9 l IH L B D w0 t.S t.Z nd t.N t.T.K t.T.N a1 l1 c1 a2 l2 c2 τ0 τ1 0 u0 u1 .nilIface t.A[0] m0 hv0 hm0 t.A[1] m1 hv1 hm1 p vb vf Bd Fr w h (by omega) (by omega)
  · have hl0:(t.A.length:Int)=1:=by rw [hlen,hK];rfl
    have hl:t.A.length=1:=by omega
    have eA:=list_1 t.A hl
    obtain ⟨m0,hm0⟩:=hparts 0 (by omega)
    obtain ⟨τ0,u0,e0⟩:=Fv.iface (hq 0 (by omega))
    have hv0:=hq 0 (by omega)
    rw [e0] at hv0
    have hb2:nodesG (nodesM l) [t.A[0]]=some b:=by rw [← eA];exact hb
    have hbs:=nodes_1 (nodesM l) hm0 hb2
    have eR:freeW (l+1) t Bd Fr=(freeW l t.A[0] Bd Fr):=by
      show freeF (freeW l) t.K (bs t.S) (bs t.Z) 0 t.A Bd (if t.K=3 then meetW Bd Fr (bs t.S) else Fr)=_
      rw [hK]
      refine (congrArg (fun A=>freeF (freeW l) 10 (bs t.S) (bs t.Z) 0 A Bd (if (10:Int)=3 then meetW Bd Fr (bs t.S) else Fr)) eA).trans ?_
      simp [freeF,bindsW]
    rw [eR]
    have eF:fval nd t.K t.N t.S t.Z t.T.K t.T.N (.slice a1 l1 c1) (.slice a2 l2 c2) (q 0) (q 1) (q 2)=fval nd 10 t.N t.S t.Z t.T.K t.T.N (.slice a1 l1 c1) (.slice a2 l2 c2) (.iface τ0 u0) (q 1) (q 2):=by rw [hK,e0]
    rw [eF]
    exact ga_10 l IH L B D w0 t.S t.Z nd t.N t.T.K t.T.N a1 l1 c1 a2 l2 c2 τ0 0 0 u0 .nilIface .nilIface t.A[0] m0 hv0 hm0 p vb vf Bd Fr w h (by omega) (by omega)
  · have hl0:(t.A.length:Int)=1:=by rw [hlen,hK];rfl
    have hl:t.A.length=1:=by omega
    have eA:=list_1 t.A hl
    obtain ⟨m0,hm0⟩:=hparts 0 (by omega)
    obtain ⟨τ0,u0,e0⟩:=Fv.iface (hq 0 (by omega))
    have hv0:=hq 0 (by omega)
    rw [e0] at hv0
    have hb2:nodesG (nodesM l) [t.A[0]]=some b:=by rw [← eA];exact hb
    have hbs:=nodes_1 (nodesM l) hm0 hb2
    have eR:freeW (l+1) t Bd Fr=(freeW l t.A[0] Bd Fr):=by
      show freeF (freeW l) t.K (bs t.S) (bs t.Z) 0 t.A Bd (if t.K=3 then meetW Bd Fr (bs t.S) else Fr)=_
      rw [hK]
      refine (congrArg (fun A=>freeF (freeW l) 11 (bs t.S) (bs t.Z) 0 A Bd (if (11:Int)=3 then meetW Bd Fr (bs t.S) else Fr)) eA).trans ?_
      simp [freeF,bindsW]
    rw [eR]
    have eF:fval nd t.K t.N t.S t.Z t.T.K t.T.N (.slice a1 l1 c1) (.slice a2 l2 c2) (q 0) (q 1) (q 2)=fval nd 11 t.N t.S t.Z t.T.K t.T.N (.slice a1 l1 c1) (.slice a2 l2 c2) (.iface τ0 u0) (q 1) (q 2):=by rw [hK,e0]
    rw [eF]
    exact ga_11 l IH L B D w0 t.S t.Z nd t.N t.T.K t.T.N a1 l1 c1 a2 l2 c2 τ0 0 0 u0 .nilIface .nilIface t.A[0] m0 hv0 hm0 p vb vf Bd Fr w h (by omega) (by omega)
  · have hl0:(t.A.length:Int)=0:=by rw [hlen,hK];rfl
    have hl:t.A.length=0:=by omega
    have eA:=list_0 t.A hl
    have hb2:nodesG (nodesM l) []=some b:=by rw [← eA];exact hb
    have hbs:=nodes_0 (nodesM l)  hb2
    have eR:freeW (l+1) t Bd Fr=Fr:=by
      show freeF (freeW l) t.K (bs t.S) (bs t.Z) 0 t.A Bd (if t.K=3 then meetW Bd Fr (bs t.S) else Fr)=_
      rw [hK]
      refine (congrArg (fun A=>freeF (freeW l) 12 (bs t.S) (bs t.Z) 0 A Bd (if (12:Int)=3 then meetW Bd Fr (bs t.S) else Fr)) eA).trans ?_
      simp [freeF,bindsW]
    rw [eR]
    have eF:fval nd t.K t.N t.S t.Z t.T.K t.T.N (.slice a1 l1 c1) (.slice a2 l2 c2) (q 0) (q 1) (q 2)=fval nd 12 t.N t.S t.Z t.T.K t.T.N (.slice a1 l1 c1) (.slice a2 l2 c2) (q 0) (q 1) (q 2):=by rw [hK]
    rw [eF]
    exact ga_12 l IH L B D w0 t.S t.Z nd t.N t.T.K t.T.N a1 l1 c1 a2 l2 c2 0 0 0 .nilIface .nilIface .nilIface  p vb vf Bd Fr w h (by omega) (by omega)
  · have hl0:(t.A.length:Int)=2:=by rw [hlen,hK];rfl
    have hl:t.A.length=2:=by omega
    have eA:=list_2 t.A hl
    obtain ⟨m0,hm0⟩:=hparts 0 (by omega)
    obtain ⟨τ0,u0,e0⟩:=Fv.iface (hq 0 (by omega))
    have hv0:=hq 0 (by omega)
    rw [e0] at hv0
    obtain ⟨m1,hm1⟩:=hparts 1 (by omega)
    obtain ⟨τ1,u1,e1⟩:=Fv.iface (hq 1 (by omega))
    have hv1:=hq 1 (by omega)
    rw [e1] at hv1
    have hb2:nodesG (nodesM l) [t.A[0],t.A[1]]=some b:=by rw [← eA];exact hb
    have hbs:=nodes_2 (nodesM l) hm0 hm1 hb2
    have eR:freeW (l+1) t Bd Fr=(freeW l t.A[1] Bd (freeW l t.A[0] Bd Fr)):=by
      show freeF (freeW l) t.K (bs t.S) (bs t.Z) 0 t.A Bd (if t.K=3 then meetW Bd Fr (bs t.S) else Fr)=_
      rw [hK]
      refine (congrArg (fun A=>freeF (freeW l) 13 (bs t.S) (bs t.Z) 0 A Bd (if (13:Int)=3 then meetW Bd Fr (bs t.S) else Fr)) eA).trans ?_
      simp [freeF,bindsW]
    rw [eR]
    have eF:fval nd t.K t.N t.S t.Z t.T.K t.T.N (.slice a1 l1 c1) (.slice a2 l2 c2) (q 0) (q 1) (q 2)=fval nd 13 t.N t.S t.Z t.T.K t.T.N (.slice a1 l1 c1) (.slice a2 l2 c2) (.iface τ0 u0) (.iface τ1 u1) (q 2):=by rw [hK,e0,e1]
    rw [eF]
    exact ga_13 l IH L B D w0 t.S t.Z nd t.N t.T.K t.T.N a1 l1 c1 a2 l2 c2 τ0 τ1 0 u0 u1 .nilIface t.A[0] m0 hv0 hm0 t.A[1] m1 hv1 hm1 p vb vf Bd Fr w h (by omega) (by omega)
  · have hl0:(t.A.length:Int)=3:=by rw [hlen,hK];rfl
    have hl:t.A.length=3:=by omega
    have eA:=list_3 t.A hl
    obtain ⟨m0,hm0⟩:=hparts 0 (by omega)
    obtain ⟨τ0,u0,e0⟩:=Fv.iface (hq 0 (by omega))
    have hv0:=hq 0 (by omega)
    rw [e0] at hv0
    obtain ⟨m1,hm1⟩:=hparts 1 (by omega)
    obtain ⟨τ1,u1,e1⟩:=Fv.iface (hq 1 (by omega))
    have hv1:=hq 1 (by omega)
    rw [e1] at hv1
    obtain ⟨m2,hm2⟩:=hparts 2 (by omega)
    obtain ⟨τ2,u2,e2⟩:=Fv.iface (hq 2 (by omega))
    have hv2:=hq 2 (by omega)
    rw [e2] at hv2
    have hb2:nodesG (nodesM l) [t.A[0],t.A[1],t.A[2]]=some b:=by rw [← eA];exact hb
    have hbs:=nodes_3 (nodesM l) hm0 hm1 hm2 hb2
    have eR:freeW (l+1) t Bd Fr=(freeW l t.A[2] (Bd ++ [bs t.S,bs t.Z]) (freeW l t.A[1] Bd (freeW l t.A[0] Bd Fr))):=by
      show freeF (freeW l) t.K (bs t.S) (bs t.Z) 0 t.A Bd (if t.K=3 then meetW Bd Fr (bs t.S) else Fr)=_
      rw [hK]
      refine (congrArg (fun A=>freeF (freeW l) 14 (bs t.S) (bs t.Z) 0 A Bd (if (14:Int)=3 then meetW Bd Fr (bs t.S) else Fr)) eA).trans ?_
      simp [freeF,bindsW]
    rw [eR]
    have eF:fval nd t.K t.N t.S t.Z t.T.K t.T.N (.slice a1 l1 c1) (.slice a2 l2 c2) (q 0) (q 1) (q 2)=fval nd 14 t.N t.S t.Z t.T.K t.T.N (.slice a1 l1 c1) (.slice a2 l2 c2) (.iface τ0 u0) (.iface τ1 u1) (.iface τ2 u2):=by rw [hK,e0,e1,e2]
    rw [eF]
    exact ga_14 l IH L B D w0 t.S t.Z nd t.N t.T.K t.T.N a1 l1 c1 a2 l2 c2 τ0 τ1 τ2 u0 u1 u2 t.A[0] m0 hv0 hm0 t.A[1] m1 hv1 hm1 t.A[2] m2 hv2 hm2 p vb vf Bd Fr w h (by omega) (by omega)
  · have hl0:(t.A.length:Int)=2:=by rw [hlen,hK];rfl
    have hl:t.A.length=2:=by omega
    have eA:=list_2 t.A hl
    obtain ⟨m0,hm0⟩:=hparts 0 (by omega)
    obtain ⟨τ0,u0,e0⟩:=Fv.iface (hq 0 (by omega))
    have hv0:=hq 0 (by omega)
    rw [e0] at hv0
    obtain ⟨m1,hm1⟩:=hparts 1 (by omega)
    obtain ⟨τ1,u1,e1⟩:=Fv.iface (hq 1 (by omega))
    have hv1:=hq 1 (by omega)
    rw [e1] at hv1
    have hb2:nodesG (nodesM l) [t.A[0],t.A[1]]=some b:=by rw [← eA];exact hb
    have hbs:=nodes_2 (nodesM l) hm0 hm1 hb2
    have eR:freeW (l+1) t Bd Fr=(freeW l t.A[1] Bd (freeW l t.A[0] Bd Fr)):=by
      show freeF (freeW l) t.K (bs t.S) (bs t.Z) 0 t.A Bd (if t.K=3 then meetW Bd Fr (bs t.S) else Fr)=_
      rw [hK]
      refine (congrArg (fun A=>freeF (freeW l) 15 (bs t.S) (bs t.Z) 0 A Bd (if (15:Int)=3 then meetW Bd Fr (bs t.S) else Fr)) eA).trans ?_
      simp [freeF,bindsW]
    rw [eR]
    have eF:fval nd t.K t.N t.S t.Z t.T.K t.T.N (.slice a1 l1 c1) (.slice a2 l2 c2) (q 0) (q 1) (q 2)=fval nd 15 t.N t.S t.Z t.T.K t.T.N (.slice a1 l1 c1) (.slice a2 l2 c2) (.iface τ0 u0) (.iface τ1 u1) (q 2):=by rw [hK,e0,e1]
    rw [eF]
    exact ga_15 l IH L B D w0 t.S t.Z nd t.N t.T.K t.T.N a1 l1 c1 a2 l2 c2 τ0 τ1 0 u0 u1 .nilIface t.A[0] m0 hv0 hm0 t.A[1] m1 hv1 hm1 p vb vf Bd Fr w h (by omega) (by omega)
  · have hl0:(t.A.length:Int)=1:=by rw [hlen,hK];rfl
    have hl:t.A.length=1:=by omega
    have eA:=list_1 t.A hl
    obtain ⟨m0,hm0⟩:=hparts 0 (by omega)
    obtain ⟨τ0,u0,e0⟩:=Fv.iface (hq 0 (by omega))
    have hv0:=hq 0 (by omega)
    rw [e0] at hv0
    have hb2:nodesG (nodesM l) [t.A[0]]=some b:=by rw [← eA];exact hb
    have hbs:=nodes_1 (nodesM l) hm0 hb2
    have eR:freeW (l+1) t Bd Fr=(freeW l t.A[0] Bd Fr):=by
      show freeF (freeW l) t.K (bs t.S) (bs t.Z) 0 t.A Bd (if t.K=3 then meetW Bd Fr (bs t.S) else Fr)=_
      rw [hK]
      refine (congrArg (fun A=>freeF (freeW l) 16 (bs t.S) (bs t.Z) 0 A Bd (if (16:Int)=3 then meetW Bd Fr (bs t.S) else Fr)) eA).trans ?_
      simp [freeF,bindsW]
    rw [eR]
    have eF:fval nd t.K t.N t.S t.Z t.T.K t.T.N (.slice a1 l1 c1) (.slice a2 l2 c2) (q 0) (q 1) (q 2)=fval nd 16 t.N t.S t.Z t.T.K t.T.N (.slice a1 l1 c1) (.slice a2 l2 c2) (.iface τ0 u0) (q 1) (q 2):=by rw [hK,e0]
    rw [eF]
    exact ga_16 l IH L B D w0 t.S t.Z nd t.N t.T.K t.T.N a1 l1 c1 a2 l2 c2 τ0 0 0 u0 .nilIface .nilIface t.A[0] m0 hv0 hm0 p vb vf Bd Fr w h (by omega) (by omega)
  · have hl0:(t.A.length:Int)=2:=by rw [hlen,hK];rfl
    have hl:t.A.length=2:=by omega
    have eA:=list_2 t.A hl
    obtain ⟨m0,hm0⟩:=hparts 0 (by omega)
    obtain ⟨τ0,u0,e0⟩:=Fv.iface (hq 0 (by omega))
    have hv0:=hq 0 (by omega)
    rw [e0] at hv0
    obtain ⟨m1,hm1⟩:=hparts 1 (by omega)
    obtain ⟨τ1,u1,e1⟩:=Fv.iface (hq 1 (by omega))
    have hv1:=hq 1 (by omega)
    rw [e1] at hv1
    have hb2:nodesG (nodesM l) [t.A[0],t.A[1]]=some b:=by rw [← eA];exact hb
    have hbs:=nodes_2 (nodesM l) hm0 hm1 hb2
    have eR:freeW (l+1) t Bd Fr=(freeW l t.A[1] (Bd ++ [bs t.S]) (freeW l t.A[0] Bd Fr)):=by
      show freeF (freeW l) t.K (bs t.S) (bs t.Z) 0 t.A Bd (if t.K=3 then meetW Bd Fr (bs t.S) else Fr)=_
      rw [hK]
      refine (congrArg (fun A=>freeF (freeW l) 17 (bs t.S) (bs t.Z) 0 A Bd (if (17:Int)=3 then meetW Bd Fr (bs t.S) else Fr)) eA).trans ?_
      simp [freeF,bindsW]
    rw [eR]
    have eF:fval nd t.K t.N t.S t.Z t.T.K t.T.N (.slice a1 l1 c1) (.slice a2 l2 c2) (q 0) (q 1) (q 2)=fval nd 17 t.N t.S t.Z t.T.K t.T.N (.slice a1 l1 c1) (.slice a2 l2 c2) (.iface τ0 u0) (.iface τ1 u1) (q 2):=by rw [hK,e0,e1]
    rw [eF]
    exact ga_17 l IH L B D w0 t.S t.Z nd t.N t.T.K t.T.N a1 l1 c1 a2 l2 c2 τ0 τ1 0 u0 u1 .nilIface t.A[0] m0 hv0 hm0 t.A[1] m1 hv1 hm1 p vb vf Bd Fr w h (by omega) (by omega)
theorem ga_any (l:Nat):SaidGa l:=by
  induction l with
  | zero=>exact ga_zero
  | succ l ih=>exact ga_succ l ih
end Go.Proofs.YtcepgedbmffkdaaGreat
