/-
  The program's 'formTokens' at every form.
-/
import Derived.Test.YtjikcckggifinaaDoorTtHd1
import Derived.Test.YtjikcckggifinaaDoorTtFt1
namespace Go.Proofs.YtjikcckggifinaaDoor
open Go.RowKit
set_option linter.unusedVariables false
set_option linter.unusedSimpArgs false

theorem list_0 {α : Type} (l : List α) (h : l.length = 0) : l = [] := List.length_eq_zero_iff.1 h
theorem list_1 {α : Type} (l : List α) (h : l.length = 1) : l = [l[0]] := by
  match l, h with
  | [a], _ => rfl
theorem list_2 {α : Type} (l : List α) (h : l.length = 2) : l = [l[0], l[1]] := by
  match l, h with
  | [a, b], _ => rfl
theorem list_3 {α : Type} (l : List α) (h : l.length = 3) : l = [l[0], l[1], l[2]] := by
  match l, h with
  | [a, b, c], _ => rfl

theorem nodes_0 (g : Tm → Option Nat) {b : Nat} (h : nodesG g [] = some b) : b = 0 := by simp [nodesG] at h; exact h.symm
theorem nodes_1 (g : Tm → Option Nat) {x0 : Tm} {m0 b : Nat} (h0 : g x0 = some m0) (h : nodesG g [x0] = some b) : b = m0 := by simp [nodesG, h0] at h; omega
theorem nodes_2 (g : Tm → Option Nat) {x0 x1 : Tm} {m0 m1 b : Nat} (h0 : g x0 = some m0) (h1 : g x1 = some m1) (h : nodesG g [x0, x1] = some b) : b = m0 + m1 := by simp [nodesG, h0, h1] at h; omega
theorem nodes_3 (g : Tm → Option Nat) {x0 x1 x2 : Tm} {m0 m1 m2 b : Nat} (h0 : g x0 = some m0) (h1 : g x1 = some m1) (h2 : g x2 = some m2) (h : nodesG g [x0, x1, x2] = some b) : b = m0 + m1 + m2 := by simp [nodesG, h0, h1, h2] at h; omega

theorem ft_zero : SaidFt 0 := by
  intro L B D base w0 t v vf P m w hB hb hv
  exact hv.elim

set_option maxHeartbeats 4000000 in
theorem ft_succ (l : Nat) (IH : SaidFt l) : SaidFt (l + 1) := by
  intro L B D base w0 t v vf P m w hB hb hv hm hW hTab hT hP
  obtain ⟨nd, a1, l1, c1, a2, l2, c2, q, hs1, hs2, hq, rfl⟩ := hv
  have hs1 : Hs L B w D a1 l1 t.T.A := hs1.keep (fun i _ hi => hW.block i (by omega)) (Nat.le_refl _) (Nat.le_refl _)
  have hs2 : Hs L B w D a2 l2 t.Ts := hs2.keep (fun i _ hi => hW.block i (by omega)) (Nat.le_refl _) (Nat.le_refl _)
  obtain ⟨hN, b, hbb, rfl⟩ := nodesM_inv2 hm
  obtain ⟨_, hparts⟩ := nodesM_inv hm
  have hHL := headM_len hN
  have hk1 := hN.k1
  have hk2 := hN.k17
  have hlen := hN.a
  have hK : t.K = 1 ∨ t.K = 2 ∨ t.K = 3 ∨ t.K = 4 ∨ t.K = 5 ∨ t.K = 6 ∨ t.K = 7 ∨ t.K = 8 ∨ t.K = 9 ∨ t.K = 10 ∨ t.K = 11 ∨ t.K = 12 ∨ t.K = 13 ∨ t.K = 14 ∨ t.K = 15 ∨ t.K = 16 ∨ t.K = 17 := by omega
  rcases hK with hK | hK | hK | hK | hK | hK | hK | hK | hK | hK | hK | hK | hK | hK | hK | hK | hK
  · have hl0 : (t.A.length : Int) = 0 := by rw [hlen, hK]; rfl
    have hl : t.A.length = 0 := by omega
    rw [hK] at hHL
    have eA := list_0 t.A hl
    have hb2 : nodesG (nodesM l) [] = some b := by rw [← eA]; exact hbb
    have hbs := nodes_0 (nodesM l)  hb2
    have n1 := hN.n1
    have n2 := hN.n2
    rw [hK] at n1 n2
    have el : shL 1 = -1000000 := rfl
    have em : shM 1 = 1000000 := rfl
    have eR : P ++ toksM (l + 1) t = (P ++ headM 1 t.N t.S t.Z t.T t.Ts) := by
      show P ++ (headM t.K t.N t.S t.Z t.T t.Ts ++ (t.A.map (toksM l)).flatten) = _
      rw [hK]
      refine (congrArg (fun A => P ++ (headM 1 t.N t.S t.Z t.T t.Ts ++ (List.map (toksM l) A).flatten)) eA).trans ?_
      simp only [List.map_cons, List.map_nil, List.flatten_cons, List.flatten_nil, List.append_nil, List.append_assoc]
    rw [eR]
    have eF : fval nd t.K t.N t.S t.Z t.T.K t.T.N (.slice a1 l1 c1) (.slice a2 l2 c2) (q 0) (q 1) (q 2) = fval nd 1 t.N t.S t.Z t.T.K t.T.N (.slice a1 l1 c1) (.slice a2 l2 c2) (q 0) (q 1) (q 2) := by rw [hK]
    rw [eF]
    exact ft_1 l IH L B D base w0 t.S t.Z nd t.N t.T.K t.T.N a1 l1 c1 a2 l2 c2 0 0 0 .nilIface .nilIface .nilIface  (headM 1 t.N t.S t.Z t.T t.Ts) P v w hB hb hW hTab hT (by omega) (hd_1 L B D base t.S t.Z nd t.N t.T.K t.T.N a1 l1 c1 a2 l2 c2 0 0 0 .nilIface .nilIface .nilIface t.T.A t.Ts P v w hB hb hTab hT (by omega) (by omega) (by omega))
  · have hl0 : (t.A.length : Int) = 0 := by rw [hlen, hK]; rfl
    have hl : t.A.length = 0 := by omega
    rw [hK] at hHL
    have eA := list_0 t.A hl
    have hb2 : nodesG (nodesM l) [] = some b := by rw [← eA]; exact hbb
    have hbs := nodes_0 (nodesM l)  hb2
    have n1 := hN.n1
    have n2 := hN.n2
    rw [hK] at n1 n2
    have el : shL 2 = 0 := rfl
    have em : shM 2 = 1 := rfl
    have eR : P ++ toksM (l + 1) t = (P ++ headM 2 t.N t.S t.Z t.T t.Ts) := by
      show P ++ (headM t.K t.N t.S t.Z t.T t.Ts ++ (t.A.map (toksM l)).flatten) = _
      rw [hK]
      refine (congrArg (fun A => P ++ (headM 2 t.N t.S t.Z t.T t.Ts ++ (List.map (toksM l) A).flatten)) eA).trans ?_
      simp only [List.map_cons, List.map_nil, List.flatten_cons, List.flatten_nil, List.append_nil, List.append_assoc]
    rw [eR]
    have eF : fval nd t.K t.N t.S t.Z t.T.K t.T.N (.slice a1 l1 c1) (.slice a2 l2 c2) (q 0) (q 1) (q 2) = fval nd 2 t.N t.S t.Z t.T.K t.T.N (.slice a1 l1 c1) (.slice a2 l2 c2) (q 0) (q 1) (q 2) := by rw [hK]
    rw [eF]
    exact ft_2 l IH L B D base w0 t.S t.Z nd t.N t.T.K t.T.N a1 l1 c1 a2 l2 c2 0 0 0 .nilIface .nilIface .nilIface  (headM 2 t.N t.S t.Z t.T t.Ts) P v w hB hb hW hTab hT (by omega) (hd_2 L B D base t.S t.Z nd t.N t.T.K t.T.N a1 l1 c1 a2 l2 c2 0 0 0 .nilIface .nilIface .nilIface t.T.A t.Ts P v w hB hb hTab hT (by omega) (by omega))
  · have hl0 : (t.A.length : Int) = 0 := by rw [hlen, hK]; rfl
    have hl : t.A.length = 0 := by omega
    rw [hK] at hHL
    have eA := list_0 t.A hl
    have hb2 : nodesG (nodesM l) [] = some b := by rw [← eA]; exact hbb
    have hbs := nodes_0 (nodesM l)  hb2
    have h2 : t.Ts.length ≤ 2 := by have := hN.ts; have := (shS_bd t.K).2; omega
    have eR : P ++ toksM (l + 1) t = (P ++ headM 3 t.N t.S t.Z t.T t.Ts) := by
      show P ++ (headM t.K t.N t.S t.Z t.T t.Ts ++ (t.A.map (toksM l)).flatten) = _
      rw [hK]
      refine (congrArg (fun A => P ++ (headM 3 t.N t.S t.Z t.T t.Ts ++ (List.map (toksM l) A).flatten)) eA).trans ?_
      simp only [List.map_cons, List.map_nil, List.flatten_cons, List.flatten_nil, List.append_nil, List.append_assoc]
    rw [eR]
    have eF : fval nd t.K t.N t.S t.Z t.T.K t.T.N (.slice a1 l1 c1) (.slice a2 l2 c2) (q 0) (q 1) (q 2) = fval nd 3 t.N t.S t.Z t.T.K t.T.N (.slice a1 l1 c1) (.slice a2 l2 c2) (q 0) (q 1) (q 2) := by rw [hK]
    rw [eF]
    exact ft_3 l IH L B D base w0 t.S t.Z nd t.N t.T.K t.T.N a1 l1 c1 a2 l2 c2 0 0 0 .nilIface .nilIface .nilIface  (headM 3 t.N t.S t.Z t.T t.Ts) P v w hB hb hW hTab hT (by omega) (hd_3 L B D base t.S t.Z nd t.N t.T.K t.T.N a1 l1 c1 a2 l2 c2 0 0 0 .nilIface .nilIface .nilIface t.T.A t.Ts P v w hB hb hTab hT (by omega) hs2 h2 (fun x hx => okT_le (hN.each x hx)))
  · have hl0 : (t.A.length : Int) = 1 := by rw [hlen, hK]; rfl
    have hl : t.A.length = 1 := by omega
    rw [hK] at hHL
    have eA := list_1 t.A hl
    obtain ⟨m0, hm0⟩ := hparts 0 (by omega)
    obtain ⟨τ0, u0, e0⟩ := Fv.iface (hq 0 (by omega))
    have hv0 := hq 0 (by omega)
    rw [e0] at hv0
    have hb2 : nodesG (nodesM l) [t.A[0]] = some b := by rw [← eA]; exact hbb
    have hbs := nodes_1 (nodesM l) hm0 hb2
    obtain ⟨mT, hmT, hm6⟩ := okT_le (hN.ty (by rw [hK]; rfl))
    have eR : P ++ toksM (l + 1) t = ((P ++ headM 4 t.N t.S t.Z t.T t.Ts) ++ toksM l t.A[0]) := by
      show P ++ (headM t.K t.N t.S t.Z t.T t.Ts ++ (t.A.map (toksM l)).flatten) = _
      rw [hK]
      refine (congrArg (fun A => P ++ (headM 4 t.N t.S t.Z t.T t.Ts ++ (List.map (toksM l) A).flatten)) eA).trans ?_
      simp only [List.map_cons, List.map_nil, List.flatten_cons, List.flatten_nil, List.append_nil, List.append_assoc]
    rw [eR]
    have eF : fval nd t.K t.N t.S t.Z t.T.K t.T.N (.slice a1 l1 c1) (.slice a2 l2 c2) (q 0) (q 1) (q 2) = fval nd 4 t.N t.S t.Z t.T.K t.T.N (.slice a1 l1 c1) (.slice a2 l2 c2) (.iface τ0 u0) (q 1) (q 2) := by rw [hK, e0]
    rw [eF]
    exact ft_4 l IH L B D base w0 t.S t.Z nd t.N t.T.K t.T.N a1 l1 c1 a2 l2 c2 τ0 0 0 u0 .nilIface .nilIface t.A[0] m0 hv0 hm0 (headM 4 t.N t.S t.Z t.T t.Ts) P v w hB hb hW hTab hT (by omega) (by have h := hd_4 L B D base t.S t.Z nd t.N t.T.K t.T.N a1 l1 c1 a2 l2 c2 τ0 0 0 u0 .nilIface .nilIface t.T.A t.Ts P v w hB hb hTab hT (by omega) hs1 mT (by rw [tr_eta]; exact hmT) hm6; rw [tr_eta] at h; exact h)
  · have hl0 : (t.A.length : Int) = 2 := by rw [hlen, hK]; rfl
    have hl : t.A.length = 2 := by omega
    rw [hK] at hHL
    have eA := list_2 t.A hl
    obtain ⟨m0, hm0⟩ := hparts 0 (by omega)
    obtain ⟨τ0, u0, e0⟩ := Fv.iface (hq 0 (by omega))
    have hv0 := hq 0 (by omega)
    rw [e0] at hv0
    obtain ⟨m1, hm1⟩ := hparts 1 (by omega)
    obtain ⟨τ1, u1, e1⟩ := Fv.iface (hq 1 (by omega))
    have hv1 := hq 1 (by omega)
    rw [e1] at hv1
    have hb2 : nodesG (nodesM l) [t.A[0], t.A[1]] = some b := by rw [← eA]; exact hbb
    have hbs := nodes_2 (nodesM l) hm0 hm1 hb2
    have eR : P ++ toksM (l + 1) t = (((P ++ headM 5 t.N t.S t.Z t.T t.Ts) ++ toksM l t.A[0]) ++ toksM l t.A[1]) := by
      show P ++ (headM t.K t.N t.S t.Z t.T t.Ts ++ (t.A.map (toksM l)).flatten) = _
      rw [hK]
      refine (congrArg (fun A => P ++ (headM 5 t.N t.S t.Z t.T t.Ts ++ (List.map (toksM l) A).flatten)) eA).trans ?_
      simp only [List.map_cons, List.map_nil, List.flatten_cons, List.flatten_nil, List.append_nil, List.append_assoc]
    rw [eR]
    have eF : fval nd t.K t.N t.S t.Z t.T.K t.T.N (.slice a1 l1 c1) (.slice a2 l2 c2) (q 0) (q 1) (q 2) = fval nd 5 t.N t.S t.Z t.T.K t.T.N (.slice a1 l1 c1) (.slice a2 l2 c2) (.iface τ0 u0) (.iface τ1 u1) (q 2) := by rw [hK, e0, e1]
    rw [eF]
    exact ft_5 l IH L B D base w0 t.S t.Z nd t.N t.T.K t.T.N a1 l1 c1 a2 l2 c2 τ0 τ1 0 u0 u1 .nilIface t.A[0] m0 hv0 hm0 t.A[1] m1 hv1 hm1 (headM 5 t.N t.S t.Z t.T t.Ts) P v w hB hb hW hTab hT (by omega) (hd_5 L B D base t.S t.Z nd t.N t.T.K t.T.N a1 l1 c1 a2 l2 c2 τ0 τ1 0 u0 u1 .nilIface t.T.A t.Ts P v w hB hb hTab hT (by omega))
  · have hl0 : (t.A.length : Int) = 2 := by rw [hlen, hK]; rfl
    have hl : t.A.length = 2 := by omega
    rw [hK] at hHL
    have eA := list_2 t.A hl
    obtain ⟨m0, hm0⟩ := hparts 0 (by omega)
    obtain ⟨τ0, u0, e0⟩ := Fv.iface (hq 0 (by omega))
    have hv0 := hq 0 (by omega)
    rw [e0] at hv0
    obtain ⟨m1, hm1⟩ := hparts 1 (by omega)
    obtain ⟨τ1, u1, e1⟩ := Fv.iface (hq 1 (by omega))
    have hv1 := hq 1 (by omega)
    rw [e1] at hv1
    have hb2 : nodesG (nodesM l) [t.A[0], t.A[1]] = some b := by rw [← eA]; exact hbb
    have hbs := nodes_2 (nodesM l) hm0 hm1 hb2
    have n1 := hN.n1
    have n2 := hN.n2
    rw [hK] at n1 n2
    have el : shL 6 = 0 := rfl
    have em : shM 6 = 2 := rfl
    have eR : P ++ toksM (l + 1) t = (((P ++ headM 6 t.N t.S t.Z t.T t.Ts) ++ toksM l t.A[0]) ++ toksM l t.A[1]) := by
      show P ++ (headM t.K t.N t.S t.Z t.T t.Ts ++ (t.A.map (toksM l)).flatten) = _
      rw [hK]
      refine (congrArg (fun A => P ++ (headM 6 t.N t.S t.Z t.T t.Ts ++ (List.map (toksM l) A).flatten)) eA).trans ?_
      simp only [List.map_cons, List.map_nil, List.flatten_cons, List.flatten_nil, List.append_nil, List.append_assoc]
    rw [eR]
    have eF : fval nd t.K t.N t.S t.Z t.T.K t.T.N (.slice a1 l1 c1) (.slice a2 l2 c2) (q 0) (q 1) (q 2) = fval nd 6 t.N t.S t.Z t.T.K t.T.N (.slice a1 l1 c1) (.slice a2 l2 c2) (.iface τ0 u0) (.iface τ1 u1) (q 2) := by rw [hK, e0, e1]
    rw [eF]
    exact ft_6 l IH L B D base w0 t.S t.Z nd t.N t.T.K t.T.N a1 l1 c1 a2 l2 c2 τ0 τ1 0 u0 u1 .nilIface t.A[0] m0 hv0 hm0 t.A[1] m1 hv1 hm1 (headM 6 t.N t.S t.Z t.T t.Ts) P v w hB hb hW hTab hT (by omega) (hd_6 L B D base t.S t.Z nd t.N t.T.K t.T.N a1 l1 c1 a2 l2 c2 τ0 τ1 0 u0 u1 .nilIface t.T.A t.Ts P v w hB hb hTab hT (by omega) (by omega) (by omega))
  · have hl0 : (t.A.length : Int) = 2 := by rw [hlen, hK]; rfl
    have hl : t.A.length = 2 := by omega
    rw [hK] at hHL
    have eA := list_2 t.A hl
    obtain ⟨m0, hm0⟩ := hparts 0 (by omega)
    obtain ⟨τ0, u0, e0⟩ := Fv.iface (hq 0 (by omega))
    have hv0 := hq 0 (by omega)
    rw [e0] at hv0
    obtain ⟨m1, hm1⟩ := hparts 1 (by omega)
    obtain ⟨τ1, u1, e1⟩ := Fv.iface (hq 1 (by omega))
    have hv1 := hq 1 (by omega)
    rw [e1] at hv1
    have hb2 : nodesG (nodesM l) [t.A[0], t.A[1]] = some b := by rw [← eA]; exact hbb
    have hbs := nodes_2 (nodesM l) hm0 hm1 hb2
    have n1 := hN.n1
    have n2 := hN.n2
    rw [hK] at n1 n2
    have el : shL 7 = 0 := rfl
    have em : shM 7 = 2 := rfl
    obtain ⟨mT, hmT, hm6⟩ := okT_le (hN.ty (by rw [hK]; rfl))
    have eR : P ++ toksM (l + 1) t = (((P ++ headM 7 t.N t.S t.Z t.T t.Ts) ++ toksM l t.A[0]) ++ toksM l t.A[1]) := by
      show P ++ (headM t.K t.N t.S t.Z t.T t.Ts ++ (t.A.map (toksM l)).flatten) = _
      rw [hK]
      refine (congrArg (fun A => P ++ (headM 7 t.N t.S t.Z t.T t.Ts ++ (List.map (toksM l) A).flatten)) eA).trans ?_
      simp only [List.map_cons, List.map_nil, List.flatten_cons, List.flatten_nil, List.append_nil, List.append_assoc]
    rw [eR]
    have eF : fval nd t.K t.N t.S t.Z t.T.K t.T.N (.slice a1 l1 c1) (.slice a2 l2 c2) (q 0) (q 1) (q 2) = fval nd 7 t.N t.S t.Z t.T.K t.T.N (.slice a1 l1 c1) (.slice a2 l2 c2) (.iface τ0 u0) (.iface τ1 u1) (q 2) := by rw [hK, e0, e1]
    rw [eF]
    exact ft_7 l IH L B D base w0 t.S t.Z nd t.N t.T.K t.T.N a1 l1 c1 a2 l2 c2 τ0 τ1 0 u0 u1 .nilIface t.A[0] m0 hv0 hm0 t.A[1] m1 hv1 hm1 (headM 7 t.N t.S t.Z t.T t.Ts) P v w hB hb hW hTab hT (by omega) (by have h := hd_7 L B D base t.S t.Z nd t.N t.T.K t.T.N a1 l1 c1 a2 l2 c2 τ0 τ1 0 u0 u1 .nilIface t.T.A t.Ts P v w hB hb hTab hT (by omega) (by omega) (by omega) hs1 mT (by rw [tr_eta]; exact hmT) hm6; rw [tr_eta] at h; exact h)
  · have hl0 : (t.A.length : Int) = 3 := by rw [hlen, hK]; rfl
    have hl : t.A.length = 3 := by omega
    rw [hK] at hHL
    have eA := list_3 t.A hl
    obtain ⟨m0, hm0⟩ := hparts 0 (by omega)
    obtain ⟨τ0, u0, e0⟩ := Fv.iface (hq 0 (by omega))
    have hv0 := hq 0 (by omega)
    rw [e0] at hv0
    obtain ⟨m1, hm1⟩ := hparts 1 (by omega)
    obtain ⟨τ1, u1, e1⟩ := Fv.iface (hq 1 (by omega))
    have hv1 := hq 1 (by omega)
    rw [e1] at hv1
    obtain ⟨m2, hm2⟩ := hparts 2 (by omega)
    obtain ⟨τ2, u2, e2⟩ := Fv.iface (hq 2 (by omega))
    have hv2 := hq 2 (by omega)
    rw [e2] at hv2
    have hb2 : nodesG (nodesM l) [t.A[0], t.A[1], t.A[2]] = some b := by rw [← eA]; exact hbb
    have hbs := nodes_3 (nodesM l) hm0 hm1 hm2 hb2
    have eR : P ++ toksM (l + 1) t = ((((P ++ headM 8 t.N t.S t.Z t.T t.Ts) ++ toksM l t.A[0]) ++ toksM l t.A[1]) ++ toksM l t.A[2]) := by
      show P ++ (headM t.K t.N t.S t.Z t.T t.Ts ++ (t.A.map (toksM l)).flatten) = _
      rw [hK]
      refine (congrArg (fun A => P ++ (headM 8 t.N t.S t.Z t.T t.Ts ++ (List.map (toksM l) A).flatten)) eA).trans ?_
      simp only [List.map_cons, List.map_nil, List.flatten_cons, List.flatten_nil, List.append_nil, List.append_assoc]
    rw [eR]
    have eF : fval nd t.K t.N t.S t.Z t.T.K t.T.N (.slice a1 l1 c1) (.slice a2 l2 c2) (q 0) (q 1) (q 2) = fval nd 8 t.N t.S t.Z t.T.K t.T.N (.slice a1 l1 c1) (.slice a2 l2 c2) (.iface τ0 u0) (.iface τ1 u1) (.iface τ2 u2) := by rw [hK, e0, e1, e2]
    rw [eF]
    exact ft_8 l IH L B D base w0 t.S t.Z nd t.N t.T.K t.T.N a1 l1 c1 a2 l2 c2 τ0 τ1 τ2 u0 u1 u2 t.A[0] m0 hv0 hm0 t.A[1] m1 hv1 hm1 t.A[2] m2 hv2 hm2 (headM 8 t.N t.S t.Z t.T t.Ts) P v w hB hb hW hTab hT (by omega) (hd_8 L B D base t.S t.Z nd t.N t.T.K t.T.N a1 l1 c1 a2 l2 c2 τ0 τ1 τ2 u0 u1 u2 t.T.A t.Ts P v w hB hb hTab hT (by omega))
  · have hl0 : (t.A.length : Int) = 2 := by rw [hlen, hK]; rfl
    have hl : t.A.length = 2 := by omega
    rw [hK] at hHL
    have eA := list_2 t.A hl
    obtain ⟨m0, hm0⟩ := hparts 0 (by omega)
    obtain ⟨τ0, u0, e0⟩ := Fv.iface (hq 0 (by omega))
    have hv0 := hq 0 (by omega)
    rw [e0] at hv0
    obtain ⟨m1, hm1⟩ := hparts 1 (by omega)
    obtain ⟨τ1, u1, e1⟩ := Fv.iface (hq 1 (by omega))
    have hv1 := hq 1 (by omega)
    rw [e1] at hv1
    have hb2 : nodesG (nodesM l) [t.A[0], t.A[1]] = some b := by rw [← eA]; exact hbb
    have hbs := nodes_2 (nodesM l) hm0 hm1 hb2
    have eR : P ++ toksM (l + 1) t = (((P ++ headM 9 t.N t.S t.Z t.T t.Ts) ++ toksM l t.A[0]) ++ toksM l t.A[1]) := by
      show P ++ (headM t.K t.N t.S t.Z t.T t.Ts ++ (t.A.map (toksM l)).flatten) = _
      rw [hK]
      refine (congrArg (fun A => P ++ (headM 9 t.N t.S t.Z t.T t.Ts ++ (List.map (toksM l) A).flatten)) eA).trans ?_
      simp only [List.map_cons, List.map_nil, List.flatten_cons, List.flatten_nil, List.append_nil, List.append_assoc]
    rw [eR]
    have eF : fval nd t.K t.N t.S t.Z t.T.K t.T.N (.slice a1 l1 c1) (.slice a2 l2 c2) (q 0) (q 1) (q 2) = fval nd 9 t.N t.S t.Z t.T.K t.T.N (.slice a1 l1 c1) (.slice a2 l2 c2) (.iface τ0 u0) (.iface τ1 u1) (q 2) := by rw [hK, e0, e1]
    rw [eF]
    exact ft_9 l IH L B D base w0 t.S t.Z nd t.N t.T.K t.T.N a1 l1 c1 a2 l2 c2 τ0 τ1 0 u0 u1 .nilIface t.A[0] m0 hv0 hm0 t.A[1] m1 hv1 hm1 (headM 9 t.N t.S t.Z t.T t.Ts) P v w hB hb hW hTab hT (by omega) (hd_9 L B D base t.S t.Z nd t.N t.T.K t.T.N a1 l1 c1 a2 l2 c2 τ0 τ1 0 u0 u1 .nilIface t.T.A t.Ts P v w hB hb hTab hT (by omega))
  · have hl0 : (t.A.length : Int) = 1 := by rw [hlen, hK]; rfl
    have hl : t.A.length = 1 := by omega
    rw [hK] at hHL
    have eA := list_1 t.A hl
    obtain ⟨m0, hm0⟩ := hparts 0 (by omega)
    obtain ⟨τ0, u0, e0⟩ := Fv.iface (hq 0 (by omega))
    have hv0 := hq 0 (by omega)
    rw [e0] at hv0
    have hb2 : nodesG (nodesM l) [t.A[0]] = some b := by rw [← eA]; exact hbb
    have hbs := nodes_1 (nodesM l) hm0 hb2
    have eR : P ++ toksM (l + 1) t = ((P ++ headM 10 t.N t.S t.Z t.T t.Ts) ++ toksM l t.A[0]) := by
      show P ++ (headM t.K t.N t.S t.Z t.T t.Ts ++ (t.A.map (toksM l)).flatten) = _
      rw [hK]
      refine (congrArg (fun A => P ++ (headM 10 t.N t.S t.Z t.T t.Ts ++ (List.map (toksM l) A).flatten)) eA).trans ?_
      simp only [List.map_cons, List.map_nil, List.flatten_cons, List.flatten_nil, List.append_nil, List.append_assoc]
    rw [eR]
    have eF : fval nd t.K t.N t.S t.Z t.T.K t.T.N (.slice a1 l1 c1) (.slice a2 l2 c2) (q 0) (q 1) (q 2) = fval nd 10 t.N t.S t.Z t.T.K t.T.N (.slice a1 l1 c1) (.slice a2 l2 c2) (.iface τ0 u0) (q 1) (q 2) := by rw [hK, e0]
    rw [eF]
    exact ft_10 l IH L B D base w0 t.S t.Z nd t.N t.T.K t.T.N a1 l1 c1 a2 l2 c2 τ0 0 0 u0 .nilIface .nilIface t.A[0] m0 hv0 hm0 (headM 10 t.N t.S t.Z t.T t.Ts) P v w hB hb hW hTab hT (by omega) (hd_10 L B D base t.S t.Z nd t.N t.T.K t.T.N a1 l1 c1 a2 l2 c2 τ0 0 0 u0 .nilIface .nilIface t.T.A t.Ts P v w hB hb hTab hT (by omega))
  · have hl0 : (t.A.length : Int) = 1 := by rw [hlen, hK]; rfl
    have hl : t.A.length = 1 := by omega
    rw [hK] at hHL
    have eA := list_1 t.A hl
    obtain ⟨m0, hm0⟩ := hparts 0 (by omega)
    obtain ⟨τ0, u0, e0⟩ := Fv.iface (hq 0 (by omega))
    have hv0 := hq 0 (by omega)
    rw [e0] at hv0
    have hb2 : nodesG (nodesM l) [t.A[0]] = some b := by rw [← eA]; exact hbb
    have hbs := nodes_1 (nodesM l) hm0 hb2
    have eR : P ++ toksM (l + 1) t = ((P ++ headM 11 t.N t.S t.Z t.T t.Ts) ++ toksM l t.A[0]) := by
      show P ++ (headM t.K t.N t.S t.Z t.T t.Ts ++ (t.A.map (toksM l)).flatten) = _
      rw [hK]
      refine (congrArg (fun A => P ++ (headM 11 t.N t.S t.Z t.T t.Ts ++ (List.map (toksM l) A).flatten)) eA).trans ?_
      simp only [List.map_cons, List.map_nil, List.flatten_cons, List.flatten_nil, List.append_nil, List.append_assoc]
    rw [eR]
    have eF : fval nd t.K t.N t.S t.Z t.T.K t.T.N (.slice a1 l1 c1) (.slice a2 l2 c2) (q 0) (q 1) (q 2) = fval nd 11 t.N t.S t.Z t.T.K t.T.N (.slice a1 l1 c1) (.slice a2 l2 c2) (.iface τ0 u0) (q 1) (q 2) := by rw [hK, e0]
    rw [eF]
    exact ft_11 l IH L B D base w0 t.S t.Z nd t.N t.T.K t.T.N a1 l1 c1 a2 l2 c2 τ0 0 0 u0 .nilIface .nilIface t.A[0] m0 hv0 hm0 (headM 11 t.N t.S t.Z t.T t.Ts) P v w hB hb hW hTab hT (by omega) (hd_11 L B D base t.S t.Z nd t.N t.T.K t.T.N a1 l1 c1 a2 l2 c2 τ0 0 0 u0 .nilIface .nilIface t.T.A t.Ts P v w hB hb hTab hT (by omega))
  · have hl0 : (t.A.length : Int) = 0 := by rw [hlen, hK]; rfl
    have hl : t.A.length = 0 := by omega
    rw [hK] at hHL
    have eA := list_0 t.A hl
    have hb2 : nodesG (nodesM l) [] = some b := by rw [← eA]; exact hbb
    have hbs := nodes_0 (nodesM l)  hb2
    obtain ⟨mT, hmT, hm6⟩ := okT_le (hN.ty (by rw [hK]; rfl))
    have eR : P ++ toksM (l + 1) t = (P ++ headM 12 t.N t.S t.Z t.T t.Ts) := by
      show P ++ (headM t.K t.N t.S t.Z t.T t.Ts ++ (t.A.map (toksM l)).flatten) = _
      rw [hK]
      refine (congrArg (fun A => P ++ (headM 12 t.N t.S t.Z t.T t.Ts ++ (List.map (toksM l) A).flatten)) eA).trans ?_
      simp only [List.map_cons, List.map_nil, List.flatten_cons, List.flatten_nil, List.append_nil, List.append_assoc]
    rw [eR]
    have eF : fval nd t.K t.N t.S t.Z t.T.K t.T.N (.slice a1 l1 c1) (.slice a2 l2 c2) (q 0) (q 1) (q 2) = fval nd 12 t.N t.S t.Z t.T.K t.T.N (.slice a1 l1 c1) (.slice a2 l2 c2) (q 0) (q 1) (q 2) := by rw [hK]
    rw [eF]
    exact ft_12 l IH L B D base w0 t.S t.Z nd t.N t.T.K t.T.N a1 l1 c1 a2 l2 c2 0 0 0 .nilIface .nilIface .nilIface  (headM 12 t.N t.S t.Z t.T t.Ts) P v w hB hb hW hTab hT (by omega) (by have h := hd_12 L B D base t.S t.Z nd t.N t.T.K t.T.N a1 l1 c1 a2 l2 c2 0 0 0 .nilIface .nilIface .nilIface t.T.A t.Ts P v w hB hb hTab hT (by omega) hs1 mT (by rw [tr_eta]; exact hmT) hm6; rw [tr_eta] at h; exact h)
  · have hl0 : (t.A.length : Int) = 2 := by rw [hlen, hK]; rfl
    have hl : t.A.length = 2 := by omega
    rw [hK] at hHL
    have eA := list_2 t.A hl
    obtain ⟨m0, hm0⟩ := hparts 0 (by omega)
    obtain ⟨τ0, u0, e0⟩ := Fv.iface (hq 0 (by omega))
    have hv0 := hq 0 (by omega)
    rw [e0] at hv0
    obtain ⟨m1, hm1⟩ := hparts 1 (by omega)
    obtain ⟨τ1, u1, e1⟩ := Fv.iface (hq 1 (by omega))
    have hv1 := hq 1 (by omega)
    rw [e1] at hv1
    have hb2 : nodesG (nodesM l) [t.A[0], t.A[1]] = some b := by rw [← eA]; exact hbb
    have hbs := nodes_2 (nodesM l) hm0 hm1 hb2
    have eR : P ++ toksM (l + 1) t = (((P ++ headM 13 t.N t.S t.Z t.T t.Ts) ++ toksM l t.A[0]) ++ toksM l t.A[1]) := by
      show P ++ (headM t.K t.N t.S t.Z t.T t.Ts ++ (t.A.map (toksM l)).flatten) = _
      rw [hK]
      refine (congrArg (fun A => P ++ (headM 13 t.N t.S t.Z t.T t.Ts ++ (List.map (toksM l) A).flatten)) eA).trans ?_
      simp only [List.map_cons, List.map_nil, List.flatten_cons, List.flatten_nil, List.append_nil, List.append_assoc]
    rw [eR]
    have eF : fval nd t.K t.N t.S t.Z t.T.K t.T.N (.slice a1 l1 c1) (.slice a2 l2 c2) (q 0) (q 1) (q 2) = fval nd 13 t.N t.S t.Z t.T.K t.T.N (.slice a1 l1 c1) (.slice a2 l2 c2) (.iface τ0 u0) (.iface τ1 u1) (q 2) := by rw [hK, e0, e1]
    rw [eF]
    exact ft_13 l IH L B D base w0 t.S t.Z nd t.N t.T.K t.T.N a1 l1 c1 a2 l2 c2 τ0 τ1 0 u0 u1 .nilIface t.A[0] m0 hv0 hm0 t.A[1] m1 hv1 hm1 (headM 13 t.N t.S t.Z t.T t.Ts) P v w hB hb hW hTab hT (by omega) (hd_13 L B D base t.S t.Z nd t.N t.T.K t.T.N a1 l1 c1 a2 l2 c2 τ0 τ1 0 u0 u1 .nilIface t.T.A t.Ts P v w hB hb hTab hT (by omega))
  · have hl0 : (t.A.length : Int) = 3 := by rw [hlen, hK]; rfl
    have hl : t.A.length = 3 := by omega
    rw [hK] at hHL
    have eA := list_3 t.A hl
    obtain ⟨m0, hm0⟩ := hparts 0 (by omega)
    obtain ⟨τ0, u0, e0⟩ := Fv.iface (hq 0 (by omega))
    have hv0 := hq 0 (by omega)
    rw [e0] at hv0
    obtain ⟨m1, hm1⟩ := hparts 1 (by omega)
    obtain ⟨τ1, u1, e1⟩ := Fv.iface (hq 1 (by omega))
    have hv1 := hq 1 (by omega)
    rw [e1] at hv1
    obtain ⟨m2, hm2⟩ := hparts 2 (by omega)
    obtain ⟨τ2, u2, e2⟩ := Fv.iface (hq 2 (by omega))
    have hv2 := hq 2 (by omega)
    rw [e2] at hv2
    have hb2 : nodesG (nodesM l) [t.A[0], t.A[1], t.A[2]] = some b := by rw [← eA]; exact hbb
    have hbs := nodes_3 (nodesM l) hm0 hm1 hm2 hb2
    have eR : P ++ toksM (l + 1) t = ((((P ++ headM 14 t.N t.S t.Z t.T t.Ts) ++ toksM l t.A[0]) ++ toksM l t.A[1]) ++ toksM l t.A[2]) := by
      show P ++ (headM t.K t.N t.S t.Z t.T t.Ts ++ (t.A.map (toksM l)).flatten) = _
      rw [hK]
      refine (congrArg (fun A => P ++ (headM 14 t.N t.S t.Z t.T t.Ts ++ (List.map (toksM l) A).flatten)) eA).trans ?_
      simp only [List.map_cons, List.map_nil, List.flatten_cons, List.flatten_nil, List.append_nil, List.append_assoc]
    rw [eR]
    have eF : fval nd t.K t.N t.S t.Z t.T.K t.T.N (.slice a1 l1 c1) (.slice a2 l2 c2) (q 0) (q 1) (q 2) = fval nd 14 t.N t.S t.Z t.T.K t.T.N (.slice a1 l1 c1) (.slice a2 l2 c2) (.iface τ0 u0) (.iface τ1 u1) (.iface τ2 u2) := by rw [hK, e0, e1, e2]
    rw [eF]
    exact ft_14 l IH L B D base w0 t.S t.Z nd t.N t.T.K t.T.N a1 l1 c1 a2 l2 c2 τ0 τ1 τ2 u0 u1 u2 t.A[0] m0 hv0 hm0 t.A[1] m1 hv1 hm1 t.A[2] m2 hv2 hm2 (headM 14 t.N t.S t.Z t.T t.Ts) P v w hB hb hW hTab hT (by omega) (hd_14 L B D base t.S t.Z nd t.N t.T.K t.T.N a1 l1 c1 a2 l2 c2 τ0 τ1 τ2 u0 u1 u2 t.T.A t.Ts P v w hB hb hTab hT (by omega))
  · have hl0 : (t.A.length : Int) = 2 := by rw [hlen, hK]; rfl
    have hl : t.A.length = 2 := by omega
    rw [hK] at hHL
    have eA := list_2 t.A hl
    obtain ⟨m0, hm0⟩ := hparts 0 (by omega)
    obtain ⟨τ0, u0, e0⟩ := Fv.iface (hq 0 (by omega))
    have hv0 := hq 0 (by omega)
    rw [e0] at hv0
    obtain ⟨m1, hm1⟩ := hparts 1 (by omega)
    obtain ⟨τ1, u1, e1⟩ := Fv.iface (hq 1 (by omega))
    have hv1 := hq 1 (by omega)
    rw [e1] at hv1
    have hb2 : nodesG (nodesM l) [t.A[0], t.A[1]] = some b := by rw [← eA]; exact hbb
    have hbs := nodes_2 (nodesM l) hm0 hm1 hb2
    have n1 := hN.n1
    have n2 := hN.n2
    rw [hK] at n1 n2
    have el : shL 15 = 1 := rfl
    have em : shM 15 = 5 := rfl
    have eR : P ++ toksM (l + 1) t = (((P ++ headM 15 t.N t.S t.Z t.T t.Ts) ++ toksM l t.A[0]) ++ toksM l t.A[1]) := by
      show P ++ (headM t.K t.N t.S t.Z t.T t.Ts ++ (t.A.map (toksM l)).flatten) = _
      rw [hK]
      refine (congrArg (fun A => P ++ (headM 15 t.N t.S t.Z t.T t.Ts ++ (List.map (toksM l) A).flatten)) eA).trans ?_
      simp only [List.map_cons, List.map_nil, List.flatten_cons, List.flatten_nil, List.append_nil, List.append_assoc]
    rw [eR]
    have eF : fval nd t.K t.N t.S t.Z t.T.K t.T.N (.slice a1 l1 c1) (.slice a2 l2 c2) (q 0) (q 1) (q 2) = fval nd 15 t.N t.S t.Z t.T.K t.T.N (.slice a1 l1 c1) (.slice a2 l2 c2) (.iface τ0 u0) (.iface τ1 u1) (q 2) := by rw [hK, e0, e1]
    rw [eF]
    exact ft_15 l IH L B D base w0 t.S t.Z nd t.N t.T.K t.T.N a1 l1 c1 a2 l2 c2 τ0 τ1 0 u0 u1 .nilIface t.A[0] m0 hv0 hm0 t.A[1] m1 hv1 hm1 (headM 15 t.N t.S t.Z t.T t.Ts) P v w hB hb hW hTab hT (by omega) (hd_15 L B D base t.S t.Z nd t.N t.T.K t.T.N a1 l1 c1 a2 l2 c2 τ0 τ1 0 u0 u1 .nilIface t.T.A t.Ts P v w hB hb hTab hT (by omega) (by omega))
  · have hl0 : (t.A.length : Int) = 1 := by rw [hlen, hK]; rfl
    have hl : t.A.length = 1 := by omega
    rw [hK] at hHL
    have eA := list_1 t.A hl
    obtain ⟨m0, hm0⟩ := hparts 0 (by omega)
    obtain ⟨τ0, u0, e0⟩ := Fv.iface (hq 0 (by omega))
    have hv0 := hq 0 (by omega)
    rw [e0] at hv0
    have hb2 : nodesG (nodesM l) [t.A[0]] = some b := by rw [← eA]; exact hbb
    have hbs := nodes_1 (nodesM l) hm0 hb2
    obtain ⟨mT, hmT, hm6⟩ := okT_le (hN.ty (by rw [hK]; rfl))
    have eR : P ++ toksM (l + 1) t = ((P ++ headM 16 t.N t.S t.Z t.T t.Ts) ++ toksM l t.A[0]) := by
      show P ++ (headM t.K t.N t.S t.Z t.T t.Ts ++ (t.A.map (toksM l)).flatten) = _
      rw [hK]
      refine (congrArg (fun A => P ++ (headM 16 t.N t.S t.Z t.T t.Ts ++ (List.map (toksM l) A).flatten)) eA).trans ?_
      simp only [List.map_cons, List.map_nil, List.flatten_cons, List.flatten_nil, List.append_nil, List.append_assoc]
    rw [eR]
    have eF : fval nd t.K t.N t.S t.Z t.T.K t.T.N (.slice a1 l1 c1) (.slice a2 l2 c2) (q 0) (q 1) (q 2) = fval nd 16 t.N t.S t.Z t.T.K t.T.N (.slice a1 l1 c1) (.slice a2 l2 c2) (.iface τ0 u0) (q 1) (q 2) := by rw [hK, e0]
    rw [eF]
    exact ft_16 l IH L B D base w0 t.S t.Z nd t.N t.T.K t.T.N a1 l1 c1 a2 l2 c2 τ0 0 0 u0 .nilIface .nilIface t.A[0] m0 hv0 hm0 (headM 16 t.N t.S t.Z t.T t.Ts) P v w hB hb hW hTab hT (by omega) (by have h := hd_16 L B D base t.S t.Z nd t.N t.T.K t.T.N a1 l1 c1 a2 l2 c2 τ0 0 0 u0 .nilIface .nilIface t.T.A t.Ts P v w hB hb hTab hT (by omega) hs1 mT (by rw [tr_eta]; exact hmT) hm6; rw [tr_eta] at h; exact h)
  · have hl0 : (t.A.length : Int) = 2 := by rw [hlen, hK]; rfl
    have hl : t.A.length = 2 := by omega
    rw [hK] at hHL
    have eA := list_2 t.A hl
    obtain ⟨m0, hm0⟩ := hparts 0 (by omega)
    obtain ⟨τ0, u0, e0⟩ := Fv.iface (hq 0 (by omega))
    have hv0 := hq 0 (by omega)
    rw [e0] at hv0
    obtain ⟨m1, hm1⟩ := hparts 1 (by omega)
    obtain ⟨τ1, u1, e1⟩ := Fv.iface (hq 1 (by omega))
    have hv1 := hq 1 (by omega)
    rw [e1] at hv1
    have hb2 : nodesG (nodesM l) [t.A[0], t.A[1]] = some b := by rw [← eA]; exact hbb
    have hbs := nodes_2 (nodesM l) hm0 hm1 hb2
    have eR : P ++ toksM (l + 1) t = (((P ++ headM 17 t.N t.S t.Z t.T t.Ts) ++ toksM l t.A[0]) ++ toksM l t.A[1]) := by
      show P ++ (headM t.K t.N t.S t.Z t.T t.Ts ++ (t.A.map (toksM l)).flatten) = _
      rw [hK]
      refine (congrArg (fun A => P ++ (headM 17 t.N t.S t.Z t.T t.Ts ++ (List.map (toksM l) A).flatten)) eA).trans ?_
      simp only [List.map_cons, List.map_nil, List.flatten_cons, List.flatten_nil, List.append_nil, List.append_assoc]
    rw [eR]
    have eF : fval nd t.K t.N t.S t.Z t.T.K t.T.N (.slice a1 l1 c1) (.slice a2 l2 c2) (q 0) (q 1) (q 2) = fval nd 17 t.N t.S t.Z t.T.K t.T.N (.slice a1 l1 c1) (.slice a2 l2 c2) (.iface τ0 u0) (.iface τ1 u1) (q 2) := by rw [hK, e0, e1]
    rw [eF]
    exact ft_17 l IH L B D base w0 t.S t.Z nd t.N t.T.K t.T.N a1 l1 c1 a2 l2 c2 τ0 τ1 0 u0 u1 .nilIface t.A[0] m0 hv0 hm0 t.A[1] m1 hv1 hm1 (headM 17 t.N t.S t.Z t.T t.Ts) P v w hB hb hW hTab hT (by omega) (hd_17 L B D base t.S t.Z nd t.N t.T.K t.T.N a1 l1 c1 a2 l2 c2 τ0 τ1 0 u0 u1 .nilIface t.T.A t.Ts P v w hB hb hTab hT (by omega))

theorem ft_any (l : Nat) : SaidFt l := by
  induction l with
  | zero => exact ft_zero
  | succ l ih => exact ft_succ l ih

end Go.Proofs.YtjikcckggifinaaDoor
