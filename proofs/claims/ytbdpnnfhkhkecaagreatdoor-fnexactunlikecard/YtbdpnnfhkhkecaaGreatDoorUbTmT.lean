/-
  The tokens and the text of a term, in plain words: no walk, no statement.
-/
import Derived.Test.YtbdpnnfhkhkecaaGreatDoorUbZ4
import Derived.Test.YtbdpnnfhkhkecaaGreatDoorUbZ8
import Derived.Test.YtbdpnnfhkhkecaaGreatDoorUbZ10
import Derived.Test.YtbdpnnfhkhkecaaGreatDoorUbTi
import Derived.Lib.ItoaLen
namespace Go.Proofs.YtbdpnnfhkhkecaaGreatDoor
open Go.RowKit
set_option linter.unusedVariables false
set_option linter.unusedSimpArgs false

def sb (s : ByteArray) : List UInt8 := s.data.toList
theorem sb_mk (s : ByteArray) : (⟨(sb s).toArray⟩ : ByteArray) = s := by cases s; simp [sb]

def wordM (k : Int) : List UInt8 := if k = 1 then [110] else if k = 2 then [116] else if k = 3 then [118] else if k = 4 then [102, 110] else if k = 5 then [97, 112, 112] else if k = 6 then [108, 101, 116] else if k = 7 then [102, 105, 120] else if k = 8 then [105, 102] else if k = 9 then [112, 97, 105, 114] else if k = 10 then [102, 115, 116] else if k = 11 then [115, 110, 100] else if k = 12 then [110, 105, 108] else if k = 13 then [99, 111, 110, 115] else if k = 14 then [99, 97, 115, 101] else if k = 15 then [111, 112] else if k = 16 then [114, 97, 105, 115, 101] else [116, 114, 121]
def signM (n : Int) : List UInt8 := if n = 1 then [43] else if n = 2 then [45] else if n = 3 then [42] else if n = 4 then [60] else [61]

/-- What stands ahead of a term's parts. -/
def headM (k n : Int) (s z : ByteArray) (t : Tr) (ts : List Tr) : List (List UInt8) :=
  if k = 1 then [[110], Lib.itoa n]
  else if k = 2 then [if n = 0 then [117] else [116]]
  else if k = 3 then [118] :: sb s :: Lib.itoa (ts.length : Int) :: (ts.map (toksW 6)).flatten
  else if k = 4 then [102, 110] :: sb s :: toksW 6 t
  else if k = 6 then [[108, 101, 116], sb s, Lib.itoa n]
  else if k = 7 then [102, 105, 120] :: sb s :: Lib.itoa n :: toksW 6 t
  else if k = 12 then [110, 105, 108] :: toksW 6 t
  else if k = 14 then [[99, 97, 115, 101], sb s, sb z]
  else if k = 15 then [[111, 112], signM n]
  else if k = 16 then [114, 97, 105, 115, 101] :: toksW 6 t
  else if k = 17 then [[116, 114, 121], sb s]
  else [wordM k]

/-- The tokens of a term, from the front. -/
def toksM : Nat → Tm → List (List UInt8)
  | 0, _ => []
  | l + 1, t => headM t.K t.N t.S t.Z t.T t.Ts ++ (t.A.map (toksM l)).flatten

/-- Those of its head and its first j parts. -/
def toksN (l : Nat) (t : Tm) (j : Nat) : List (List UInt8) := headM t.K t.N t.S t.Z t.T t.Ts ++ ((t.A.take j).map (toksM l)).flatten

theorem toksN_zero (l : Nat) (t : Tm) : toksN l t 0 = headM t.K t.N t.S t.Z t.T t.Ts := by simp [toksN]
theorem toksN_succ (l : Nat) (t : Tm) (j : Nat) (h : j < t.A.length) : toksN l t (j + 1) = toksN l t j ++ toksM l t.A[j] := by
  unfold toksN; rw [List.take_succ_eq_append_getElem h, List.map_append, List.flatten_append]; simp only [List.map_cons, List.map_nil, List.flatten_cons, List.flatten_nil, List.append_nil, List.append_assoc]
theorem toksN_all (l : Nat) (t : Tm) (j : Nat) (h : t.A.length ≤ j) : toksN l t j = toksM (l + 1) t := by
  unfold toksN; rw [List.take_of_length_le h]; rfl

theorem headM_ne (k n : Int) (s z : ByteArray) (t : Tr) (ts : List Tr) : headM k n s z t ts ≠ [] := by
  unfold headM
  (repeat' split) <;> simp

theorem toksM_ne (l : Nat) (t : Tm) : toksM (l + 1) t ≠ [] := by
  intro h
  have h := (List.append_eq_nil_iff.1 h).1
  exact headM_ne _ _ _ _ _ _ h
theorem toksN_ne (l : Nat) (t : Tm) (j : Nat) : toksN l t j ≠ [] := by
  intro h
  have h := (List.append_eq_nil_iff.1 h).1
  exact headM_ne _ _ _ _ _ _ h

/-- One more part, as text. -/
theorem join_part (l : Nat) (t : Tm) (j m : Nat) (h : j < t.A.length) (hm : nodesM l t.A[j] = some m) : Lib.join (toksN l t (j + 1)) [32] = Lib.join (toksN l t j) [32] ++ 32 :: Lib.join (toksM l t.A[j]) [32] := by
  cases l with
  | zero => simp [nodesM] at hm
  | succ l => rw [toksN_succ _ _ _ h, join_app _ _ (toksN_ne _ _ _), joinTail_cons _ (toksM_ne _ _)]

/-- What a right node is, its kind aside. -/
structure NodeIs (t : Tm) : Prop where
  k1 : 1 ≤ t.K
  k17 : t.K ≤ 17
  n1 : shL t.K ≤ t.N
  n2 : t.N ≤ shM t.K
  a : (t.A.length : Int) = shP t.K
  nm : namesB (shN t.K) t.S t.Z = true
  ty : shT t.K = true → okT t.T = true
  zt : shT t.K = false → t.T.K = 0
  ts : (t.Ts.length : Int) ≤ shS t.K
  each : ∀ x ∈ t.Ts, okT x = true

theorem NodeIs.of {t : Tm} (h : nodeM t = true) : NodeIs t := by
  simp only [nodeM, Bool.and_eq_true, decide_eq_true_eq, kOk, typesB] at h
  obtain ⟨⟨⟨⟨⟨hk, hn⟩, ha⟩, _⟩, hnm⟩, ⟨hty, hts⟩, heach⟩ := h
  refine ⟨hk.1, hk.2, hn.1, hn.2, ha, hnm, fun hs => ?_, fun hs => ?_, hts, fun x hx => List.all_eq_true.1 heach x hx⟩
  · rw [if_pos hs] at hty; exact hty
  · rw [if_neg (by simp [hs])] at hty
    simp only [zeroT, Bool.and_eq_true, beq_iff_eq] at hty
    exact hty.1.1

theorem nameW_sz {s : ByteArray} (h : nameW s = true) : 1 ≤ s.size ∧ s.size ≤ 8 := by
  simp only [nameW, Bool.and_eq_true, decide_eq_true_eq] at h
  exact ⟨h.1.1.1, h.1.1.2⟩

theorem sb_len (s : ByteArray) : (sb s).length = s.size := by cases s; simp [sb, ByteArray.size]

theorem okT_toks {t : Tr} (h : okT t = true) : ∃ m, nodesW 6 t = some m ∧ m ≤ 60 ∧ (toksW 6 t).length = m := by
  obtain ⟨m, hm, h6⟩ := okT_le h
  exact ⟨m, hm, h6, toks_len _ _ _ hm⟩

theorem flat_len (f : Tr → List (List UInt8)) (n : Nat) : ∀ ts : List Tr, (∀ x ∈ ts, (f x).length ≤ n) → (ts.map f).flatten.length ≤ n * ts.length
  | [], _ => by simp
  | x :: ts, h => by
    have h1 := h x (by simp)
    have h2 := flat_len f n ts fun y hy => h y (by simp [hy])
    simp only [List.map_cons, List.flatten_cons, List.length_append, List.length_cons, Nat.mul_add]
    omega

theorem headM_len0 (k n : Int) (s z : ByteArray) (t : Tr) (ts : List Tr) (hT : shT k = true → (toksW 6 t).length ≤ 60) (hTs : (ts.map (toksW 6)).flatten.length ≤ 120) : (headM k n s z t ts).length ≤ 123 := by
  have hT4 : k = 4 → (toksW 6 t).length ≤ 60 := fun e => hT (by simp [shT, e])
  have hT7 : k = 7 → (toksW 6 t).length ≤ 60 := fun e => hT (by simp [shT, e])
  have hT12 : k = 12 → (toksW 6 t).length ≤ 60 := fun e => hT (by simp [shT, e])
  have hT16 : k = 16 → (toksW 6 t).length ≤ 60 := fun e => hT (by simp [shT, e])
  clear hT
  unfold headM
  generalize (toksW 6 t) = X at *
  generalize (ts.map (toksW 6)).flatten = Y at *
  (repeat' split) <;> simp only [List.length_cons, List.length_nil] <;> omega
theorem headM_len {t : Tm} (h : NodeIs t) : (headM t.K t.N t.S t.Z t.T t.Ts).length ≤ 123 := by
  have hT : shT t.K = true → (toksW 6 t.T).length ≤ 60 := fun hs => by obtain ⟨m, _, h6, e⟩ := okT_toks (h.ty hs); omega
  have hTs : (t.Ts.map (toksW 6)).flatten.length ≤ 60 * t.Ts.length := flat_len _ _ _ fun x hx => by obtain ⟨m, _, h6, e⟩ := okT_toks (h.each x hx); omega
  have h2 : t.Ts.length ≤ 2 := by have := h.ts; have := (shS_bd t.K).2; omega
  exact headM_len0 _ _ _ _ _ _ hT (by omega)

/-- The names of a right node have eight bytes at most. -/
theorem NodeIs.names {t : Tm} (h : NodeIs t) : t.S.size ≤ 8 ∧ t.Z.size ≤ 8 := by
  have h1 := h.nm
  have hz : ∀ s : ByteArray, isNil s = true → s.size ≤ 8 := fun s hs => by
    rw [isNil_size] at hs
    have := of_decide_eq_true hs
    omega
  unfold namesB at h1
  split at h1
  · simp only [Bool.and_eq_true] at h1; exact ⟨hz _ h1.1, hz _ h1.2⟩
  · split at h1
    · simp only [Bool.and_eq_true] at h1; exact ⟨(nameW_sz h1.1).2, hz _ h1.2⟩
    · simp only [Bool.and_eq_true] at h1; exact ⟨(nameW_sz h1.1.1).2, (nameW_sz h1.1.2).2⟩

theorem ite_len {p : Prop} [Decidable p] {a b : List UInt8} {n : Nat} (ha : a.length ≤ n) (hb : b.length ≤ n) : (if p then a else b).length ≤ n := by split <;> assumption
theorem ite_all {p : Prop} [Decidable p] {a b : List (List UInt8)} {n : Nat} (ha : ∀ x ∈ a, x.length ≤ n) (hb : ∀ x ∈ b, x.length ≤ n) : ∀ x ∈ (if p then a else b), x.length ≤ n := by split <;> assumption
theorem all_nil {n : Nat} : ∀ x ∈ ([] : List (List UInt8)), x.length ≤ n := fun x hx => by cases hx
theorem all_cons {y : List UInt8} {a : List (List UInt8)} {n : Nat} (hy : y.length ≤ n) (ha : ∀ x ∈ a, x.length ≤ n) : ∀ x ∈ y :: a, x.length ≤ n := fun x hx => by
  rcases List.mem_cons.1 hx with rfl | hx
  · exact hy
  · exact ha x hx
theorem wordM_len (k : Int) : (wordM k).length ≤ 21 := by
  unfold wordM
  iterate 16 (refine ite_len (by decide) ?_)
  decide
set_option maxHeartbeats 2000000 in
theorem headM_each0 (k n : Int) (s z : ByteArray) (t : Tr) (ts : List Tr) (hi : (Lib.itoa n).length ≤ 21) (hi2 : (Lib.itoa (ts.length : Int)).length ≤ 21) (hS : (sb s).length ≤ 21) (hZ : (sb z).length ≤ 21) : ∀ x ∈ headM k n s z t ts, x.length ≤ 21 := by
  have hw : ∀ x ∈ toksW 6 t, x.length ≤ 21 := fun x hx => Nat.le_trans (toksW_each 6 _ x hx) (by omega)
  have hws : ∀ x ∈ (ts.map (toksW 6)).flatten, x.length ≤ 21 := fun x hx => by
    obtain ⟨l, hl, hx⟩ := List.mem_flatten.1 hx
    obtain ⟨y, _, rfl⟩ := List.mem_map.1 hl
    exact Nat.le_trans (toksW_each 6 _ x hx) (by omega)
  have hsg : (signM n).length ≤ 21 := by unfold signM; (repeat' split) <;> simp
  have hwd : (wordM k).length ≤ 21 := wordM_len k
  unfold headM
  generalize (toksW 6 t) = X at *
  generalize (ts.map (toksW 6)).flatten = Y at *
  generalize Lib.itoa n = I at *
  generalize Lib.itoa (ts.length : Int) = I2 at *
  generalize sb s = S at *
  generalize sb z = Z at *
  generalize signM n = G at *
  generalize wordM k = W at *
  refine ite_all (all_cons (by simp) (all_cons hi all_nil)) ?_
  refine ite_all (all_cons (ite_len (by simp) (by simp)) all_nil) ?_
  refine ite_all (all_cons (by simp) (all_cons hS (all_cons hi2 hws))) ?_
  refine ite_all (all_cons (by simp) (all_cons hS hw)) ?_
  refine ite_all (all_cons (by simp) (all_cons hS (all_cons hi all_nil))) ?_
  refine ite_all (all_cons (by simp) (all_cons hS (all_cons hi hw))) ?_
  refine ite_all (all_cons (by simp) hw) ?_
  refine ite_all (all_cons (by simp) (all_cons hS (all_cons hZ all_nil))) ?_
  refine ite_all (all_cons (by simp) (all_cons hsg all_nil)) ?_
  refine ite_all (all_cons (by simp) hw) ?_
  refine ite_all (all_cons (by simp) (all_cons hS all_nil)) ?_
  exact all_cons hwd all_nil
theorem headM_each {t : Tm} (h : NodeIs t) : ∀ x ∈ headM t.K t.N t.S t.Z t.T t.Ts, x.length ≤ 21 := by
  have hn := h.names
  have hb := h.n1
  have hb2 := h.n2
  have hbd := shL_bd t.K
  have hbm := shM_bd t.K
  have h2 : t.Ts.length ≤ 2 := by have := h.ts; have := (shS_bd t.K).2; omega
  have hS := sb_len t.S
  have hZ := sb_len t.Z
  exact headM_each0 _ _ _ _ _ _ (Lib.itoa_length_le t.N (by omega) (by omega)) (Lib.itoa_length_le (t.Ts.length : Int) (by omega) (by omega)) (by omega) (by omega)

theorem nodesM_inv2 {l : Nat} {t : Tm} {m : Nat} (h : nodesM (l + 1) t = some m) : NodeIs t ∧ (∃ b, nodesG (nodesM l) t.A = some b ∧ m = 1 + b) := by
  simp only [nodesM] at h
  cases hn : nodeM t with
  | false => simp [hn] at h
  | true =>
    refine ⟨NodeIs.of hn, ?_⟩
    simp only [hn, if_true] at h
    cases hz : nodesG (nodesM l) t.A with
    | none => simp [hz] at h
    | some b => simp [hz] at h; exact ⟨b, rfl, h.symm⟩

theorem toksM_len : ∀ (l : Nat) (t : Tm) (m : Nat), nodesM l t = some m → (toksM l t).length ≤ 123 * m := by
  intro l
  induction l with
  | zero => intro t m h; simp [nodesM] at h
  | succ l ih =>
    intro t m h
    obtain ⟨hn, b, hb, rfl⟩ := nodesM_inv2 h
    have h1 := headM_len hn
    have hg : ∀ (ys : List Tm) (s : Nat), nodesG (nodesM l) ys = some s → ((ys.map (toksM l)).flatten).length ≤ 123 * s := by
      intro ys
      induction ys with
      | nil => intro s h; simp [nodesG] at h; simp [← h]
      | cons y ys ihy =>
        intro s h
        simp only [nodesG] at h
        cases hy : nodesM l y with
        | none => simp [hy] at h
        | some a =>
          cases hz : nodesG (nodesM l) ys with
          | none => simp [hy, hz] at h
          | some c =>
            simp [hy, hz] at h
            have e1 := ih y a hy
            have e2 := ihy c hz
            simp only [List.map_cons, List.flatten_cons, List.length_append]
            omega
    have h2 := hg _ _ hb
    show (headM t.K t.N t.S t.Z t.T t.Ts ++ (t.A.map (toksM l)).flatten).length ≤ _
    rw [List.length_append]
    omega

theorem toksM_each : ∀ (l : Nat) (t : Tm) (m : Nat), nodesM l t = some m → ∀ x ∈ toksM l t, x.length ≤ 21 := by
  intro l
  induction l with
  | zero => intro t m h; simp [nodesM] at h
  | succ l ih =>
    intro t m h x hx
    obtain ⟨hn, b, hb, rfl⟩ := nodesM_inv2 h
    obtain ⟨_, hp⟩ := nodesM_inv h
    have hx : x ∈ headM t.K t.N t.S t.Z t.T t.Ts ++ (t.A.map (toksM l)).flatten := hx
    rcases List.mem_append.1 hx with hx | hx
    · exact headM_each hn x hx
    · obtain ⟨y, hy, hx⟩ := List.mem_flatten.1 hx
      obtain ⟨z, hz, rfl⟩ := List.mem_map.1 hy
      obtain ⟨j, hj, rfl⟩ := List.mem_iff_getElem.1 hz
      obtain ⟨a, ha⟩ := hp j hj
      exact ih _ a ha x hx

theorem textM_len (l : Nat) (t : Tm) (m : Nat) (h : nodesM l t = some m) : (Lib.join (toksM l t) [32]).length ≤ 2706 * m := by
  have h1 := join_le 21 _ (toksM_each l t m h)
  have h2 := toksM_len l t m h
  omega

/-- Of a head and some parts no more than of all. -/
theorem toksN_le (l : Nat) (t : Tm) (j m : Nat) (h : nodesM (l + 1) t = some m) : (toksN l t j).length ≤ 123 * m := by
  have h1 := toksM_len _ _ _ h
  have h2 := congrArg (fun x => ((x.map (toksM l)).flatten).length) (List.take_append_drop j t.A)
  have e : toksM (l + 1) t = headM t.K t.N t.S t.Z t.T t.Ts ++ (t.A.map (toksM l)).flatten := rfl
  rw [e, List.length_append] at h1
  simp only [List.map_append, List.flatten_append, List.length_append] at h2
  unfold toksN
  rw [List.length_append]
  omega
theorem textN_len (l : Nat) (t : Tm) (j m : Nat) (h : nodesM (l + 1) t = some m) : (Lib.join (toksN l t j) [32]).length ≤ 2706 * m := by
  have h2 := toksN_le l t j m h
  have h1 := join_le 21 (toksN l t j) fun x hx => by
    refine toksM_each (l + 1) t m h x ?_
    have e : toksM (l + 1) t = headM t.K t.N t.S t.Z t.T t.Ts ++ (t.A.map (toksM l)).flatten := rfl
    rw [e]
    rcases List.mem_append.1 hx with hx | hx
    · exact List.mem_append.2 (Or.inl hx)
    · obtain ⟨y, hy, hx⟩ := List.mem_flatten.1 hx
      obtain ⟨z, hz, rfl⟩ := List.mem_map.1 hy
      exact List.mem_append.2 (Or.inr (List.mem_flatten.2 ⟨_, List.mem_map.2 ⟨z, List.mem_of_mem_take hz, rfl⟩, hx⟩))
  omega

def txM (t : Tm) : List UInt8 := if okM t = true then Lib.join (toksM 24 t) [32] else []

theorem okM_le {t : Tm} (h : okM t = true) : ∃ m, nodesM 24 t = some m ∧ m ≤ 150 := by
  unfold okM at h
  cases hm : nodesM 24 t with
  | none => simp [hm, lid] at h
  | some m =>
    refine ⟨m, rfl, ?_⟩
    by_cases h6 : m ≤ 150
    · exact h6
    · simp [hm, lid, h6] at h

end Go.Proofs.YtbdpnnfhkhkecaaGreatDoor
