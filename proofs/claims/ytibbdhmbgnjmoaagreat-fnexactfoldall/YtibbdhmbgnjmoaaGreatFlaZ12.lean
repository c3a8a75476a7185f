/-
  Folding, as a plain function on terms: what stays right, and does not grow.
-/
import Derived.Test.YtibbdhmbgnjmoaaGreatFlaZ7
import Derived.Test.YtibbdhmbgnjmoaaGreatFlaZ10
import Derived.Test.YtibbdhmbgnjmoaaGreatFlaZ11
import Derived.Test.YtibbdhmbgnjmoaaGreatFlaZ9
namespace Go.Proofs.YtibbdhmbgnjmoaaGreat
open Go.RowKit
set_option linter.unusedVariables false
set_option linter.unusedSimpArgs false

/-- A part of a term; itself where it has none there. -/
def pa (t : Tm) (i : Nat) : Tm := (t.A[i]?).getD t
theorem pa_eq {t : Tm} {i : Nat} (h : i < t.A.length) : pa t i = t.A[i] := by unfold pa; rw [List.getElem?_eq_getElem h]; rfl

def rkV (n x y : Int) : Int := if n = 1 then x + y else if n = 2 then x - y else if n = 3 then x * y else if n = 4 then (if x < y then 1 else 0) else if n = 5 then (if x = y then 1 else 0) else 0
def rkB (n x y : Int) : Bool := decide (-1000000 ≤ rkV n x y) && decide (rkV n x y ≤ 1000000)

/-- A number, or a truth, alone. -/
def numM (k v : Int) : Tm := ⟨k, v, ⟨#[]⟩, ⟨#[]⟩, ⟨0, 0, []⟩, [], []⟩

def fdOp (t : Tm) : Tm := if (pa t 0).K = 1 ∧ (pa t 1).K = 1 ∧ rkB t.N (pa t 0).N (pa t 1).N = true then numM (if 4 ≤ t.N then 2 else 1) (rkV t.N (pa t 0).N (pa t 1).N) else t
def fdIf (t : Tm) : Tm := if (pa t 0).K = 2 then (if (pa t 0).N = 1 then pa t 1 else pa t 2) else t
def fdFst (t : Tm) : Tm := if (pa t 0).K = 9 ∧ pureM (pa (pa t 0) 1) = true then pa (pa t 0) 0 else t
def fdSnd (t : Tm) : Tm := if (pa t 0).K = 9 ∧ pureM (pa (pa t 0) 0) = true then pa (pa t 0) 1 else t
def fdCase (t : Tm) : Tm := if (pa t 0).K = 12 then pa t 1 else t
def fdLet (t : Tm) : Tm := if t.N = 0 ∧ pureM (pa t 0) = true ∧ ¬ bs t.S ∈ freeW 24 (pa t 1) [] [] then pa t 1 else t
def fdTry (t : Tm) : Tm := if pureM (pa t 0) = true then pa t 0 else t

def fold1 (t : Tm) : Tm := if t.K = 15 then fdOp t else if t.K = 8 then fdIf t else if t.K = 10 then fdFst t else if t.K = 11 then fdSnd t else if t.K = 14 then fdCase t else if t.K = 6 then fdLet t else if t.K = 17 then fdTry t else t

def foldM : Tm → Tm
  | ⟨k, n, s, z, ty, ts, a⟩ => fold1 ⟨k, n, s, z, ty, ts, a.attach.map fun ⟨x, _⟩ => foldM x⟩

/-- With its parts folded. -/
def upM (t : Tm) : Tm := { t with A := t.A.map foldM }
theorem foldM_eq (t : Tm) : foldM t = fold1 (upM t) := by
  cases t; rw [foldM, upM]; simp

/-- What becomes of a term: itself, a part, a part's part, a number or a truth. -/
inductive Sub (t : Tm) : Tm → Prop
  | self : Sub t t
  | part (i : Nat) (h : i < t.A.length) : Sub t t.A[i]
  | deep (i : Nat) (h : i < t.A.length) (j : Nat) (h' : j < t.A[i].A.length) : Sub t t.A[i].A[j]
  | num (v : Int) (h1 : -1000000 ≤ v) (h2 : v ≤ 1000000) : Sub t (numM 1 v)
  | truth (v : Int) (h : v = 0 ∨ v = 1) : Sub t (numM 2 v)

theorem sub_pa (t : Tm) (i : Nat) : Sub t (pa t i) := by
  by_cases h : i < t.A.length
  · rw [pa_eq h]; exact .part i h
  · unfold pa; rw [List.getElem?_eq_none (by omega)]; exact .self

theorem sub_pa2 (t : Tm) (i j : Nat) : Sub t (pa (pa t i) j) := by
  by_cases h : i < t.A.length
  · rw [pa_eq h]
    by_cases h' : j < t.A[i].A.length
    · rw [pa_eq h']; exact .deep i h j h'
    · have : pa t.A[i] j = t.A[i] := by unfold pa; rw [List.getElem?_eq_none (by omega)]; rfl
      rw [this]; exact .part i h
  · have : pa t i = t := by unfold pa; rw [List.getElem?_eq_none (by omega)]; rfl
    rw [this]; exact sub_pa t j

theorem fold1_sub (t : Tm) : Sub t (fold1 t) := by
  unfold fold1
  split
  · unfold fdOp
    split
    · rename_i h
      obtain ⟨_, _, h⟩ := h
      simp only [rkB, Bool.and_eq_true, decide_eq_true_eq] at h
      by_cases h4 : 4 ≤ t.N
      · rw [if_pos h4]
        refine .truth _ ?_
        unfold rkV
        (repeat' split) <;> omega
      · rw [if_neg h4]
        exact .num _ h.1 h.2
    · exact .self
  split
  · unfold fdIf
    split
    · split
      · exact sub_pa t 1
      · exact sub_pa t 2
    · exact .self
  split
  · unfold fdFst
    split
    · exact sub_pa2 t 0 0
    · exact .self
  split
  · unfold fdSnd
    split
    · exact sub_pa2 t 0 1
    · exact .self
  split
  · unfold fdCase
    split
    · exact sub_pa t 1
    · exact .self
  split
  · unfold fdLet
    split
    · exact sub_pa t 1
    · exact .self
  split
  · unfold fdTry
    split
    · exact sub_pa t 0
    · exact .self
  · exact .self

theorem cntM_part {t : Tm} {i : Nat} (h : i < t.A.length) : cntM t.A[i] < cntM t := by
  have h1 := cntM_eq t
  have h2 := cntMS_get t.A i h
  omega

theorem sub_cnt {t u : Tm} (h : Sub t u) : cntM u ≤ cntM t := by
  cases h with
  | self => exact Nat.le_refl _
  | part i h => exact Nat.le_of_lt (cntM_part h)
  | deep i h j h' => exact Nat.le_of_lt (Nat.lt_trans (cntM_part h') (cntM_part h))
  | num v _ _ => have : cntM (numM 1 v) = 0 := by simp [cntM_eq, numM, ownM, cntS, cntMS]; rfl
                 omega
  | truth v _ => have : cntM (numM 2 v) = 0 := by simp [cntM_eq, numM, ownM, cntS, cntMS]; rfl
                 omega

theorem sum_map_le {f : Tm → Tm} : ∀ (l : List Tm), (∀ x ∈ l, cntM (f x) ≤ cntM x) → ((l.map f).map cntM).sum ≤ (l.map cntM).sum
  | [], _ => Nat.le_refl _
  | x :: l, h => by
    simp only [List.map_cons, List.sum_cons]
    have h1 := h x (by simp)
    have h2 := sum_map_le l (fun y hy => h y (by simp [hy]))
    omega

theorem cntMS_map {l : List Tm} {f : Tm → Tm} (h : ∀ x ∈ l, cntM (f x) ≤ cntM x) : cntMS (l.map f) ≤ cntMS l := by
  have h1 := sum_map_le l h
  unfold cntMS
  rw [List.length_map]
  exact Nat.add_le_add_left h1 _

theorem foldM_cnt : ∀ (n : Nat) (t : Tm), cntM t ≤ n → cntM (foldM t) ≤ cntM t := by
  intro n
  induction n with
  | zero =>
    intro t h
    have h1 := cntM_eq t
    have h2 := cntMS_eq t.A
    have h3 : t.A = [] := List.eq_nil_of_length_eq_zero (by omega)
    rw [foldM_eq]
    refine Nat.le_trans (sub_cnt (fold1_sub _)) ?_
    unfold upM
    rw [h3]
    simp only [List.map_nil]
    rw [cntM_eq, cntM_eq t, h3]
    exact Nat.le_refl _
  | succ n ih =>
    intro t h
    rw [foldM_eq]
    refine Nat.le_trans (sub_cnt (fold1_sub _)) ?_
    have h1 : cntMS (t.A.map foldM) ≤ cntMS t.A := cntMS_map fun x hx => by
      obtain ⟨i, hi, rfl⟩ := List.getElem_of_mem hx
      have := cntM_part hi
      exact ih _ (by omega)
    have h2 := cntM_eq t
    have h3 := cntM_eq (upM t)
    have h4 : ownM (upM t) = ownM t := rfl
    have h5 : (upM t).A = t.A.map foldM := rfl
    rw [h5] at h3
    omega

theorem nodesG_mono {f g : Tm → Option Nat} : ∀ (l : List Tm) (b : Nat), (∀ x ∈ l, ∀ a, f x = some a → g x = some a) → nodesG f l = some b → nodesG g l = some b
  | [], b, _, h => h
  | x :: l, b, hfg, h => by
    simp only [nodesG] at h ⊢
    cases h1 : f x with
    | none => simp [h1] at h
    | some a =>
      cases h2 : nodesG f l with
      | none => simp [h1, h2] at h
      | some c =>
        rw [hfg x (by simp) a h1, nodesG_mono l c (fun y hy => hfg y (by simp [hy])) h2]
        simpa [h1, h2] using h

theorem nodesM_more : ∀ (l : Nat) (t : Tm) (m : Nat), nodesM l t = some m → nodesM (l + 1) t = some m := by
  intro l
  induction l with
  | zero => intro t m h; simp [nodesM] at h
  | succ l ih =>
    intro t m h
    rw [nodesM] at h ⊢
    split at h
    · rename_i hn
      rw [if_pos hn]
      obtain ⟨b, hb, hm⟩ := Option.map_eq_some_iff.1 h
      rw [nodesG_mono t.A b (fun x _ a => ih x a) hb]
      simp [hm]
    · simp at h

theorem nodesM_le : ∀ (k l : Nat) (t : Tm) (m : Nat), nodesM l t = some m → nodesM (l + k) t = some m := by
  intro k
  induction k with
  | zero => intro l t m h; exact h
  | succ k ih => intro l t m h; exact nodesM_more _ _ _ (ih l t m h)

theorem nodesG_get {f : Tm → Option Nat} : ∀ (l : List Tm) (b : Nat), nodesG f l = some b → ∀ i (h : i < l.length), ∃ a, f l[i] = some a ∧ a ≤ b
  | [], b, _, i, hi => by simp at hi
  | x :: l, b, h, i, hi => by
    simp only [nodesG] at h
    cases h1 : f x with
    | none => simp [h1] at h
    | some a =>
      cases h2 : nodesG f l with
      | none => simp [h1, h2] at h
      | some c =>
        simp [h1, h2] at h
        cases i with
        | zero => exact ⟨a, h1, by omega⟩
        | succ i =>
          obtain ⟨a', h3, h4⟩ := nodesG_get l c h2 i (by simpa using hi)
          exact ⟨a', by simpa using h3, by omega⟩

theorem nodesM_get {l : Nat} {t : Tm} {m : Nat} (h : nodesM (l + 1) t = some m) : nodeM t = true ∧ ∀ i (hi : i < t.A.length), ∃ a, nodesM l t.A[i] = some a ∧ a + 1 ≤ m := by
  rw [nodesM] at h
  split at h
  · rename_i hn
    obtain ⟨b, hb, hm⟩ := Option.map_eq_some_iff.1 h
    refine ⟨hn, fun i hi => ?_⟩
    obtain ⟨a, h1, h2⟩ := nodesG_get t.A b hb i hi
    exact ⟨a, h1, by omega⟩
  · simp at h

theorem nil_isNil : isNil ⟨#[]⟩ = true := by unfold isNil; simp [ByteArray.toList, ByteArray.toList.loop, ByteArray.size]

theorem numM_node (v : Int) (h1 : -1000000 ≤ v) (h2 : v ≤ 1000000) : nodeM (numM 1 v) = true := by
  simp [nodeM, numM, kOk, shL, shM, shP, fixB, namesB, shN, typesB, shT, shS, zeroT, nil_isNil, h1, h2]

theorem truthM_node (v : Int) (h : v = 0 ∨ v = 1) : nodeM (numM 2 v) = true := by
  rcases h with rfl | rfl <;> simp [nodeM, numM, kOk, shL, shM, shP, fixB, namesB, shN, typesB, shT, shS, zeroT, nil_isNil]

theorem sub_nodes {l : Nat} {t u : Tm} {m : Nat} (h : Sub t u) (hm : nodesM (l + 1) t = some m) : ∃ m', nodesM (l + 1) u = some m' ∧ m' ≤ m := by
  have hp := nodesM_pos _ _ _ hm
  cases h with
  | self => exact ⟨m, hm, Nat.le_refl _⟩
  | part i h =>
    obtain ⟨a, h1, h2⟩ := (nodesM_get hm).2 i h
    exact ⟨a, nodesM_more _ _ _ h1, by omega⟩
  | deep i h j h' =>
    obtain ⟨a, h1, h2⟩ := (nodesM_get hm).2 i h
    cases l with
    | zero => simp [nodesM] at h1
    | succ l =>
      obtain ⟨a', h3, h4⟩ := (nodesM_get h1).2 j h'
      exact ⟨a', nodesM_more _ _ _ (nodesM_more _ _ _ h3), by omega⟩
  | num v h1 h2 => exact ⟨1, by rw [nodesM, if_pos (numM_node v h1 h2)]; rfl, hp⟩
  | truth v h => exact ⟨1, by rw [nodesM, if_pos (truthM_node v h)]; rfl, hp⟩

theorem foldM_fn {t : Tm} (h : t.K = 4) : (foldM t).K = 4 := by
  rw [foldM_eq]
  have : (upM t).K = 4 := h
  unfold fold1
  simp [this]

theorem nodesG_map {f : Tm → Option Nat} {g : Tm → Tm} : ∀ (l : List Tm) (b : Nat), (∀ x ∈ l, ∀ a, f x = some a → ∃ a', f (g x) = some a' ∧ a' ≤ a) → nodesG f l = some b → ∃ b', nodesG f (l.map g) = some b' ∧ b' ≤ b
  | [], b, _, h => ⟨b, h, Nat.le_refl _⟩
  | x :: l, b, hfg, h => by
    simp only [nodesG] at h
    cases h1 : f x with
    | none => simp [h1] at h
    | some a =>
      cases h2 : nodesG f l with
      | none => simp [h1, h2] at h
      | some c =>
        simp [h1, h2] at h
        obtain ⟨a', h3, h4⟩ := hfg x (by simp) a h1
        obtain ⟨c', h5, h6⟩ := nodesG_map l c (fun y hy => hfg y (by simp [hy])) h2
        exact ⟨a' + c', by simp [nodesG, h3, h5], by omega⟩

theorem up_fix {k : Int} {a : List Tm} (h : fixB k a = true) : fixB k (a.map foldM) = true := by
  unfold fixB at *
  split at h
  · rename_i hk
    rw [if_pos hk]
    cases a with
    | nil => exact h
    | cons x l =>
      simp only [decide_eq_true_eq, List.map_cons] at *
      exact foldM_fn h
  · rename_i hk
    rw [if_neg hk]

theorem up_node {t : Tm} (h : nodeM t = true) : nodeM (upM t) = true := by
  unfold nodeM upM at *
  simp only [List.length_map, Bool.and_eq_true] at *
  obtain ⟨⟨⟨⟨⟨h1, h2⟩, h3⟩, h4⟩, h5⟩, h6⟩ := h
  exact ⟨⟨⟨⟨⟨h1, h2⟩, h3⟩, up_fix h4⟩, h5⟩, h6⟩

theorem fold_nodes : ∀ (l : Nat) (t : Tm) (m : Nat), nodesM l t = some m → ∃ m', nodesM l (upM t) = some m' ∧ m' ≤ m ∧ ∃ m'', nodesM l (foldM t) = some m'' ∧ m'' ≤ m' := by
  intro l
  induction l with
  | zero => intro t m h; simp [nodesM] at h
  | succ l ih =>
    intro t m h
    have h0 := h
    rw [nodesM] at h
    split at h
    · rename_i hn
      obtain ⟨b, hb, hm⟩ := Option.map_eq_some_iff.1 h
      obtain ⟨b', h1, h2⟩ := nodesG_map (g := foldM) t.A b (fun x _ a hx => by
        obtain ⟨m', _, k1, m'', k2, k3⟩ := ih x a hx
        exact ⟨m'', k2, by omega⟩) hb
      have hu : nodesM (l + 1) (upM t) = some (1 + b') := by
        rw [nodesM, if_pos (up_node hn)]
        show (nodesG (nodesM l) (t.A.map foldM)).map _ = _
        rw [h1]; rfl
      refine ⟨_, hu, by omega, ?_⟩
      rw [foldM_eq]
      exact sub_nodes (fold1_sub _) hu
    · simp at h

end Go.Proofs.YtibbdhmbgnjmoaaGreat

/-
  A term of its own memory, its parts likewise; what a folding answers: no walk.
-/
namespace Go.Proofs.YtibbdhmbgnjmoaaGreat
open Go.RowKit
set_option linter.unusedVariables false
set_option linter.unusedSimpArgs false

/-- As FmO, and each block is one of P. -/
def FmP (P : Nat → Prop) (L B : Nat) (w : World) (D d : Nat) (t : Tm) (a1 : Option Addr) (l1 : Nat) (a2 : Option Addr) (l2 : Nat) (a3 : Option Addr) (l3 : Nat) : Prop := ∃ bs, FldO w D (OwM w D d) t a1 l1 a2 l2 a3 l3 bs ∧ bs.Nodup ∧ ∀ b ∈ bs, (L ≤ b ∧ b < B) ∧ P b

theorem FmP.fmo {P : Nat → Prop} {L B : Nat} {w : World} {D d : Nat} {t : Tm} {a1 a2 a3 : Option Addr} {l1 l2 l3 : Nat} (h : FmP P L B w D d t a1 l1 a2 l2 a3 l3) : FmO L B w D d t a1 l1 a2 l2 a3 l3 := by
  obtain ⟨bs, h1, h2, h3⟩ := h
  exact ⟨bs, h1, h2, fun b hb => (h3 b hb).1⟩

theorem FmP.keep {P : Nat → Prop} {L B L' B' : Nat} {w w' : World} {D d : Nat} {t : Tm} {a1 a2 a3 : Option Addr} {l1 l2 l3 : Nat} (h : FmP P L B w D d t a1 l1 a2 l2 a3 l3) (hb : ∀ k, L ≤ k → k < B → P k → w'.heap[k]? = w.heap[k]?) (hL : L' ≤ L) (hB : B ≤ B') : FmP P L' B' w' D d t a1 l1 a2 l2 a3 l3 := by
  obtain ⟨bs, h1, h2, h3⟩ := h
  exact ⟨bs, FldO.keep (fun b hb' => hb b (h3 b hb').1.1 (h3 b hb').1.2 (h3 b hb').2) h1, h2, fun b hb => ⟨⟨Nat.le_trans hL (h3 b hb).1.1, Nat.lt_of_lt_of_le (h3 b hb).1.2 hB⟩, (h3 b hb).2⟩⟩

theorem fmo_part {P : Nat → Prop} {L B : Nat} {w : World} {D d : Nat} {t : Tm} {a1 a2 a3 : Option Addr} {l1 l2 l3 : Nat} (h : FmP P L B w D d t a1 l1 a2 l2 a3 l3) (i : Nat) (hi : i < t.A.length) :
    ∃ g, a3 = some ⟨g, 0, none⟩ ∧ L ≤ g ∧ g < B ∧ ∃ b1 m1 e1 b2 m2 e2 b3 m3 e3, Nine w g (i * 9) t.A[i].K t.A[i].N t.A[i].S t.A[i].Z t.A[i].T.K t.A[i].T.N (.slice b1 m1 e1) (.slice b2 m2 e2) (.slice b3 m3 e3) ∧ FmP P L B w D d t.A[i] b1 m1 b2 m2 b3 m3 := by
  obtain ⟨bs, ⟨p1, p2, p3, rfl, h1, h2, h3, h4, hA⟩, hnd, hbd⟩ := h
  cases d with
  | zero => obtain ⟨_, h, _⟩ := hA; rw [h] at hi; simp at hi
  | succ d =>
    rcases hA with ⟨_, h, _⟩ | ⟨g, cs0, bss, ha3, hl, hm, hg, hc, hbl, rfl, hE⟩
    · rw [h] at hi; simp at hi
    · have hgb := (hbd g (by simp)).1
      refine ⟨g, ha3, hgb.1, hgb.2, ?_⟩
      obtain ⟨b1, m1, e1, b2, m2, e2, b3, m3, e3, h9, hfl⟩ := hE i hi (by omega)
      have hsub : (bss[i]'(by omega)).Sublist (p1 ++ p2 ++ g :: bss.flatten) := by
        have h1 : (bss[i]'(by omega)).Sublist bss.flatten := List.sublist_flatten_of_mem (List.getElem_mem _)
        exact (h1.trans (List.sublist_cons_self _ _)).trans (List.sublist_append_right _ _)
      refine ⟨b1, m1, e1, b2, m2, e2, b3, m3, e3, h9, _, hfl.map (fun _ _ _ _ _ hr => hr) (fun _ _ _ _ _ hr => hr.deeper (Nat.le_succ _)), hnd.sublist hsub, fun b hb => hbd b (hsub.subset hb)⟩

/-- A term is answered that lies in memory of its own, in blocks of P from L on and below B. -/
def OutM (P : Nat → Prop) (L B : Nat) (w : World) (D d : Nat) (u : Tm) (e : Ending) (w' : World) : Prop :=
  ∃ b1 m1 e1 b2 m2 e2 b3 m3 e3, e = .returned (.agg #[.int .i64 u.K, .int .i64 u.N, .string u.S, .string u.Z, .int .i64 u.T.K, .int .i64 u.T.N, .slice b1 m1 e1, .slice b2 m2 e2, .slice b3 m3 e3]) ∧ Below w.heap.size w w' ∧ FmP P L B w' D d u b1 m1 b2 m2 b3 m3

theorem out_of {P : Nat → Prop} {L B : Nat} {w w' : World} {D d : Nat} {u : Tm} {b1 b2 b3 : Option Addr} {m1 m2 m3 : Nat} (e1 e2 e3 : Nat) (hf : FmP P L B w D d u b1 m1 b2 m2 b3 m3) (hB : B ≤ w.heap.size) (hb : Below w.heap.size w w') :
    OutM P L B w D d u (.returned (.agg #[.int .i64 u.K, .int .i64 u.N, .string u.S, .string u.Z, .int .i64 u.T.K, .int .i64 u.T.N, .slice b1 m1 e1, .slice b2 m2 e2, .slice b3 m3 e3])) w' :=
  ⟨b1, m1, e1, b2, m2, e2, b3, m3, e3, rfl, hb, hf.keep (fun k _ hk _ => hb.block k (by omega)) (Nat.le_refl _) (Nat.le_refl _)⟩

theorem out_num {P : Nat → Prop} {L B : Nat} {w w' : World} {D d : Nat} (k v : Int) (hb : Below w.heap.size w w') :
    OutM P L B w D d (numM k v) (.returned (.agg #[.int .i64 k, .int .i64 v, .string ⟨#[]⟩, .string ⟨#[]⟩, .int .i64 0, .int .i64 0, .slice none 0 0, .slice none 0 0, .slice none 0 0])) w' := by
  refine ⟨none, 0, 0, none, 0, 0, none, 0, 0, rfl, hb, [], ⟨[], [], [], rfl, by show (0:Nat) ≤ _; omega, by show (0:Nat) ≤ _; omega, ?_, ?_, ?_⟩, List.nodup_nil, by simp⟩
  · cases D with
    | zero => exact ⟨rfl, rfl, rfl⟩
    | succ D => exact Or.inl ⟨rfl, rfl, rfl⟩
  · cases D with
    | zero => exact ⟨rfl, rfl, rfl⟩
    | succ D => exact Or.inl ⟨rfl, rfl, rfl⟩
  · cases d with
    | zero => exact ⟨rfl, rfl, rfl⟩
    | succ d => exact Or.inl ⟨rfl, rfl, rfl⟩

end Go.Proofs.YtibbdhmbgnjmoaaGreat

/-
  What the program's foldings come to that take several parts at once. (Written by mkfd1.py.)
-/
namespace Go.Proofs.YtibbdhmbgnjmoaaGreat
open Go.RowKit
set_option linter.unusedVariables false
set_option linter.unusedSimpArgs false

theorem bX_drew {X W : World} (h : Below X.heap.size X W) : Below X.heap.size X W.drew := h.drew
theorem bX_alloc {X W : World} {o : Obj} (h : Below X.heap.size X W) : Below X.heap.size X (W.alloc o) := h.alloc h.size _
theorem bX_set {X W : World} {p j : Nat} {v : Value} (h : Below X.heap.size X W) (hp : X.heap.size ≤ p) : Below X.heap.size X (W.setCell ⟨p, j, none⟩ v) := h.setCell (p := ⟨p, j, none⟩) hp _

set_option maxRecDepth 100000 in
set_option maxHeartbeats 8000000 in
theorem foldedCase_any (P : Nat → Prop) (D d L B : Nat) (t : Tm) (a1 : Option Addr) (l1 c1 : Nat) (a2 : Option Addr) (l2 c2 : Nat) (a3 : Option Addr) (l3 c3 : Nat) (w : World) (hB : B ≤ w.heap.size) (hf : FmP P L B w D d t a1 l1 a2 l2 a3 l3) (hl : t.A.length = 3) :
    Calls Tryz.prog 57 #[.agg #[.int .i64 t.K, .int .i64 t.N, .string t.S, .string t.Z, .int .i64 t.T.K, .int .i64 t.T.N, .slice a1 l1 c1, .slice a2 l2 c2, .slice a3 l3 c3]] w (OutM P L B w D d (fdCase t)) := by
  obtain rfl : l3 = 3 := by have := hf.fmo.fm.m.len.1; omega
  obtain ⟨g, rfl, hgL, hgB, x0a, m0a, e0a, x0b, m0b, e0b, x0c, m0c, e0c, h90, hf0⟩ := fmo_part hf 0 (by omega)
  obtain ⟨g1, hg1, _, _, x1a, m1a, e1a, x1b, m1b, e1b, x1c, m1c, e1c, h91, hf1⟩ := fmo_part hf 1 (by omega)
  cases hg1
  have hp0 : pa t 0 = t.A[0] := pa_eq (by omega)
  have hp1 : pa t 1 = t.A[1] := pa_eq (by omega)
  obtain ⟨R, hR⟩ : ∃ R, fdCase t = R := ⟨_, rfl⟩
  rw [hR]
  unfold fdCase at hR
  rw [hp0, hp1] at hR
  have HR : Hid (_ = R) := hR
  clear hR hp0 hp1
  generalize t.A[0] = u0 at *
  generalize t.A[1] = u1 at *
  obtain ⟨X, hX⟩ : ∃ X, X = (w.alloc (.cells #[.int .i64 t.K, .int .i64 t.N, .string t.S, .string t.Z, .int .i64 t.T.K, .int .i64 t.T.N, .slice a1 l1 c1, .slice a2 l2 c2, .slice (some ⟨g, 0, none⟩) 3 c3] 34)).alloc (.cells #[.int .i64 0, .int .i64 0, .string ⟨#[]⟩, .string ⟨#[]⟩, .int .i64 0, .int .i64 0, .slice none 0 0, .slice none 0 0, .slice none 0 0] 34) := ⟨_, rfl⟩
  have hXb : Below w.heap.size w X := by rw [hX]; exact ((Below.refl _ _).alloc (Nat.le_refl _) _).alloc (by simp) _
  have hX0 : X.heap[w.heap.size]? = some (.cells #[.int .i64 t.K, .int .i64 t.N, .string t.S, .string t.Z, .int .i64 t.T.K, .int .i64 t.T.N, .slice a1 l1 c1, .slice a2 l2 c2, .slice (some ⟨g, 0, none⟩) 3 c3] 34 (0, 0)) := by rw [hX, Below.heap_alloc _ _ _ (by simp)]; exact heap_new rfl
  have hX1 : X.heap[w.heap.size + 1]? = some (.cells #[.int .i64 0, .int .i64 0, .string ⟨#[]⟩, .string ⟨#[]⟩, .int .i64 0, .int .i64 0, .slice none 0 0, .slice none 0 0, .slice none 0 0] 34 (0, 0)) := by rw [hX]; exact heap_new (by simp)
  have hXs : X.heap.size = w.heap.size + 2 := by rw [hX]; simp
  have HX : Hid (X = _) := hX
  clear hX
  have HS : Hid (∀ W : World, Below X.heap.size X W → W.cell? ⟨w.heap.size, 8, none⟩ = some (.slice (some ⟨g, 0, none⟩) 3 c3) ∧ W.cell? ⟨g, 0, none⟩ = some (.int .i64 u0.K) ∧ W.cell? ⟨g, 1, none⟩ = some (.int .i64 u0.N) ∧ W.cell? ⟨g, 2, none⟩ = some (.string u0.S) ∧ W.cell? ⟨g, 3, none⟩ = some (.string u0.Z) ∧ W.cell? ⟨g, 4, none⟩ = some (.int .i64 u0.T.K) ∧ W.cell? ⟨g, 5, none⟩ = some (.int .i64 u0.T.N) ∧ W.cell? ⟨g, 6, none⟩ = some (.slice x0a m0a e0a) ∧ W.cell? ⟨g, 7, none⟩ = some (.slice x0b m0b e0b) ∧ W.cell? ⟨g, 8, none⟩ = some (.slice x0c m0c e0c) ∧ W.cell? ⟨g, 9, none⟩ = some (.int .i64 u1.K) ∧ W.cell? ⟨g, 9 + 1, none⟩ = some (.int .i64 u1.N) ∧ W.cell? ⟨g, 9 + 2, none⟩ = some (.string u1.S) ∧ W.cell? ⟨g, 9 + 3, none⟩ = some (.string u1.Z) ∧ W.cell? ⟨g, 9 + 4, none⟩ = some (.int .i64 u1.T.K) ∧ W.cell? ⟨g, 9 + 5, none⟩ = some (.int .i64 u1.T.N) ∧ W.cell? ⟨g, 9 + 6, none⟩ = some (.slice x1a m1a e1a) ∧ W.cell? ⟨g, 9 + 7, none⟩ = some (.slice x1b m1b e1b) ∧ W.cell? ⟨g, 9 + 8, none⟩ = some (.slice x1c m1c e1c)) := by
    intro W hW
    have y0 := (hW.block w.heap.size (by omega)).trans hX0
    have hbW : Below w.heap.size w W := hXb.trans (hW.mono hXb.size)
    obtain ⟨q0_0, q0_1, q0_2, q0_3, q0_4, q0_5, q0_6, q0_7, q0_8⟩ := h90.below hbW (by omega)
    obtain ⟨q1_0, q1_1, q1_2, q1_3, q1_4, q1_5, q1_6, q1_7, q1_8⟩ := h91.below hbW (by omega)
    exact ⟨row_cell y0 8, q0_0, q0_1, q0_2, q0_3, q0_4, q0_5, q0_6, q0_7, q0_8, q1_0, q1_1, q1_2, q1_3, q1_4, q1_5, q1_6, q1_7, q1_8⟩
  go_enter Tryz.func57, Tryz.ntmps57
  go_wp2_with fail
  rw [← HX.out]
  go_region_held3 (fun w' => w'.cell? ⟨w.heap.size, 8, none⟩ = some (.slice (some ⟨g, 0, none⟩) 3 c3) ∧ w'.cell? ⟨g, 0, none⟩ = some (.int .i64 u0.K) ∧ w'.cell? ⟨g, 1, none⟩ = some (.int .i64 u0.N) ∧ w'.cell? ⟨g, 2, none⟩ = some (.string u0.S) ∧ w'.cell? ⟨g, 3, none⟩ = some (.string u0.Z) ∧ w'.cell? ⟨g, 4, none⟩ = some (.int .i64 u0.T.K) ∧ w'.cell? ⟨g, 5, none⟩ = some (.int .i64 u0.T.N) ∧ w'.cell? ⟨g, 6, none⟩ = some (.slice x0a m0a e0a) ∧ w'.cell? ⟨g, 7, none⟩ = some (.slice x0b m0b e0b) ∧ w'.cell? ⟨g, 8, none⟩ = some (.slice x0c m0c e0c) ∧ w'.cell? ⟨g, 9, none⟩ = some (.int .i64 u1.K) ∧ w'.cell? ⟨g, 9 + 1, none⟩ = some (.int .i64 u1.N) ∧ w'.cell? ⟨g, 9 + 2, none⟩ = some (.string u1.S) ∧ w'.cell? ⟨g, 9 + 3, none⟩ = some (.string u1.Z) ∧ w'.cell? ⟨g, 9 + 4, none⟩ = some (.int .i64 u1.T.K) ∧ w'.cell? ⟨g, 9 + 5, none⟩ = some (.int .i64 u1.T.N) ∧ w'.cell? ⟨g, 9 + 6, none⟩ = some (.slice x1a m1a e1a) ∧ w'.cell? ⟨g, 9 + 7, none⟩ = some (.slice x1b m1b e1b) ∧ w'.cell? ⟨g, 9 + 8, none⟩ = some (.slice x1c m1c e1c)) ((refine HS.out _ ?_; repeat (first | with_reducible exact Below.refl _ _ | with_reducible refine bX_drew ?_ | with_reducible refine bX_alloc ?_ | with_reducible refine bX_set ?_ (by first | exact Nat.le_refl _ | omega | simp)))) (fail)
  all_goals
    first
      | (obtain ⟨Y, hY⟩ : ∃ Y, Y = ((X.alloc (.cells #[.int .i64 u0.K, .int .i64 u0.N, .string u0.S, .string u0.Z, .int .i64 u0.T.K, .int .i64 u0.T.N, .slice x0a m0a e0a, .slice x0b m0b e0b, .slice x0c m0c e0c] 34)).alloc (.cells #[.int .i64 u1.K, .int .i64 u1.N, .string u1.S, .string u1.Z, .int .i64 u1.T.K, .int .i64 u1.T.N, .slice x1a m1a e1a, .slice x1b m1b e1b, .slice x1c m1c e1c] 34)).drew := ⟨_, rfl⟩; rw [← hY]; have hYX : Below X.heap.size X Y  := (by subst hY; exact bX_drew (bX_alloc (bX_alloc (Below.refl _ _)))); have z0 : Y.heap[w.heap.size + 2]? = some (.cells #[.int .i64 u0.K, .int .i64 u0.N, .string u0.S, .string u0.Z, .int .i64 u0.T.K, .int .i64 u0.T.N, .slice x0a m0a e0a, .slice x0b m0b e0b, .slice x0c m0c e0c] 34 (0, 0)) := (by subst hY; refine (Below.heap_alloc _ _ _ (by simp [hXs])).trans ?_; exact heap_new (by simp [hXs])); have z1 : Y.heap[w.heap.size + 2 + 1]? = some (.cells #[.int .i64 u1.K, .int .i64 u1.N, .string u1.S, .string u1.Z, .int .i64 u1.T.K, .int .i64 u1.T.N, .slice x1a m1a e1a, .slice x1b m1b e1b, .slice x1c m1c e1c] 34 (0, 0)) := (by subst hY; exact heap_new (by simp [hXs])); clear hY)
      | (obtain ⟨Y, hY⟩ : ∃ Y, Y = ((X.alloc (.cells #[.int .i64 u1.K, .int .i64 u1.N, .string u1.S, .string u1.Z, .int .i64 u1.T.K, .int .i64 u1.T.N, .slice x1a m1a e1a, .slice x1b m1b e1b, .slice x1c m1c e1c] 34)).alloc (.cells #[.int .i64 u0.K, .int .i64 u0.N, .string u0.S, .string u0.Z, .int .i64 u0.T.K, .int .i64 u0.T.N, .slice x0a m0a e0a, .slice x0b m0b e0b, .slice x0c m0c e0c] 34)).drew := ⟨_, rfl⟩; rw [← hY]; have hYX : Below X.heap.size X Y  := (by subst hY; exact bX_drew (bX_alloc (bX_alloc (Below.refl _ _)))); have z1 : Y.heap[w.heap.size + 2]? = some (.cells #[.int .i64 u1.K, .int .i64 u1.N, .string u1.S, .string u1.Z, .int .i64 u1.T.K, .int .i64 u1.T.N, .slice x1a m1a e1a, .slice x1b m1b e1b, .slice x1c m1c e1c] 34 (0, 0)) := (by subst hY; refine (Below.heap_alloc _ _ _ (by simp [hXs])).trans ?_; exact heap_new (by simp [hXs])); have z0 : Y.heap[w.heap.size + 2 + 1]? = some (.cells #[.int .i64 u0.K, .int .i64 u0.N, .string u0.S, .string u0.Z, .int .i64 u0.T.K, .int .i64 u0.T.N, .slice x0a m0a e0a, .slice x0b m0b e0b, .slice x0c m0c e0c] 34 (0, 0)) := (by subst hY; exact heap_new (by simp [hXs])); clear hY)
    have hYw : Below w.heap.size w Y := hXb.trans (hYX.mono hXb.size)
    have y0 := (hYX.block w.heap.size (by omega)).trans hX0
    have y1 := (hYX.block (w.heap.size + 1) (by omega)).trans hX1
    obtain ⟨f0, f1, f2, f3, f4, f5, f6, f7, f8⟩ := Nine.box y0
    obtain ⟨p0, p1, p2, p3, p4, p5, p6, p7, p8⟩ := Nine.box y1
    have pf := row_free y1
    obtain ⟨v0_0, v0_1, v0_2, v0_3, v0_4, v0_5, v0_6, v0_7, v0_8⟩ := Nine.box z0
    obtain ⟨v1_0, v1_1, v1_2, v1_3, v1_4, v1_5, v1_6, v1_7, v1_8⟩ := Nine.box z1
    by_cases hk : u0.K = 12
    · have hkb : (u0.K == 12) = true := by simp [hk]
      have HK : Hid (u0.K = 12) := hk
      clear hk
      go_wp2_with fail
      refine bodyPost_ret (v := .agg #[.int .i64 u1.K, .int .i64 u1.N, .string u1.S, .string u1.Z, .int .i64 u1.T.K, .int .i64 u1.T.N, .slice x1a m1a e1a, .slice x1b m1b e1b, .slice x1c m1c e1c]) (by simp [results, Tryz.results57, go_sem, p0, p1, p2, p3, p4, p5, p6, p7, p8]) rfl ?_
      rw [← HR.out]
      rw [if_pos HK.out]; exact out_of _ _ _ hf1 hB (by repeat (first | with_reducible exact hYw | with_reducible refine bX_set ?_ (Nat.le_add_right _ _) | with_reducible refine bX_drew ?_ | with_reducible refine bX_alloc ?_))
    · have hkb : (u0.K == 12) = false := by simp [hk]
      go_wp2_with fail
      refine bodyPost_ret (v := .agg #[.int .i64 t.K, .int .i64 t.N, .string t.S, .string t.Z, .int .i64 t.T.K, .int .i64 t.T.N, .slice a1 l1 c1, .slice a2 l2 c2, .slice (some ⟨g, 0, none⟩) 3 c3]) (by simp [results, Tryz.results57, go_sem, p0, p1, p2, p3, p4, p5, p6, p7, p8]) rfl ?_
      rw [← HR.out]
      rw [if_neg hk]; exact out_of _ _ _ hf hB (by repeat (first | with_reducible exact hYw | with_reducible refine bX_set ?_ (Nat.le_add_right _ _) | with_reducible refine bX_drew ?_ | with_reducible refine bX_alloc ?_))

end Go.Proofs.YtibbdhmbgnjmoaaGreat
