/-
  Terms out of tokens, in plain words: readers, what they read, and that texts come back. No walk, no statement.
-/
import Derived.Test.YthmmapahobkhnaaPmZ6
import Derived.Test.YthmmapahobkhnaaPmZ9
namespace Go.Proofs.Ythmmapahobkhnaa
open Go.RowKit
set_option linter.unusedVariables false
set_option linter.unusedSimpArgs false

/-- A reader: what comes of the first tokens, and how many these are. -/
def Rr (α : Type) : Type := List (List UInt8) → Option (α × Nat)
def Rr.ret {α : Type} (a : α) : Rr α := fun _ => some (a, 0)
def Rr.bind {α β : Type} (f : Rr α) (g : α → Rr β) : Rr β := fun T => match f T with
  | none => none
  | some (a, u) => match g a (T.drop u) with
    | none => none
    | some (b, v) => some (b, u + v)
def Rr.opt {α : Type} (o : Option α) : Rr α := fun _ => o.map fun a => (a, 0)
def Rr.fail {α : Type} : Rr α := fun _ => none
def tokR : Rr (List UInt8) := fun T => match T with
  | [] => none
  | x :: _ => some (x, 1)
def manyR {α : Type} (f : Rr α) : Nat → Rr (List α)
  | 0 => Rr.ret []
  | n + 1 => f.bind fun a => (manyR f n).bind fun l => Rr.ret (a :: l)

/-- What a reader makes of just these tokens. -/
def Gets {α : Type} (f : Rr α) (P : List (List UInt8)) (a : α) : Prop := ∀ Q, f (P ++ Q) = some (a, P.length)
theorem gets_ret {α : Type} (a : α) : Gets (Rr.ret a) [] a := fun Q => rfl
theorem gets_opt {α : Type} {o : Option α} {a : α} (h : o = some a) : Gets (Rr.opt o) [] a := fun Q => by subst h; rfl
theorem gets_tok (x : List UInt8) : Gets tokR [x] x := fun Q => rfl
theorem gets_bind {α β : Type} {f : Rr α} {g : α → Rr β} {P Q : List (List UInt8)} {a : α} {b : β} (h1 : Gets f P a) (h2 : Gets (g a) Q b) : Gets (f.bind g) (P ++ Q) b := fun X => by
  unfold Rr.bind
  rw [List.append_assoc, h1]
  simp only
  rw [List.drop_append_of_le_length (Nat.le_refl _), List.drop_length, List.nil_append, h2]
  simp
theorem gets_many {α : Type} {f : Rr α} (tx : α → List (List UInt8)) : ∀ (l : List α), (∀ a ∈ l, Gets f (tx a) a) → Gets (manyR f l.length) (l.map tx).flatten l
  | [], _ => gets_ret []
  | a :: l, h => by
    have h1 := h a (by simp)
    have h2 := gets_many tx l fun b hb => h b (by simp [hb])
    rw [List.map_cons, List.flatten_cons]
    refine gets_bind h1 ?_
    have := gets_bind h2 (g := fun l => Rr.ret (a :: l)) (gets_ret _)
    rwa [List.append_nil] at this

/-- What is true of whatever a reader reads. -/
def Told {α : Type} (f : Rr α) (V : List (List UInt8) → α → Prop) : Prop := ∀ T a u, f T = some (a, u) → u ≤ T.length ∧ V (T.take u) a
theorem told_ret {α : Type} (a : α) : Told (Rr.ret a) (fun P b => P = [] ∧ b = a) := fun T b u h => by
  simp only [Rr.ret, Option.some.injEq, Prod.mk.injEq] at h
  obtain ⟨rfl, rfl⟩ := h
  exact ⟨Nat.zero_le _, by simp, rfl⟩
theorem told_opt {α : Type} (o : Option α) : Told (Rr.opt o) (fun P b => P = [] ∧ o = some b) := fun T b u h => by
  cases o with
  | none => cases h
  | some a =>
    simp only [Rr.opt, Option.map_some, Option.some.injEq, Prod.mk.injEq] at h
    obtain ⟨rfl, rfl⟩ := h
    exact ⟨Nat.zero_le _, by simp, rfl⟩
theorem told_tok : Told tokR (fun P x => P = [x]) := fun T x u h => by
  cases T with
  | nil => cases h
  | cons y T =>
    simp only [tokR, Option.some.injEq, Prod.mk.injEq] at h
    obtain ⟨rfl, rfl⟩ := h
    exact ⟨by simp, by simp⟩
theorem told_bind {α β : Type} {f : Rr α} {g : α → Rr β} {V : List (List UInt8) → α → Prop} {W : α → List (List UInt8) → β → Prop} (h1 : Told f V) (h2 : ∀ a, Told (g a) (W a)) :
    Told (f.bind g) (fun P b => ∃ a P1 P2, P = P1 ++ P2 ∧ V P1 a ∧ W a P2 b) := fun T b u h => by
  unfold Rr.bind at h
  cases hf : f T with
  | none => rw [hf] at h; cases h
  | some p =>
    obtain ⟨a, v⟩ := p
    rw [hf] at h
    simp only at h
    cases hg : g a (T.drop v) with
    | none => rw [hg] at h; cases h
    | some q =>
      obtain ⟨c, x⟩ := q
      rw [hg] at h
      simp only [Option.some.injEq, Prod.mk.injEq] at h
      obtain ⟨rfl, rfl⟩ := h
      obtain ⟨a1, a2⟩ := h1 _ _ _ hf
      obtain ⟨b1, b2⟩ := h2 _ _ _ _ hg
      rw [List.length_drop] at b1
      exact ⟨by omega, a, _, _, List.take_add, a2, b2⟩
theorem told_le {α : Type} {f : Rr α} {V W : List (List UInt8) → α → Prop} (h : Told f V) (hw : ∀ P a, V P a → W P a) : Told f W := fun T a u e => ⟨(h T a u e).1, hw _ _ (h T a u e).2⟩
theorem told_many {α : Type} {f : Rr α} {V : List (List UInt8) → α → Prop} (h : Told f V) : ∀ n, Told (manyR f n) (fun P l => l.length = n ∧ ∃ Ps : List (List (List UInt8)), Ps.length = n ∧ P = Ps.flatten ∧ ∀ i (h1 : i < Ps.length) (h2 : i < l.length), V Ps[i] l[i])
  | 0 => told_le (told_ret []) fun P l h => by
    obtain ⟨rfl, rfl⟩ := h
    exact ⟨rfl, [], rfl, rfl, fun i hi => by simp at hi⟩
  | n + 1 => told_le (told_bind h fun a => told_bind (told_many h n) fun l => told_ret (a :: l)) fun P l h => by
    obtain ⟨a, P1, P2, rfl, h1, l2, P3, P4, rfl, ⟨h2, Ps, h3, rfl, h4⟩, rfl, rfl⟩ := h
    refine ⟨by simp [h2], P1 :: Ps, by simp [h3], by simp, fun i hi hi2 => ?_⟩
    cases i with
    | zero => exact h1
    | succ i => exact h4 i (by simpa using hi) (by simpa using hi2)

/-! The program's reader of terms. -/

def kindW (x : List UInt8) : Int := if x = [110] then 1 else if x = [116] then 2 else if x = [117] then 2 else if x = [118] then 3 else if x = [102, 110] then 4 else if x = [97, 112, 112] then 5 else if x = [108, 101, 116] then 6 else if x = [102, 105, 120] then 7 else if x = [105, 102] then 8 else if x = [112, 97, 105, 114] then 9 else if x = [102, 115, 116] then 10 else if x = [115, 110, 100] then 11 else if x = [110, 105, 108] then 12 else if x = [99, 111, 110, 115] then 13 else if x = [99, 97, 115, 101] then 14 else if x = [111, 112] then 15 else if x = [114, 97, 105, 115, 101] then 16 else if x = [116, 114, 121] then 17 else 0

def opI (x : List UInt8) : Int := if x = [43] then 1 else if x = [45] then 2 else if x = [42] then 3 else if x = [60] then 4 else if x = [61] then 5 else 0
def opR (x : List UInt8) : Option Int := if x.length = 1 then some (opI x) else none
def cntR (x : List UInt8) : Option Int := (digR x).map (fun n : Nat => (n : Int))

/-- The number behind a word. -/
def numR (x : List UInt8) : Rr Int := if x = [116] then Rr.ret 1 else if x = [110] then tokR.bind fun y => Rr.opt (sgnR y) else if x = [108, 101, 116] ∨ x = [102, 105, 120] then tokR.bind fun y => Rr.opt (cntR y) else if x = [111, 112] then tokR.bind fun y => Rr.opt (opR y) else Rr.ret 0

structure Hw where
  n : Int
  s : List UInt8
  z : List UInt8
  t : Tr
  ts : List Tr

def tyR : Rr Tr := prs 6
def tysR : Rr (List Tr) := tokR.bind fun y => (Rr.opt (cntR y)).bind fun n => if n ≤ 2 then manyR tyR n.toNat else Rr.fail
def hdR (x : List UInt8) (k : Int) : Rr Hw := (if 0 < shN k then tokR else Rr.ret []).bind fun s => (if 1 < shN k then tokR else Rr.ret []).bind fun z => (numR x).bind fun n => (if shT k = true then tyR else Rr.ret ⟨0, 0, []⟩).bind fun t => (if 0 < shS k then tysR else Rr.ret []).bind fun ts => Rr.ret ⟨n, s, z, t, ts⟩

def mkB (l : List UInt8) : ByteArray := ⟨l.toArray⟩
def termR : Nat → Rr Tm
  | 0 => Rr.fail
  | l + 1 => tokR.bind fun x => if kindW x = 0 then Rr.fail else (hdR x (kindW x)).bind fun h => (manyR (termR l) (shP (kindW x)).toNat).bind fun ps => Rr.ret ⟨kindW x, h.n, mkB h.s, mkB h.z, h.t, h.ts, ps⟩

/-! What they read of a text of their own. -/

def wordN (k n : Int) : List UInt8 := if k = 2 then (if n = 0 then [117] else [116]) else wordM k
def numT (k n : Int) : List (List UInt8) := if k = 1 ∨ k = 6 ∨ k = 7 then [Lib.itoa n] else if k = 15 then [signM n] else []
/-- What stands behind the word, ahead of a term's parts. -/
def tailM (k n : Int) (s z : List UInt8) (t : Tr) (ts : List Tr) : List (List UInt8) :=
  (if 0 < shN k then [s] else []) ++ ((if 1 < shN k then [z] else []) ++ (numT k n ++ ((if shT k = true then toksW 6 t else []) ++ ((if 0 < shS k then Lib.itoa (ts.length : Int) :: (ts.map (toksW 6)).flatten else []) ++ []))))

theorem kinds {k : Int} (h1 : 1 ≤ k) (h2 : k ≤ 17) : k = 1 ∨ k = 2 ∨ k = 3 ∨ k = 4 ∨ k = 5 ∨ k = 6 ∨ k = 7 ∨ k = 8 ∨ k = 9 ∨ k = 10 ∨ k = 11 ∨ k = 12 ∨ k = 13 ∨ k = 14 ∨ k = 15 ∨ k = 16 ∨ k = 17 := by omega

set_option maxHeartbeats 1000000 in
theorem headM_eq {k n : Int} (h1 : 1 ≤ k) (h2 : k ≤ 17) (s z : ByteArray) (t : Tr) (ts : List Tr) : headM k n s z t ts = wordN k n :: tailM k n (sb s) (sb z) t ts := by
  rcases kinds h1 h2 with rfl | rfl | rfl | rfl | rfl | rfl | rfl | rfl | rfl | rfl | rfl | rfl | rfl | rfl | rfl | rfl | rfl <;> simp [headM, wordN, tailM, shN, shT, shS, numT, wordM]

theorem kindW_word {k : Int} (n : Int) (h1 : 1 ≤ k) (h2 : k ≤ 17) : kindW (wordN k n) = k := by
  rcases kinds h1 h2 with rfl | rfl | rfl | rfl | rfl | rfl | rfl | rfl | rfl | rfl | rfl | rfl | rfl | rfl | rfl | rfl | rfl
  all_goals first | rfl | (unfold wordN; rw [if_pos rfl]; split <;> rfl)

theorem kindW_some {x : List UInt8} (h : kindW x ≠ 0) : 1 ≤ kindW x ∧ kindW x ≤ 17 ∧ (x = wordM (kindW x) ∨ x = [117]) := by
  by_cases e1 : x = [110]
  · subst e1; exact ⟨by decide, by decide, Or.inl rfl⟩
  by_cases e2 : x = [116]
  · subst e2; exact ⟨by decide, by decide, Or.inl rfl⟩
  by_cases e3 : x = [117]
  · subst e3; exact ⟨by decide, by decide, Or.inr rfl⟩
  by_cases e4 : x = [118]
  · subst e4; exact ⟨by decide, by decide, Or.inl rfl⟩
  by_cases e5 : x = [102, 110]
  · subst e5; exact ⟨by decide, by decide, Or.inl rfl⟩
  by_cases e6 : x = [97, 112, 112]
  · subst e6; exact ⟨by decide, by decide, Or.inl rfl⟩
  by_cases e7 : x = [108, 101, 116]
  · subst e7; exact ⟨by decide, by decide, Or.inl rfl⟩
  by_cases e8 : x = [102, 105, 120]
  · subst e8; exact ⟨by decide, by decide, Or.inl rfl⟩
  by_cases e9 : x = [105, 102]
  · subst e9; exact ⟨by decide, by decide, Or.inl rfl⟩
  by_cases e10 : x = [112, 97, 105, 114]
  · subst e10; exact ⟨by decide, by decide, Or.inl rfl⟩
  by_cases e11 : x = [102, 115, 116]
  · subst e11; exact ⟨by decide, by decide, Or.inl rfl⟩
  by_cases e12 : x = [115, 110, 100]
  · subst e12; exact ⟨by decide, by decide, Or.inl rfl⟩
  by_cases e13 : x = [110, 105, 108]
  · subst e13; exact ⟨by decide, by decide, Or.inl rfl⟩
  by_cases e14 : x = [99, 111, 110, 115]
  · subst e14; exact ⟨by decide, by decide, Or.inl rfl⟩
  by_cases e15 : x = [99, 97, 115, 101]
  · subst e15; exact ⟨by decide, by decide, Or.inl rfl⟩
  by_cases e16 : x = [111, 112]
  · subst e16; exact ⟨by decide, by decide, Or.inl rfl⟩
  by_cases e17 : x = [114, 97, 105, 115, 101]
  · subst e17; exact ⟨by decide, by decide, Or.inl rfl⟩
  by_cases e18 : x = [116, 114, 121]
  · subst e18; exact ⟨by decide, by decide, Or.inl rfl⟩
  exact (h (by unfold kindW; rw [if_neg e1, if_neg e2, if_neg e3, if_neg e4, if_neg e5, if_neg e6, if_neg e7, if_neg e8, if_neg e9, if_neg e10, if_neg e11, if_neg e12, if_neg e13, if_neg e14, if_neg e15, if_neg e16, if_neg e17, if_neg e18])).elim

theorem itoa_le {n : Int} (h1 : 0 ≤ n) (h2 : n ≤ 2) : cntR (Lib.itoa n) = some n := by
  obtain ⟨m, rfl⟩ : ∃ m : Nat, n = m := ⟨n.toNat, by omega⟩
  rw [Lib.itoa_nonneg]
  unfold cntR
  rw [digR_dec (by omega)]
  rfl

theorem opR_sign {n : Int} (h1 : 1 ≤ n) (h2 : n ≤ 5) : opR (signM n) = some n := by
  have : n = 1 ∨ n = 2 ∨ n = 3 ∨ n = 4 ∨ n = 5 := by omega
  rcases this with rfl | rfl | rfl | rfl | rfl <;> rfl

theorem gets_tokopt {α : Type} {o : List UInt8 → Option α} {y : List UInt8} {a : α} (h : o y = some a) : Gets (tokR.bind fun y => Rr.opt (o y)) [y] a := by
  have := gets_bind (gets_tok y) (g := fun y => Rr.opt (o y)) (gets_opt h)
  rwa [List.append_nil] at this

theorem gets_num {k n : Int} (h1 : 1 ≤ k) (h2 : k ≤ 17) (h3 : shL k ≤ n) (h4 : n ≤ shM k) : Gets (numR (wordN k n)) (numT k n) n := by
  by_cases k1 : k = 1
  · subst k1
    have h3 : -1000000 ≤ n := h3
    have h4 : n ≤ 1000000 := h4
    exact gets_tokopt (sgnR_itoa n h3 h4)
  by_cases k2 : k = 2
  · subst k2
    have h3 : 0 ≤ n := h3
    have h4 : n ≤ 1 := h4
    have : n = 0 ∨ n = 1 := by omega
    rcases this with rfl | rfl
    · exact gets_ret 0
    · exact gets_ret 1
  by_cases k6 : k = 6
  · subst k6
    have h3 : 0 ≤ n := h3
    have h4 : n ≤ 2 := h4
    exact gets_tokopt (itoa_le h3 h4)
  by_cases k7 : k = 7
  · subst k7
    have h3 : 0 ≤ n := h3
    have h4 : n ≤ 2 := h4
    exact gets_tokopt (itoa_le h3 h4)
  by_cases k15 : k = 15
  · subst k15
    have h3 : 1 ≤ n := h3
    have h4 : n ≤ 5 := h4
    exact gets_tokopt (opR_sign h3 h4)
  have h3 : 0 ≤ n := by simpa [shL, k1, k15] using h3
  have h4 : n ≤ 0 := by simpa [shM, k1, k2, k6, k7, k15] using h4
  obtain rfl : n = 0 := by omega
  rcases kinds h1 h2 with rfl | rfl | rfl | rfl | rfl | rfl | rfl | rfl | rfl | rfl | rfl | rfl | rfl | rfl | rfl | rfl | rfl <;> first | contradiction | exact gets_ret 0

theorem gets_ty {t : Tr} (h : okT t = true) : Gets tyR (toksW 6 t) t := fun Q => by
  obtain ⟨m, hm, _, hl⟩ := okT_toks h
  rw [hl]
  exact prs_toks 6 t m Q hm

theorem gets_tys {ts : List Tr} (h2 : ts.length ≤ 2) (h : ∀ x ∈ ts, okT x = true) : Gets tysR (Lib.itoa (ts.length : Int) :: (ts.map (toksW 6)).flatten) ts := by
  have hm : Gets (manyR tyR ((ts.length : Int)).toNat) (ts.map (toksW 6)).flatten ts := by
    rw [Int.toNat_natCast]
    exact gets_many (toksW 6) ts fun x hx => gets_ty (h x hx)
  have h3 : Gets (if (ts.length : Int) ≤ 2 then manyR tyR ((ts.length : Int)).toNat else Rr.fail) (ts.map (toksW 6)).flatten ts := by rw [if_pos (by omega)]; exact hm
  have h4 := gets_bind (gets_opt (itoa_le (n := (ts.length : Int)) (by omega) (by omega))) (g := fun n : Int => if n ≤ 2 then manyR tyR n.toNat else Rr.fail) h3
  exact gets_bind (gets_tok (Lib.itoa (ts.length : Int))) h4

theorem isNil_sb {s : ByteArray} (h : isNil s = true) : sb s = [] := by
  rw [isNil_size] at h
  have h := of_decide_eq_true h
  have := sb_len s
  exact List.length_eq_zero_iff.1 (by omega)
theorem zeroT_eq {t : Tr} (h : zeroT t = true) : t = ⟨0, 0, []⟩ := by
  obtain ⟨k, n, a⟩ := t
  simp only [zeroT, Bool.and_eq_true, beq_iff_eq] at h
  obtain ⟨⟨rfl, rfl⟩, h3⟩ := h
  have : a = [] := List.length_eq_zero_iff.1 (by omega)
  rw [this]

/-- What a right node is where its kind does not name something. -/
structure Bare (t : Tm) : Prop where
  hs : ¬ 0 < shN t.K → sb t.S = []
  hz : ¬ 1 < shN t.K → sb t.Z = []
  ht : ¬ shT t.K = true → t.T = ⟨0, 0, []⟩
  hts : ¬ 0 < shS t.K → t.Ts = []
theorem Bare.of {t : Tm} (h : nodeM t = true) : Bare t := by
  simp only [nodeM, Bool.and_eq_true, decide_eq_true_eq, kOk, typesB] at h
  obtain ⟨⟨⟨⟨⟨hk, hn⟩, ha⟩, _⟩, hnm⟩, ⟨hty, hts⟩, heach⟩ := h
  have hb := shN_bd t.K
  refine ⟨fun h => ?_, fun h => ?_, fun h => ?_, fun h => ?_⟩
  · rw [namesB, if_pos (by omega), Bool.and_eq_true] at hnm
    exact isNil_sb hnm.1
  · by_cases h0 : shN t.K = 0
    · rw [namesB, if_pos h0, Bool.and_eq_true] at hnm
      exact isNil_sb hnm.2
    · rw [namesB, if_neg h0, if_pos (by omega), Bool.and_eq_true] at hnm
      exact isNil_sb hnm.2
  · rw [if_neg h] at hty
    exact zeroT_eq hty
  · exact List.length_eq_zero_iff.1 (by omega)

theorem gets_if {α : Type} {c : Prop} [Decidable c] {f : Rr α} {P : List (List UInt8)} {a z : α} (h1 : c → Gets f P a) (h2 : ¬ c → a = z) : Gets (if c then f else Rr.ret z) (if c then P else []) a := by
  by_cases h : c
  · rw [if_pos h, if_pos h]; exact h1 h
  · rw [if_neg h, if_neg h, h2 h]; exact gets_ret z

theorem gets_hd {t : Tm} (h : nodeM t = true) : Gets (hdR (wordN t.K t.N) t.K) (tailM t.K t.N (sb t.S) (sb t.Z) t.T t.Ts) ⟨t.N, sb t.S, sb t.Z, t.T, t.Ts⟩ := by
  have hn := NodeIs.of h
  have hb := Bare.of h
  have h2 : t.Ts.length ≤ 2 := by have := hn.ts; have := (shS_bd t.K).2; omega
  unfold hdR tailM
  refine gets_bind (gets_if (fun _ => gets_tok _) hb.hs) (gets_bind (gets_if (fun _ => gets_tok _) hb.hz) (gets_bind (gets_num hn.k1 hn.k17 hn.n1 hn.n2) (gets_bind (gets_if (fun hs => gets_ty (hn.ty hs)) hb.ht) (gets_bind (gets_if (fun _ => gets_tys h2 hn.each) hb.hts) (gets_ret _)))))

theorem mkB_sb (s : ByteArray) : mkB (sb s) = s := sb_mk s

theorem nodesG_all {f : Tm → Option Nat} : ∀ {l : List Tm} {b : Nat}, nodesG f l = some b → ∀ x ∈ l, ∃ m, f x = some m
  | [], b, _, x, hx => by cases hx
  | y :: l, b, h, x, hx => by
    simp only [nodesG] at h
    cases hy : f y with
    | none => simp [hy] at h
    | some a =>
      cases hz : nodesG f l with
      | none => simp [hy, hz] at h
      | some c =>
        rcases List.mem_cons.1 hx with rfl | hx
        · exact ⟨a, hy⟩
        · exact nodesG_all hz x hx

theorem nodesM_node {l : Nat} {t : Tm} {m : Nat} (h : nodesM (l + 1) t = some m) : nodeM t = true := by
  simp only [nodesM] at h
  cases hn : nodeM t with
  | false => simp [hn] at h
  | true => rfl

theorem gets_term : ∀ (l : Nat) (t : Tm) (m : Nat), nodesM l t = some m → Gets (termR l) (toksM l t) t := by
  intro l
  induction l with
  | zero => intro t m h; simp [nodesM] at h
  | succ l ih =>
    intro t m h
    have hnd := nodesM_node h
    obtain ⟨hn, b, hb, _⟩ := nodesM_inv2 h
    have hp : Gets (manyR (termR l) t.A.length) (t.A.map (toksM l)).flatten t.A := gets_many (toksM l) t.A fun x hx => by
      obtain ⟨mx, hmx⟩ := nodesG_all hb x hx
      exact ih x mx hmx
    have hl : (shP t.K).toNat = t.A.length := by have := hn.a; omega
    have e : toksM (l + 1) t = [wordN t.K t.N] ++ (tailM t.K t.N (sb t.S) (sb t.Z) t.T t.Ts ++ ((t.A.map (toksM l)).flatten ++ [])) := by
      show headM t.K t.N t.S t.Z t.T t.Ts ++ (t.A.map (toksM l)).flatten = _
      rw [headM_eq hn.k1 hn.k17, List.append_nil]
      rfl
    rw [e]
    refine gets_bind (gets_tok _) ?_
    rw [kindW_word _ hn.k1 hn.k17, if_neg (by have := hn.k1; omega)]
    refine gets_bind (gets_hd hnd) ?_
    rw [hl]
    refine gets_bind hp ?_
    have := gets_ret (⟨t.K, t.N, mkB (sb t.S), mkB (sb t.Z), t.T, t.Ts, t.A⟩ : Tm)
    rw [mkB_sb, mkB_sb] at this
    rw [mkB_sb, mkB_sb]
    have e2 : (⟨t.K, t.N, t.S, t.Z, t.T, t.Ts, t.A⟩ : Tm) = t := by cases t; rfl
    show Gets (Rr.ret (⟨t.K, t.N, t.S, t.Z, t.T, t.Ts, t.A⟩ : Tm)) [] t
    rw [e2] at this ⊢
    exact this

/-! What is read is the text of what comes of it, where that is right. -/

theorem tok_fwd {x : List UInt8} {k n : Int} (h : tokTy x = some (k, n)) : tokOf k n = x := by
  unfold tokTy at h
  repeat' split at h
  all_goals first | (simp only [Option.some.injEq, Prod.mk.injEq] at h; obtain ⟨rfl, rfl⟩ := h; rename_i hx; rw [hx]; rfl) | cases h

theorem prsN_fwd {f : List (List UInt8) → Option (Tr × Nat)} {tx : Tr → List (List UInt8)} (hf : ∀ T t u, f T = some (t, u) → u ≤ T.length ∧ T.take u = tx t) : ∀ m T ts u, prsN f m T = some (ts, u) → u ≤ T.length ∧ T.take u = (ts.map tx).flatten := by
  intro m
  induction m with
  | zero =>
    intro T ts u h
    simp only [prsN, Option.some.injEq, Prod.mk.injEq] at h
    obtain ⟨rfl, rfl⟩ := h
    exact ⟨Nat.zero_le _, by simp⟩
  | succ m ih =>
    intro T ts u h
    rw [prsN] at h
    cases h1 : f T with
    | none => rw [h1] at h; cases h
    | some p =>
      obtain ⟨t, u1⟩ := p
      rw [h1] at h
      simp only at h
      cases h2 : prsN f m (T.drop u1) with
      | none => rw [h2] at h; cases h
      | some q =>
        obtain ⟨ts2, u2⟩ := q
        rw [h2] at h
        simp only [Option.some.injEq, Prod.mk.injEq] at h
        obtain ⟨rfl, rfl⟩ := h
        obtain ⟨a1, a2⟩ := hf T t u1 h1
        obtain ⟨b1, b2⟩ := ih _ _ _ h2
        rw [List.length_drop] at b1
        refine ⟨by omega, ?_⟩
        rw [List.take_add, a2, b2]
        simp

theorem told_prs : ∀ l, Told (prs l) (fun P t => P = toksW l t) := by
  intro l
  induction l with
  | zero => intro T t u h; simp [prs] at h
  | succ l ih =>
    intro T t u h
    cases T with
    | nil => simp [prs] at h
    | cons x T =>
      cases h1 : tokTy x with
      | none => rw [prs, h1] at h; cases h
      | some p =>
        obtain ⟨k, n⟩ := p
        rw [prs_cons h1] at h
        obtain ⟨q, h2, h3⟩ := Option.map_eq_some_iff.1 h
        obtain ⟨ps, u1⟩ := q
        simp only [Prod.mk.injEq] at h3
        obtain ⟨rfl, rfl⟩ := h3
        obtain ⟨b1, b2⟩ := prsN_fwd ih _ _ _ _ h2
        refine ⟨by simp; omega, ?_⟩
        rw [List.take_succ_cons, b2, ← tok_fwd h1]
        rfl
theorem told_ty : Told tyR (fun P t => P = toksW 6 t) := told_prs 6

theorem flat_map {α : Type} {tx : α → List (List UInt8)} : ∀ (Ps : List (List (List UInt8))) (l : List α), Ps.length = l.length → (∀ i (h1 : i < Ps.length) (h2 : i < l.length), Ps[i] = tx l[i]) → Ps.flatten = (l.map tx).flatten
  | [], [], _, _ => rfl
  | [], _ :: _, h, _ => by simp at h
  | _ :: _, [], h, _ => by simp at h
  | P :: Ps, a :: l, h, hv => by
    have h0 := hv 0 (by simp) (by simp)
    have hr := flat_map (tx := tx) Ps l (by simpa using h) fun i h1 h2 => by
      have := hv (i + 1) (by simpa using h1) (by simpa using h2)
      simpa using this
    simp only [List.flatten_cons, List.map_cons]
    rw [hr]
    congr 1

theorem cntR_some {y : List UInt8} {n : Int} (h : cntR y = some n) : y = Lib.itoa n ∧ 0 ≤ n := by
  unfold cntR at h
  obtain ⟨m, h1, rfl⟩ := Option.map_eq_some_iff.1 h
  rw [Lib.itoa_nonneg]
  exact ⟨(digR_some h1).1, by omega⟩

theorem told_tys : Told tysR (fun P ts => P = Lib.itoa (ts.length : Int) :: (ts.map (toksW 6)).flatten) := by
  refine told_le (told_bind told_tok fun y => told_bind (told_opt (cntR y)) fun n => (?_ : Told _ (fun P ts => 0 ≤ n → (ts.length : Int) = n ∧ P = (ts.map (toksW 6)).flatten))) ?_
  · by_cases hn : n ≤ 2
    · rw [if_pos hn]
      refine told_le (told_many told_ty n.toNat) fun P ts h h0 => ?_
      obtain ⟨h1, Ps, h2, rfl, h3⟩ := h
      exact ⟨by omega, flat_map Ps ts (by omega) h3⟩
    · rw [if_neg hn]
      intro T a u h
      cases h
  · rintro P ts ⟨y, P1, P2, rfl, rfl, n, P3, P4, rfl, ⟨rfl, hc⟩, h5⟩
    obtain ⟨h6, h7⟩ := cntR_some hc
    obtain ⟨h8, rfl⟩ := h5 h7
    rw [h8, h6]
    rfl

theorem told_tokopt {α : Type} (o : List UInt8 → Option α) : Told (tokR.bind fun y => Rr.opt (o y)) (fun P a => ∃ y, P = [y] ∧ o y = some a) :=
  told_le (told_bind told_tok fun y => told_opt (o y)) fun P a h => by
    obtain ⟨y, P1, P2, rfl, rfl, rfl, h2⟩ := h
    exact ⟨y, by simp, h2⟩

theorem opI_sign {y : List UInt8} (h : 1 ≤ opI y) : y = signM (opI y) := by
  unfold opI at h ⊢
  iterate 5 (split; (rename_i e; rw [e]; rfl); skip)
  exact absurd h (by simp_all)

set_option maxHeartbeats 1000000 in
theorem told_num {x : List UInt8} (hx : kindW x ≠ 0) : Told (numR x) (fun P n => shL (kindW x) ≤ n → n ≤ shM (kindW x) → wordN (kindW x) n = x ∧ P = numT (kindW x) n) := by
  obtain ⟨h1, h2, h3⟩ := kindW_some hx
  by_cases hu : x = [117]
  · subst hu
    exact told_le (told_ret 0) fun P n h _ _ => by obtain ⟨rfl, rfl⟩ := h; exact ⟨rfl, rfl⟩
  have h3 : x = wordM (kindW x) := h3.resolve_right hu
  by_cases x1 : x = [110]
  · subst x1
    refine told_le (told_tokopt sgnR) fun P n h _ _ => ?_
    obtain ⟨y, rfl, hy⟩ := h
    rw [sgnR_some hy]
    exact ⟨rfl, rfl⟩
  by_cases x2 : x = [116]
  · subst x2
    exact told_le (told_ret 1) fun P n h _ _ => by obtain ⟨rfl, rfl⟩ := h; exact ⟨rfl, rfl⟩
  by_cases x6 : x = [108, 101, 116]
  · subst x6
    refine told_le (told_tokopt cntR) fun P n h _ _ => ?_
    obtain ⟨y, rfl, hy⟩ := h
    rw [(cntR_some hy).1]
    exact ⟨rfl, rfl⟩
  by_cases x7 : x = [102, 105, 120]
  · subst x7
    refine told_le (told_tokopt cntR) fun P n h _ _ => ?_
    obtain ⟨y, rfl, hy⟩ := h
    rw [(cntR_some hy).1]
    exact ⟨rfl, rfl⟩
  by_cases x15 : x = [111, 112]
  · subst x15
    refine told_le (told_tokopt opR) fun P n h hn _ => ?_
    obtain ⟨y, rfl, hy⟩ := h
    have hn : 1 ≤ n := hn
    unfold opR at hy
    split at hy
    · injection hy with hy
      subst hy
      refine ⟨rfl, ?_⟩
      have := opI_sign hn
      show [y] = [signM (opI y)]
      rw [← this]
    · cases hy
  have e : numR x = Rr.ret 0 := by
    unfold numR
    rw [if_neg x2, if_neg x1, if_neg (by rintro (h | h); exact x6 h; exact x7 h), if_neg x15]
  rw [e]
  refine told_le (told_ret 0) fun P n h _ _ => ?_
  obtain ⟨rfl, rfl⟩ := h
  have k1 : kindW x ≠ 1 := fun e => x1 (by rw [h3, e]; rfl)
  have k2 : kindW x ≠ 2 := fun e => x2 (by rw [h3, e]; rfl)
  have k6 : kindW x ≠ 6 := fun e => x6 (by rw [h3, e]; rfl)
  have k7 : kindW x ≠ 7 := fun e => x7 (by rw [h3, e]; rfl)
  have k15 : kindW x ≠ 15 := fun e => x15 (by rw [h3, e]; rfl)
  unfold wordN numT
  rw [if_neg k2, if_neg (by rintro (h | h | h); exact k1 h; exact k6 h; exact k7 h), if_neg k15]
  exact ⟨h3.symm, rfl⟩

theorem told_if {α : Type} {c : Prop} [Decidable c] {f : Rr α} {V : List (List UInt8) → α → Prop} {z : α} (h : Told f V) : Told (if c then f else Rr.ret z) (fun P a => (c → V P a) ∧ (¬ c → P = [])) := by
  by_cases hc : c
  · rw [if_pos hc]; exact told_le h fun P a hv => ⟨fun _ => hv, fun hn => (hn hc).elim⟩
  · rw [if_neg hc]; exact told_le (told_ret z) fun P a hv => ⟨fun hp => (hc hp).elim, fun _ => hv.1⟩

theorem told_hd {x : List UInt8} (hx : kindW x ≠ 0) : Told (hdR x (kindW x)) (fun P h => shL (kindW x) ≤ h.n → h.n ≤ shM (kindW x) → wordN (kindW x) h.n = x ∧ P = tailM (kindW x) h.n h.s h.z h.t h.ts) := by
  unfold hdR
  refine told_le (told_bind (told_if told_tok) fun s => told_bind (told_if told_tok) fun z => told_bind (told_num hx) fun n => told_bind (told_if told_ty) fun t => told_bind (told_if told_tys) fun ts => told_ret _) ?_
  rintro P h ⟨s, Ps, P', rfl, ⟨s1, s2⟩, z, Pz, P'', rfl, ⟨z1, z2⟩, n, Pn, P3, rfl, hn, t, Pt, P4, rfl, ⟨t1, t2⟩, ts, Pts, P5, rfl, ⟨u1, u2⟩, rfl, rfl⟩ h1 h2
  obtain ⟨w1, w2⟩ := hn h1 h2
  refine ⟨w1, ?_⟩
  have a1 : Ps = if 0 < shN (kindW x) then [s] else [] := by split <;> rename_i hc; exact s1 hc; exact s2 hc
  have a2 : Pz = if 1 < shN (kindW x) then [z] else [] := by split <;> rename_i hc; exact z1 hc; exact z2 hc
  have a3 : Pt = if shT (kindW x) = true then toksW 6 t else [] := by split <;> rename_i hc; exact t1 hc; exact t2 hc
  have a4 : Pts = if 0 < shS (kindW x) then Lib.itoa (ts.length : Int) :: (ts.map (toksW 6)).flatten else [] := by split <;> rename_i hc; exact u1 hc; exact u2 hc
  rw [a1, a2, w2, a3, a4]
  rfl

theorem sb_mkB (l : List UInt8) : sb (mkB l) = l := by simp [sb, mkB]

theorem told_term : ∀ l, Told (termR l) (fun P t => ∀ m, nodesM l t = some m → P = toksM l t) := by
  intro l
  induction l with
  | zero => intro T t u h; cases h
  | succ l ih =>
    have key : ∀ x, Told (if kindW x = 0 then Rr.fail else (hdR x (kindW x)).bind fun h => (manyR (termR l) (shP (kindW x)).toNat).bind fun ps => Rr.ret (⟨kindW x, h.n, mkB h.s, mkB h.z, h.t, h.ts, ps⟩ : Tm)) (fun P t => ∀ m, nodesM (l + 1) t = some m → x :: P = toksM (l + 1) t) := by
      intro x
      by_cases hx : kindW x = 0
      · rw [if_pos hx]
        intro T a u h
        cases h
      · rw [if_neg hx]
        refine told_le (told_bind (told_hd hx) fun h => told_bind (told_many ih (shP (kindW x)).toNat) fun ps => told_ret _) ?_
        rintro P t ⟨h, P1, P2, rfl, hh, ps, P3, P4, rfl, ⟨h1, Ps, h2, rfl, h3⟩, rfl, rfl⟩ m hm
        obtain ⟨hn, b, hb, _⟩ := nodesM_inv2 hm
        obtain ⟨e1, e2⟩ := hh hn.n1 hn.n2
        have e3 : Ps.flatten = (ps.map (toksM l)).flatten := flat_map Ps ps (by omega) fun i h4 h5 => by
          obtain ⟨mx, hmx⟩ := nodesG_all hb ps[i] (List.getElem_mem h5)
          exact h3 i h4 h5 mx hmx
        show _ = headM (kindW x) h.n (mkB h.s) (mkB h.z) h.t h.ts ++ (ps.map (toksM l)).flatten
        rw [headM_eq hn.k1 hn.k17, e1, sb_mkB, sb_mkB, ← e2, ← e3]
        simp
    refine told_le (told_bind told_tok key) ?_
    rintro P t ⟨x, P1, P2, rfl, rfl, h⟩ m hm
    exact h m hm

/-- The term that the tokens are, all of them. -/
def parM (T : List (List UInt8)) : Option Tm := match termR 24 T with
  | some (t, u) => if u = T.length ∧ okM t = true then some t else none
  | none => none

theorem parM_some {T : List (List UInt8)} {t : Tm} (h : parM T = some t) : T = toksM 24 t ∧ okM t = true := by
  unfold parM at h
  cases h1 : termR 24 T with
  | none => rw [h1] at h; cases h
  | some p =>
    obtain ⟨t', u⟩ := p
    rw [h1] at h
    simp only at h
    split at h
    · rename_i hc
      injection h with h
      subst h
      obtain ⟨m, hm, _⟩ := okM_le hc.2
      obtain ⟨_, h2⟩ := told_term 24 T t' u h1
      refine ⟨?_, hc.2⟩
      rw [← h2 m hm, hc.1, List.take_length]
    · cases h
theorem parM_of {t : Tm} (h : okM t = true) : parM (toksM 24 t) = some t := by
  obtain ⟨m, hm, _⟩ := okM_le h
  have := gets_term 24 t m hm []
  rw [List.append_nil] at this
  unfold parM
  rw [this]
  simp [h]

/-! Texts and their tokens. -/

theorem join_spl (s : List UInt8) : Lib.join (spl s) [32] = s := by
  have key : ∀ (s cur : List UInt8), Lib.join (splAcc cur s) [32] = cur ++ s := by
    intro s
    induction s with
    | nil => intro cur; simp [splAcc, Lib.join_cons, Lib.joinTail]
    | cons b s ih =>
      intro cur
      rw [splAcc]
      split
      · rename_i hb
        rw [Lib.join_cons]
        have hne : splAcc [] s ≠ [] := by
          cases s with
          | nil => simp [splAcc]
          | cons c s => rw [splAcc]; split; simp; intro e; have := ih []; rw [splAcc] at this; split at this; contradiction; rw [e] at this; simp [Lib.join_nil] at this
        rw [joinTail_cons _ hne, ih, hb]
        simp
      · rw [ih]; simp
  exact key s []

theorem spl_join (P : List (List UInt8)) (hne : P ≠ []) (hp : ∀ x ∈ P, ∀ b ∈ x, b ≠ 32) : spl (Lib.join P [32]) = P := by
  cases P with
  | nil => exact (hne rfl).elim
  | cons x r =>
    rw [Lib.join_cons]
    unfold spl
    rw [splAcc_word x [] _ (hp x (by simp)), List.nil_append, splAcc_tail r x fun y hy => hp y (by simp [hy])]

end Go.Proofs.Ythmmapahobkhnaa
