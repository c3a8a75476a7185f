/-
  The model's 'l2Int': a number as text; 'l2Word'.
-/
import Derived.Test.YtjikcckggifinaaDoorTtZ33
import Derived.Test.YtjikcckggifinaaDoorTtLt
import Derived.Test.YtjikcckggifinaaDoorTtTmT
import Derived.Deep.RegionLaw
import Derived.Test.YtjikcckggifinaaDoorTtZ15
import Derived.LoopN
namespace Go.Proofs.YtjikcckggifinaaDoor
open Go.RowKit
set_option linter.unusedVariables false
set_option linter.unusedSimpArgs false

theorem lw_1 (w : World) : Calls Tryd.prog 26 #[.int .i64 1] w fun e w' => e = .returned (.string ⟨(wordM 1).toArray⟩) ∧ Below w.heap.size w w' := by
  go_enter Tryd.func26, Tryd.ntmps26
  go_wp2_with fail
  go_ret
  exact ⟨rfl, (Below.refl _ _).alloc (Nat.le_refl _) _⟩
theorem lw_2 (w : World) : Calls Tryd.prog 26 #[.int .i64 2] w fun e w' => e = .returned (.string ⟨(wordM 2).toArray⟩) ∧ Below w.heap.size w w' := by
  go_enter Tryd.func26, Tryd.ntmps26
  go_wp2_with fail
  go_ret
  exact ⟨rfl, (Below.refl _ _).alloc (Nat.le_refl _) _⟩
theorem lw_3 (w : World) : Calls Tryd.prog 26 #[.int .i64 3] w fun e w' => e = .returned (.string ⟨(wordM 3).toArray⟩) ∧ Below w.heap.size w w' := by
  go_enter Tryd.func26, Tryd.ntmps26
  go_wp2_with fail
  go_ret
  exact ⟨rfl, (Below.refl _ _).alloc (Nat.le_refl _) _⟩
theorem lw_4 (w : World) : Calls Tryd.prog 26 #[.int .i64 4] w fun e w' => e = .returned (.string ⟨(wordM 4).toArray⟩) ∧ Below w.heap.size w w' := by
  go_enter Tryd.func26, Tryd.ntmps26
  go_wp2_with fail
  go_ret
  exact ⟨rfl, (Below.refl _ _).alloc (Nat.le_refl _) _⟩
theorem lw_5 (w : World) : Calls Tryd.prog 26 #[.int .i64 5] w fun e w' => e = .returned (.string ⟨(wordM 5).toArray⟩) ∧ Below w.heap.size w w' := by
  go_enter Tryd.func26, Tryd.ntmps26
  go_wp2_with fail
  go_ret
  exact ⟨rfl, (Below.refl _ _).alloc (Nat.le_refl _) _⟩
theorem lw_6 (w : World) : Calls Tryd.prog 26 #[.int .i64 6] w fun e w' => e = .returned (.string ⟨(wordM 6).toArray⟩) ∧ Below w.heap.size w w' := by
  go_enter Tryd.func26, Tryd.ntmps26
  go_wp2_with fail
  go_ret
  exact ⟨rfl, (Below.refl _ _).alloc (Nat.le_refl _) _⟩
theorem lw_7 (w : World) : Calls Tryd.prog 26 #[.int .i64 7] w fun e w' => e = .returned (.string ⟨(wordM 7).toArray⟩) ∧ Below w.heap.size w w' := by
  go_enter Tryd.func26, Tryd.ntmps26
  go_wp2_with fail
  go_ret
  exact ⟨rfl, (Below.refl _ _).alloc (Nat.le_refl _) _⟩
theorem lw_8 (w : World) : Calls Tryd.prog 26 #[.int .i64 8] w fun e w' => e = .returned (.string ⟨(wordM 8).toArray⟩) ∧ Below w.heap.size w w' := by
  go_enter Tryd.func26, Tryd.ntmps26
  go_wp2_with fail
  go_ret
  exact ⟨rfl, (Below.refl _ _).alloc (Nat.le_refl _) _⟩
theorem lw_9 (w : World) : Calls Tryd.prog 26 #[.int .i64 9] w fun e w' => e = .returned (.string ⟨(wordM 9).toArray⟩) ∧ Below w.heap.size w w' := by
  go_enter Tryd.func26, Tryd.ntmps26
  go_wp2_with fail
  go_ret
  exact ⟨rfl, (Below.refl _ _).alloc (Nat.le_refl _) _⟩
theorem lw_10 (w : World) : Calls Tryd.prog 26 #[.int .i64 10] w fun e w' => e = .returned (.string ⟨(wordM 10).toArray⟩) ∧ Below w.heap.size w w' := by
  go_enter Tryd.func26, Tryd.ntmps26
  go_wp2_with fail
  go_ret
  exact ⟨rfl, (Below.refl _ _).alloc (Nat.le_refl _) _⟩
theorem lw_11 (w : World) : Calls Tryd.prog 26 #[.int .i64 11] w fun e w' => e = .returned (.string ⟨(wordM 11).toArray⟩) ∧ Below w.heap.size w w' := by
  go_enter Tryd.func26, Tryd.ntmps26
  go_wp2_with fail
  go_ret
  exact ⟨rfl, (Below.refl _ _).alloc (Nat.le_refl _) _⟩
theorem lw_12 (w : World) : Calls Tryd.prog 26 #[.int .i64 12] w fun e w' => e = .returned (.string ⟨(wordM 12).toArray⟩) ∧ Below w.heap.size w w' := by
  go_enter Tryd.func26, Tryd.ntmps26
  go_wp2_with fail
  go_ret
  exact ⟨rfl, (Below.refl _ _).alloc (Nat.le_refl _) _⟩
theorem lw_13 (w : World) : Calls Tryd.prog 26 #[.int .i64 13] w fun e w' => e = .returned (.string ⟨(wordM 13).toArray⟩) ∧ Below w.heap.size w w' := by
  go_enter Tryd.func26, Tryd.ntmps26
  go_wp2_with fail
  go_ret
  exact ⟨rfl, (Below.refl _ _).alloc (Nat.le_refl _) _⟩
theorem lw_14 (w : World) : Calls Tryd.prog 26 #[.int .i64 14] w fun e w' => e = .returned (.string ⟨(wordM 14).toArray⟩) ∧ Below w.heap.size w w' := by
  go_enter Tryd.func26, Tryd.ntmps26
  go_wp2_with fail
  go_ret
  exact ⟨rfl, (Below.refl _ _).alloc (Nat.le_refl _) _⟩
theorem lw_15 (w : World) : Calls Tryd.prog 26 #[.int .i64 15] w fun e w' => e = .returned (.string ⟨(wordM 15).toArray⟩) ∧ Below w.heap.size w w' := by
  go_enter Tryd.func26, Tryd.ntmps26
  go_wp2_with fail
  go_ret
  exact ⟨rfl, (Below.refl _ _).alloc (Nat.le_refl _) _⟩
theorem lw_16 (w : World) : Calls Tryd.prog 26 #[.int .i64 16] w fun e w' => e = .returned (.string ⟨(wordM 16).toArray⟩) ∧ Below w.heap.size w w' := by
  go_enter Tryd.func26, Tryd.ntmps26
  go_wp2_with fail
  go_ret
  exact ⟨rfl, (Below.refl _ _).alloc (Nat.le_refl _) _⟩
theorem lw_17 (w : World) : Calls Tryd.prog 26 #[.int .i64 17] w fun e w' => e = .returned (.string ⟨(wordM 17).toArray⟩) ∧ Below w.heap.size w w' := by
  go_enter Tryd.func26, Tryd.ntmps26
  go_wp2_with fail
  go_ret
  exact ⟨rfl, (Below.refl _ _).alloc (Nat.le_refl _) _⟩

end Go.Proofs.YtjikcckggifinaaDoor

/-
  The model's 'l2Text': what it says, and plain facts.
-/
namespace Go.Proofs.YtjikcckggifinaaDoor
open Go.RowKit
set_option linter.unusedVariables false
set_option linter.unusedSimpArgs false

def SaidLX (l : Nat) : Prop := ∀ (D d L B : Nat) (t : Tm) (a1 : Option Addr) (l1 c1 : Nat) (a2 : Option Addr) (l2 c2 : Nat) (a3 : Option Addr) (l3 c3 : Nat) (m : Nat) (w : World), B ≤ w.heap.size → Fm L B w D d t a1 l1 a2 l2 a3 l3 → nodesM l t = some m → m ≤ 1000 →
    Calls Tryd.prog 13 #[.agg #[.int .i64 t.K, .int .i64 t.N, .string t.S, .string t.Z, .int .i64 t.T.K, .int .i64 t.T.N, .slice a1 l1 c1, .slice a2 l2 c2, .slice a3 l3 c3]] w fun e w' => e = .returned (.string ⟨(Lib.join (toksM l t) [32]).toArray⟩) ∧ Below w.heap.size w w'

theorem nil_of {s : ByteArray} (h : isNil s = true) : s = ⟨#[]⟩ := by
  rw [isNil_size] at h
  have h0 := of_decide_eq_true h
  cases s with
  | mk d =>
    have : d.size = 0 := h0
    rw [Array.size_eq_zero_iff] at this
    rw [this]

theorem nodesG_le (g : Tm → Option Nat) : ∀ (ys : List Tm) (b : Nat), nodesG g ys = some b → ∀ j (hj : j < ys.length) a, g ys[j] = some a → a ≤ b := by
  intro ys
  induction ys with
  | nil => intro b h j hj; simp at hj
  | cons y ys ih =>
    intro b h j hj a ha
    simp only [nodesG] at h
    cases hy : g y with
    | none => simp [hy] at h
    | some c =>
      cases hz : nodesG g ys with
      | none => simp [hy, hz] at h
      | some e =>
        simp [hy, hz] at h
        cases j with
        | zero =>
          have ha : g y = some a := ha
          rw [hy] at ha
          injection ha with ha
          omega
        | succ j =>
          have := ih e hz j (by simpa using hj) a ha
          omega
theorem partM_le {l : Nat} {t : Tm} {m : Nat} (h : nodesM (l + 1) t = some m) (j : Nat) (hj : j < t.A.length) {a : Nat} (ha : nodesM l t.A[j] = some a) : a ≤ m := by
  obtain ⟨_, b, hb, rfl⟩ := nodesM_inv2 h
  have := nodesG_le _ _ _ hb j hj a ha
  omega
theorem joinN_len {l : Nat} {t : Tm} {m : Nat} (h : nodesM (l + 1) t = some m) (j : Nat) (hj : j < t.A.length) : (Lib.join (toksN l t j) [32]).length + 1 + (Lib.join (toksM l t.A[j]) [32]).length ≤ 2706 * m := by
  obtain ⟨_, hp⟩ := nodesM_inv h
  obtain ⟨a, ha⟩ := hp j hj
  have h1 := textN_len l t (j + 1) m h
  rw [join_part l t j a hj ha] at h1
  simp only [List.length_append, List.length_cons] at h1
  omega
theorem str_head (a : ByteArray) (b : List UInt8) (h : a.data.toList = b) : a = ⟨b.toArray⟩ := by
  subst h
  cases a
  simp

theorem full_of {s : ByteArray} (h : 1 ≤ s.size) : s.toList.isEmpty = false := by
  have e : isNil s = decide (s.size = 0) := isNil_size s
  unfold isNil at e
  rw [e]
  exact decide_eq_false (by omega)

theorem tyK_pos {t : Tr} {m : Nat} (h : nodesW 6 t = some m) : 0 < t.K := by
  have h2 : nodesW 6 ⟨t.K, t.N, t.A⟩ = some m := by rw [tr_eta]; exact h
  obtain ⟨hok, _⟩ := nodesW_inv h2
  have := kn_cases' hok
  omega

def varX (s : ByteArray) (n : Nat) (Ts : List Tr) (j : Nat) : List UInt8 := 118 :: 32 :: (sb s ++ 32 :: (Lib.itoa (n : Int) ++ ((Ts.take j).map fun x => 32 :: textW 6 x).flatten))
theorem varX_succ (s : ByteArray) (n : Nat) (Ts : List Tr) (j : Nat) (h : j < Ts.length) : varX s n Ts (j + 1) = varX s n Ts j ++ 32 :: textW 6 Ts[j] := by
  unfold varX
  rw [List.take_succ_eq_append_getElem h, List.map_append, List.flatten_append]
  simp
theorem tails_all : ∀ (Ts : List Tr), (∀ x ∈ Ts, okT x = true) → Lib.joinTail [32] (Ts.map (toksW 6)).flatten = (Ts.map fun x => 32 :: textW 6 x).flatten
  | [], _ => rfl
  | x :: Ts, h => by
    obtain ⟨m, hm, _⟩ := okT_le (h x (by simp))
    rw [List.map_cons, List.flatten_cons, joinTail_app, toks_tail 6 _ _ hm, tails_all Ts fun y hy => h y (by simp [hy])]
    rfl
theorem varX_all {t : Tm} (h : NodeIs t) (hK : t.K = 3) (j : Nat) (hj : t.Ts.length ≤ j) : varX t.S t.Ts.length t.Ts j = Lib.join (headM t.K t.N t.S t.Z t.T t.Ts) [32] := by
  unfold varX
  rw [List.take_of_length_le hj, hK, ← tails_all t.Ts h.each]
  simp [headM, Lib.join_cons, Lib.joinTail]
theorem varX_len {t : Tm} (h : NodeIs t) (j : Nat) : (varX t.S t.Ts.length t.Ts j).length ≤ 1000 := by
  have h2 : t.Ts.length ≤ 2 := by have := h.ts; have := (shS_bd t.K).2; omega
  have h3 : ∀ ts : List Tr, (∀ x ∈ ts, okT x = true) → ((ts.map fun x => 32 :: textW 6 x).flatten).length ≤ 181 * ts.length := by
    intro ts
    induction ts with
    | nil => intro _; simp
    | cons x ts ih =>
      intro hx
      obtain ⟨m, hm, h6⟩ := okT_le (hx x (by simp))
      have e1 := textW_len _ _ _ hm
      have e2 := ih fun y hy => hx y (by simp [hy])
      simp only [List.map_cons, List.flatten_cons, List.length_append, List.length_cons, Nat.mul_add]
      omega
  have h4 := h3 (t.Ts.take j) fun x hx => h.each x (List.mem_of_mem_take hx)
  have h5 : (t.Ts.take j).length ≤ 2 := by rw [List.length_take]; omega
  have h6 := Lib.itoa_length_le (t.Ts.length : Int) (by omega) (by omega)
  have h7 := h.names.1
  have h8 := sb_len t.S
  unfold varX
  simp only [List.length_cons, List.length_append]
  omega

end Go.Proofs.YtjikcckggifinaaDoor
