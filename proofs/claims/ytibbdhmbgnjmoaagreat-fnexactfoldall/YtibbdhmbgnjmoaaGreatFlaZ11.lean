/-
  Rows of tokens that can be appended to; plain facts on joined tokens. No walk, no statement.
-/
import Derived.Test.YtibbdhmbgnjmoaaGreatFlaZ1
import Derived.Test.YtibbdhmbgnjmoaaGreatFlaZ4
import Derived.Deep.AppendLies
import Derived.Lib.Join
import Derived.Lib.ItoaLen
import Derived.Test.YtibbdhmbgnjmoaaGreatFlaOw
import Derived.Test.YtibbdhmbgnjmoaaGreatFlaZ10
namespace Go.Proofs.YtibbdhmbgnjmoaaGreat
open Go.RowKit
set_option linter.unusedVariables false
set_option linter.unusedSimpArgs false

theorem str_add (a b : List UInt8) : (⟨a.toArray⟩ : ByteArray) ++ ⟨b.toArray⟩ = ⟨(a ++ b).toArray⟩ := by
  apply ByteArray.ext
  simp

end Go.Proofs.YtibbdhmbgnjmoaaGreat

/-
  Rows of tokens that can be appended to; plain facts on joined tokens. No walk, no statement.
-/
namespace Go.Proofs.YtibbdhmbgnjmoaaGreat
open Go.RowKit
set_option linter.unusedVariables false
set_option linter.unusedSimpArgs false

theorem Tryz.infoStr : (Tryz.prog.info? 9).map (fun i => (i.zero, i.size, i.bytes)) = some (some (.string ⟨#[]⟩), 1, 16) := by kernel_rfl

/-- A token as a value. -/
def tk (l : List UInt8) : Value := .string ⟨l.toArray⟩

/-- A row of tokens that can be appended to. -/
def Toks (base : Nat) (wr : World) (v : Value) (P : List (List UInt8)) : Prop := wr.ownsRow base 9 1 v P.length (P.map tk)

theorem toks_push {base : Nat} {wr : World} {v : Value} {P : List (List UInt8)} (h : Toks base wr v P) (hb : base ≤ wr.heap.size) (hl : P.length ≤ 1048700) (l : List UInt8) :
    ∃ g cap w2, (Builtin.append_ #[63, 63] 63 #[v, .slice (some ⟨wr.heap.size, 0, none⟩) 1 1]).run Tryz.prog (wr.alloc (.cells #[tk l] 9)) = .ok (.slice (some ⟨g, 0, none⟩) (P.length + 1) cap) w2 ∧
      Toks base w2 (.slice (some ⟨g, 0, none⟩) (P.length + 1) cap) (P ++ [l]) ∧ Below base wr w2 := by
  obtain ⟨i0, hi, hz0, hz1, hz2⟩ := info_parts Tryz.infoStr
  have hA : Below wr.heap.size wr (wr.alloc (.cells #[tk l] 9)) := (Below.refl _ _).alloc (Nat.le_refl _) _
  have h1 : Toks base (wr.alloc (.cells #[tk l] 9)) v P := by
    refine ⟨h.1, ?_⟩
    rcases h.2 with hn | ⟨g, cap, cur, rfl, hg, hh, r⟩
    · exact Or.inl hn
    · exact Or.inr ⟨g, cap, cur, rfl, hg, (hA.block g (Array.getElem?_eq_some_iff.1 hh).1).trans hh, r⟩
  obtain ⟨g, cap, w2, hrun, hown2, hgrow, hat, hlt⟩ := run_append_lies (P := Tryz.prog) (wr.alloc (.cells #[tk l] 9)) 63 63 base 9 i0 _ 1 16 Tryz.underlying63 hi hz0 hz1 hz2 rfl (by omega) v P.length _ h1
    ⟨wr.heap.size, 0, none⟩ 1 1 [tk l] rfl (World.news_of_block (cs := #[tk l]) (t := 9) (fr := (0, 0)) (heap_alloc_new wr _)) (by simp [tk, Value.oneCell'])
    (by omega) (by unfold maxLen; omega) (by omega) (by simp; omega) _ rfl
  have hvb : ∀ g, v.ownBlock = some g → base ≤ g := by
    intro g hg
    rcases h.2 with ⟨rfl, _⟩ | ⟨g', cap, cur, rfl, hb', _⟩
    · cases hg
    · have e : g' = g := by simpa [Value.ownBlock] using hg
      subst e; exact hb'
  have hsz := hgrow.size
  simp only [World.size_alloc] at hsz
  refine ⟨g, cap, w2, hrun, ?_, ⟨hgrow.os, hgrow.tape, hgrow.output, by omega, fun q hq => ?_⟩⟩
  · unfold Toks
    simpa using hown2
  · exact (hgrow.block q (by simp; omega) (fun e => by have := hvb q e.symm; omega)).trans (hA.block q (by omega))

theorem toks_below {base : Nat} {wr w1 : World} {v : Value} {P : List (List UInt8)} (h : Toks base wr v P) (hb : Below wr.heap.size wr w1) : Toks base w1 v P := by
  refine ⟨h.1, ?_⟩
  rcases h.2 with hn | ⟨g, cap, cur, rfl, hg, hh, r⟩
  · exact Or.inl hn
  · exact Or.inr ⟨g, cap, cur, rfl, hg, (hb.block g (Array.getElem?_eq_some_iff.1 hh).1).trans hh, r⟩

theorem toks_form1 {base : Nat} {w : World} {v : Value} {P : List (List UInt8)} (h : Toks base w v P) : ∃ ao cap, v = .slice ao P.length cap := by
  rcases h.2 with ⟨rfl, hn⟩ | ⟨g, cap, cur, rfl, _⟩
  · exact ⟨none, 0, by rw [hn]⟩
  · exact ⟨_, cap, rfl⟩

theorem toks_push2 {base : Nat} {wr : World} {v : Value} {P : List (List UInt8)} (h : Toks base wr v P) (hb : base ≤ wr.heap.size) (hl : P.length ≤ 1048700) (l : List UInt8) :
    ∃ g cap w2, (Builtin.append_ #[63, 63] 63 #[v, .slice (some ⟨wr.heap.size, 0, none⟩) 1 1]).run Tryz.prog (wr.alloc (.cells #[tk l] 9)) = .ok (.slice (some ⟨g, 0, none⟩) (P.length + 1) cap) w2 ∧
      Toks base w2 (.slice (some ⟨g, 0, none⟩) (P.length + 1) cap) (P ++ [l]) ∧ Below base wr w2 ∧ ∀ q, q < wr.heap.size → v.ownBlock ≠ some q → w2.heap[q]? = wr.heap[q]? := by
  obtain ⟨i0, hi, hz0, hz1, hz2⟩ := info_parts Tryz.infoStr
  have hA : Below wr.heap.size wr (wr.alloc (.cells #[tk l] 9)) := (Below.refl _ _).alloc (Nat.le_refl _) _
  have h1 : Toks base (wr.alloc (.cells #[tk l] 9)) v P := by
    refine ⟨h.1, ?_⟩
    rcases h.2 with hn | ⟨g, cap, cur, rfl, hg, hh, r⟩
    · exact Or.inl hn
    · exact Or.inr ⟨g, cap, cur, rfl, hg, (hA.block g (Array.getElem?_eq_some_iff.1 hh).1).trans hh, r⟩
  obtain ⟨g, cap, w2, hrun, hown2, hgrow, hat, hlt⟩ := run_append_lies (P := Tryz.prog) (wr.alloc (.cells #[tk l] 9)) 63 63 base 9 i0 _ 1 16 Tryz.underlying63 hi hz0 hz1 hz2 rfl (by omega) v P.length _ h1
    ⟨wr.heap.size, 0, none⟩ 1 1 [tk l] rfl (World.news_of_block (cs := #[tk l]) (t := 9) (fr := (0, 0)) (heap_alloc_new wr _)) (by simp [tk, Value.oneCell'])
    (by omega) (by unfold maxLen; omega) (by omega) (by simp; omega) _ rfl
  have hvb : ∀ g, v.ownBlock = some g → base ≤ g := by
    intro g hg
    rcases h.2 with ⟨rfl, _⟩ | ⟨g', cap, cur, rfl, hb', _⟩
    · cases hg
    · have e : g' = g := by simpa [Value.ownBlock] using hg
      subst e; exact hb'
  have hsz := hgrow.size
  simp only [World.size_alloc] at hsz
  refine ⟨g, cap, w2, hrun, ?_, ⟨hgrow.os, hgrow.tape, hgrow.output, by omega, fun q hq => ?_⟩, fun q hq hne => (hgrow.block q (by simp; omega) (fun e => hne e.symm)).trans (hA.block q hq)⟩
  · unfold Toks
    simpa using hown2
  · exact (hgrow.block q (by simp; omega) (fun e => by have := hvb q e.symm; omega)).trans (hA.block q (by omega))

theorem toks_own1 {base : Nat} {w : World} {v : Value} {P : List (List UInt8)} (h : Toks base w v P) : v.ownBlock ≠ some w.heap.size := by
  rcases h.2 with ⟨rfl, _⟩ | ⟨g', cap, cur, rfl, hb', hh, _⟩
  · intro e; cases e
  · intro e
    have e : g' = w.heap.size := by simpa [Value.ownBlock] using e
    have := (Array.getElem?_eq_some_iff.1 hh).1
    omega

theorem tk_data (l : List UInt8) : (⟨l.toArray⟩ : ByteArray).data.toList = l := by simp

/-- A slice of tokens, read cell by cell. -/
theorem toks_cells {base : Nat} {w : World} {v : Value} {P : List (List UInt8)} (h : Toks base w v P) (hne : P ≠ []) : ∃ g cap, v = .slice (some ⟨g, 0, none⟩) P.length cap ∧ g < w.heap.size ∧ P.length ≤ cap ∧ ∀ (j : Nat) x, (P.map fun l => (⟨l.toArray⟩ : ByteArray))[j]? = some x → w.cell? ⟨g, 0 + j, none⟩ = some (.string x) := by
  rcases h.2 with ⟨rfl, hn⟩ | ⟨g, cap, cur, rfl, hg, hh, r⟩
  · exact (hne (List.length_eq_zero_iff.1 hn)).elim
  · refine ⟨g, cap, rfl, (Array.getElem?_eq_some_iff.1 hh).1, ?_, ?_⟩
    · exact r.1
    · intro j x hx
      rw [List.getElem?_map] at hx
      cases hp : P[j]? with
      | none => rw [hp] at hx; cases hx
      | some l =>
        rw [hp] at hx
        have hx : (⟨l.toArray⟩ : ByteArray) = x := by simpa using hx
        have e : (List.map tk P)[j]? = some (tk l) := by rw [List.getElem?_map, hp]; rfl
        rw [← r.2.2.2, List.getElem?_take] at e
        split at e
        · rw [Nat.zero_add, row_cell hh, ← Array.getElem?_toList, e, ← hx]; rfl
        · cases e

theorem joinTail_app (P Q : List (List UInt8)) : Lib.joinTail [32] (P ++ Q) = Lib.joinTail [32] P ++ Lib.joinTail [32] Q := by simp [Lib.joinTail]
theorem join_app (P Q : List (List UInt8)) (h : P ≠ []) : Lib.join (P ++ Q) [32] = Lib.join P [32] ++ Lib.joinTail [32] Q := by
  cases P with
  | nil => exact (h rfl).elim
  | cons x P => rw [List.cons_append, Lib.join_cons, Lib.join_cons, joinTail_app, List.append_assoc]
theorem joinTail_cons (Q : List (List UInt8)) (h : Q ≠ []) : Lib.joinTail [32] Q = 32 :: Lib.join Q [32] := by
  cases Q with
  | nil => exact (h rfl).elim
  | cons x Q => rw [Lib.join_cons]; simp [Lib.joinTail]
theorem joinTail_one (x : List UInt8) : Lib.joinTail [32] [x] = 32 :: x := by simp [Lib.joinTail]

theorem lens_le (n : Nat) : ∀ ys : List (List UInt8), (∀ x ∈ ys, x.length ≤ n) → Lib.lens ys ≤ n * ys.length
  | [], _ => by simp [Lib.lens]
  | y :: ys, h => by
    have a := h y (by simp)
    have b := lens_le n ys fun x hx => h x (by simp [hx])
    simp only [Lib.lens, List.map_cons, List.sum_cons, List.length_cons, Nat.mul_add] at b ⊢
    omega

theorem join_le (n : Nat) (ys : List (List UInt8)) (h : ∀ x ∈ ys, x.length ≤ n) : (Lib.join ys [32]).length ≤ (n + 1) * ys.length := by
  cases ys with
  | nil => simp [Lib.join_nil]
  | cons y ys =>
    rw [Lib.join_length]
    have := lens_le n (y :: ys) h
    simp only [List.length_cons, List.length_nil, Nat.mul_add, Nat.add_mul] at this ⊢
    omega

end Go.Proofs.YtibbdhmbgnjmoaaGreat

/-
  What the model's 'l1Split' comes to: the tokens of a text.
-/
namespace Go.Proofs.YtibbdhmbgnjmoaaGreat
open Go.RowKit
set_option linter.unusedVariables false
set_option linter.unusedSimpArgs false

/-- The tokens of what is left, 'cur' being what the first one has already. -/
def splAcc : List UInt8 → List UInt8 → List (List UInt8)
  | cur, [] => [cur]
  | cur, b :: rest => if b = 32 then cur :: splAcc [] rest else splAcc (cur ++ [b]) rest
def spl (s : List UInt8) : List (List UInt8) := splAcc [] s

theorem splAcc_space {cur rest : List UInt8} : splAcc cur (32 :: rest) = cur :: splAcc [] rest := by simp [splAcc]
theorem splAcc_more {cur rest : List UInt8} {b : UInt8} (h : b ≠ 32) : splAcc cur (b :: rest) = splAcc (cur ++ [b]) rest := by simp [splAcc, h]

/-- The bytes from f on and below i. -/
def sub (s : ByteArray) (f i : Nat) : List UInt8 := (s.data.toList.take i).drop f
theorem extract_sub (s : ByteArray) (f i : Nat) : s.extract f i = ⟨(sub s f i).toArray⟩ := by
  apply ByteArray.ext
  rw [ByteArray.data_extract]
  apply Array.toList_inj.1
  rw [Array.toList_extract]
  simp [sub, List.extract_eq_take_drop, List.drop_take]

theorem sub_nil (s : ByteArray) (f : Nat) : sub s f f = [] := by
  unfold sub
  exact List.drop_eq_nil_of_le (by simp; omega)
theorem sub_more (s : ByteArray) (f i : Nat) (hf : f ≤ i) (hi : i < s.data.toList.length) : sub s f (i + 1) = sub s f i ++ [s.data.toList[i]] := by
  unfold sub
  rw [List.take_succ_eq_append_getElem hi, List.drop_append_of_le_length (by rw [List.length_take]; omega)]

end Go.Proofs.YtibbdhmbgnjmoaaGreat

/-
  Free names: what 'meet' and 'gatherBound' come to; the two rows of names that lie in memory.
-/
namespace Go.Proofs.YtibbdhmbgnjmoaaGreat
open Go.RowKit
set_option linter.unusedVariables false
set_option linter.unusedSimpArgs false

def bs (s : ByteArray) : List UInt8 := s.data.toList
theorem tk_bs (s : ByteArray) : tk (bs s) = .string s := by cases s; simp [tk, bs]
theorem mk_bs (s : ByteArray) : (⟨(bs s).toArray⟩ : ByteArray) = s := by cases s; simp [bs]

/-- A name that is met: it goes behind the free ones, unless it is bound or there. -/
def meetW (Bd Fr : List (List UInt8)) (x : List UInt8) : List (List UInt8) := if x ∈ Bd ∨ x ∈ Fr then Fr else Fr ++ [x]

theorem two_cells {w : World} {b : Nat} {a0 a1 : Value} {t : TypeId} {fr : Nat × Nat} (h : w.heap[b]? = some (.cells #[a0, a1] t fr)) : w.cell? ⟨b, 0, none⟩ = some a0 ∧ w.cell? ⟨b, 1, none⟩ = some a1 := ⟨row_cell h 0, row_cell h 1⟩

theorem toks_own {base : Nat} {w : World} {v : Value} {P : List (List UInt8)} (h : Toks base w v P) {g : Nat} (hg : v.ownBlock = some g) : base ≤ g ∧ g < w.heap.size := by
  rcases h.2 with ⟨rfl, _⟩ | ⟨g', cap, cur, rfl, hb', hh, _⟩
  · cases hg
  · have e : g' = g := by simpa [Value.ownBlock] using hg
    subst e
    exact ⟨hb', (Array.getElem?_eq_some_iff.1 hh).1⟩

theorem toks_keep {base : Nat} {w w' : World} {v : Value} {P : List (List UInt8)} (h : Toks base w v P) (hk : ∀ g, v.ownBlock = some g → w'.heap[g]? = w.heap[g]?) : Toks base w' v P := by
  refine ⟨h.1, ?_⟩
  rcases h.2 with hn | ⟨g, cap, cur, rfl, hg, hh, r⟩
  · exact Or.inl hn
  · exact Or.inr ⟨g, cap, cur, rfl, hg, (hk g rfl).trans hh, r⟩

theorem toks_form {base : Nat} {w : World} {v : Value} {P : List (List UInt8)} (h : Toks base w v P) : ∃ ao cap, v = .slice ao P.length cap := by
  rcases h.2 with ⟨rfl, hn⟩ | ⟨g, cap, cur, rfl, _⟩
  · exact ⟨none, 0, by rw [hn]⟩
  · exact ⟨_, cap, rfl⟩

theorem toks_grow {base : Nat} {wr : World} {v : Value} {P : List (List UInt8)} (h : Toks base wr v P) (hb : base ≤ wr.heap.size) (N : List (List UInt8)) (hN : 0 < N.length) (hl : P.length + N.length ≤ 1048577) (sb c : Nat)
    (hs : ∀ j u, (N.map tk)[j]? = some u → wr.cell? ⟨sb, 0 + j, none⟩ = some u) :
    ∃ g cap w2, (Builtin.append_ #[63, 63] 63 #[v, .slice (some ⟨sb, 0, none⟩) N.length c]).run Tryz.prog wr = .ok (.slice (some ⟨g, 0, none⟩) (P.length + N.length) cap) w2 ∧
      Toks base w2 (.slice (some ⟨g, 0, none⟩) (P.length + N.length) cap) (P ++ N) ∧ wr.grownBy w2 v.ownBlock ∧ (v.ownBlock = some g ∨ g = wr.heap.size) ∧ g < w2.heap.size := by
  obtain ⟨i0, hi, hz0, hz1, hz2⟩ := info_parts Tryz.infoStr
  obtain ⟨g, cap, w2, hrun, hown2, hgrow, hat, hlt⟩ := run_append_lies (P := Tryz.prog) wr 63 63 base 9 i0 _ 1 16 Tryz.underlying63 hi hz0 hz1 hz2 rfl (by omega) v P.length _ h
    ⟨sb, 0, none⟩ N.length c (N.map tk) (by simp) (fun j u hu => by have e := hs j u hu; have ea : (⟨sb, 0, none⟩ : Addr).add j = ⟨sb, 0 + j, none⟩ := (by unfold Addr.add; split <;> simp_all); rw [ea]; exact e) (by intro u hu; obtain ⟨l, _, rfl⟩ := List.mem_map.1 hu; rfl)
    hN (by unfold maxLen; omega) (by omega) hb _ rfl
  refine ⟨g, cap, w2, hrun, ?_, hgrow, hat, hlt⟩
  unfold Toks
  rw [List.length_append, List.map_append]
  exact hown2

theorem toks_cut {base : Nat} {w : World} {ao : Option Addr} {n cap : Nat} {P N : List (List UInt8)} (h : Toks base w (.slice ao n cap) (P ++ N)) : Toks base w (.slice ao P.length cap) P ∨ (ao = none ∧ P = []) := by
  rcases h.2 with ⟨e, hn⟩ | ⟨g, cap', cur, e, hg, hh, h1, h2, h3, h4⟩
  · right
    cases e
    rw [List.length_append] at hn
    exact ⟨rfl, List.length_eq_zero_iff.1 (by omega)⟩
  · left
    injection e with e1 e2 e3
    subst e1
    subst e3
    refine ⟨by simp, Or.inr ⟨g, _, cur, rfl, hg, hh, ?_, h2, h3, ?_⟩⟩
    · rw [List.length_append] at h1; omega
    · have := congrArg (List.take (P.length * 1)) h4
      rw [List.take_take, List.map_append] at this
      rw [List.length_append] at this
      rw [Nat.min_eq_left (by omega)] at this
      rw [this, List.take_append_of_le_length (by simp), List.take_of_length_le (by simp)]

theorem below_own {p : Nat} {w w' : World} {r : Option Nat} (h : w.grownBy w' r) (hr : ∀ g, r = some g → p ≤ g) (hp : p ≤ w.heap.size) : Below p w w' :=
  ⟨h.os, h.tape, h.output, h.size, fun k hk => h.block k (by omega) (fun e => by have := hr k e.symm; omega)⟩

theorem toks_le {base base' : Nat} {w : World} {v : Value} {P : List (List UInt8)} (h : Toks base w v P) (hb : base' ≤ base) : Toks base' w v P :=
  ⟨h.1, h.2.elim Or.inl (fun ⟨g, cap, cur, hv, hg, r⟩ => Or.inr ⟨g, cap, cur, hv, Nat.le_trans hb hg, r⟩)⟩

end Go.Proofs.YtibbdhmbgnjmoaaGreat

/-
  Terms as forms: the value that 'formOf' answers of a term that is right; no memory is in it but that of its types.
-/
namespace Go.Proofs.YtibbdhmbgnjmoaaGreat
open Go.RowKit
set_option linter.unusedVariables false
set_option linter.unusedSimpArgs false

theorem nodesM_inv {l : Nat} {t : Tm} {m : Nat} (h : nodesM (l + 1) t = some m) : nodeM t = true ∧ ∀ j (hj : j < t.A.length), ∃ a, nodesM l t.A[j] = some a := by
  simp only [nodesM] at h
  cases hn : nodeM t with
  | false => simp [hn] at h
  | true =>
    refine ⟨rfl, fun j hj => ?_⟩
    simp only [hn, if_true] at h
    cases hg : nodesG (nodesM l) t.A with
    | none => simp [hg] at h
    | some s =>
      cases hj' : nodesM l t.A[j] with
      | some a => exact ⟨a, rfl⟩
      | none => rw [nodesG_none (nodesM l) t.A j hj hj'] at hg; cases hg

theorem nodeM_kinds {t : Tm} (h : nodeM t = true) : 1 ≤ t.K ∧ t.K ≤ 17 ∧ (t.A.length : Int) = shP t.K := by
  simp only [nodeM, Bool.and_eq_true, decide_eq_true_eq, kOk] at h
  exact ⟨h.1.1.1.1.1.1, h.1.1.1.1.1.2, h.1.1.1.2⟩

theorem okM_some {t : Tm} (h : okM t = true) : ∃ m, nodesM 24 t = some m ∧ m ≤ 150 := by
  unfold okM at h
  cases hm : nodesM 24 t with
  | none => simp [hm, lid] at h
  | some m =>
    refine ⟨m, rfl, ?_⟩
    by_cases h6 : m ≤ 150
    · exact h6
    · simp [hm, lid, h6] at h

end Go.Proofs.YtibbdhmbgnjmoaaGreat

/-
  Free names: 'gatherBound', and free names in plain words.
-/
namespace Go.Proofs.YtibbdhmbgnjmoaaGreat
open Go.RowKit
set_option linter.unusedVariables false
set_option linter.unusedSimpArgs false

/-- The names that a term binds in its i-th part. -/
def bindsW (k : Int) (s z : List UInt8) (i : Nat) : List (List UInt8) := if k = 4 ∨ k = 7 ∨ (k = 6 ∧ i = 1) ∨ (k = 17 ∧ i = 1) then [s] else if k = 14 ∧ i = 2 then [s, z] else []

def freeF (f : Tm → List (List UInt8) → List (List UInt8) → List (List UInt8)) (k : Int) (s z : List UInt8) : Nat → List Tm → List (List UInt8) → List (List UInt8) → List (List UInt8)
  | _, [], _, Fr => Fr
  | i, t :: ts, Bd, Fr => freeF f k s z (i + 1) ts Bd (f t (Bd ++ bindsW k s z i) Fr)

/-- The free names of a term behind those that are there. -/
def freeW : Nat → Tm → List (List UInt8) → List (List UInt8) → List (List UInt8)
  | 0, _, _, Fr => Fr
  | l + 1, t, Bd, Fr => freeF (freeW l) t.K (bs t.S) (bs t.Z) 0 t.A Bd (if t.K = 3 then meetW Bd Fr (bs t.S) else Fr)

theorem meetW_len (Bd Fr : List (List UInt8)) (x : List UInt8) : (meetW Bd Fr x).length ≤ Fr.length + 1 := by
  unfold meetW; split <;> simp

theorem freeF_len {f : Tm → List (List UInt8) → List (List UInt8) → List (List UInt8)} {g : Tm → Option Nat} (hf : ∀ t m Bd Fr, g t = some m → (f t Bd Fr).length ≤ Fr.length + m) (k : Int) (s z : List UInt8) : ∀ (ts : List Tm) (i : Nat) (Bd Fr : List (List UInt8)) (m : Nat), nodesG g ts = some m → (freeF f k s z i ts Bd Fr).length ≤ Fr.length + m := by
  intro ts
  induction ts with
  | nil => intro i Bd Fr m h; simp [freeF]
  | cons t ts ih =>
    intro i Bd Fr m h
    simp only [nodesG] at h
    cases ht : g t with
    | none => simp [ht] at h
    | some a =>
      cases hz : nodesG g ts with
      | none => simp [ht, hz] at h
      | some b =>
        simp [ht, hz] at h
        have h1 := hf t a (Bd ++ bindsW k s z i) Fr ht
        have h2 := ih (i + 1) Bd (f t (Bd ++ bindsW k s z i) Fr) b hz
        simp only [freeF]
        omega

theorem freeW_len : ∀ (l : Nat) (t : Tm) (m : Nat) (Bd Fr : List (List UInt8)), nodesM l t = some m → (freeW l t Bd Fr).length ≤ Fr.length + m := by
  intro l
  induction l with
  | zero => intro t m Bd Fr h; simp [nodesM] at h
  | succ l ih =>
    intro t m Bd Fr h
    have hn := (nodesM_inv h).1
    simp only [nodesM, hn, if_true] at h
    cases hz : nodesG (nodesM l) t.A with
    | none => simp [hz] at h
    | some b =>
      simp [hz] at h
      have h1 := freeF_len (f := freeW l) (g := nodesM l) (fun t m Bd Fr h => ih t m Bd Fr h) t.K (bs t.S) (bs t.Z) t.A 0 Bd (if t.K = 3 then meetW Bd Fr (bs t.S) else Fr) b hz
      have h2 : (if t.K = 3 then meetW Bd Fr (bs t.S) else Fr).length ≤ Fr.length + 1 := by
        split
        · exact meetW_len _ _ _
        · omega
      simp only [freeW]
      omega

end Go.Proofs.YtibbdhmbgnjmoaaGreat
