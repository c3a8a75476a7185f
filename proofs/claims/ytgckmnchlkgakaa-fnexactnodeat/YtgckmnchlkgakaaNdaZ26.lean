/-
  The model's 'l1In'.
-/
import Derived.Test.YtgckmnchlkgakaaNdaTr
import Derived.Test.YtgckmnchlkgakaaNdaNw
namespace Go.Proofs.Ytgckmnchlkgakaa
open Go.RowKit
set_option linter.unusedVariables false
set_option linter.unusedSimpArgs false

theorem l1In3_any (x lo hi : Int) (b : Bool) (hb : b = (decide (lo ≤ x) && decide (x ≤ hi))) (w : World) : Calls Try.prog 50 #[.int .i64 x, .int .i64 lo, .int .i64 hi] w fun e w' => e = .returned (.bool b) ∧ w' = w := by
  by_cases h1 : lo ≤ x
  · by_cases h2 : x ≤ hi
    · have HB : Hid (b = true) := by show _ = _; rw [hb]; simp [h1, h2]
      clear hb
      go_enter Try.func50, Try.ntmps50
      go_wp2_with fail
      go_ret
      exact ⟨ret_bool (by rw [HB.out]), rfl⟩
    · have HB : Hid (b = false) := by show _ = _; rw [hb]; simp [h2]
      clear hb
      go_enter Try.func50, Try.ntmps50
      go_wp2_with fail
      go_ret
      exact ⟨ret_bool (by rw [HB.out]), rfl⟩
  · have HB : Hid (b = false) := by show _ = _; rw [hb]; simp [h1]
    clear hb
    go_enter Try.func50, Try.ntmps50
    go_wp2_with fail
    go_ret
    exact ⟨ret_bool (by rw [HB.out]), rfl⟩

end Go.Proofs.Ytgckmnchlkgakaa

/-
  What the model's 'l1Args', 'l1In', 'l1Look', 'TyOk', 'TyNodes' come to.
-/
namespace Go.Proofs.Ytgckmnchlkgakaa
open Go.RowKit
set_option linter.unusedVariables false
set_option linter.unusedSimpArgs false

set_option maxHeartbeats 400000 in
theorem l1Args_any (k : Int) (w : World) : Calls Try.prog 101 #[.int .i64 k] w fun e w' => e = .returned (.int .i64 (parts k)) ∧ w' = w := by
  by_cases h1 : k = 1
  · subst h1; go_enter Try.func101, Try.ntmps101; go_wp2; go_ret; exact ⟨rfl, rfl⟩
  by_cases h2 : k = 2
  · subst h2; go_enter Try.func101, Try.ntmps101; go_wp2; go_ret; exact ⟨rfl, rfl⟩
  by_cases h3 : k = 3
  · subst h3; go_enter Try.func101, Try.ntmps101; go_wp2; go_ret; exact ⟨rfl, rfl⟩
  by_cases h4 : k = 4
  · subst h4; go_enter Try.func101, Try.ntmps101; go_wp2; go_ret; exact ⟨rfl, rfl⟩
  by_cases h5 : k = 5
  · subst h5; go_enter Try.func101, Try.ntmps101; go_wp2; go_ret; exact ⟨rfl, rfl⟩
  by_cases h6 : k = 6
  · subst h6; go_enter Try.func101, Try.ntmps101; go_wp2; go_ret; exact ⟨rfl, rfl⟩
  have e : parts k = -1 := by unfold parts; rw [if_neg (by omega), if_neg (by omega), if_neg (by omega)]
  rw [e]
  have b1 : (k == 1) = false := beq_eq_false_iff_ne.2 h1
  have b2 : (k == 2) = false := beq_eq_false_iff_ne.2 h2
  have b3 : (k == 3) = false := beq_eq_false_iff_ne.2 h3
  have b4 : (k == 4) = false := beq_eq_false_iff_ne.2 h4
  have b5 : (k == 5) = false := beq_eq_false_iff_ne.2 h5
  have b6 : (k == 6) = false := beq_eq_false_iff_ne.2 h6
  clear e h1 h2 h3 h4 h5 h6
  go_enter Try.func101, Try.ntmps101; go_wp2; go_ret; exact ⟨rfl, rfl⟩

def in01 (x : Int) : Bool := decide (0 ≤ x ∧ x ≤ 1)
set_option maxHeartbeats 400000 in
theorem l1In_any (x : Int) (w : World) : Calls Try.prog 50 #[.int .i64 x, .int .i64 0, .int .i64 1] w fun e w' => e = .returned (.bool (in01 x)) ∧ w' = w := by
  by_cases h : 0 ≤ x
  all_goals
    go_enter Try.func50, Try.ntmps50
    go_wp2
    go_ret
    exact ⟨ret_bool (by unfold in01; rw [Bool.eq_iff_iff]; simp; try omega), rfl⟩

/-- What 'l1Look' answers, c being the count ahead of it. -/
def lookOk (l c : Nat) (t : Tr) : Bool := match nodesW l t with | some m => decide (c + m ≤ 60) | none => false

def SaidLk (l : Nat) : Prop := ∀ (d L B p c : Nat) (k n : Int) (ao : Option Addr) (len cap : Nat) (ts : List Tr) (w : World), B ≤ p → p < w.heap.size → w.heap[p]? = some (.cells #[.int .i64 c] 3 (0, 0)) → c ≤ 60 → Hs L B w d ao len ts →
    Calls Try.prog 96 #[.agg #[.int .i64 k, .int .i64 n, .slice ao len cap], .int .i64 l, .pointer (some ⟨p, 0, none⟩)] w fun e w' =>
      e = .returned (.bool (lookOk l c ⟨k, n, ts⟩)) ∧ w.grownBy w' (some p) ∧ ∃ c' : Int, w'.heap[p]? = some (.cells #[.int .i64 c'] 3 (0, 0)) ∧ (∀ m, nodesW l ⟨k, n, ts⟩ = some m → c + m ≤ 60 → c' = c + m)

theorem gcell {w w' : World} {p b : Nat} (hg : w.grownBy w' (some p)) (hb : b < w.heap.size) (hp : b ≠ p) (o : Nat) : w'.cell? ⟨b, o, none⟩ = w.cell? ⟨b, o, none⟩ :=
  World.cell?_of_block (hg.block b hb (by simpa using hp))
theorem grown_trans {a b c : World} {r : Option Nat} (h : a.grownBy b r) (k : b.grownBy c r) : a.grownBy c r :=
  ⟨k.os.trans h.os, k.tape.trans h.tape, k.output.trans h.output, Nat.le_trans h.size k.size, fun i hi hr => (k.block i (Nat.lt_of_lt_of_le hi h.size) hr).trans (h.block i hi hr)⟩
theorem Hs.grown {L B p : Nat} {w w' : World} (hg : w.grownBy w' (some p)) (hB : B ≤ p) (hp : p < w.heap.size) {d : Nat} {ao : Option Addr} {len : Nat} {ts : List Tr} (h : Hs L B w d ao len ts) : Hs L B w' d ao len ts :=
  h.keep (fun k _ hk => hg.block k (by omega) (by simp; omega)) (Nat.le_refl _) (Nat.le_refl _)

theorem lk_world {w : World} {p : Nat} {v : Value} {t : TypeId} (hcell : w.heap[p]? = some (.cells #[v] t (0, 0))) (hp : p < w.heap.size) (u : Value) (cs : Array Value) (t' : TypeId) (nq : Nat) :
    w.grownBy (((w.setCell ⟨p, 0, none⟩ u).alloc (.cells cs t')).drewN nq) (some p) ∧ (((w.setCell ⟨p, 0, none⟩ u).alloc (.cells cs t')).drewN nq).heap[p]? = some (.cells #[u] t (0, 0)) ∧
    (((w.setCell ⟨p, 0, none⟩ u).alloc (.cells cs t')).drewN nq).heap[w.heap.size]? = some (.cells cs t' (0, 0)) := by
  refine ⟨⟨rfl, rfl, rfl, ?_, ?_⟩, ?_, ?_⟩
  · show w.heap.size ≤ ((w.setCell ⟨p, 0, none⟩ u).alloc (.cells cs t')).heap.size
    simp
  · intro k hk hr
    show ((w.setCell ⟨p, 0, none⟩ u).alloc (.cells cs t')).heap[k]? = _
    rw [Below.heap_alloc _ _ _ (by simpa using hk), row_other _ _ _ (by simpa using hr)]
  · show ((w.setCell ⟨p, 0, none⟩ u).alloc (.cells cs t')).heap[p]? = _
    rw [Below.heap_alloc _ _ _ (by simpa using hp), row_set hcell]
    rfl
  · show ((w.setCell ⟨p, 0, none⟩ u).alloc (.cells cs t')).heap[w.heap.size]? = _
    exact heap_new (by simp)

theorem lookOk_no {l c : Nat} {t : Tr} (h : lookOk l c t = false) : ∀ m, nodesW l t = some m → c + m ≤ 60 → False := by
  intro m hm hle
  simp only [lookOk, hm, decide_eq_false_iff_not] at h
  exact h hle

set_option maxHeartbeats 400000 in
theorem lk_zero : SaidLk 0 := by
  intro d L B p c k n ao len cap ts w hBp hp hcell hc hs
  have f := row_cell hcell 0
  have r := row_free hcell 0
  simp at f
  have hpn : ¬ w.heap.size = p := by omega
  have HW := lk_world hcell hp (.int .i64 ((c : Int) + 1)) #[.int .i64 k, .int .i64 n, .slice ao len cap] 33
  have HWW : Hid (∀ nq, _) := HW
  clear HW hcell
  go_enter Try.func96, Try.ntmps96
  go_wp2_with fail
  go_quiet ((first | (go_at_call 101; exact Calls.quiet_of_same (l1Args_any _ _)) | (go_at_call 50; exact Calls.quiet_of_same (l1In_any _ _))))
  go_wp2
  go_ret
  exact ⟨ret_bool rfl, (HWW.out nq).1, _, (HWW.out nq).2.1, fun m hm => by simp [nodesW] at hm⟩

/-- The tests of one node, as the model asks them. -/
theorem nodeOk_parts {k n : Int} {len : Nat} (h : nodeOk k n len = true) : (len : Int) = parts k ∧ ((k = 3 ∧ in01 n = true) ∨ (¬ k = 3 ∧ n = 0)) := by
  simp only [nodeOk, Bool.and_eq_true, decide_eq_true_eq] at h
  refine ⟨h.1, ?_⟩
  by_cases hk : k = 3
  · left
    rw [if_pos hk] at h
    exact ⟨hk, by unfold in01; simp at h ⊢; omega⟩
  · right
    rw [if_neg hk] at h
    exact ⟨hk, by simpa using h.2⟩

theorem lookOk_deep {l c : Nat} {k n : Int} {ts : List Tr} (h : nodeOk k n ts.length = false) : lookOk (l + 1) c ⟨k, n, ts⟩ = false := by simp [lookOk, nodesW, h]
theorem lookOk_full {l c : Nat} {t : Tr} (h : 60 < c + 1) : lookOk l c t = false := by
  unfold lookOk
  split
  · rename_i m hm
    have := nodesW_pos _ _ _ hm
    simp; omega
  · rfl

set_option maxHeartbeats 1000000 in
theorem lk_no (l : Nat) (d L B p c : Nat) (k n : Int) (ao : Option Addr) (len cap : Nat) (ts : List Tr) (w : World) (hBp : B ≤ p) (hp : p < w.heap.size) (hcell : w.heap[p]? = some (.cells #[.int .i64 c] 3 (0, 0))) (hc : c ≤ 60) (hl6 : l < 6) (hs : Hs L B w d ao len ts)
    (hno : 60 < c + 1 ∨ nodeOk k n len = false) :
    Calls Try.prog 96 #[.agg #[.int .i64 k, .int .i64 n, .slice ao len cap], .int .i64 ((l : Int) + 1), .pointer (some ⟨p, 0, none⟩)] w fun e w' =>
      e = .returned (.bool (lookOk (l + 1) c ⟨k, n, ts⟩)) ∧ w.grownBy w' (some p) ∧ ∃ c' : Int, w'.heap[p]? = some (.cells #[.int .i64 c'] 3 (0, 0)) ∧ (∀ m, nodesW (l + 1) ⟨k, n, ts⟩ = some m → c + m ≤ 60 → c' = c + m) := by
  have HO : Hid (lookOk (l + 1) c ⟨k, n, ts⟩ = false) := by
    rcases hno with h | h
    · exact lookOk_full h
    · exact lookOk_deep (by rw [← hs.len.1]; exact h)
  have hll := hs.len.2
  have f := row_cell hcell 0
  have r := row_free hcell 0
  simp at f
  have hpn : ¬ w.heap.size = p := by omega
  have hp0 := parts_bd k
  have HW := lk_world hcell hp (.int .i64 ((c : Int) + 1)) #[.int .i64 k, .int .i64 n, .slice ao len cap] 33
  have HWW : Hid (∀ nq, _) := HW
  clear HW hcell
  have hl0 : (((l : Int) + 1) == 0) = false := by simp; omega
  by_cases hfull : 60 < c + 1
  · have h60 : decide (60 < (c : Int) + 1) = true := by simp; omega
    clear hno hfull
    go_enter Try.func96, Try.ntmps96
    go_wp2_with fail
    go_quiet ((first | (go_at_call 101; exact Calls.quiet_of_same (l1Args_any _ _)) | (go_at_call 50; exact Calls.quiet_of_same (l1In_any _ _))))
    go_wp2
    go_ret
    exact ⟨ret_bool HO.out.symm, (HWW.out nq).1, _, (HWW.out nq).2.1, fun m hm hle => (lookOk_no HO.out m hm hle).elim⟩
  have h60 : decide (60 < (c : Int) + 1) = false := by simp; omega
  replace hno : nodeOk k n len = false := by rcases hno with h | h; exact absurd h hfull; exact h
  by_cases hlen : (len : Int) = parts k
  · have hb : ((len : Int) != parts k) = false := by simp [hlen]
    by_cases hk : k = 3
    · have hk3 : (k == 3) = true := by simp [hk]
      have hkn : (k != 3) = false := by simp [hk]
      have hin : in01 n = false := by
        rw [nodeOk_var hk hlen] at hno
        unfold in01; simp at hno ⊢; omega
      clear hk hlen hno
      go_enter Try.func96, Try.ntmps96
      go_wp2_with fail
      go_quiet ((first | (go_at_call 101; exact Calls.quiet_of_same (l1Args_any _ _)) | (go_at_call 50; exact Calls.quiet_of_same (l1In_any _ _))))
      go_wp2
      go_ret
      exact ⟨ret_bool HO.out.symm, (HWW.out nq).1, _, (HWW.out nq).2.1, fun m hm hle => (lookOk_no HO.out m hm hle).elim⟩
    · have hk3 : (k == 3) = false := by simp [hk]
      have hkn : (k != 3) = true := by simp [hk]
      have hn : (n != 0) = true := by
        rw [nodeOk_else hk hlen] at hno
        simpa using hno
      clear hk hlen hno
      go_enter Try.func96, Try.ntmps96
      go_wp2_with fail
      go_quiet ((first | (go_at_call 101; exact Calls.quiet_of_same (l1Args_any _ _)) | (go_at_call 50; exact Calls.quiet_of_same (l1In_any _ _))))
      go_wp2
      go_ret
      exact ⟨ret_bool HO.out.symm, (HWW.out nq).1, _, (HWW.out nq).2.1, fun m hm hle => (lookOk_no HO.out m hm hle).elim⟩
  · have hb : ((len : Int) != parts k) = true := by simp [hlen]
    clear hlen hno
    go_enter Try.func96, Try.ntmps96
    go_wp2_with fail
    go_quiet ((first | (go_at_call 101; exact Calls.quiet_of_same (l1Args_any _ _)) | (go_at_call 50; exact Calls.quiet_of_same (l1In_any _ _))))
    go_wp2
    go_ret
    exact ⟨ret_bool HO.out.symm, (HWW.out nq).1, _, (HWW.out nq).2.1, fun m hm hle => (lookOk_no HO.out m hm hle).elim⟩

end Go.Proofs.Ytgckmnchlkgakaa
