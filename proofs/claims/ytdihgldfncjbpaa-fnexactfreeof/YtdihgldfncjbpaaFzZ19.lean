/-
  What the program's 'mapTys' comes to: a new row, each element what the function that was handed in makes of the old one; and 'copyTy'.
-/
import Derived.Test.YtdihgldfncjbpaaFzOw
import Derived.Deep.RegionHeld3
import Derived.Test.YtdihgldfncjbpaaFzZ3
import Derived.Deep.RegionWith
import Derived.Deep.RegionLaw
namespace Go.Proofs.Ytdihgldfncjbpaa
open Go.RowKit
set_option linter.unusedVariables false
set_option linter.unusedSimpArgs false

theorem Try.infoTy3 : (Try.prog.info? 24).map (fun i => (i.zero, i.size, i.bytes)) = some (some (.agg #[.int .i64 0, .int .i64 0, .slice none 0 0]), 3, 40) := by kernel_rfl

theorem make_ty (len : Nat) (hl : len ≤ 1048576) : ∃ C : Array Value, C.size = len * 3 ∧ ∀ w : World, (Instr.makeSlice 22 (.int .i64 (len : Int)) (.int .i64 (len : Int))).run Try.prog w = .ok (.slice (some ⟨w.heap.size, 0, none⟩) len len) (w.alloc (.cells C 24)) := by
  obtain ⟨i0, hi, hz0, hz1, hz2⟩ := info_parts Try.infoTy3
  refine ⟨madeCells (Value.cells (.agg #[.int .i64 0, .int .i64 0, .slice none 0 0])) (len * 3), size_madeCells _ _, fun w => ?_⟩
  have := run_make (P := Try.prog) (w := w) 22 24 i0 _ Try.underlying22 hi hz0 .i64 .i64 (len : Int) (len : Int) (by omega) (by omega) (by rw [hz2]; omega) (by omega)
  rw [hz1] at this
  simpa using this

theorem Hs.up {L B : Nat} {w : World} {d : Nat} {ao : Option Addr} {len : Nat} {ts : List Tr} (h : Hs L B w 0 ao len ts) : Hs L B w (d + 1) ao len ts := by
  obtain ⟨rfl, rfl⟩ := h
  exact ⟨rfl, by omega, fun i hi => by simp at hi⟩

/-- The row of a struct that was made for a result, told anew behind three stores. -/
theorem res_cells {w : World} {g : Nat} {cs : Array Value} {t : TypeId} {a b c : Value} (h : w.heap[g]? = some (.cells cs t (0, 0))) (hc : cs.size = 3) :
    (set3 w g 0 a b c).cell? ⟨g, 0, none⟩ = some a ∧ (set3 w g 0 a b c).cell? ⟨g, 1, none⟩ = some b ∧ (set3 w g 0 a b c).cell? ⟨g, 2, none⟩ = some c := by
  have := set3_cells (o := 0) (a := a) (b := b) (c := c) h (by omega)
  simpa using this

theorem OwR.len0 {L B : Nat} {w : World} {d : Nat} {ao : Option Addr} {len : Nat} (h : OwR L B w d ao len []) : len = 0 := by
  obtain ⟨bs, h1, _⟩ := h
  cases d with
  | zero => exact h1.1
  | succ d =>
    rcases h1 with h1 | ⟨_, _, _, _, hl, _⟩
    · exact h1.1
    · simpa using hl

end Go.Proofs.Ytdihgldfncjbpaa

/-
  What the model's 'l1Copy' comes to: the same tree in new memory.
-/
namespace Go.Proofs.Ytdihgldfncjbpaa
open Go.RowKit
set_option linter.unusedVariables false
set_option linter.unusedSimpArgs false

/-- A slice that is appended to, as a value. -/
theorem ap_form {base : Nat} {wr : World} {d : Nat} {v : Value} {k : Nat} {ts : List Tr} (h : ApRel base wr d v k ts) : ∃ ao cap, v = .slice ao k cap := by
  obtain ⟨xs, hown, _⟩ := h.own
  rcases hown.2 with ⟨rfl, rfl⟩ | ⟨g, cap, cur, rfl, _⟩
  · exact ⟨none, 0, rfl⟩
  · exact ⟨_, cap, rfl⟩

/-- One element more appended to it: what the run of 'append' gives, w1 being the world behind the call that made the element. -/
theorem ap_run {base : Nat} {wr w1 : World} {d : Nat} {v : Value} {k : Nat} {ts : List Tr} (h : ApRel base wr d v k ts) (hk : k < ts.length) (hk2 : ts.length ≤ 1048576) (hb : Below wr.heap.size wr w1) (hbase : base ≤ wr.heap.size) {ao1 : Option Addr} {len1 cap1 : Nat}
    (ho : OwR wr.heap.size w1.heap.size w1 d ao1 len1 ts[k].A) :
    ∃ g cap w2, (Builtin.append_ #[22, 22] 22 #[v, .slice (some ⟨w1.heap.size, 0, none⟩) 1 1]).run Try.prog (w1.alloc (.cells #[.int .i64 ts[k].K, .int .i64 ts[k].N, .slice ao1 len1 cap1] 24)) = .ok (.slice (some ⟨g, 0, none⟩) (k + 1) cap) w2 ∧
      ApRel base w2 d (.slice (some ⟨g, 0, none⟩) (k + 1) cap) (k + 1) ts ∧ Below base wr w2 := by
  obtain ⟨i0, hi, hz0, hz1, hz2⟩ := info_parts Try.infoTy3
  have hX : Below wr.heap.size wr (w1.alloc (.cells #[.int .i64 ts[k].K, .int .i64 ts[k].N, .slice ao1 len1 cap1] 24)) := hb.alloc hb.size _
  have h1 := ap_below h hX
  obtain ⟨xs, hown, _⟩ := h1.own
  obtain ⟨xs0, hown0, _⟩ := h.own
  have hsz := hb.size
  obtain ⟨g, cap, w2, hrun, hown2, hgrow, hat, hlt⟩ := run_append_lies (P := Try.prog) (w1.alloc (.cells #[.int .i64 ts[k].K, .int .i64 ts[k].N, .slice ao1 len1 cap1] 24)) 22 22 base 24 i0 _ 3 40 Try.underlying22 hi hz0 hz1 hz2 rfl (by omega) v k xs hown
    ⟨w1.heap.size, 0, none⟩ 1 1 [.int .i64 ts[k].K, .int .i64 ts[k].N, .slice ao1 len1 cap1] rfl (World.news_of_block (cs := #[.int .i64 ts[k].K, .int .i64 ts[k].N, .slice ao1 len1 cap1]) (t := 24) (fr := (0, 0)) (heap_alloc_new w1 _)) (by simp [Value.oneCell'])
    (by omega) (by unfold maxLen; omega) (by omega) (by simp; omega) _ rfl
  refine ⟨g, cap, w2, hrun, ?_, ?_⟩
  · have hxx : xs = xs0 := by
      rcases hown.2 with ⟨hv, hn⟩ | ⟨g1, cap1', cur1, hv, _, hh, _, _, _, ht⟩
      · have q1 := hown.1
        have q2 := hown0.1
        rw [hn] at q1 q2
        simp at q1 q2
        rw [q1, q2]
      · rcases hown0.2 with ⟨hv2, _⟩ | ⟨g2, cap2, cur2, hv2, _, hh2, _, _, _, ht2⟩
        · rw [hv] at hv2; cases hv2
        · rw [hv] at hv2
          cases hv2
          rw [hX.block g1 (Array.getElem?_eq_some_iff.1 hh2).1, hh2] at hh
          cases hh
          rw [← ht, ← ht2]
    subst hxx
    exact ap_next h hk hX hbase (ho.keep (fun q _ hq => Below.heap_alloc _ _ _ hq) (Nat.le_refl _) (by simp)) hown0 hown2 hgrow hat
  · exact (hX.mono hbase).grown hgrow (by simp; omega) (fun q hq => (ap_block h1 hq).1)


end Go.Proofs.Ytdihgldfncjbpaa
