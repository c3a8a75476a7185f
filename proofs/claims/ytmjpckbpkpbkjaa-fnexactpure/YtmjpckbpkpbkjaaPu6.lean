/-
  What the program's 'Pure' comes to, of a term whose lists have blocks of their own.
-/
import Derived.Test.YtmjpckbpkpbkjaaPu5
import Derived.Test.YtmjpckbpkpbkjaaAg20
import Derived.Deep.Cut
import Derived.Deep.CutRange
namespace Go.Proofs.Ytmjpckbpkpbkjaa
open Go.RowKit
set_option linter.unusedVariables false
set_option linter.unusedSimpArgs false

def PR (w : World) (D d wp mp : Nat) (b : Bool) (p : Value) (wr : World) (n : Nat) : Prop :=
  ∃ b0, p = .bool b0 ∧ ((b0 = false ∧ b = false ∧ Below w.heap.size w wr) ∨ (b0 = true ∧ ∃ v fs cs, PDyn w wr wp mp v fs cs ∧ PSt w D d fs cs ∧ fs.all Fr.ok = b ∧ wsum fs = n ∧ n ≤ 2097153))

set_option maxRecDepth 100000 in
set_option maxHeartbeats 4000000 in
theorem pure_any (D d L B : Nat) (t : Tm) (a1 : Option Addr) (l1 c1 : Nat) (a2 : Option Addr) (l2 c2 : Nat) (a3 : Option Addr) (l3 c3 : Nat) (w : World) (hB : B ≤ w.heap.size) (hf : FmO L B w D d t a1 l1 a2 l2 a3 l3) (hc : cntM t ≤ 1048576) :
    Calls Try.prog 7 #[.agg #[.int .i64 t.K, .int .i64 t.N, .string t.S, .string t.Z, .int .i64 t.T.K, .int .i64 t.T.N, .slice a1 l1 c1, .slice a2 l2 c2, .slice a3 l3 c3]] w fun e w' => e = .returned (.bool (pureM t)) ∧ Below w.heap.size w w' := by
  have hmk : ∀ w : World, (Instr.makeMap 45 none).run Try.prog w = .ok (.map (some w.heap.size)) (w.alloc (.map #[] 0)) := fun w => rfl
  obtain ⟨bs, hI, hnd, hbd⟩ := hf
  obtain ⟨b, hb0⟩ : ∃ b, pureM t = b := ⟨_, rfl⟩
  rw [hb0]
  obtain ⟨X, hX⟩ : ∃ X, X = ((w.alloc (.cells #[.int .i64 t.K, .int .i64 t.N, .string t.S, .string t.Z, .int .i64 t.T.K, .int .i64 t.T.N, .slice a1 l1 c1, .slice a2 l2 c2, .slice a3 l3 c3] 35)).alloc (.map #[] 0)).alloc (.cells #[.slice none 0 0, .map (some (w.heap.size + 1))] 48) := ⟨_, rfl⟩
  have hXb : Below w.heap.size w X := by rw [hX]; exact (((Below.refl _ _).alloc (Nat.le_refl _) _).alloc (by simp) _).alloc (by simp; omega) _
  have hXt : X.heap[w.heap.size]? = some (.cells #[.int .i64 t.K, .int .i64 t.N, .string t.S, .string t.Z, .int .i64 t.T.K, .int .i64 t.T.N, .slice a1 l1 c1, .slice a2 l2 c2, .slice a3 l3 c3] 35 (0, 0)) := by
    rw [hX, Below.heap_alloc _ _ _ (by simp; omega), Below.heap_alloc _ _ _ (by simp)]; exact heap_new rfl
  have hXm : X.heap[w.heap.size + 1]? = some (.map #[] 0) := by rw [hX, Below.heap_alloc _ _ _ (by simp)]; exact heap_new (by simp)
  have hXw : X.heap[w.heap.size + 1 + 1]? = some (.cells #[.slice none 0 0, .map (some (w.heap.size + 1))] 48 (0, 0)) := by rw [hX]; exact heap_new (by simp)
  have hD0 : PDyn w X (w.heap.size + 1 + 1) (w.heap.size + 1) (.slice none 0 0) [] [] := ⟨hXb, by omega, by omega, hXw, ⟨rfl, Or.inl ⟨rfl, rfl⟩⟩, fun x hx => by simp [Value.ownBlock] at hx, ⟨#[], 0, hXm, fun e he => by simp at he⟩⟩
  have hS0 : PSt w D d [] [] := ⟨by simp, by simp, by simp, by simp, by simp⟩
  obtain ⟨f0, f1, f2, f3, f4, f5, f6, f7, f8⟩ := Nine.box hXt
  obtain ⟨μ, hμ⟩ := least_ex (PR w D d (w.heap.size + 1 + 1) (w.heap.size + 1) b)
  have HM : Hid (∀ v wr n, _) := hμ
  have HX : Hid (X = _) := hX
  have HC : Hid (cntM t ≤ 1048576) := hc
  clear hμ hX hXt hXm hXw hc
  go_enter Try.func7, Try.ntmps7
  go_wp2_with fail
  rw [← HX.out]
  refine (ask_any2 D d t a1 l1 c1 a2 l2 c2 a3 l3 c3 bs w X _ _ _ [] [] hD0 hS0 hI (by simpa using hnd) (fun b hb => Nat.lt_of_lt_of_le (hbd b hb).2 hB) (by simp)).mono ?_
  rintro e w1 ⟨b1, rfl, hpost⟩
  have hStart : ∃ n, PR w D d (w.heap.size + 1 + 1) (w.heap.size + 1) b (.bool b1) w1 n := by
    rcases hpost with ⟨rfl, hp, hb⟩ | ⟨rfl, v', fs', cs', hD', hS', hok', hw'⟩
    · exact ⟨0, false, rfl, Or.inl ⟨rfl, hb0.symm.trans hp, hb⟩⟩
    · exact ⟨_, true, rfl, Or.inr ⟨rfl, v', fs', cs', hD', hS', by simpa [hb0] using hok', rfl, by have := HC.out; have h0 : wsum ([] : List Fr) = 0 := rfl; omega⟩⟩
  clear hpost f0 f1 f2 f3 f4 f5 f6 f7 f8 hD0 hS0 hI hnd hbd
  generalize w.heap.size + 1 + 1 = wp at *
  generalize w.heap.size + 1 = mp at *
  go_wp2_with fail
  go_loopw [4] (fun u wr => ∃ n, PR w D d wp mp b u wr n) (fun u wr => μ u wr)
  case atStart => exact hStart
  case round =>
    obtain ⟨n0, hR0⟩ := hrel
    obtain ⟨_, b0, rfl, hR⟩ := HM.out _ _ _ hR0
    clear hStart hR0
    rcases hR with ⟨rfl, rfl, hb⟩ | ⟨rfl, v, fs, cs, hD, hS, hok, hsum, hbd⟩
    · go_wp2_with fail
      go_ret
      exact ⟨rfl, hb⟩
    · have y0 := row_cell hD.box 0
      rcases (by simpa [List.concat_eq_append] using List.eq_nil_or_concat fs : fs = [] ∨ ∃ init it, fs = init ++ [it]) with rfl | ⟨init, f, rfl⟩
      · have hv : ∃ ao cap, v = .slice ao 0 cap := by
          rcases hD.row.2 with ⟨e, _⟩ | ⟨g, cap, cur, e, _⟩
          · exact ⟨none, 0, e⟩
          · exact ⟨_, cap, e⟩
        obtain ⟨ao, cap, rfl⟩ := hv
        have hbt : b = true := by rw [← hok]; rfl
        subst hbt
        go_wp2_with fail
        go_ret
        exact ⟨rfl, hD.bel⟩
      · obtain ⟨g, cap, cur, rfl, _⟩ := p_top hD
        have hg0 : (0 : Int) < (init.length : Int) + 1 := by omega
        have hlen := wsum_len (init ++ [f])
        simp only [List.length_append, List.length_singleton] at hlen
        have hcall : Calls Try.prog 17 #[.pointer (some ⟨wp, 0, none⟩)] wr (fun e w' => ∃ b2, e = .returned (.bool b2) ∧ ∃ n, PR w D d wp mp b (.bool b2) w' n ∧ n < wsum (init ++ [f])) := by
          have hfn := (hS.ok f (by simp)).n
          have hstep : Calls Try.prog 17 #[.pointer (some ⟨wp, 0, none⟩)] wr (Step w D d wp mp (init ++ [f])) := by
            by_cases h2 : f.n = 2
            · exact goOn_pop D d w wr wp mp _ init f cs hD hS h2 (by omega)
            · exact goOn_next D d w wr wp mp _ init f cs hD hS (by omega) (by omega)
          refine hstep.mono ?_
          rintro e w' (⟨h1, h2, h3⟩ | ⟨h1, v', fs', cs', h2, h3, h4, h5⟩)
          · exact ⟨false, h2, 0, ⟨false, rfl, Or.inl ⟨rfl, by rw [← hok]; exact h1, h3⟩⟩, by omega⟩
          · exact ⟨true, h1, wsum fs', ⟨true, rfl, Or.inr ⟨rfl, v', fs', cs', h2, h3, by rw [h4, hok], rfl, by omega⟩⟩, h5⟩
        have HS : Hid (wsum (init ++ [f]) = _) := hsum
        clear hD hS hok hsum hbd hlen
        go_wp2_with fail
        refine hcall.mono ?_
        rintro e w2 ⟨b2, rfl, n2, hR2, hlt⟩
        go_wp2_with fail
        go_roundw
        case rel => exact ⟨n2, hR2⟩
        case measure =>
          have h1 := (HM.out _ _ _ hR2).1
          have h2 := HS.out
          omega

end Go.Proofs.Ytmjpckbpkpbkjaa
