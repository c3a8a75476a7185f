/-
  Terms that are left to be compared, as a list, and the types that are; what lies in memory of them: no walk.
-/
import Derived.Test.YtmjpckbpkpbkjaaOwM
namespace Go.Proofs.Ytmjpckbpkpbkjaa
open Go.RowKit
set_option linter.unusedVariables false
set_option linter.unusedSimpArgs false

theorem own_keep {wr w1 : World} {ty : TypeId} {k : Nat} {v : Value} {n : Nat} {xs : List Value} (h : wr.ownsRow 0 ty k v n xs) (hb : ∀ g, v.ownBlock = some g → w1.heap[g]? = wr.heap[g]?) : w1.ownsRow 0 ty k v n xs := by
  refine ⟨h.1, ?_⟩
  rcases h.2 with hn | ⟨g, cap, cur, rfl, hg, hh, r⟩
  · exact Or.inl hn
  · exact Or.inr ⟨g, cap, cur, rfl, hg, (hb g rfl).trans hh, r⟩

theorem own_cells {wr : World} {ty : TypeId} {k : Nat} {v : Value} {n : Nat} {xs : List Value} (h : wr.ownsRow 0 ty k v n xs) {g : Nat} (hg : v.ownBlock = some g) : g < wr.heap.size ∧ ∃ cur fr, wr.heap[g]? = some (.cells cur ty fr) := by
  rcases h.2 with ⟨rfl, _⟩ | ⟨g', cap, cur, rfl, _, hh, _⟩
  · cases hg
  · have e : g' = g := by simpa [Value.ownBlock] using hg
    subst e
    exact ⟨(Array.getElem?_eq_some_iff.1 hh).1, cur, _, hh⟩

theorem OwM.deeper {w : World} {D : Nat} : ∀ {d d' : Nat} {ao : Option Addr} {len : Nat} {ts : List Tm} {bs : List Nat}, d ≤ d' → OwM w D d ao len ts bs → OwM w D d' ao len ts bs := by
  intro d
  induction d with
  | zero =>
    intro d' ao len ts bs _ h
    cases d' with
    | zero => exact h
    | succ d' => exact Or.inl h
  | succ d ih =>
    intro d' ao len ts bs hd h
    cases d' with
    | zero => omega
    | succ d' =>
      rcases h with h | ⟨g, cs, bss, e, hl, hm, hg, hc, hbl, hbs, hE⟩
      · exact Or.inl h
      · refine Or.inr ⟨g, cs, bss, e, hl, hm, hg, hc, hbl, hbs, fun i hi hi' => ?_⟩
        obtain ⟨a1, l1, c1, a2, l2, c2, a3, l3, c3, h9, hf⟩ := hE i hi hi'
        exact ⟨a1, l1, c1, a2, l2, c2, a3, l3, c3, h9, hf.map (fun _ _ _ _ _ hr => hr) (fun _ _ _ _ _ hr => ih (by omega) hr)⟩

theorem OwM.len {w : World} {D d : Nat} {ao : Option Addr} {len : Nat} {ts : List Tm} {bs : List Nat} (h : OwM w D d ao len ts bs) : len = ts.length ∧ len ≤ 9223372036854775807 := by
  cases d with
  | zero => obtain ⟨rfl, rfl, _⟩ := h; exact ⟨rfl, by omega⟩
  | succ d =>
    rcases h with ⟨rfl, rfl, _⟩ | ⟨g, cs, bss, e, hl, hm, _⟩
    · exact ⟨rfl, by omega⟩
    · exact ⟨hl, hm⟩

end Go.Proofs.Ytmjpckbpkpbkjaa
