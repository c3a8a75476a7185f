/-
  Trees that own their memory: which blocks a slice's tree lies in, no block twice; rows that are filled one by one, rows that are appended to.
-/
import Derived.Test.YtgckmnchlkgakaaLmbTr
import Derived.Deep.AppendLies
namespace Go.Proofs.Ytgckmnchlkgakaa
open Go.RowKit
set_option linter.unusedVariables false
set_option linter.unusedSimpArgs false

/-- The slice holds the list ts; each list of it that is not empty lies in a block of its own, at its head; bs: these blocks. -/
def Ow (w : World) : Nat → Option Addr → Nat → List Tr → List Nat → Prop
  | 0, _, len, ts, bs => len = 0 ∧ ts = [] ∧ bs = []
  | d + 1, ao, len, ts, bs => (len = 0 ∧ ts = [] ∧ bs = []) ∨
      ∃ (g : Nat) (cs : Array Value) (bss : List (List Nat)), ao = some ⟨g, 0, none⟩ ∧ len = ts.length ∧ len ≤ 9223372036854775807 ∧ w.heap[g]? = some (.cells cs 33 (0, 0)) ∧ len * 3 ≤ cs.size ∧ bss.length = ts.length ∧ bs = g :: bss.flatten ∧
        ∀ i (_ : i < ts.length) (_ : i < bss.length), El w (fun ao' len' l => Ow w d ao' len' l bss[i]) g (i * 3) ts[i]

theorem mem_part {bss : List (List Nat)} {i : Nat} (hi : i < bss.length) {b : Nat} (hb : b ∈ bss[i]) : b ∈ bss.flatten :=
  List.mem_flatten.2 ⟨_, List.getElem_mem hi, hb⟩

theorem Ow.keep {w w' : World} : ∀ {d : Nat} {ao : Option Addr} {len : Nat} {ts : List Tr} {bs : List Nat}, (∀ b ∈ bs, w'.heap[b]? = w.heap[b]?) → Ow w d ao len ts bs → Ow w' d ao len ts bs := by
  intro d
  induction d with
  | zero => intro ao len ts bs _ h; exact h
  | succ d ih =>
    intro ao len ts bs hb h
    rcases h with h | ⟨g, cs, bss, e, hl, hm, hg, hc, hbl, rfl, hE⟩
    · exact Or.inl h
    · have hgg := hb g (by simp)
      refine Or.inr ⟨g, cs, bss, e, hl, hm, hgg.trans hg, hc, hbl, rfl, fun i hi hi' => ?_⟩
      exact ((hE i hi hi').world hgg).wider fun _ _ _ hr => ih (fun b hb' => hb b (List.mem_cons_of_mem _ (mem_part hi' hb'))) hr

theorem Ow.deeper {w : World} : ∀ {d d' : Nat} {ao : Option Addr} {len : Nat} {ts : List Tr} {bs : List Nat}, d ≤ d' → Ow w d ao len ts bs → Ow w d' ao len ts bs := by
  intro d
  induction d with
  | zero =>
    intro d' ao len ts bs _ h
    cases d' with
    | zero => exact h
    | succ d' => exact Or.inl h
  | succ d ih =>
    intro d' ao len ts bs hd h
    cases d' with
    | zero => omega
    | succ d' =>
      rcases h with h | ⟨g, cs, bss, e, hl, hm, hg, hc, hbl, hbs, hE⟩
      · exact Or.inl h
      · exact Or.inr ⟨g, cs, bss, e, hl, hm, hg, hc, hbl, hbs, fun i hi hi' => (hE i hi hi').wider fun _ _ _ hr => ih (by omega) hr⟩

/-- It owns its memory, which lies from block L on and below block B. -/
def OwR (L B : Nat) (w : World) (d : Nat) (ao : Option Addr) (len : Nat) (ts : List Tr) : Prop := ∃ bs, Ow w d ao len ts bs ∧ bs.Nodup ∧ ∀ b ∈ bs, L ≤ b ∧ b < B

theorem OwR.keep {L B L' B' : Nat} {w w' : World} {d : Nat} {ao : Option Addr} {len : Nat} {ts : List Tr} (h : OwR L B w d ao len ts) (hb : ∀ k, L ≤ k → k < B → w'.heap[k]? = w.heap[k]?) (hL : L' ≤ L) (hB : B ≤ B') : OwR L' B' w' d ao len ts := by
  obtain ⟨bs, h1, h2, h3⟩ := h
  exact ⟨bs, h1.keep (fun b hb' => hb b (h3 b hb').1 (h3 b hb').2), h2, fun b hb' => ⟨Nat.le_trans hL (h3 b hb').1, Nat.lt_of_lt_of_le (h3 b hb').2 hB⟩⟩
theorem OwR.below {L B : Nat} {w w' : World} {d : Nat} {ao : Option Addr} {len : Nat} {ts : List Tr} (h : OwR L B w d ao len ts) (hb : Below w.heap.size w w') (hB : B ≤ w.heap.size) : OwR L B w' d ao len ts :=
  h.keep (fun k _ hk => hb.block k (by omega)) (Nat.le_refl _) (Nat.le_refl _)
theorem OwR.deeper {L B : Nat} {w : World} {d d' : Nat} {ao : Option Addr} {len : Nat} {ts : List Tr} (h : OwR L B w d ao len ts) (hd : d ≤ d') : OwR L B w d' ao len ts := by
  obtain ⟨bs, h1, h2, h3⟩ := h
  exact ⟨bs, h1.deeper hd, h2, h3⟩
theorem OwR.nil (L B : Nat) (w : World) (d : Nat) (ao : Option Addr) : OwR L B w d ao 0 [] := by
  refine ⟨[], ?_, by simp, by simp⟩
  cases d with
  | zero => exact ⟨rfl, rfl, rfl⟩
  | succ d => exact Or.inl ⟨rfl, rfl, rfl⟩

end Go.Proofs.Ytgckmnchlkgakaa
