/-
  Terms that own their memory: no walk.
-/
import Derived.Test.YtdemlfhkhkfceaaUsoTm
import Derived.Test.YtdemlfhkhkfceaaUsoZ2
namespace Go.Proofs.Ytdemlfhkhkfceaa
open Go.RowKit
set_option linter.unusedVariables false
set_option linter.unusedSimpArgs false

/-- A term's fields, each list in blocks of its own: bs. -/
def FldO (w : World) (D : Nat) (rM : Option Addr → Nat → List Tm → List Nat → Prop) (t : Tm) (a1 : Option Addr) (l1 : Nat) (a2 : Option Addr) (l2 : Nat) (a3 : Option Addr) (l3 : Nat) (bs : List Nat) : Prop :=
  ∃ p1 p2 p3, bs = p1 ++ p2 ++ p3 ∧ t.S.size ≤ 9223372036854775807 ∧ t.Z.size ≤ 9223372036854775807 ∧ Ow w D a1 l1 t.T.A p1 ∧ Ow w D a2 l2 t.Ts p2 ∧ rM a3 l3 t.A p3

def OwM (w : World) (D : Nat) : Nat → Option Addr → Nat → List Tm → List Nat → Prop
  | 0, _, len, ts, bs => len = 0 ∧ ts = [] ∧ bs = []
  | d + 1, ao, len, ts, bs => (len = 0 ∧ ts = [] ∧ bs = []) ∨
      ∃ (g : Nat) (cs : Array Value) (bss : List (List Nat)), ao = some ⟨g, 0, none⟩ ∧ len = ts.length ∧ len ≤ 9223372036854775807 ∧ w.heap[g]? = some (.cells cs 35 (0, 0)) ∧ len * 9 ≤ cs.size ∧ bss.length = ts.length ∧ bs = g :: bss.flatten ∧
        ∀ i (_ : i < ts.length) (_ : i < bss.length), ∃ a1 l1 c1 a2 l2 c2 a3 l3 c3, Nine w g (i * 9) ts[i].K ts[i].N ts[i].S ts[i].Z ts[i].T.K ts[i].T.N (.slice a1 l1 c1) (.slice a2 l2 c2) (.slice a3 l3 c3) ∧ FldO w D (OwM w D d) ts[i] a1 l1 a2 l2 a3 l3 bss[i]

theorem FldO.map {w w' : World} {D D' : Nat} {rM rM' : Option Addr → Nat → List Tm → List Nat → Prop} {t : Tm} {a1 a2 a3 : Option Addr} {l1 l2 l3 : Nat} {bs : List Nat} (h : FldO w D rM t a1 l1 a2 l2 a3 l3 bs)
    (kT : ∀ ao len ts p, (∀ b ∈ p, b ∈ bs) → Ow w D ao len ts p → Ow w' D' ao len ts p) (kM : ∀ ao len ts p, (∀ b ∈ p, b ∈ bs) → rM ao len ts p → rM' ao len ts p) : FldO w' D' rM' t a1 l1 a2 l2 a3 l3 bs := by
  obtain ⟨p1, p2, p3, rfl, h1, h2, h3, h4, h5⟩ := h
  exact ⟨p1, p2, p3, rfl, h1, h2, kT _ _ _ _ (fun b hb => by simp [hb]) h3, kT _ _ _ _ (fun b hb => by simp [hb]) h4, kM _ _ _ _ (fun b hb => by simp [hb]) h5⟩

theorem OwM.keep {w w' : World} {D : Nat} : ∀ {d : Nat} {ao : Option Addr} {len : Nat} {ts : List Tm} {bs : List Nat}, (∀ b ∈ bs, w'.heap[b]? = w.heap[b]?) → OwM w D d ao len ts bs → OwM w' D d ao len ts bs := by
  intro d
  induction d with
  | zero => intro ao len ts bs _ h; exact h
  | succ d ih =>
    intro ao len ts bs hb h
    rcases h with h | ⟨g, cs, bss, e, hl, hm, hg, hc, hbl, rfl, hE⟩
    · exact Or.inl h
    · have hgg := hb g (by simp)
      refine Or.inr ⟨g, cs, bss, e, hl, hm, hgg.trans hg, hc, hbl, rfl, fun i hi hi' => ?_⟩
      obtain ⟨a1, l1, c1, a2, l2, c2, a3, l3, c3, h9, hf⟩ := hE i hi hi'
      have hin : ∀ b ∈ bss[i], w'.heap[b]? = w.heap[b]? := fun b hb' => hb b (List.mem_cons_of_mem _ (mem_part hi' hb'))
      exact ⟨a1, l1, c1, a2, l2, c2, a3, l3, c3, h9.world hgg, hf.map (fun _ _ _ p hp hr => hr.keep fun b hb' => hin b (hp b hb')) (fun _ _ _ p hp hr => ih (fun b hb' => hin b (hp b hb')) hr)⟩

theorem FldO.keep {w w' : World} {D d : Nat} {t : Tm} {a1 a2 a3 : Option Addr} {l1 l2 l3 : Nat} {bs : List Nat} (hb : ∀ b ∈ bs, w'.heap[b]? = w.heap[b]?) (h : FldO w D (OwM w D d) t a1 l1 a2 l2 a3 l3 bs) : FldO w' D (OwM w' D d) t a1 l1 a2 l2 a3 l3 bs :=
  h.map (fun _ _ _ p hp hr => hr.keep fun b hb' => hb b (hp b hb')) (fun _ _ _ p hp hr => hr.keep fun b hb' => hb b (hp b hb'))

/-- A term that owns its memory, which lies from block L on and below block B. -/
def FmO (L B : Nat) (w : World) (D d : Nat) (t : Tm) (a1 : Option Addr) (l1 : Nat) (a2 : Option Addr) (l2 : Nat) (a3 : Option Addr) (l3 : Nat) : Prop := ∃ bs, FldO w D (OwM w D d) t a1 l1 a2 l2 a3 l3 bs ∧ bs.Nodup ∧ ∀ b ∈ bs, L ≤ b ∧ b < B
def OwMR (L B : Nat) (w : World) (D d : Nat) (ao : Option Addr) (len : Nat) (ts : List Tm) : Prop := ∃ bs, OwM w D d ao len ts bs ∧ bs.Nodup ∧ ∀ b ∈ bs, L ≤ b ∧ b < B

theorem FmO.keep {L B L' B' : Nat} {w w' : World} {D d : Nat} {t : Tm} {a1 a2 a3 : Option Addr} {l1 l2 l3 : Nat} (h : FmO L B w D d t a1 l1 a2 l2 a3 l3) (hb : ∀ k, L ≤ k → k < B → w'.heap[k]? = w.heap[k]?) (hL : L' ≤ L) (hB : B ≤ B') : FmO L' B' w' D d t a1 l1 a2 l2 a3 l3 := by
  obtain ⟨bs, h1, h2, h3⟩ := h
  exact ⟨bs, h1.keep (fun b hb' => hb b (h3 b hb').1 (h3 b hb').2), h2, fun b hb' => ⟨Nat.le_trans hL (h3 b hb').1, Nat.lt_of_lt_of_le (h3 b hb').2 hB⟩⟩
theorem FmO.below {L B : Nat} {w w' : World} {D d : Nat} {t : Tm} {a1 a2 a3 : Option Addr} {l1 l2 l3 : Nat} (h : FmO L B w D d t a1 l1 a2 l2 a3 l3) (hb : Below w.heap.size w w') (hB : B ≤ w.heap.size) : FmO L B w' D d t a1 l1 a2 l2 a3 l3 :=
  h.keep (fun k _ hk => hb.block k (by omega)) (Nat.le_refl _) (Nat.le_refl _)
theorem OwMR.keep {L B L' B' : Nat} {w w' : World} {D d : Nat} {ao : Option Addr} {len : Nat} {ts : List Tm} (h : OwMR L B w D d ao len ts) (hb : ∀ k, L ≤ k → k < B → w'.heap[k]? = w.heap[k]?) (hL : L' ≤ L) (hB : B ≤ B') : OwMR L' B' w' D d ao len ts := by
  obtain ⟨bs, h1, h2, h3⟩ := h
  exact ⟨bs, h1.keep (fun b hb' => hb b (h3 b hb').1 (h3 b hb').2), h2, fun b hb' => ⟨Nat.le_trans hL (h3 b hb').1, Nat.lt_of_lt_of_le (h3 b hb').2 hB⟩⟩
theorem OwMR.nil (L B : Nat) (w : World) (D d : Nat) (ao : Option Addr) : OwMR L B w D d ao 0 [] := by
  refine ⟨[], ?_, by simp, by simp⟩
  cases d with
  | zero => exact ⟨rfl, rfl, rfl⟩
  | succ d => exact Or.inl ⟨rfl, rfl, rfl⟩

end Go.Proofs.Ytdemlfhkhkfceaa
