/-
  Trees that own their memory: which blocks a slice's tree lies in, no block twice; rows that are filled one by one, rows that are appended to.
-/
import Derived.Test.YtgckmnchlkgakaaBndTr
import Derived.Deep.AppendLies
namespace Go.Proofs.Ytgckmnchlkgakaa
open Go.RowKit
set_option linter.unusedVariables false
set_option linter.unusedSimpArgs false

/-- The slice holds the list ts; each list of it that is not empty lies in a block of its own, at its head; bs: these blocks. -/
def Ow (w : World) : Nat → Option Addr → Nat → List Tr → List Nat → Prop
  | 0, _, len, ts, bs => len = 0 ∧ ts = [] ∧ bs = []
  | d + 1, ao, len, ts, bs => (len = 0 ∧ ts = [] ∧ bs = []) ∨
      ∃ (g : Nat) (cs : Array Value) (bss : List (List Nat)), ao = some ⟨g, 0, none⟩ ∧ len = ts.length ∧ len ≤ 9223372036854775807 ∧ w.heap[g]? = some (.cells cs 33 (0, 0)) ∧ len * 3 ≤ cs.size ∧ bss.length = ts.length ∧ bs = g :: bss.flatten ∧
        ∀ i (_ : i < ts.length) (_ : i < bss.length), El w (fun ao' len' l => Ow w d ao' len' l bss[i]) g (i * 3) ts[i]

theorem mem_part {bss : List (List Nat)} {i : Nat} (hi : i < bss.length) {b : Nat} (hb : b ∈ bss[i]) : b ∈ bss.flatten :=
  List.mem_flatten.2 ⟨_, List.getElem_mem hi, hb⟩

theorem Ow.keep {w w' : World} : ∀ {d : Nat} {ao : Option Addr} {len : Nat} {ts : List Tr} {bs : List Nat}, (∀ b ∈ bs, w'.heap[b]? = w.heap[b]?) → Ow w d ao len ts bs → Ow w' d ao len ts bs := by
  intro d
  induction d with
  | zero => intro ao len ts bs _ h; exact h
  | succ d ih =>
    intro ao len ts bs hb h
    rcases h with h | ⟨g, cs, bss, e, hl, hm, hg, hc, hbl, rfl, hE⟩
    · exact Or.inl h
    · have hgg := hb g (by simp)
      refine Or.inr ⟨g, cs, bss, e, hl, hm, hgg.trans hg, hc, hbl, rfl, fun i hi hi' => ?_⟩
      exact ((hE i hi hi').world hgg).wider fun _ _ _ hr => ih (fun b hb' => hb b (List.mem_cons_of_mem _ (mem_part hi' hb'))) hr

theorem Ow.hs {w : World} {L B : Nat} : ∀ {d : Nat} {ao : Option Addr} {len : Nat} {ts : List Tr} {bs : List Nat}, (∀ b ∈ bs, L ≤ b ∧ b < B) → Ow w d ao len ts bs → Hs L B w d ao len ts := by
  intro d
  induction d with
  | zero => intro ao len ts bs _ h; exact ⟨h.1, h.2.1⟩
  | succ d ih =>
    intro ao len ts bs hb h
    rcases h with ⟨rfl, rfl, _⟩ | ⟨g, cs, bss, e, hl, hm, hg, hc, hbl, rfl, hE⟩
    · exact ⟨rfl, by omega, fun i hi => by simp at hi⟩
    · refine ⟨hl, hm, fun i hi => ⟨g, 0, e, (hb g (by simp)).1, (hb g (by simp)).2, ?_⟩⟩
      rw [Nat.zero_add]
      exact (hE i hi (by omega)).wider fun _ _ _ hr => ih (fun b hb' => hb b (List.mem_cons_of_mem _ (mem_part (by omega) hb'))) hr

theorem Ow.deeper {w : World} : ∀ {d d' : Nat} {ao : Option Addr} {len : Nat} {ts : List Tr} {bs : List Nat}, d ≤ d' → Ow w d ao len ts bs → Ow w d' ao len ts bs := by
  intro d
  induction d with
  | zero =>
    intro d' ao len ts bs _ h
    cases d' with
    | zero => exact h
    | succ d' => exact Or.inl h
  | succ d ih =>
    intro d' ao len ts bs hd h
    cases d' with
    | zero => omega
    | succ d' =>
      rcases h with h | ⟨g, cs, bss, e, hl, hm, hg, hc, hbl, hbs, hE⟩
      · exact Or.inl h
      · exact Or.inr ⟨g, cs, bss, e, hl, hm, hg, hc, hbl, hbs, fun i hi hi' => (hE i hi hi').wider fun _ _ _ hr => ih (by omega) hr⟩

/-- It owns its memory, which lies from block L on and below block B. -/
def OwR (L B : Nat) (w : World) (d : Nat) (ao : Option Addr) (len : Nat) (ts : List Tr) : Prop := ∃ bs, Ow w d ao len ts bs ∧ bs.Nodup ∧ ∀ b ∈ bs, L ≤ b ∧ b < B

theorem OwR.hs {L B : Nat} {w : World} {d : Nat} {ao : Option Addr} {len : Nat} {ts : List Tr} (h : OwR L B w d ao len ts) : Hs L B w d ao len ts := by
  obtain ⟨bs, h1, _, h3⟩ := h
  exact h1.hs h3
theorem OwR.keep {L B L' B' : Nat} {w w' : World} {d : Nat} {ao : Option Addr} {len : Nat} {ts : List Tr} (h : OwR L B w d ao len ts) (hb : ∀ k, L ≤ k → k < B → w'.heap[k]? = w.heap[k]?) (hL : L' ≤ L) (hB : B ≤ B') : OwR L' B' w' d ao len ts := by
  obtain ⟨bs, h1, h2, h3⟩ := h
  exact ⟨bs, h1.keep (fun b hb' => hb b (h3 b hb').1 (h3 b hb').2), h2, fun b hb' => ⟨Nat.le_trans hL (h3 b hb').1, Nat.lt_of_lt_of_le (h3 b hb').2 hB⟩⟩
theorem OwR.below {L B : Nat} {w w' : World} {d : Nat} {ao : Option Addr} {len : Nat} {ts : List Tr} (h : OwR L B w d ao len ts) (hb : Below w.heap.size w w') (hB : B ≤ w.heap.size) : OwR L B w' d ao len ts :=
  h.keep (fun k _ hk => hb.block k (by omega)) (Nat.le_refl _) (Nat.le_refl _)
theorem OwR.deeper {L B : Nat} {w : World} {d d' : Nat} {ao : Option Addr} {len : Nat} {ts : List Tr} (h : OwR L B w d ao len ts) (hd : d ≤ d') : OwR L B w d' ao len ts := by
  obtain ⟨bs, h1, h2, h3⟩ := h
  exact ⟨bs, h1.deeper hd, h2, h3⟩
theorem OwR.nil (L B : Nat) (w : World) (d : Nat) (ao : Option Addr) : OwR L B w d ao 0 [] := by
  refine ⟨[], ?_, by simp, by simp⟩
  cases d with
  | zero => exact ⟨rfl, rfl, rfl⟩
  | succ d => exact Or.inl ⟨rfl, rfl, rfl⟩

/-- A row made at once (block g, where the heap ended), whose first k elements are laid. -/
structure RowRel (w wr : World) (d len k : Nat) (ts : List Tr) : Prop where
  bel : Below w.heap.size w wr
  row : ∃ cs : Array Value, wr.heap[w.heap.size]? = some (.cells cs 33 (0, 0)) ∧ cs.size = len * 3
  els : ∃ bss : List (List Nat), bss.length = k ∧ bss.flatten.Nodup ∧ (∀ b ∈ bss.flatten, w.heap.size < b ∧ b < wr.heap.size) ∧
    ∀ i (_ : i < bss.length) (_ : i < ts.length), El wr (fun ao len l => Ow wr d ao len l bss[i]) w.heap.size (i * 3) ts[i]

theorem rr_lt {w wr : World} {d len k : Nat} {ts : List Tr} (h : RowRel w wr d len k ts) : w.heap.size < wr.heap.size := by
  obtain ⟨cs, hr, _⟩ := h.row
  exact (Array.getElem?_eq_some_iff.1 hr).1

theorem rr_row {w wr w1 : World} {d len k : Nat} {ts : List Tr} (h : RowRel w wr d len k ts) (hb : Below wr.heap.size wr w1) : ∃ cs : Array Value, w1.heap[w.heap.size]? = some (.cells cs 33 (0, 0)) ∧ cs.size = len * 3 := by
  obtain ⟨cs, hr, hc⟩ := h.row
  exact ⟨cs, (hb.block _ (rr_lt h)).trans hr, hc⟩

theorem nodup_snoc {bss : List (List Nat)} {bs : List Nat} {M : Nat} (h1 : bss.flatten.Nodup) (h2 : bs.Nodup) (h3 : ∀ b ∈ bss.flatten, b < M) (h4 : ∀ b ∈ bs, M ≤ b) : (bss ++ [bs]).flatten.Nodup := by
  rw [List.flatten_append, List.nodup_append]
  refine ⟨h1, by simpa using h2, fun a ha b hb => ?_⟩
  have h5 := h3 a ha
  have h6 := h4 b (by simpa using hb)
  omega

theorem rr_next {w wr w1 : World} {d len k : Nat} {ts : List Tr} (h : RowRel w wr d len k ts) (hk : k < len) (hk' : k < ts.length) (hb : Below wr.heap.size wr w1) {ao1 : Option Addr} {len1 cap1 : Nat}
    (hs : OwR wr.heap.size w1.heap.size w1 d ao1 len1 ts[k].A) :
    RowRel w (set3 w1 w.heap.size (k * 3) (.int .i64 ts[k].K) (.int .i64 ts[k].N) (.slice ao1 len1 cap1)) d len (k + 1) ts := by
  obtain ⟨cs, hr, hc⟩ := rr_row h hb
  have hlt := rr_lt h
  have hsz := hb.size
  obtain ⟨bss, hbl, hnd, hrng, hE⟩ := h.els
  obtain ⟨bs, ho, hnd2, hrng2⟩ := hs
  refine ⟨?_, ?_, bss ++ [bs], by simp [hbl], nodup_snoc hnd hnd2 (fun b hb' => (hrng b hb').2) (fun b hb' => (hrng2 b hb').1), ?_, ?_⟩
  · exact set3_below (h.bel.trans (hb.mono (by omega))) (Nat.le_refl _)
  · exact ⟨_, set3_row hr, by simp [hc]⟩
  · intro b hb'
    rw [set3_size]
    rw [List.flatten_append, List.mem_append] at hb'
    rcases hb' with hb' | hb'
    · exact ⟨(hrng b hb').1, Nat.lt_of_lt_of_le (hrng b hb').2 hsz⟩
    · have := hrng2 b (by simpa using hb')
      exact ⟨by omega, this.2⟩
  · intro i hi hi'
    by_cases hik : i = k
    · subst hik
      obtain ⟨x0, x1, x2⟩ := set3_cells (a := .int .i64 ts[i].K) (b := .int .i64 ts[i].N) (c := .slice ao1 len1 cap1) hr (show i * 3 + 2 < cs.size by omega)
      refine ⟨_, _, _, x0, x1, x2, ?_⟩
      have e : (bss ++ [bs])[i] = bs := by simp [List.getElem_append_right, hbl]
      rw [e]
      exact ho.keep fun b hb' => set3_other b (by have := (hrng2 b hb').1; omega)
    · have hik' : i < bss.length := by simp at hi; omega
      obtain ⟨ao', len', cap', c0, c1, c2, hh⟩ := hE i hik' hi'
      have hcell : ∀ p, w1.cell? ⟨w.heap.size, p, none⟩ = wr.cell? ⟨w.heap.size, p, none⟩ := fun p => bcell hb hlt p
      have far : ∀ p, p < k * 3 → (set3 w1 w.heap.size (k * 3) (.int .i64 ts[k].K) (.int .i64 ts[k].N) (.slice ao1 len1 cap1)).cell? ⟨w.heap.size, p, none⟩ = wr.cell? ⟨w.heap.size, p, none⟩ :=
        fun p hp => (set3_far hr p (Or.inl hp)).trans (hcell p)
      refine ⟨ao', len', cap', (far _ (by omega)).trans c0, (far _ (by omega)).trans c1, (far _ (by omega)).trans c2, ?_⟩
      have e : (bss ++ [bs])[i] = bss[i] := by simp [List.getElem_append_left, hik']
      rw [e]
      refine hh.keep fun b hb' => ?_
      have hb2 := hrng b (mem_part hik' hb')
      rw [set3_other b (by omega)]
      exact hb.block b hb2.2

theorem rr_done {w wr : World} {d len : Nat} {ts : List Tr} (h : RowRel w wr d len len ts) (hl : len = ts.length) (hm : len ≤ 9223372036854775807) : OwR w.heap.size wr.heap.size wr (d + 1) (some ⟨w.heap.size, 0, none⟩) len ts := by
  obtain ⟨cs, hr, hc⟩ := h.row
  obtain ⟨bss, hbl, hnd, hrng, hE⟩ := h.els
  refine ⟨w.heap.size :: bss.flatten, Or.inr ⟨w.heap.size, cs, bss, rfl, hl, hm, hr, by omega, by omega, rfl, fun i hi hi' => hE i hi' hi⟩, ?_, ?_⟩
  · rw [List.nodup_cons]
    exact ⟨fun hmem => by have := (hrng _ hmem).1; omega, hnd⟩
  · intro b hb
    rw [List.mem_cons] at hb
    rcases hb with rfl | hb
    · exact ⟨Nat.le_refl _, rr_lt h⟩
    · exact ⟨Nat.le_of_lt (hrng b hb).1, (hrng b hb).2⟩

theorem rr_start {w : World} {C : Array Value} {d len : Nat} {ts : List Tr} (hC : C.size = len * 3) : RowRel w (w.alloc (.cells C 33)) d len 0 ts :=
  ⟨(Below.refl _ _).alloc (Nat.le_refl _) _, ⟨C, heap_alloc_new _ _, hC⟩, [], rfl, by simp, by simp, fun i hi => by simp at hi⟩

end Go.Proofs.Ytgckmnchlkgakaa
