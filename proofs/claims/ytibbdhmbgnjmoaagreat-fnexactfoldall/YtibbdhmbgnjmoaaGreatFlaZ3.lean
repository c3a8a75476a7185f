/-
  Terms that own their memory: no walk.
-/
import Derived.Test.YtibbdhmbgnjmoaaGreatFlaZ1
import Derived.Test.YtibbdhmbgnjmoaaGreatFlaOw
namespace Go.Proofs.YtibbdhmbgnjmoaaGreat
open Go.RowKit
set_option linter.unusedVariables false
set_option linter.unusedSimpArgs false

/-- A term's fields, each list in blocks of its own: bs. -/
def FldO (w : World) (D : Nat) (rM : Option Addr → Nat → List Tm → List Nat → Prop) (t : Tm) (a1 : Option Addr) (l1 : Nat) (a2 : Option Addr) (l2 : Nat) (a3 : Option Addr) (l3 : Nat) (bs : List Nat) : Prop :=
  ∃ p1 p2 p3, bs = p1 ++ p2 ++ p3 ∧ t.S.size ≤ 9223372036854775807 ∧ t.Z.size ≤ 9223372036854775807 ∧ Ow w D a1 l1 t.T.A p1 ∧ Ow w D a2 l2 t.Ts p2 ∧ rM a3 l3 t.A p3

def OwM (w : World) (D : Nat) : Nat → Option Addr → Nat → List Tm → List Nat → Prop
  | 0, _, len, ts, bs => len = 0 ∧ ts = [] ∧ bs = []
  | d + 1, ao, len, ts, bs => (len = 0 ∧ ts = [] ∧ bs = []) ∨
      ∃ (g : Nat) (cs : Array Value) (bss : List (List Nat)), ao = some ⟨g, 0, none⟩ ∧ len = ts.length ∧ len ≤ 9223372036854775807 ∧ w.heap[g]? = some (.cells cs 34 (0, 0)) ∧ len * 9 ≤ cs.size ∧ bss.length = ts.length ∧ bs = g :: bss.flatten ∧
        ∀ i (_ : i < ts.length) (_ : i < bss.length), ∃ a1 l1 c1 a2 l2 c2 a3 l3 c3, Nine w g (i * 9) ts[i].K ts[i].N ts[i].S ts[i].Z ts[i].T.K ts[i].T.N (.slice a1 l1 c1) (.slice a2 l2 c2) (.slice a3 l3 c3) ∧ FldO w D (OwM w D d) ts[i] a1 l1 a2 l2 a3 l3 bss[i]

theorem FldO.map {w w' : World} {D D' : Nat} {rM rM' : Option Addr → Nat → List Tm → List Nat → Prop} {t : Tm} {a1 a2 a3 : Option Addr} {l1 l2 l3 : Nat} {bs : List Nat} (h : FldO w D rM t a1 l1 a2 l2 a3 l3 bs)
    (kT : ∀ ao len ts p, (∀ b ∈ p, b ∈ bs) → Ow w D ao len ts p → Ow w' D' ao len ts p) (kM : ∀ ao len ts p, (∀ b ∈ p, b ∈ bs) → rM ao len ts p → rM' ao len ts p) : FldO w' D' rM' t a1 l1 a2 l2 a3 l3 bs := by
  obtain ⟨p1, p2, p3, rfl, h1, h2, h3, h4, h5⟩ := h
  exact ⟨p1, p2, p3, rfl, h1, h2, kT _ _ _ _ (fun b hb => by simp [hb]) h3, kT _ _ _ _ (fun b hb => by simp [hb]) h4, kM _ _ _ _ (fun b hb => by simp [hb]) h5⟩

theorem OwM.keep {w w' : World} {D : Nat} : ∀ {d : Nat} {ao : Option Addr} {len : Nat} {ts : List Tm} {bs : List Nat}, (∀ b ∈ bs, w'.heap[b]? = w.heap[b]?) → OwM w D d ao len ts bs → OwM w' D d ao len ts bs := by
  intro d
  induction d with
  | zero => intro ao len ts bs _ h; exact h
  | succ d ih =>
    intro ao len ts bs hb h
    rcases h with h | ⟨g, cs, bss, e, hl, hm, hg, hc, hbl, rfl, hE⟩
    · exact Or.inl h
    · have hgg := hb g (by simp)
      refine Or.inr ⟨g, cs, bss, e, hl, hm, hgg.trans hg, hc, hbl, rfl, fun i hi hi' => ?_⟩
      obtain ⟨a1, l1, c1, a2, l2, c2, a3, l3, c3, h9, hf⟩ := hE i hi hi'
      have hin : ∀ b ∈ bss[i], w'.heap[b]? = w.heap[b]? := fun b hb' => hb b (List.mem_cons_of_mem _ (mem_part hi' hb'))
      exact ⟨a1, l1, c1, a2, l2, c2, a3, l3, c3, h9.world hgg, hf.map (fun _ _ _ p hp hr => hr.keep fun b hb' => hin b (hp b hb')) (fun _ _ _ p hp hr => ih (fun b hb' => hin b (hp b hb')) hr)⟩

theorem FldO.keep {w w' : World} {D d : Nat} {t : Tm} {a1 a2 a3 : Option Addr} {l1 l2 l3 : Nat} {bs : List Nat} (hb : ∀ b ∈ bs, w'.heap[b]? = w.heap[b]?) (h : FldO w D (OwM w D d) t a1 l1 a2 l2 a3 l3 bs) : FldO w' D (OwM w' D d) t a1 l1 a2 l2 a3 l3 bs :=
  h.map (fun _ _ _ p hp hr => hr.keep fun b hb' => hb b (hp b hb')) (fun _ _ _ p hp hr => hr.keep fun b hb' => hb b (hp b hb'))

theorem OwM.hm {w : World} {L B D : Nat} : ∀ {d : Nat} {ao : Option Addr} {len : Nat} {ts : List Tm} {bs : List Nat}, (∀ b ∈ bs, L ≤ b ∧ b < B) → OwM w D d ao len ts bs → Hm L B w D d ao len ts := by
  intro d
  induction d with
  | zero => intro ao len ts bs _ h; exact ⟨h.1, h.2.1⟩
  | succ d ih =>
    intro ao len ts bs hb h
    rcases h with ⟨rfl, rfl, _⟩ | ⟨g, cs, bss, e, hl, hm, hg, hc, hbl, rfl, hE⟩
    · exact ⟨rfl, by omega, fun i hi => by simp at hi⟩
    · refine ⟨hl, hm, fun i hi => ⟨g, 0, e, (hb g (by simp)).1, (hb g (by simp)).2, ?_⟩⟩
      rw [Nat.zero_add]
      obtain ⟨a1, l1, c1, a2, l2, c2, a3, l3, c3, h9, p1, p2, p3, hp, h1, h2, h3, h4, h5⟩ := hE i hi (by omega)
      have hin : ∀ b ∈ bss[i]'(by omega), L ≤ b ∧ b < B := fun b hb' => hb b (List.mem_cons_of_mem _ (mem_part (by omega) hb'))
      rw [hp] at hin
      exact ⟨a1, l1, c1, a2, l2, c2, a3, l3, c3, h9, h1, h2, h3.hs fun b hb' => hin b (by simp [hb']), h4.hs fun b hb' => hin b (by simp [hb']), ih (fun b hb' => hin b (by simp [hb'])) h5⟩

/-- A term that owns its memory, which lies from block L on and below block B. -/
def FmO (L B : Nat) (w : World) (D d : Nat) (t : Tm) (a1 : Option Addr) (l1 : Nat) (a2 : Option Addr) (l2 : Nat) (a3 : Option Addr) (l3 : Nat) : Prop := ∃ bs, FldO w D (OwM w D d) t a1 l1 a2 l2 a3 l3 bs ∧ bs.Nodup ∧ ∀ b ∈ bs, L ≤ b ∧ b < B
def OwMR (L B : Nat) (w : World) (D d : Nat) (ao : Option Addr) (len : Nat) (ts : List Tm) : Prop := ∃ bs, OwM w D d ao len ts bs ∧ bs.Nodup ∧ ∀ b ∈ bs, L ≤ b ∧ b < B

theorem FmO.fm {L B : Nat} {w : World} {D d : Nat} {t : Tm} {a1 a2 a3 : Option Addr} {l1 l2 l3 : Nat} (h : FmO L B w D d t a1 l1 a2 l2 a3 l3) : Fm L B w D d t a1 l1 a2 l2 a3 l3 := by
  obtain ⟨bs, ⟨p1, p2, p3, rfl, h1, h2, h3, h4, h5⟩, _, hin⟩ := h
  exact ⟨h1, h2, h3.hs fun b hb' => hin b (by simp [hb']), h4.hs fun b hb' => hin b (by simp [hb']), h5.hm fun b hb' => hin b (by simp [hb'])⟩
theorem FmO.keep {L B L' B' : Nat} {w w' : World} {D d : Nat} {t : Tm} {a1 a2 a3 : Option Addr} {l1 l2 l3 : Nat} (h : FmO L B w D d t a1 l1 a2 l2 a3 l3) (hb : ∀ k, L ≤ k → k < B → w'.heap[k]? = w.heap[k]?) (hL : L' ≤ L) (hB : B ≤ B') : FmO L' B' w' D d t a1 l1 a2 l2 a3 l3 := by
  obtain ⟨bs, h1, h2, h3⟩ := h
  exact ⟨bs, h1.keep (fun b hb' => hb b (h3 b hb').1 (h3 b hb').2), h2, fun b hb' => ⟨Nat.le_trans hL (h3 b hb').1, Nat.lt_of_lt_of_le (h3 b hb').2 hB⟩⟩
theorem FmO.below {L B : Nat} {w w' : World} {D d : Nat} {t : Tm} {a1 a2 a3 : Option Addr} {l1 l2 l3 : Nat} (h : FmO L B w D d t a1 l1 a2 l2 a3 l3) (hb : Below w.heap.size w w') (hB : B ≤ w.heap.size) : FmO L B w' D d t a1 l1 a2 l2 a3 l3 :=
  h.keep (fun k _ hk => hb.block k (by omega)) (Nat.le_refl _) (Nat.le_refl _)
theorem OwMR.keep {L B L' B' : Nat} {w w' : World} {D d : Nat} {ao : Option Addr} {len : Nat} {ts : List Tm} (h : OwMR L B w D d ao len ts) (hb : ∀ k, L ≤ k → k < B → w'.heap[k]? = w.heap[k]?) (hL : L' ≤ L) (hB : B ≤ B') : OwMR L' B' w' D d ao len ts := by
  obtain ⟨bs, h1, h2, h3⟩ := h
  exact ⟨bs, h1.keep (fun b hb' => hb b (h3 b hb').1 (h3 b hb').2), h2, fun b hb' => ⟨Nat.le_trans hL (h3 b hb').1, Nat.lt_of_lt_of_le (h3 b hb').2 hB⟩⟩
theorem OwMR.nil (L B : Nat) (w : World) (D d : Nat) (ao : Option Addr) : OwMR L B w D d ao 0 [] := by
  refine ⟨[], ?_, by simp, by simp⟩
  cases d with
  | zero => exact ⟨rfl, rfl, rfl⟩
  | succ d => exact Or.inl ⟨rfl, rfl, rfl⟩

/-- A term out of its three lists, each made behind the one ahead. -/
theorem FmO.mk {L M1 M2 B : Nat} {w : World} {D d : Nat} {t : Tm} {a1 a2 a3 : Option Addr} {l1 l2 l3 : Nat} (h1 : t.S.size ≤ 9223372036854775807) (h2 : t.Z.size ≤ 9223372036854775807) (hT : OwR L M1 w D a1 l1 t.T.A) (hTs : OwR M1 M2 w D a2 l2 t.Ts) (hA : OwMR M2 B w D d a3 l3 t.A) (hm1 : L ≤ M1) (hm2 : M1 ≤ M2) (hm3 : M2 ≤ B) : FmO L B w D d t a1 l1 a2 l2 a3 l3 := by
  obtain ⟨p1, q1, n1, r1⟩ := hT
  obtain ⟨p2, q2, n2, r2⟩ := hTs
  obtain ⟨p3, q3, n3, r3⟩ := hA
  refine ⟨p1 ++ p2 ++ p3, ⟨p1, p2, p3, rfl, h1, h2, q1, q2, q3⟩, ?_, ?_⟩
  · rw [List.nodup_append, List.nodup_append]
    refine ⟨⟨n1, n2, fun a ha b hb => ?_⟩, n3, fun a ha b hb => ?_⟩
    · have := (r1 a ha).2; have := (r2 b hb).1; omega
    · have h3 := (r3 b hb).1
      rw [List.mem_append] at ha
      rcases ha with ha | ha
      · have := (r1 a ha).2; omega
      · have := (r2 a ha).2; omega
  · intro b hb
    rw [List.mem_append, List.mem_append] at hb
    rcases hb with (hb | hb) | hb
    · have := r1 b hb; omega
    · have := r2 b hb; omega
    · have := r3 b hb; omega

/-- A row of terms made at once (block g, where the heap ended), whose first k elements are laid. -/
structure RowRelM (w wr : World) (D d len k : Nat) (ts : List Tm) : Prop where
  bel : Below w.heap.size w wr
  row : ∃ cs : Array Value, wr.heap[w.heap.size]? = some (.cells cs 34 (0, 0)) ∧ cs.size = len * 9
  els : ∃ bss : List (List Nat), bss.length = k ∧ bss.flatten.Nodup ∧ (∀ b ∈ bss.flatten, w.heap.size < b ∧ b < wr.heap.size) ∧
    ∀ i (_ : i < bss.length) (_ : i < ts.length), ∃ a1 l1 c1 a2 l2 c2 a3 l3 c3, Nine wr w.heap.size (i * 9) ts[i].K ts[i].N ts[i].S ts[i].Z ts[i].T.K ts[i].T.N (.slice a1 l1 c1) (.slice a2 l2 c2) (.slice a3 l3 c3) ∧ FldO wr D (OwM wr D d) ts[i] a1 l1 a2 l2 a3 l3 bss[i]

theorem rrm_lt {w wr : World} {D d len k : Nat} {ts : List Tm} (h : RowRelM w wr D d len k ts) : w.heap.size < wr.heap.size := by
  obtain ⟨cs, hr, _⟩ := h.row
  exact (Array.getElem?_eq_some_iff.1 hr).1
theorem rrm_row {w wr w1 : World} {D d len k : Nat} {ts : List Tm} (h : RowRelM w wr D d len k ts) (hb : Below wr.heap.size wr w1) : ∃ cs : Array Value, w1.heap[w.heap.size]? = some (.cells cs 34 (0, 0)) ∧ cs.size = len * 9 := by
  obtain ⟨cs, hr, hc⟩ := h.row
  exact ⟨cs, (hb.block _ (rrm_lt h)).trans hr, hc⟩
theorem rrm_start {w : World} {C : Array Value} {D d len : Nat} {ts : List Tm} (hC : C.size = len * 9) : RowRelM w (w.alloc (.cells C 34)) D d len 0 ts :=
  ⟨(Below.refl _ _).alloc (Nat.le_refl _) _, ⟨C, heap_alloc_new _ _, hC⟩, [], rfl, by simp, by simp, fun i hi => by simp at hi⟩

theorem rrm_next {w wr w1 : World} {D d len k : Nat} {ts : List Tm} (h : RowRelM w wr D d len k ts) (hk : k < len) (hk' : k < ts.length) (hb : Below wr.heap.size wr w1) {a1 a2 a3 : Option Addr} {l1 l2 l3 c1 c2 c3 : Nat}
    (hs : FmO wr.heap.size w1.heap.size w1 D d ts[k] a1 l1 a2 l2 a3 l3) :
    RowRelM w (set9 w1 w.heap.size (k * 9) (.int .i64 ts[k].K) (.int .i64 ts[k].N) (.string ts[k].S) (.string ts[k].Z) (.int .i64 ts[k].T.K) (.int .i64 ts[k].T.N) (.slice a1 l1 c1) (.slice a2 l2 c2) (.slice a3 l3 c3)) D d len (k + 1) ts := by
  obtain ⟨cs, hr, hc⟩ := rrm_row h hb
  have hlt := rrm_lt h
  have hsz := hb.size
  obtain ⟨bss, hbl, hnd, hrng, hE⟩ := h.els
  obtain ⟨bs, ho, hnd2, hrng2⟩ := hs
  obtain ⟨Y, hY⟩ : ∃ Y, Y = set9 w1 w.heap.size (k * 9) (.int .i64 ts[k].K) (.int .i64 ts[k].N) (.string ts[k].S) (.string ts[k].Z) (.int .i64 ts[k].T.K) (.int .i64 ts[k].T.N) (.slice a1 l1 c1) (.slice a2 l2 c2) (.slice a3 l3 c3) := ⟨_, rfl⟩
  have hoth : ∀ j, j ≠ w.heap.size → Y.heap[j]? = w1.heap[j]? := fun j hj => by rw [hY]; exact set9_other j hj
  have hYs : Y.heap.size = w1.heap.size := by rw [hY]; exact set9_size _ _ _ _ _ _ _ _ _ _ _ _
  have h9 : Nine Y w.heap.size (k * 9) ts[k].K ts[k].N ts[k].S ts[k].Z ts[k].T.K ts[k].T.N (.slice a1 l1 c1) (.slice a2 l2 c2) (.slice a3 l3 c3) := by rw [hY]; exact set9_cells hr (by omega)
  have hrow : ∃ cs : Array Value, Y.heap[w.heap.size]? = some (.cells cs 34 (0, 0)) ∧ cs.size = len * 9 := by
    rw [hY]; obtain ⟨cs', e1, e2⟩ := set9_row (o := k * 9) (a0 := .int .i64 ts[k].K) (a1 := .int .i64 ts[k].N) (a2 := .string ts[k].S) (a3 := .string ts[k].Z) (a4 := .int .i64 ts[k].T.K) (a5 := .int .i64 ts[k].T.N) (a6 := .slice a1 l1 c1) (a7 := .slice a2 l2 c2) (a8 := .slice a3 l3 c3) hr
    exact ⟨cs', e1, e2.trans hc⟩
  have hbel : Below w.heap.size w Y := by rw [hY]; exact set9_below (h.bel.trans (hb.mono (by omega))) (Nat.le_refl _)
  have far : ∀ p, p < k * 9 → Y.cell? ⟨w.heap.size, p, none⟩ = wr.cell? ⟨w.heap.size, p, none⟩ :=
    fun p hp => by rw [hY]; exact (set9_far hr p (Or.inl hp)).trans (bcell hb hlt p)
  rw [← hY]
  clear hY
  refine ⟨hbel, hrow, bss ++ [bs], by simp [hbl], nodup_snoc hnd hnd2 (fun b hb' => (hrng b hb').2) (fun b hb' => (hrng2 b hb').1), ?_, ?_⟩
  · intro b hb'
    rw [hYs]
    rw [List.flatten_append, List.mem_append] at hb'
    rcases hb' with hb' | hb'
    · exact ⟨(hrng b hb').1, Nat.lt_of_lt_of_le (hrng b hb').2 hsz⟩
    · have := hrng2 b (by simpa using hb')
      exact ⟨by omega, this.2⟩
  · intro i hi hi'
    by_cases hik : i = k
    · subst hik
      have e : (bss ++ [bs])[i] = bs := by simp [List.getElem_append_right, hbl]
      rw [e]
      exact ⟨_, _, _, _, _, _, _, _, _, h9, ho.keep fun b hb' => hoth b (by have := (hrng2 b hb').1; omega)⟩
    · have hik' : i < bss.length := by simp at hi; omega
      obtain ⟨b1, m1, d1, b2, m2, d2, b3, m3, d3, g9, hh⟩ := hE i hik' hi'
      have e : (bss ++ [bs])[i] = bss[i] := by simp [List.getElem_append_left, hik']
      rw [e]
      refine ⟨b1, m1, d1, b2, m2, d2, b3, m3, d3, g9.of_cells fun j hj => far _ (by omega), hh.keep fun b hb' => ?_⟩
      have hb2 := hrng b (mem_part hik' hb')
      rw [hoth b (by omega)]
      exact hb.block b hb2.2

theorem rrm_done {w wr : World} {D d len : Nat} {ts : List Tm} (h : RowRelM w wr D d len len ts) (hl : len = ts.length) (hm : len ≤ 9223372036854775807) : OwMR w.heap.size wr.heap.size wr D (d + 1) (some ⟨w.heap.size, 0, none⟩) len ts := by
  obtain ⟨cs, hr, hc⟩ := h.row
  obtain ⟨bss, hbl, hnd, hrng, hE⟩ := h.els
  refine ⟨w.heap.size :: bss.flatten, Or.inr ⟨w.heap.size, cs, bss, rfl, hl, hm, hr, by omega, by omega, rfl, fun i hi hi' => hE i hi' hi⟩, ?_, ?_⟩
  · rw [List.nodup_cons]
    exact ⟨fun hmem => by have := (hrng _ hmem).1; omega, hnd⟩
  · intro b hb
    rw [List.mem_cons] at hb
    rcases hb with rfl | hb
    · exact ⟨Nat.le_refl _, rrm_lt h⟩
    · exact ⟨Nat.le_of_lt (hrng b hb).1, (hrng b hb).2⟩

end Go.Proofs.YtibbdhmbgnjmoaaGreat

/-
  Terms that are left to be compared, as a list, and the types that are; what lies in memory of them: no walk.
-/
namespace Go.Proofs.YtibbdhmbgnjmoaaGreat
open Go.RowKit
set_option linter.unusedVariables false
set_option linter.unusedSimpArgs false

theorem own_keep {wr w1 : World} {ty : TypeId} {k : Nat} {v : Value} {n : Nat} {xs : List Value} (h : wr.ownsRow 0 ty k v n xs) (hb : ∀ g, v.ownBlock = some g → w1.heap[g]? = wr.heap[g]?) : w1.ownsRow 0 ty k v n xs := by
  refine ⟨h.1, ?_⟩
  rcases h.2 with hn | ⟨g, cap, cur, rfl, hg, hh, r⟩
  · exact Or.inl hn
  · exact Or.inr ⟨g, cap, cur, rfl, hg, (hb g rfl).trans hh, r⟩

theorem own_cells {wr : World} {ty : TypeId} {k : Nat} {v : Value} {n : Nat} {xs : List Value} (h : wr.ownsRow 0 ty k v n xs) {g : Nat} (hg : v.ownBlock = some g) : g < wr.heap.size ∧ ∃ cur fr, wr.heap[g]? = some (.cells cur ty fr) := by
  rcases h.2 with ⟨rfl, _⟩ | ⟨g', cap, cur, rfl, _, hh, _⟩
  · cases hg
  · have e : g' = g := by simpa [Value.ownBlock] using hg
    subst e
    exact ⟨(Array.getElem?_eq_some_iff.1 hh).1, cur, _, hh⟩

theorem OwM.deeper {w : World} {D : Nat} : ∀ {d d' : Nat} {ao : Option Addr} {len : Nat} {ts : List Tm} {bs : List Nat}, d ≤ d' → OwM w D d ao len ts bs → OwM w D d' ao len ts bs := by
  intro d
  induction d with
  | zero =>
    intro d' ao len ts bs _ h
    cases d' with
    | zero => exact h
    | succ d' => exact Or.inl h
  | succ d ih =>
    intro d' ao len ts bs hd h
    cases d' with
    | zero => omega
    | succ d' =>
      rcases h with h | ⟨g, cs, bss, e, hl, hm, hg, hc, hbl, hbs, hE⟩
      · exact Or.inl h
      · refine Or.inr ⟨g, cs, bss, e, hl, hm, hg, hc, hbl, hbs, fun i hi hi' => ?_⟩
        obtain ⟨a1, l1, c1, a2, l2, c2, a3, l3, c3, h9, hf⟩ := hE i hi hi'
        exact ⟨a1, l1, c1, a2, l2, c2, a3, l3, c3, h9, hf.map (fun _ _ _ _ _ hr => hr) (fun _ _ _ _ _ hr => ih (by omega) hr)⟩

theorem OwM.len {w : World} {D d : Nat} {ao : Option Addr} {len : Nat} {ts : List Tm} {bs : List Nat} (h : OwM w D d ao len ts bs) : len = ts.length ∧ len ≤ 9223372036854775807 := by
  cases d with
  | zero => obtain ⟨rfl, rfl, _⟩ := h; exact ⟨rfl, by omega⟩
  | succ d =>
    rcases h with ⟨rfl, rfl, _⟩ | ⟨g, cs, bss, e, hl, hm, _⟩
    · exact ⟨rfl, by omega⟩
    · exact ⟨hl, hm⟩

end Go.Proofs.YtibbdhmbgnjmoaaGreat

/-
  A copy of what need not be right, list by list: what has been copied, what is still to be, and what comes of it: no walk.
-/
namespace Go.Proofs.YtibbdhmbgnjmoaaGreat
open Go.RowKit
set_option linter.unusedVariables false
set_option linter.unusedSimpArgs false

/-- Kinds of rows: true those of terms, false those of types. How many cells an element has, of which type it is, and which of its cells are lists, of which kind. -/
def szK : Bool → Nat
  | true => 9
  | false => 3
def tyK : Bool → Nat
  | true => 34
  | false => 31
def slK : Bool → Nat → Option Bool
  | true, 6 => some false
  | true, 7 => some false
  | true, 8 => some true
  | false, 2 => some false
  | _, _ => none

theorem szK_pos (k : Bool) : 0 < szK k := by cases k <;> decide

/-- A list's cell that is still to be copied: where it lies, its kind, the old list, what this holds, and the blocks of that. -/
structure Cl where
  h : Nat
  o : Nat
  k : Bool
  a : Option Addr
  l : Nat
  c : Nat
  tm : List Tm
  tr : List Tr
  bs : List Nat

abbrev Cl.val (x : Cl) : Value := .slice x.a x.l x.c
def Cl.ok (X : World) (D d : Nat) (x : Cl) : Prop := match x.k with
  | true => OwM X D d x.a x.l x.tm x.bs
  | false => Ow X D x.a x.l x.tr x.bs

/-- A list's cell whose list is copied, and that still holds the old one. -/
structure Hd where
  h : Nat
  o : Nat
  k : Bool
  u : Value

/-- What comes of a list: E: the rows that were copied (block, length, kind), f: where to. -/
def TrV (f : Nat → Nat) (E : List (Nat × Nat × Bool)) (k : Bool) (u u' : Value) : Prop :=
  (∃ ao c, u = .slice ao 0 c ∧ u' = .slice none 0 0) ∨ ∃ g n c, u = .slice (some ⟨g, 0, none⟩) n c ∧ 0 < n ∧ (g, n, k) ∈ E ∧ u' = .slice (some ⟨f g, 0, none⟩) n n

/-- X: the world in which all lies as it was; wr: the world at hand. -/
structure Gc (X wr : World) (D d : Nat) (f : Nat → Nat) (E : List (Nat × Nat × Bool)) (pend : List Cl) (hand : List Hd) : Prop where
  row : ∀ g n k, (g, n, k) ∈ E → 0 < n ∧ n ≤ 9223372036854775807 ∧ (∃ cs, wr.heap[f g]? = some (.cells cs (tyK k) (0, 0)) ∧ n * szK k ≤ cs.size) ∧ ∀ o, o < n * szK k → slK k (o % szK k) = none → wr.cell? ⟨f g, o, none⟩ = X.cell? ⟨g, o, none⟩
  slot : ∀ g n k o k', (g, n, k) ∈ E → o < n * szK k → slK k (o % szK k) = some k' → (∃ x ∈ pend, x.h = f g ∧ x.o = o) ∨ (∃ z ∈ hand, z.h = f g ∧ z.o = o) ∨ ∃ u u', X.cell? ⟨g, o, none⟩ = some u ∧ wr.cell? ⟨f g, o, none⟩ = some u' ∧ TrV f E k' u u'
  pnd : ∀ x ∈ pend, x.ok X D d ∧ wr.cell? ⟨x.h, x.o, none⟩ = some x.val ∧ ∃ g n k, (g, n, k) ∈ E ∧ x.h = f g ∧ x.o < n * szK k ∧ slK k (x.o % szK k) = some x.k ∧ X.cell? ⟨g, x.o, none⟩ = some x.val
  hnd : ∀ z ∈ hand, ∃ g n k, (g, n, k) ∈ E ∧ z.h = f g ∧ z.o < n * szK k ∧ slK k (z.o % szK k) = some z.k ∧ X.cell? ⟨g, z.o, none⟩ = some z.u
  ndo : (pend.flatMap Cl.bs ++ E.map Prod.fst).Nodup
  lto : ∀ b ∈ pend.flatMap Cl.bs ++ E.map Prod.fst, b < X.heap.size
  ndn : ((E.map Prod.fst).map f).Nodup
  ltn : ∀ g n k, (g, n, k) ∈ E → f g < wr.heap.size
  nda : (pend.map (fun x => (x.h, x.o)) ++ hand.map fun z => (z.h, z.o)).Nodup

theorem Gc.perm {X wr : World} {D d : Nat} {f : Nat → Nat} {E : List (Nat × Nat × Bool)} {pend pend' : List Cl} {hand : List Hd} (h : Gc X wr D d f E pend hand) (hp : pend.Perm pend') : Gc X wr D d f E pend' hand := by
  refine ⟨h.row, fun g n k o k' h1 h2 h3 => ?_, fun x hx => h.pnd x (hp.mem_iff.2 hx), h.hnd, ?_, fun b hb => h.lto b ?_, h.ndn, h.ltn, ?_⟩
  · rcases h.slot g n k o k' h1 h2 h3 with ⟨x, hx, e⟩ | e
    · exact Or.inl ⟨x, hp.mem_iff.1 hx, e⟩
    · exact Or.inr e
  · exact (((hp.flatMap_right _).append_right _).nodup_iff).1 h.ndo
  · exact ((hp.flatMap_right _).append_right _).mem_iff.2 hb
  · exact (((hp.map _).append_right _).nodup_iff).1 h.nda

/-- Nothing of what was copied has changed. -/
theorem Gc.keep {X wr w1 : World} {D d : Nat} {f : Nat → Nat} {E : List (Nat × Nat × Bool)} {pend : List Cl} {hand : List Hd} (h : Gc X wr D d f E pend hand) (hs : wr.heap.size ≤ w1.heap.size) (hb : ∀ g n k, (g, n, k) ∈ E → w1.heap[f g]? = wr.heap[f g]?) : Gc X w1 D d f E pend hand := by
  have hc : ∀ g n k o, (g, n, k) ∈ E → w1.cell? ⟨f g, o, none⟩ = wr.cell? ⟨f g, o, none⟩ := fun g n k o hg => World.cell?_of_block (hb g n k hg)
  refine ⟨fun g n k hg => ?_, fun g n k o k' h1 h2 h3 => ?_, fun x hx => ?_, h.hnd, h.ndo, h.lto, h.ndn, fun g n k hg => Nat.lt_of_lt_of_le (h.ltn g n k hg) hs, h.nda⟩
  · obtain ⟨h1, h2, ⟨cs, h3, h4⟩, h5⟩ := h.row g n k hg
    exact ⟨h1, h2, ⟨cs, (hb g n k hg).trans h3, h4⟩, fun o ho hk => (hc g n k o hg).trans (h5 o ho hk)⟩
  · rcases h.slot g n k o k' h1 h2 h3 with e | e | ⟨u, u', e1, e2, e3⟩
    · exact Or.inl e
    · exact Or.inr (Or.inl e)
    · exact Or.inr (Or.inr ⟨u, u', e1, (hc g n k o h1).trans e2, e3⟩)
  · obtain ⟨h1, h2, g, n, k, h3, h4, h5⟩ := h.pnd x hx
    exact ⟨h1, by rw [h4] at h2 ⊢; exact (hc g n k _ h3).trans h2, g, n, k, h3, h4, h5⟩

theorem TrV.more {f f' : Nat → Nat} {E E' : List (Nat × Nat × Bool)} {k : Bool} {u u' : Value} (h : TrV f E k u u') (hE : ∀ e ∈ E, e ∈ E') (hf : ∀ g n k, (g, n, k) ∈ E → f' g = f g) : TrV f' E' k u u' := by
  rcases h with h | ⟨g, n, c, h1, h2, h3, h4⟩
  · exact Or.inl h
  · exact Or.inr ⟨g, n, c, h1, h2, hE _ h3, by rw [hf g n k h3]; exact h4⟩

/-- An empty list's cell is in hand at once. -/
theorem Gc.empty {X wr : World} {D d : Nat} {f : Nat → Nat} {E : List (Nat × Nat × Bool)} {x : Cl} {rest : List Cl} {hand : List Hd} (h : Gc X wr D d f E (x :: rest) hand) (hl : x.l = 0) : Gc X wr D d f E rest (⟨x.h, x.o, x.k, x.val⟩ :: hand) := by
  refine ⟨h.row, fun g n k o k' h1 h2 h3 => ?_, fun y hy => h.pnd y (List.mem_cons_of_mem _ hy), fun z hz => ?_, ?_, fun b hb => h.lto b ?_, h.ndn, h.ltn, ?_⟩
  · rcases h.slot g n k o k' h1 h2 h3 with ⟨y, hy, e⟩ | ⟨z, hz, e⟩ | e
    · rcases List.mem_cons.1 hy with rfl | hy
      · exact Or.inr (Or.inl ⟨_, List.mem_cons_self, e⟩)
      · exact Or.inl ⟨y, hy, e⟩
    · exact Or.inr (Or.inl ⟨z, List.mem_cons_of_mem _ hz, e⟩)
    · exact Or.inr (Or.inr e)
  · rcases List.mem_cons.1 hz with rfl | hz
    · exact (h.pnd x List.mem_cons_self).2.2
    · exact h.hnd z hz
  · have := h.ndo
    rw [List.flatMap_cons, List.append_assoc] at this
    exact (List.nodup_append.1 this).2.1
  · rw [List.flatMap_cons, List.append_assoc]
    exact List.mem_append_right _ hb
  · have := h.nda
    rw [List.map_cons, List.cons_append] at this
    rw [List.map_cons]
    exact (List.perm_middle.nodup_iff).2 this

/-- A list's row copied to block hb. -/
theorem Gc.copy {X wr w1 : World} {D d : Nat} {f : Nat → Nat} {E : List (Nat × Nat × Bool)} {x : Cl} {rest : List Cl} {hand : List Hd} (h : Gc X wr D d f E (x :: rest) hand) {g hb : Nat} {cs : Array Value} (hl : 0 < x.l) (hx : x.l ≤ 9223372036854775807) (hg : g ∈ x.bs)
    (hs : wr.heap.size ≤ hb) (hk : ∀ g n k, (g, n, k) ∈ E → w1.heap[f g]? = wr.heap[f g]?) (hh : w1.heap[hb]? = some (.cells cs (tyK x.k) (0, 0))) (hcs : cs.size = x.l * szK x.k) (hsame : ∀ o, o < x.l * szK x.k → cs[o]? = X.cell? ⟨g, o, none⟩)
    (ncs : List Cl) (h1 : ∀ c ∈ ncs, c.h = hb ∧ c.o < x.l * szK x.k ∧ slK x.k (c.o % szK x.k) = some c.k ∧ X.cell? ⟨g, c.o, none⟩ = some c.val ∧ c.ok X D d) (h2 : ∀ o k', o < x.l * szK x.k → slK x.k (o % szK x.k) = some k' → ∃ c ∈ ncs, c.o = o) (h3 : (ncs.flatMap Cl.bs ++ [g]).Perm x.bs) (h4 : (ncs.map Cl.o).Nodup) :
    Gc X w1 D d (fun y => if y = g then hb else f y) ((g, x.l, x.k) :: E) (ncs ++ rest) (⟨x.h, x.o, x.k, x.val⟩ :: hand) := by
  have hndo := h.ndo
  rw [List.flatMap_cons, List.append_assoc] at hndo
  have hdis : ∀ n k, (g, n, k) ∉ E := fun n k he => by
    exact (List.nodup_append.1 hndo).2.2 g hg g (List.mem_append_right _ (List.mem_map.2 ⟨_, he, rfl⟩)) rfl
  have hne : ∀ g' n k, (g', n, k) ∈ E → g' ≠ g := fun g' n k he e => hdis n k (e ▸ he)
  have hf : ∀ g' n k, (g', n, k) ∈ E → (if g' = g then hb else f g') = f g' := fun g' n k he => if_neg (hne g' n k he)
  have hlt : hb < w1.heap.size := (Array.getElem?_eq_some_iff.1 hh).1
  have hfb : ∀ g' n k, (g', n, k) ∈ E → f g' ≠ hb := fun g' n k he e => by have := h.ltn g' n k he; omega
  have hcell : ∀ o, o < x.l * szK x.k → w1.cell? ⟨hb, o, none⟩ = X.cell? ⟨g, o, none⟩ := fun o ho => (row_cell hh o).trans (hsame o ho)
  have hc : ∀ g' n k o, (g', n, k) ∈ E → w1.cell? ⟨f g', o, none⟩ = wr.cell? ⟨f g', o, none⟩ := fun g' n k o he => World.cell?_of_block (hk g' n k he)
  refine ⟨fun g' n k he => ?_, fun g' n k o k' he ho hsl => ?_, fun y hy => ?_, fun z hz => ?_, ?_, ?_, ?_, fun g' n k he => ?_, ?_⟩
  · rcases List.mem_cons.1 he with e | he
    · cases e
      rw [if_pos rfl]
      exact ⟨hl, hx, ⟨cs, hh, by omega⟩, fun o ho _ => hcell o ho⟩
    · rw [hf g' n k he]
      obtain ⟨q1, q2, ⟨cs', q3, q4⟩, q5⟩ := h.row g' n k he
      exact ⟨q1, q2, ⟨cs', (hk g' n k he).trans q3, q4⟩, fun o ho hn => (hc g' n k o he).trans (q5 o ho hn)⟩
  · rcases List.mem_cons.1 he with e | he
    · cases e
      rw [if_pos rfl]
      obtain ⟨c, hcm, hco⟩ := h2 o k' ho hsl
      exact Or.inl ⟨c, List.mem_append_left _ hcm, (h1 c hcm).1, hco⟩
    · rw [hf g' n k he]
      rcases h.slot g' n k o k' he ho hsl with ⟨y, hy, e⟩ | ⟨z, hz, e⟩ | ⟨u, u', e1, e2, e3⟩
      · rcases List.mem_cons.1 hy with rfl | hy
        · exact Or.inr (Or.inl ⟨_, List.mem_cons_self, e⟩)
        · exact Or.inl ⟨y, List.mem_append_right _ hy, e⟩
      · exact Or.inr (Or.inl ⟨z, List.mem_cons_of_mem _ hz, e⟩)
      · exact Or.inr (Or.inr ⟨u, u', e1, (hc g' n k o he).trans e2, e3.more (fun e he => List.mem_cons_of_mem _ he) hf⟩)
  · rcases List.mem_append.1 hy with hy | hy
    · obtain ⟨q1, q2, q3, q4, q5⟩ := h1 y hy
      exact ⟨q5, by rw [q1, hcell _ q2]; exact q4, g, x.l, x.k, List.mem_cons_self, by rw [if_pos rfl]; exact q1, q2, q3, q4⟩
    · obtain ⟨q1, q2, g', n, k, q3, q4, q5⟩ := h.pnd y (List.mem_cons_of_mem _ hy)
      exact ⟨q1, by rw [q4] at q2 ⊢; exact (hc g' n k _ q3).trans q2, g', n, k, List.mem_cons_of_mem _ q3, by rw [hf g' n k q3]; exact q4, q5⟩
  · rcases List.mem_cons.1 hz with rfl | hz
    · obtain ⟨_, _, g', n, k, q3, q4, q5⟩ := h.pnd x List.mem_cons_self
      exact ⟨g', n, k, List.mem_cons_of_mem _ q3, by rw [hf g' n k q3]; exact q4, q5⟩
    · obtain ⟨g', n, k, q3, q4, q5⟩ := h.hnd z hz
      exact ⟨g', n, k, List.mem_cons_of_mem _ q3, by rw [hf g' n k q3]; exact q4, q5⟩
  · have hp : ((ncs ++ rest).flatMap Cl.bs ++ ((g, x.l, x.k) :: E).map Prod.fst).Perm (x.bs ++ (rest.flatMap Cl.bs ++ E.map Prod.fst)) := by
      rw [List.flatMap_append, List.map_cons, List.append_assoc]
      refine List.Perm.trans ?_ (h3.append_right _)
      rw [List.append_assoc]
      refine List.Perm.append_left _ ?_
      exact List.perm_middle
    exact (hp.nodup_iff).2 hndo
  · intro b hb'
    have hp : ((ncs ++ rest).flatMap Cl.bs ++ ((g, x.l, x.k) :: E).map Prod.fst).Perm (x.bs ++ (rest.flatMap Cl.bs ++ E.map Prod.fst)) := by
      rw [List.flatMap_append, List.map_cons, List.append_assoc]
      refine List.Perm.trans ?_ (h3.append_right _)
      rw [List.append_assoc]
      refine List.Perm.append_left _ ?_
      exact List.perm_middle
    refine h.lto b ?_
    rw [List.flatMap_cons, List.append_assoc]
    exact hp.mem_iff.1 hb'
  · rw [List.map_cons, List.map_cons, List.nodup_cons]
    have e : (E.map Prod.fst).map (fun y => if y = g then hb else f y) = (E.map Prod.fst).map f := List.map_congr_left fun y hy => by
      obtain ⟨⟨g', n, k⟩, he, rfl⟩ := List.mem_map.1 hy
      exact hf g' n k he
    rw [e]
    refine ⟨fun hm => ?_, h.ndn⟩
    obtain ⟨y, hy, e⟩ := List.mem_map.1 hm
    obtain ⟨⟨g', n, k⟩, he, rfl⟩ := List.mem_map.1 hy
    simp only [if_true] at e
    exact hfb g' n k he e
  · rcases List.mem_cons.1 he with e | he
    · cases e
      rw [if_pos rfl]; exact hlt
    · rw [hf g' n k he]
      have := h.ltn g' n k he
      omega
  · have hnda := h.nda
    rw [List.map_cons, List.cons_append] at hnda
    rw [List.map_append, List.map_cons, List.append_assoc]
    have hrest : (rest.map (fun x => (x.h, x.o)) ++ (x.h, x.o) :: hand.map fun z => (z.h, z.o)).Nodup := (List.perm_middle.nodup_iff).2 hnda
    refine List.nodup_append.2 ⟨?_, hrest, ?_⟩
    · have : (ncs.map fun x => (x.h, x.o)) = (ncs.map Cl.o).map fun o => (hb, o) := by
        rw [List.map_map]
        exact List.map_congr_left fun c hcm => by simp [(h1 c hcm).1]
      rw [this]
      exact List.Pairwise.map _ (fun a b hab e => hab (by simpa using e)) h4
    · intro a ha b hb' e
      subst e
      obtain ⟨c, hcm, rfl⟩ := List.mem_map.1 ha
      have hch := (h1 c hcm).1
      have hold : ∀ y : Nat × Nat, y ∈ (rest.map (fun x => (x.h, x.o)) ++ (x.h, x.o) :: hand.map fun z => (z.h, z.o)) → y.1 < wr.heap.size := fun y hy => by
        rcases List.mem_append.1 hy with hy | hy
        · obtain ⟨q, hq, rfl⟩ := List.mem_map.1 hy
          obtain ⟨_, _, g', n, k, q3, q4, _⟩ := h.pnd q (List.mem_cons_of_mem _ hq)
          have := h.ltn g' n k q3
          simp only [q4]; exact this
        · rcases List.mem_cons.1 hy with rfl | hy
          · obtain ⟨_, _, g', n, k, q3, q4, _⟩ := h.pnd x List.mem_cons_self
            have := h.ltn g' n k q3
            simp only [q4]; exact this
          · obtain ⟨q, hq, rfl⟩ := List.mem_map.1 hy
            obtain ⟨g', n, k, q3, q4, _⟩ := h.hnd q hq
            have := h.ltn g' n k q3
            simp only [q4]; exact this
      have := hold _ hb'
      simp only at this
      omega

/-- Where a row lies tells which it is. -/
theorem Gc.inj {X wr : World} {D d : Nat} {f : Nat → Nat} {E : List (Nat × Nat × Bool)} {pend : List Cl} {hand : List Hd} (h : Gc X wr D d f E pend hand) {g n : Nat} {k : Bool} {g' n' : Nat} {k' : Bool} (h1 : (g, n, k) ∈ E) (h2 : (g', n', k') ∈ E) (e : f g = f g') : (g, n, k) = (g', n', k') := by
  have hnd := h.ndn
  rw [List.map_map] at hnd
  obtain ⟨i, hi, ei⟩ := List.getElem_of_mem h1
  obtain ⟨j, hj, ej⟩ := List.getElem_of_mem h2
  have := (List.getElem_inj (h₀ := by simpa using hi) (h₁ := by simpa using hj) hnd).1 (by simp [ei, ej, e])
  subst this
  rw [← ei, ← ej]

/-- The new list is laid into its cell. -/
theorem Gc.lay {X wr : World} {D d : Nat} {f : Nat → Nat} {E : List (Nat × Nat × Bool)} {pend : List Cl} {z : Hd} {hand : List Hd} (h : Gc X wr D d f E pend (z :: hand)) {u' : Value} (ht : TrV f E z.k z.u u') : Gc X (wr.setCell ⟨z.h, z.o, none⟩ u') D d f E pend hand := by
  obtain ⟨g0, n0, k0, q1, q2, q3, q4, q5⟩ := h.hnd z List.mem_cons_self
  have hnda := h.nda
  have hother : ∀ h' o', (h', o') ≠ (z.h, z.o) → (wr.setCell ⟨z.h, z.o, none⟩ u').cell? ⟨h', o', none⟩ = wr.cell? ⟨h', o', none⟩ := fun h' o' hne => by
    by_cases e : h' = z.h
    · subst e
      obtain ⟨_, _, ⟨cs, hc, hcz⟩, _⟩ := h.row g0 n0 k0 q1
      rw [← q2] at hc
      rw [row_cell (row_set hc _ _), row_cell hc, Array.getElem?_setIfInBounds, if_neg (fun e => hne (by rw [e]))]
    · exact World.cell?_of_block (row_other _ _ _ e)
  have hat : (wr.setCell ⟨z.h, z.o, none⟩ u').cell? ⟨z.h, z.o, none⟩ = some u' := by
    obtain ⟨_, _, ⟨cs, hc, hcz⟩, _⟩ := h.row g0 n0 k0 q1
    rw [← q2] at hc
    rw [row_cell (row_set hc _ _), Array.getElem?_setIfInBounds]
    simp; omega
  refine ⟨fun g n k hg => ?_, fun g n k o k' h1 h2 h3 => ?_, fun x hx => ?_, fun y hy => h.hnd y (List.mem_cons_of_mem _ hy), h.ndo, h.lto, h.ndn, fun g n k hg => by simpa using h.ltn g n k hg, ?_⟩
  · obtain ⟨r1, r2, ⟨cs, r3, r4⟩, r5⟩ := h.row g n k hg
    refine ⟨r1, r2, ?_, fun o ho hk => (hother _ _ fun e => ?_).trans (r5 o ho hk)⟩
    · by_cases e : f g = z.h
      · exact ⟨_, by rw [← e]; exact row_set r3 _ _, by simpa using r4⟩
      · exact ⟨cs, (row_other _ _ _ e).trans r3, r4⟩
    · have e1 : f g = z.h := congrArg Prod.fst e
      have e2 : o = z.o := congrArg Prod.snd e
      cases h.inj hg q1 (e1.trans q2)
      rw [e2, q4] at hk
      cases hk
  · by_cases e : (f g, o) = (z.h, z.o)
    · have e1 : f g = z.h := congrArg Prod.fst e
      have e2 : o = z.o := congrArg Prod.snd e
      cases h.inj h1 q1 (e1.trans q2)
      rw [e2, q4] at h3
      cases h3
      exact Or.inr (Or.inr ⟨z.u, u', by rw [e2]; exact q5, by rw [e1, e2]; exact hat, ht⟩)
    · rcases h.slot g n k o k' h1 h2 h3 with e' | ⟨y, hy, e'⟩ | ⟨u, u2, e1, e2, e3⟩
      · exact Or.inl e'
      · rcases List.mem_cons.1 hy with rfl | hy
        · exact absurd (by rw [e'.1, e'.2]) e
        · exact Or.inr (Or.inl ⟨y, hy, e'⟩)
      · exact Or.inr (Or.inr ⟨u, u2, e1, (hother _ _ e).trans e2, e3⟩)
  · obtain ⟨r1, r2, r3⟩ := h.pnd x hx
    refine ⟨r1, (hother _ _ fun e => ?_).trans r2, r3⟩
    exact (List.nodup_append.1 hnda).2.2 _ (List.mem_map.2 ⟨x, hx, rfl⟩) (z.h, z.o) (by simp) e
  · rw [List.map_cons] at hnda
    have := (List.perm_middle.nodup_iff).1 hnda
    exact (List.nodup_cons.1 this).2

end Go.Proofs.YtibbdhmbgnjmoaaGreat
