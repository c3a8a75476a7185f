/-
  Terms as trees, and what it is that a slice in memory holds a list of them: no walk, no statement.
-/
import Derived.Test.YtgckmnchlkgakaaAluTr
import Derived.Test.YtgckmnchlkgakaaAluRd0
namespace Go.Proofs.Ytgckmnchlkgakaa
open Go.RowKit
set_option linter.unusedVariables false
set_option linter.unusedSimpArgs false

/-- A term as a tree. -/
structure Tm where
  K : Int
  N : Int
  S : ByteArray
  Z : ByteArray
  T : Tr
  Ts : List Tr
  A : List Tm

/-- What a term weighs, but for its parts. -/
def ownM (t : Tm) : Nat := t.S.size + t.Z.size + cntS t.T.A + cntS t.Ts

def cntM : Tm → Nat
  | ⟨_, _, s, z, t, ts, a⟩ => s.size + z.size + cntS t.A + cntS ts + a.length + (a.attach.map fun ⟨x, _⟩ => cntM x).sum

def cntMS (l : List Tm) : Nat := l.length + (l.map cntM).sum
def subMS (l : List Tm) : Nat := (l.map cntM).sum

theorem cntM_eq (t : Tm) : cntM t = ownM t + cntMS t.A := by
  cases t; rw [cntM]; simp [cntMS, ownM]; omega

theorem cntMS_eq (l : List Tm) : cntMS l = l.length + subMS l := rfl

theorem subMS_take (l : List Tm) (k : Nat) (h : k < l.length) : subMS (l.take (k + 1)) = subMS (l.take k) + cntM l[k] := by
  rw [List.take_succ_eq_append_getElem h]; simp only [subMS, List.map_append, List.sum_append, List.map_cons, List.map_nil, List.sum_cons, List.sum_nil]; omega

theorem subMS_take_le (l : List Tm) (k : Nat) : subMS (l.take k) ≤ subMS l := by
  have h := congrArg subMS (List.take_append_drop k l)
  simp only [subMS, List.map_append, List.sum_append] at *; omega

theorem cntMS_get (l : List Tm) (k : Nat) (h : k < l.length) : cntM l[k] < cntMS l := by
  have h1 := subMS_take l k h
  have h2 := subMS_take_le l (k + 1)
  have h3 := cntMS_eq l
  omega

/-- The nine cells of a term from cell o of block b on. -/
structure Nine (w : World) (b o : Nat) (k n : Int) (s z : ByteArray) (tk tn : Int) (v6 v7 v8 : Value) : Prop where
  c0 : w.cell? ⟨b, o, none⟩ = some (.int .i64 k)
  c1 : w.cell? ⟨b, o + 1, none⟩ = some (.int .i64 n)
  c2 : w.cell? ⟨b, o + 2, none⟩ = some (.string s)
  c3 : w.cell? ⟨b, o + 3, none⟩ = some (.string z)
  c4 : w.cell? ⟨b, o + 4, none⟩ = some (.int .i64 tk)
  c5 : w.cell? ⟨b, o + 5, none⟩ = some (.int .i64 tn)
  c6 : w.cell? ⟨b, o + 6, none⟩ = some v6
  c7 : w.cell? ⟨b, o + 7, none⟩ = some v7
  c8 : w.cell? ⟨b, o + 8, none⟩ = some v8

theorem Nine.of_cells {w w' : World} {b b' o o' : Nat} {k n : Int} {s z : ByteArray} {tk tn : Int} {v6 v7 v8 : Value} (h : Nine w b o k n s z tk tn v6 v7 v8) (hc : ∀ i, i < 9 → w'.cell? ⟨b', o' + i, none⟩ = w.cell? ⟨b, o + i, none⟩) : Nine w' b' o' k n s z tk tn v6 v7 v8 :=
  ⟨(hc 0 (by omega)).trans h.c0, (hc 1 (by omega)).trans h.c1, (hc 2 (by omega)).trans h.c2, (hc 3 (by omega)).trans h.c3, (hc 4 (by omega)).trans h.c4, (hc 5 (by omega)).trans h.c5, (hc 6 (by omega)).trans h.c6, (hc 7 (by omega)).trans h.c7, (hc 8 (by omega)).trans h.c8⟩

theorem Nine.world {w w' : World} {b o : Nat} {k n : Int} {s z : ByteArray} {tk tn : Int} {v6 v7 v8 : Value} (h : Nine w b o k n s z tk tn v6 v7 v8) (hb : w'.heap[b]? = w.heap[b]?) : Nine w' b o k n s z tk tn v6 v7 v8 :=
  h.of_cells fun _ _ => World.cell?_of_block hb

theorem Nine.below {w w' : World} {b o : Nat} {k n : Int} {s z : ByteArray} {tk tn : Int} {v6 v7 v8 : Value} (h : Nine w b o k n s z tk tn v6 v7 v8) (hb : Below w.heap.size w w') (hlt : b < w.heap.size) : Nine w' b o k n s z tk tn v6 v7 v8 :=
  h.world (hb.block b hlt)

theorem Nine.box {w : World} {b : Nat} {k n : Int} {s z : ByteArray} {tk tn : Int} {v6 v7 v8 : Value} {t : TypeId} {fr : Nat × Nat} (h : w.heap[b]? = some (.cells #[.int .i64 k, .int .i64 n, .string s, .string z, .int .i64 tk, .int .i64 tn, v6, v7, v8] t fr)) : Nine w b 0 k n s z tk tn v6 v7 v8 :=
  ⟨row_cell h 0, row_cell h 1, row_cell h 2, row_cell h 3, row_cell h 4, row_cell h 5, row_cell h 6, row_cell h 7, row_cell h 8⟩

/-- What a term's fields are, its parts told by 'rT' (types) and 'rM' (terms). -/
structure Fld (rT : Option Addr → Nat → List Tr → Prop) (rM : Option Addr → Nat → List Tm → Prop) (t : Tm) (a1 : Option Addr) (l1 : Nat) (a2 : Option Addr) (l2 : Nat) (a3 : Option Addr) (l3 : Nat) : Prop where
  s : t.S.size ≤ 9223372036854775807
  z : t.Z.size ≤ 9223372036854775807
  t1 : rT a1 l1 t.T.A
  t2 : rT a2 l2 t.Ts
  m : rM a3 l3 t.A

theorem Fld.wider {rT rT' : Option Addr → Nat → List Tr → Prop} {rM rM' : Option Addr → Nat → List Tm → Prop} {t : Tm} {a1 a2 a3 : Option Addr} {l1 l2 l3 : Nat} (h : Fld rT rM t a1 l1 a2 l2 a3 l3)
    (kT : ∀ ao len ts, rT ao len ts → rT' ao len ts) (kM : ∀ ao len ts, rM ao len ts → rM' ao len ts) : Fld rT' rM' t a1 l1 a2 l2 a3 l3 :=
  ⟨h.s, h.z, kT _ _ _ h.t1, kT _ _ _ h.t2, kM _ _ _ h.m⟩

def El9 (w : World) (rT : Option Addr → Nat → List Tr → Prop) (rM : Option Addr → Nat → List Tm → Prop) (b o : Nat) (t : Tm) : Prop :=
  ∃ a1 l1 c1 a2 l2 c2 a3 l3 c3, Nine w b o t.K t.N t.S t.Z t.T.K t.T.N (.slice a1 l1 c1) (.slice a2 l2 c2) (.slice a3 l3 c3) ∧ Fld rT rM t a1 l1 a2 l2 a3 l3

/-- A slice holds the list ts of terms, no deeper than d (their types than D), in blocks from L on and below B. -/
def Hm (L B : Nat) (w : World) (D : Nat) : Nat → Option Addr → Nat → List Tm → Prop
  | 0, _, len, ts => len = 0 ∧ ts = []
  | d + 1, ao, len, ts => len = ts.length ∧ len ≤ 9223372036854775807 ∧ ∀ i (_ : i < ts.length), ∃ b o, ao = some ⟨b, o, none⟩ ∧ L ≤ b ∧ b < B ∧ El9 w (Hs L B w D) (Hm L B w D d) b (o + i * 9) ts[i]

/-- The fields of a term that lies in blocks from L on and below B. -/
abbrev Fm (L B : Nat) (w : World) (D d : Nat) (t : Tm) (a1 : Option Addr) (l1 : Nat) (a2 : Option Addr) (l2 : Nat) (a3 : Option Addr) (l3 : Nat) : Prop := Fld (Hs L B w D) (Hm L B w D d) t a1 l1 a2 l2 a3 l3

theorem El9.wider {w : World} {rT rT' : Option Addr → Nat → List Tr → Prop} {rM rM' : Option Addr → Nat → List Tm → Prop} {b o : Nat} {t : Tm} (h : El9 w rT rM b o t)
    (kT : ∀ ao len ts, rT ao len ts → rT' ao len ts) (kM : ∀ ao len ts, rM ao len ts → rM' ao len ts) : El9 w rT' rM' b o t := by
  obtain ⟨a1, l1, c1, a2, l2, c2, a3, l3, c3, h9, hf⟩ := h
  exact ⟨a1, l1, c1, a2, l2, c2, a3, l3, c3, h9, hf.wider kT kM⟩

theorem El9.world {w w' : World} {rT : Option Addr → Nat → List Tr → Prop} {rM : Option Addr → Nat → List Tm → Prop} {b o : Nat} {t : Tm} (h : El9 w rT rM b o t) (hb : w'.heap[b]? = w.heap[b]?) : El9 w' rT rM b o t := by
  obtain ⟨a1, l1, c1, a2, l2, c2, a3, l3, c3, h9, hf⟩ := h
  exact ⟨a1, l1, c1, a2, l2, c2, a3, l3, c3, h9.world hb, hf⟩

theorem Hm.len {L B : Nat} {w : World} {D d : Nat} {ao : Option Addr} {len : Nat} {ts : List Tm} (h : Hm L B w D d ao len ts) : len = ts.length ∧ len ≤ 9223372036854775807 := by
  cases d with
  | zero => obtain ⟨rfl, rfl⟩ := h; exact ⟨rfl, by omega⟩
  | succ d => exact ⟨h.1, h.2.1⟩

theorem Hm.get {L B : Nat} {w : World} {D d : Nat} {ao : Option Addr} {len : Nat} {ts : List Tm} (h : Hm L B w D d ao len ts) (i : Nat) (hi : i < ts.length) : ∃ b o, ao = some ⟨b, o, none⟩ ∧ L ≤ b ∧ b < B ∧ El9 w (Hs L B w D) (Hm L B w D (d - 1)) b (o + i * 9) ts[i] := by
  cases d with
  | zero => obtain ⟨_, rfl⟩ := h; simp at hi
  | succ d => exact h.2.2 i hi

theorem Hm.keep {L B L' B' : Nat} {w w' : World} {D : Nat} (hb : ∀ k, L ≤ k → k < B → w'.heap[k]? = w.heap[k]?) (hL : L' ≤ L) (hB : B ≤ B') : ∀ {d : Nat} {ao : Option Addr} {len : Nat} {ts : List Tm}, Hm L B w D d ao len ts → Hm L' B' w' D d ao len ts := by
  intro d
  induction d with
  | zero => intro ao len ts h; exact h
  | succ d ih =>
    intro ao len ts h
    refine ⟨h.1, h.2.1, fun i hi => ?_⟩
    obtain ⟨b, o, e, h1, h2, h3⟩ := h.2.2 i hi
    exact ⟨b, o, e, by omega, by omega, (h3.world (hb b h1 h2)).wider (fun _ _ _ hr => hr.keep hb hL hB) (fun _ _ _ hr => ih hr)⟩

theorem Hm.below {L B : Nat} {w w' : World} {D : Nat} (hb : Below w.heap.size w w') (hB : B ≤ w.heap.size) {d : Nat} {ao : Option Addr} {len : Nat} {ts : List Tm} (h : Hm L B w D d ao len ts) : Hm L B w' D d ao len ts :=
  h.keep (fun k _ hk => hb.block k (by omega)) (Nat.le_refl _) (Nat.le_refl _)
theorem Hm.drew {L B : Nat} {w : World} {D d : Nat} {ao : Option Addr} {len : Nat} {ts : List Tm} (h : Hm L B w D d ao len ts) : Hm L B w.drew D d ao len ts := h.keep (w := w) (w' := w.drew) (fun _ _ _ => rfl) (Nat.le_refl _) (Nat.le_refl _)

theorem Fm.keep {L B L' B' : Nat} {w w' : World} {D d : Nat} (hb : ∀ k, L ≤ k → k < B → w'.heap[k]? = w.heap[k]?) (hL : L' ≤ L) (hB : B ≤ B') {t : Tm} {a1 a2 a3 : Option Addr} {l1 l2 l3 : Nat} (h : Fm L B w D d t a1 l1 a2 l2 a3 l3) : Fm L' B' w' D d t a1 l1 a2 l2 a3 l3 :=
  h.wider (fun _ _ _ hr => hr.keep hb hL hB) (fun _ _ _ hr => hr.keep hb hL hB)
theorem Fm.below {L B : Nat} {w w' : World} {D d : Nat} (hb : Below w.heap.size w w') (hB : B ≤ w.heap.size) {t : Tm} {a1 a2 a3 : Option Addr} {l1 l2 l3 : Nat} (h : Fm L B w D d t a1 l1 a2 l2 a3 l3) : Fm L B w' D d t a1 l1 a2 l2 a3 l3 :=
  Fm.keep (fun k _ hk => hb.block k (by omega)) (Nat.le_refl _) (Nat.le_refl _) h
theorem Fm.drew {L B : Nat} {w : World} {D d : Nat} {t : Tm} {a1 a2 a3 : Option Addr} {l1 l2 l3 : Nat} (h : Fm L B w D d t a1 l1 a2 l2 a3 l3) : Fm L B w.drew D d t a1 l1 a2 l2 a3 l3 :=
  Fm.keep (w := w) (w' := w.drew) (fun _ _ _ => rfl) (Nat.le_refl _) (Nat.le_refl _) h

theorem Hm.deeper {L B : Nat} {w : World} : ∀ {d d' D D' : Nat} {ao : Option Addr} {len : Nat} {ts : List Tm}, d ≤ d' → D ≤ D' → Hm L B w D d ao len ts → Hm L B w D' d' ao len ts := by
  intro d
  induction d with
  | zero =>
    intro d' D D' ao len ts _ _ h
    obtain ⟨rfl, rfl⟩ := h
    cases d' with
    | zero => exact ⟨rfl, rfl⟩
    | succ d' => exact ⟨rfl, by omega, fun i hi => by simp at hi⟩
  | succ d ih =>
    intro d' D D' ao len ts hd hD h
    cases d' with
    | zero => omega
    | succ d' =>
      refine ⟨h.1, h.2.1, fun i hi => ?_⟩
      obtain ⟨b, o, e, h1, h2, h3⟩ := h.2.2 i hi
      exact ⟨b, o, e, h1, h2, h3.wider (fun _ _ _ hr => hr.deeper hD) (fun _ _ _ hr => ih (by omega) hD hr)⟩

theorem Hm.nil (L B : Nat) (w : World) (D d : Nat) (ao : Option Addr) : Hm L B w D d ao 0 [] := by
  cases d with
  | zero => exact ⟨rfl, rfl⟩
  | succ d => exact ⟨rfl, by omega, fun i hi => by simp at hi⟩

/-! Nine stores into a row of cells. -/
def set9 (w : World) (g o : Nat) (a0 a1 a2 a3 a4 a5 a6 a7 a8 : Value) : World :=
  set3 (set3 (set3 w g o a0 a1 a2) g (o + 3) a3 a4 a5) g (o + 6) a6 a7 a8
theorem set9_other {w : World} {g o : Nat} {a0 a1 a2 a3 a4 a5 a6 a7 a8 : Value} (k : Nat) (hk : k ≠ g) : (set9 w g o a0 a1 a2 a3 a4 a5 a6 a7 a8).heap[k]? = w.heap[k]? := by
  unfold set9; rw [set3_other _ hk, set3_other _ hk, set3_other _ hk]
theorem set9_row {w : World} {g o : Nat} {a0 a1 a2 a3 a4 a5 a6 a7 a8 : Value} {cs : Array Value} {t : TypeId} {fr : Nat × Nat} (h : w.heap[g]? = some (.cells cs t fr)) : ∃ cs', (set9 w g o a0 a1 a2 a3 a4 a5 a6 a7 a8).heap[g]? = some (.cells cs' t fr) ∧ cs'.size = cs.size :=
  ⟨_, set3_row (set3_row (set3_row h)), by simp⟩
theorem set9_far {w : World} {g o : Nat} {a0 a1 a2 a3 a4 a5 a6 a7 a8 : Value} {cs : Array Value} {t : TypeId} {fr : Nat × Nat} (h : w.heap[g]? = some (.cells cs t fr)) (p : Nat) (hp : p < o ∨ o + 8 < p) : (set9 w g o a0 a1 a2 a3 a4 a5 a6 a7 a8).cell? ⟨g, p, none⟩ = w.cell? ⟨g, p, none⟩ := by
  unfold set9
  rw [set3_far (set3_row (set3_row h)) p (by omega), set3_far (set3_row h) p (by omega), set3_far h p (by omega)]
theorem set9_size (w : World) (g o : Nat) (a0 a1 a2 a3 a4 a5 a6 a7 a8 : Value) : (set9 w g o a0 a1 a2 a3 a4 a5 a6 a7 a8).heap.size = w.heap.size := by simp [set9, set3_size]
theorem set9_below {B : Nat} {x w : World} {g o : Nat} {a0 a1 a2 a3 a4 a5 a6 a7 a8 : Value} (h : Below B x w) (hg : B ≤ g) : Below B x (set9 w g o a0 a1 a2 a3 a4 a5 a6 a7 a8) :=
  set3_below (set3_below (set3_below h hg) hg) hg
theorem set9_cells {w : World} {g o : Nat} {k n : Int} {s z : ByteArray} {tk tn : Int} {v6 v7 v8 : Value} {cs : Array Value} {t : TypeId} {fr : Nat × Nat} (h : w.heap[g]? = some (.cells cs t fr)) (ho : o + 8 < cs.size) :
    Nine (set9 w g o (.int .i64 k) (.int .i64 n) (.string s) (.string z) (.int .i64 tk) (.int .i64 tn) v6 v7 v8) g o k n s z tk tn v6 v7 v8 := by
  have r1 := set3_row (o := o) (a := .int .i64 k) (b := .int .i64 n) (c := .string s) h
  have r2 := set3_row (o := o + 3) (a := .string z) (b := .int .i64 tk) (c := .int .i64 tn) r1
  obtain ⟨x0, x1, x2⟩ := set3_cells (a := .int .i64 k) (b := .int .i64 n) (c := .string s) h (show o + 2 < cs.size by omega)
  obtain ⟨x3, x4, x5⟩ := set3_cells (o := o + 3) (a := .string z) (b := .int .i64 tk) (c := .int .i64 tn) r1 (by simp; omega)
  obtain ⟨x6, x7, x8⟩ := set3_cells (o := o + 6) (a := v6) (b := v7) (c := v8) r2 (by simp; omega)
  unfold set9
  refine ⟨?_, ?_, ?_, ?_, ?_, ?_, x6, x7, x8⟩
  · rw [set3_far r2 _ (by omega), set3_far r1 _ (by omega)]; exact x0
  · rw [set3_far r2 _ (by omega), set3_far r1 _ (by omega)]; exact x1
  · rw [set3_far r2 _ (by omega), set3_far r1 _ (by omega)]; exact x2
  · rw [set3_far r2 _ (by omega)]; exact x3
  · rw [set3_far r2 _ (by omega)]; exact x4
  · rw [set3_far r2 _ (by omega)]; exact x5

end Go.Proofs.Ytgckmnchlkgakaa
