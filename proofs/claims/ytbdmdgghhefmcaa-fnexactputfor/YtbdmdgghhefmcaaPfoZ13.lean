/-
  A term put for a name, in plain words: the ways to the uses, one written after the other.
-/
import Derived.Test.YtbdmdgghhefmcaaPfoUs4
namespace Go.Proofs.Ytbdmdgghhefmcaa
open Go.RowKit
set_option linter.unusedVariables false
set_option linter.unusedSimpArgs false

/-- None of the names F is bound at a use. -/
def freeAt (F : List (List UInt8)) (q : Way9) : Bool := F.all fun n => !decide (n ∈ q.2)
def putOk (F : List (List UInt8)) (qs : List Way9) : Bool := qs.all (freeAt F)
def putF (t : Tm) (qs : List Way9) (x : Tm) : Tm := qs.foldl (fun t q => setP t q.1 x) t
theorem putF_snoc (t : Tm) (qs : List Way9) (q : Way9) (x : Tm) : putF t (qs ++ [q]) x = setP (putF t qs x) q.1 x := by simp [putF, List.foldl_append]

/-- Neither way goes by the other. -/
def Apart9 (q q' : Way9) : Prop := ¬ q.1 <+: q'.1 ∧ ¬ q'.1 <+: q.1
theorem Apart9.cons {q q' : Way9} (h : Apart9 q q') (i : Nat) (N N' : List (List UInt8)) : Apart9 (i :: q.1, N ++ q.2) (i :: q'.1, N' ++ q'.2) :=
  ⟨fun h1 => h.1 (List.cons_prefix_cons.1 h1).2, fun h1 => h.2 (List.cons_prefix_cons.1 h1).2⟩
theorem Apart9.heads {i j : Nat} (h : i ≠ j) (p p' : List Nat) (N N' : List (List UInt8)) : Apart9 (i :: p, N) (j :: p', N') :=
  ⟨fun h1 => h (List.cons_prefix_cons.1 h1).1, fun h1 => h (List.cons_prefix_cons.1 h1).1.symm⟩

theorem partP_mem {s : List UInt8} {l : Nat} {t : Tm} {i : Nat} {q : Way9} (h : q ∈ partP s l t i) : ∃ (hi : i < t.A.length) (q' : Way9), q' ∈ usesP s l t.A[i] ∧ q = (i :: q'.1, bindsW t.K (bs t.S) (bs t.Z) i ++ q'.2) := by
  by_cases hi : i < t.A.length
  · by_cases hm : s ∈ bindsW t.K (bs t.S) (bs t.Z) i
    · rw [partP_in hi hm] at h; simp at h
    · rw [partP_out hi hm] at h
      obtain ⟨q', h1, h2⟩ := List.mem_map.1 h
      exact ⟨hi, q', h1, h2.symm⟩
  · unfold partP at h
    rw [dif_neg hi] at h
    simp at h
theorem catU_mem {f : Nat → List Way9} : ∀ {n : Nat} {q : Way9}, q ∈ catU f n → ∃ i, i < n ∧ q ∈ f i := by
  intro n
  induction n with
  | zero => intro q h; simp [catU] at h
  | succ n ih =>
    intro q h
    rcases List.mem_append.1 (show q ∈ catU f n ++ f n from h) with h | h
    · obtain ⟨i, hi, hq⟩ := ih h
      exact ⟨i, by omega, hq⟩
    · exact ⟨n, by omega, h⟩

theorem usesP_apart (s : List UInt8) : ∀ (l : Nat) (t : Tm), (usesP s l t).Pairwise Apart9 := by
  intro l
  induction l with
  | zero => intro t; exact List.Pairwise.nil
  | succ l ih =>
    intro t
    by_cases hv : t.K = 3 ∧ bs t.S = s
    · rw [usesP_var hv]; exact List.pairwise_singleton _ _
    · rw [usesP_not hv]
      have hpart : ∀ i, (partP s l t i).Pairwise Apart9 := by
        intro i
        by_cases hi : i < t.A.length
        · by_cases hm : s ∈ bindsW t.K (bs t.S) (bs t.Z) i
          · rw [partP_in hi hm]; exact List.Pairwise.nil
          · rw [partP_out hi hm, List.pairwise_map]
            exact (ih t.A[i]).imp fun h => h.cons _ _ _
        · unfold partP; rw [dif_neg hi]; exact List.Pairwise.nil
      have key : ∀ n, (catU (partP s l t) n).Pairwise Apart9 := by
        intro n
        induction n with
        | zero => exact List.Pairwise.nil
        | succ n ih2 =>
          show (catU (partP s l t) n ++ partP s l t n).Pairwise Apart9
          refine List.pairwise_append.2 ⟨ih2, hpart n, fun q hq q' hq' => ?_⟩
          obtain ⟨i, hi, h1⟩ := catU_mem hq
          obtain ⟨_, a, _, rfl⟩ := partP_mem h1
          obtain ⟨_, a', _, rfl⟩ := partP_mem hq'
          exact Apart9.heads (by omega) _ _ _ _
      exact key _

/-- At the end of each way the name stands. -/
theorem usesP_get (s : List UInt8) : ∀ (l : Nat) (t : Tm) (q : Way9), q ∈ usesP s l t → (getP t q.1).isSome := by
  intro l
  induction l with
  | zero => intro t q h; simp [usesP] at h
  | succ l ih =>
    intro t q h
    by_cases hv : t.K = 3 ∧ bs t.S = s
    · rw [usesP_var hv] at h
      simp only [List.mem_cons, List.not_mem_nil, or_false] at h
      subst h
      rfl
    · rw [usesP_not hv] at h
      obtain ⟨i, hi, h1⟩ := catU_mem h
      obtain ⟨hi', q', h2, rfl⟩ := partP_mem h1
      simp only [getP]
      rw [dif_pos hi']
      exact ih _ _ h2

/-- What is put at ways that all begin with i changes the i-th part alone. -/
theorem putF_part (x : Tm) (i : Nat) (N : List (List UInt8)) : ∀ (qs : List Way9) (t : Tm) (hi : i < t.A.length), putF t (qs.map fun q => (i :: q.1, N ++ q.2)) x = { t with A := t.A.set i (putF t.A[i] qs x) } := by
  intro qs
  induction qs with
  | nil => intro t hi; cases t; simp [putF]
  | cons q qs ih =>
    intro t hi
    have hs : setP t (i :: q.1) x = { t with A := t.A.set i (setP t.A[i] q.1 x) } := by simp only [setP]; rw [dif_pos hi]
    have h1 : putF t ((q :: qs).map fun q => (i :: q.1, N ++ q.2)) x = putF (setP t (i :: q.1) x) (qs.map fun q => (i :: q.1, N ++ q.2)) x := by simp [putF]
    rw [h1, hs, ih _ (by simpa using hi)]
    simp [putF, List.set_set]

theorem putF_app (t : Tm) (a b : List Way9) (x : Tm) : putF t (a ++ b) x = putF (putF t a x) b x := by simp [putF, List.foldl_append]
theorem putOk_app (F : List (List UInt8)) (a b : List Way9) : putOk F (a ++ b) = (putOk F a && putOk F b) := by simp [putOk]
theorem putOk_part {F : List (List UInt8)} {i : Nat} {N : List (List UInt8)} {qs : List Way9} (hq : qs ≠ []) : putOk F (qs.map fun q => (i :: q.1, N ++ q.2)) = (freeAt F ([], N) && putOk F qs) := by
  unfold putOk
  rw [Bool.eq_iff_iff]
  simp only [List.all_eq_true, List.mem_map, Bool.and_eq_true, freeAt, Bool.not_eq_true', decide_eq_false_iff_not, forall_exists_index, and_imp, forall_apply_eq_imp_iff₂, List.mem_append, not_or]
  constructor
  · intro h
    obtain ⟨q, hq'⟩ := List.exists_mem_of_ne_nil _ hq
    exact ⟨fun n hn => (h q hq' n hn).1, fun q hq n hn => (h q hq n hn).2⟩
  · rintro ⟨h1, h2⟩ q hq n hn
    exact ⟨h1 n hn, h2 q hq n hn⟩

end Go.Proofs.Ytbdmdgghhefmcaa

/-
  What lies in memory while a term is put at one use after the other. No walk.
-/
namespace Go.Proofs.Ytbdmdgghhefmcaa
open Go.RowKit
set_option linter.unusedVariables false
set_option linter.unusedSimpArgs false

theorem AtP.below {w w' : World} (hb : Below w.heap.size w w') : ∀ {p : List Nat} {b o b' o' : Nat}, AtP w b o p b' o' → AtP w' b o p b' o' := by
  intro p
  induction p with
  | nil => intro b o b' o' h; exact ⟨h.1, h.2⟩
  | cons i p ih =>
    intro b o b' o' h
    obtain ⟨g, og, l, c, hc, h2⟩ := h
    have hlt : b < w.heap.size := by
      rcases Nat.lt_or_ge b w.heap.size with hlt | hge
      · exact hlt
      · exfalso
        have : w.heap[b]? = none := Array.getElem?_eq_none hge
        simp [World.cell?, this] at hc
    exact ⟨g, og, l, c, (bcell hb hlt _).trans hc, ih h2⟩

theorem OwM.deep2D {w : World} {D D' : Nat} (hD : D ≤ D') : ∀ {d : Nat} {ao : Option Addr} {len : Nat} {ts : List Tm} {bs : List Nat}, OwM w D d ao len ts bs → OwM w D' d ao len ts bs := by
  intro d
  induction d with
  | zero => intro ao len ts bs h; exact h
  | succ d ih =>
    intro ao len ts bs h
    rcases h with h | ⟨g, cs, bss, e, hl, hm, hg, hc, hbl, hbs, hE⟩
    · exact Or.inl h
    · refine Or.inr ⟨g, cs, bss, e, hl, hm, hg, hc, hbl, hbs, fun i hi hi' => ?_⟩
      obtain ⟨a1, l1, c1, a2, l2, c2, a3, l3, c3, h9, hf⟩ := hE i hi hi'
      exact ⟨a1, l1, c1, a2, l2, c2, a3, l3, c3, h9, hf.map (fun _ _ _ _ _ hr => hr.deeper hD) (fun _ _ _ _ _ hr => ih hr)⟩

theorem own_at {w : World} {D : Nat} : ∀ (p : List Nat) {d b o b' o' : Nat} {t : Tm} {bs : List Nat}, Own9 w D d b o t bs → (getP t p).isSome → AtP w b o p b' o' → ∃ y bs2 d2, Own9 w D d2 b' o' y bs2 := by
  intro p
  induction p with
  | nil => rintro d b o b' o' t bs h _ ⟨rfl, rfl⟩; exact ⟨t, bs, d, h⟩
  | cons i p ih =>
    intro d b o b' o' t bs h hin hat
    unfold getP at hin
    split at hin
    · rename_i hi
      obtain ⟨g, l, c, cs, p12, bss, d1, rfl, hc8, hg, hcs, hbl, rfl, hE, _⟩ := h.part (by omega)
      obtain ⟨g', og, l', c', hc8', hat'⟩ := hat
      rw [hc8] at hc8'
      injection hc8' with e
      injection e with e1 e2 e3
      injection e1 with e1
      injection e1 with e4 e5
      subst e4
      subst e5
      rw [Nat.zero_add] at hat'
      exact ih (hE i hi (by omega)) hin hat'
    · simp at hin

theorem usr_get {w : World} {M b o : Nat} {P : List (List UInt8)} : ∀ {us : List Use} {qs : List Way9}, UsR w M b o P us qs → ∀ j (h : j < us.length) (h' : j < qs.length), UseAt w M b o P us[j] qs[j]
  | [], [], _, j, h, _ => by simp at h
  | _ :: us, _ :: qs, hU, 0, _, _ => hU.1
  | _ :: us, _ :: qs, hU, j + 1, h, h' => by simpa using usr_get hU.2 j (by simpa using h) (by simpa using h')

/-- What has been put at the first k uses: w1 the world in which it began, M0: what is told apart from the term. -/
structure PfS (w1 wr : World) (D b M0 bx : Nat) (bs0 : List Nat) (t x : Tm) (us : List Use) (qs : List Way9) (k : Nat) : Prop where
  os : wr.os = w1.os
  tape : wr.tape = w1.tape
  output : wr.output = w1.output
  size : w1.heap.size ≤ wr.heap.size
  other : ∀ (g : Nat) (cs : Array Value) (ty : TypeId), w1.heap[g]? = some (.cells cs ty (0, 0)) → ty ≠ 35 → wr.heap[g]? = w1.heap[g]?
  low : ∀ g, g < M0 → wr.heap[g]? = w1.heap[g]?
  box : wr.heap[bx]? = w1.heap[bx]?
  row : ∃ cs : Array Value, wr.heap[b]? = some (.cells cs 35 (0, 0)) ∧ 8 < cs.size
  tree : ∃ bsT dT, Own9 wr D dT b 0 (putF t (qs.take k) x) bsT ∧ bsT.Nodup ∧ b ∉ bsT ∧ ∀ g ∈ bsT, (g ∈ bs0 ∨ w1.heap.size ≤ g) ∧ g < wr.heap.size
  rest : ∀ j (h : j < us.length) (h' : j < qs.length), k ≤ j → ∃ bk ok, us[j].1 = ⟨bk, ok, none⟩ ∧ AtP wr b 0 qs[j].1 bk ok ∧ (getP (putF t (qs.take k) x) qs[j].1).isSome

theorem PfS.below {w1 wr wr' : World} {D b M0 bx : Nat} {bs0 : List Nat} {t x : Tm} {us : List Use} {qs : List Way9} {k : Nat} (h : PfS w1 wr D b M0 bx bs0 t x us qs k) (hb : Below wr.heap.size wr wr') (hM : M0 ≤ w1.heap.size) (hbx : bx < w1.heap.size) : PfS w1 wr' D b M0 bx bs0 t x us qs k := by
  obtain ⟨bsT, dT, ho, hnd, hnb, hin⟩ := h.tree
  have hz := hb.size
  have hz1 := h.size
  obtain ⟨cs0, hrow, hrs⟩ := h.row
  have hbw := (Array.getElem?_eq_some_iff.1 hrow).1
  refine ⟨hb.os.trans h.os, hb.tape.trans h.tape, hb.output.trans h.output, by omega, fun g cs ty hg hty => ?_, fun g hg => (hb.block g (by omega)).trans (h.low g hg), (hb.block bx (by omega)).trans h.box, ⟨cs0, (hb.block b hbw).trans hrow, hrs⟩, ?_, ?_⟩
  · exact (hb.block g (Nat.lt_of_lt_of_le (Array.getElem?_eq_some_iff.1 hg).1 hz1)).trans (h.other g cs ty hg hty)
  · exact ⟨bsT, dT, ho.keep (fun i _ => bcell hb hbw _) (fun g hg => hb.block g (hin g hg).2), hnd, hnb, fun g hg => ⟨(hin g hg).1, by have := (hin g hg).2; omega⟩⟩
  · intro j hj hj' hkj
    obtain ⟨bk, ok, e, h1, h2⟩ := h.rest j hj hj' hkj
    exact ⟨bk, ok, e, h1.below hb, h2⟩

/-- The place of the use that comes next. -/
theorem pf_cells {w1 wr : World} {D b M0 bx : Nat} {bs0 : List Nat} {t x : Tm} {us : List Use} {qs : List Way9} {k : Nat} (h : PfS w1 wr D b M0 bx bs0 t x us qs k) (hk : k < qs.length) (hk' : k < us.length) :
    ∃ bk ok, us[k].1 = ⟨bk, ok, none⟩ ∧ bk < wr.heap.size ∧ (∃ cs : Array Value, wr.heap[bk]? = some (.cells cs 35 (0, 0))) ∧ ∃ (y : Tm) (v6 v7 v8 : Value), Nine wr bk ok y.K y.N y.S y.Z y.T.K y.T.N v6 v7 v8 := by
  obtain ⟨bsT, dT, ho, hnd, hnb, hin⟩ := h.tree
  obtain ⟨bk, ok, e, hat, hget⟩ := h.rest k hk' hk (Nat.le_refl _)
  obtain ⟨cs0, hrow, _⟩ := h.row
  obtain ⟨y, bs2, d2, a1, l1, c1, a2, l2, c2, a3, l3, c3, h9, _⟩ := own_at qs[k].1 ho hget hat
  have hr : ∃ cs : Array Value, wr.heap[bk]? = some (.cells cs 35 (0, 0)) := by
    rcases atp_in qs[k].1 ho hget hat with ⟨_, e1, _⟩ | ⟨_, cs, h1, _⟩
    · rw [e1]; exact ⟨cs0, hrow⟩
    · exact ⟨cs, h1⟩
  obtain ⟨cs, hcs⟩ := hr
  exact ⟨bk, ok, e, (Array.getElem?_eq_some_iff.1 hcs).1, ⟨cs, hcs⟩, y, _, _, _, h9⟩

theorem pf_next {w1 wr w5 : World} {D D0 dx b M0 bx : Nat} {bs0 : List Nat} {t x : Tm} {us : List Use} {qs : List Way9} {k : Nat} (h : PfS w1 wr D b M0 bx bs0 t x us qs k) (hk : k < qs.length) (hl : us.length = qs.length) (hqs : qs.Pairwise Apart9) (hb : Below wr.heap.size wr w5) {x1 x2 x3 : Option Addr} {n1 n2 n3 i1 i2 i3 : Nat} (hO : FmO wr.heap.size w5.heap.size w5 D0 dx x x1 n1 x2 n2 x3 n3) (hD : D0 ≤ D) (hM : M0 ≤ w1.heap.size) (hbM : M0 ≤ b) (hb1 : b < w1.heap.size) (hbs0 : ∀ g ∈ bs0, M0 ≤ g ∧ g < w1.heap.size ∧ g ≠ bx) (hbx : bx ≠ b) (hbx1 : bx < w1.heap.size) {bk ok : Nat} (hu : (us[k]'(by omega)).1 = ⟨bk, ok, none⟩) :
    ∀ W : World, W = set9 w5 bk ok (.int .i64 x.K) (.int .i64 x.N) (.string x.S) (.string x.Z) (.int .i64 x.T.K) (.int .i64 x.T.N) (.slice x1 n1 i1) (.slice x2 n2 i2) (.slice x3 n3 i3) → PfS w1 W D b M0 bx bs0 t x us qs (k + 1) := by
  intro W hW
  obtain ⟨bsT, dT, ho, hnd, hnb, hin⟩ := h.tree
  have hz := hb.size
  have hz1 := h.size
  obtain ⟨cs0, hrow, hrs⟩ := h.row
  obtain ⟨bk', ok', e, hat, hget⟩ := h.rest k (by omega) hk (Nat.le_refl _)
  rw [hu] at e
  injection e with e1 e2
  subst e1
  subst e2
  have hbw : b < wr.heap.size := by omega
  have ho5 : Own9 w5 D dT b 0 (putF t (qs.take k) x) bsT := ho.keep (fun i _ => bcell hb hbw _) (fun g hg => hb.block g (hin g hg).2)
  have hat5 := hat.below hb
  have hrow5 : w5.heap[b]? = some (.cells cs0 35 (0, 0)) := (hb.block b hbw).trans hrow
  obtain ⟨bn, hfO, hndn, hbn⟩ := hO
  have hfO' : FldO w5 D (OwM w5 D dx) x x1 n1 x2 n2 x3 n3 bn := hfO.map (fun _ _ _ _ _ hr => hr.deeper hD) (fun _ _ _ _ _ hr => OwM.deep2D hD hr)
  obtain ⟨bsN, hoN0, hndN, hsub⟩ := put_at (i1 := i1) (i2 := i2) (i3 := i3) (M := wr.heap.size) hfO' hndn (fun g hg => (hbn g hg).1) qs[k].1 ho5 hnd hnb hbw (fun g hg => (hin g hg).2) hget hat5 ⟨cs0, _, _, hrow5, by omega⟩
  have hoN : Own9 W D (dT + dx) b 0 (setP (putF t (qs.take k) x) qs[k].1 x) bsN := by rw [hW]; exact hoN0
  clear hoN0
  have hT : putF t (qs.take (k + 1)) x = setP (putF t (qs.take k) x) qs[k].1 x := by rw [List.take_succ_eq_append_getElem hk, putF_snoc]
  have hwh := atp_in qs[k].1 ho5 hget hat5
  obtain ⟨csk, hrk⟩ : ∃ cs, w5.heap[bk]? = some (.cells cs 35 (0, 0)) := by
    rcases hwh with ⟨_, e1, _⟩ | ⟨_, cs, hcs, _⟩
    · rw [e1]; exact ⟨cs0, hrow5⟩
    · exact ⟨cs, hcs⟩
  have hkin : bk = b ∨ bk ∈ bsT := by
    rcases hwh with ⟨_, e1, _⟩ | ⟨h1, _⟩
    · exact Or.inl e1
    · exact Or.inr h1
  have hkw : bk < wr.heap.size := by
    rcases hkin with rfl | h1
    · exact hbw
    · exact (hin _ h1).2
  have hkM : M0 ≤ bk ∧ bk ≠ bx := by
    rcases hkin with rfl | h1
    · exact ⟨hbM, fun e => hbx e.symm⟩
    · rcases (hin _ h1).1 with h2 | h2
      · exact ⟨(hbs0 _ h2).1, (hbs0 _ h2).2.2⟩
      · exact ⟨by omega, by omega⟩
  have hoth : ∀ g, g ≠ bk → W.heap[g]? = w5.heap[g]? := fun g hg => by rw [hW]; exact set9_other g hg
  have hfar : ∀ q, q < ok ∨ ok + 8 < q → W.cell? ⟨bk, q, none⟩ = w5.cell? ⟨bk, q, none⟩ := fun q hq => by rw [hW]; exact set9_far hrk q hq
  have hrowk : ∃ cs', W.heap[bk]? = some (.cells cs' 35 (0, 0)) ∧ cs'.size = csk.size := by rw [hW]; exact set9_row hrk
  have hZb : Below bk w5 W := by rw [hW]; exact set9_below (Below.refl _ _) (Nat.le_refl _)
  have hZs : W.heap.size = w5.heap.size := by rw [hW]; exact set9_size _ _ _ _ _ _ _ _ _ _ _ _
  clear hW
  refine ⟨hZb.os.trans (hb.os.trans h.os), hZb.tape.trans (hb.tape.trans h.tape), hZb.output.trans (hb.output.trans h.output), by rw [hZs]; omega, ?_, ?_, ?_, ?_, ?_, ?_⟩
  · intro g cs ty hg hty
    have h1 := h.other g cs ty hg hty
    have hgw : g < wr.heap.size := Nat.lt_of_lt_of_le (Array.getElem?_eq_some_iff.1 hg).1 hz1
    have h2 := (hb.block g hgw).trans h1
    refine (hoth g fun e => ?_).trans h2
    rw [e] at h2 hg
    rw [hrk, hg] at h2
    injection h2 with h2
    injection h2 with _ h3 _
    exact hty h3.symm
  · intro g hg
    exact (hoth g (by omega)).trans ((hb.block g (by omega)).trans (h.low g hg))
  · exact (hoth bx (fun e => hkM.2 e.symm)).trans ((hb.block bx (by omega)).trans h.box)
  · by_cases e : b = bk
    · obtain ⟨cs', h1, h2⟩ := hrowk
      have h3 := hrk
      rw [← e, hrow5] at h3
      injection h3 with h3
      injection h3 with h3 _ _
      rw [e]
      exact ⟨cs', h1, by rw [h2, ← h3]; exact hrs⟩
    · exact ⟨cs0, (hoth b e).trans hrow5, hrs⟩
  · refine ⟨bsN, dT + dx, by rw [hT]; exact hoN, hndN, fun hh => ?_, fun g hg => ?_⟩
    · rcases hsub b hh with h1 | h1
      · exact hnb h1
      · have := (hbn b h1).1; omega
    · rw [hZs]
      rcases hsub g hg with h1 | h1
      · exact ⟨(hin g h1).1, by have := (hin g h1).2; omega⟩
      · have := hbn g h1
        exact ⟨Or.inr (by omega), this.2⟩
  · intro j hj hj' hkj
    obtain ⟨bj, oj, e, hatj, hgetj⟩ := h.rest j hj hj' (by omega)
    have hap : Apart9 qs[k] qs[j] := List.pairwise_iff_getElem.1 hqs k j hk hj' (by omega)
    refine ⟨bj, oj, e, ?_, ?_⟩
    · exact put_keep (b' := bk) (o' := ok) hoth hfar qs[k].1 qs[j].1 ho5 hnd hnb hget hgetj hat5 (hatj.below hb) hap.1
    · rw [hT, get_set _ _ _ hap.1 hap.2]
      exact hgetj

theorem uss_at {base : Nat} {w : World} {v : Value} {us : List Use} (h : Uss base w v us) (j : Nat) (hj : j < us.length) : ∃ g cap cs, v = .slice (some ⟨g, 0, none⟩) us.length cap ∧ w.heap[g]? = some (.cells cs 70 (0, 0)) ∧ w.cell? ⟨g, j * 2, none⟩ = some (.pointer (some us[j].1)) ∧ w.cell? ⟨g, j * 2 + 1, none⟩ = some (.slice us[j].2.1 us[j].2.2.1 us[j].2.2.2) := by
  rcases h.2 with ⟨rfl, hz⟩ | ⟨g, cap, cur, rfl, hg, hh, k1, k2, k3, k4⟩
  · omega
  have hfl := flat_len us
  have key : ∀ q, q < us.length * 2 → cur[q]? = (us.flatMap useV)[q]? := fun q hq => by
    rw [← k4, List.getElem?_take, if_pos hq, Array.getElem?_toList]
  have hget : ∀ (us : List Use) (j : Nat) (hj : j < us.length), (us.flatMap useV)[j * 2]? = some (.pointer (some us[j].1)) ∧ (us.flatMap useV)[j * 2 + 1]? = some (.slice us[j].2.1 us[j].2.2.1 us[j].2.2.2) := by
    intro us
    induction us with
    | nil => intro j hj; simp at hj
    | cons u us ih =>
      intro j hj
      cases j with
      | zero => simp [useV]
      | succ j =>
        have h1 := ih j (by simpa using hj)
        have e1 : (j + 1) * 2 = j * 2 + 2 := by omega
        rw [e1]
        simp only [List.flatMap_cons, useV, List.cons_append, List.nil_append, List.getElem?_cons_succ, List.getElem_cons_succ]
        exact h1
  obtain ⟨h1, h2⟩ := hget us j hj
  refine ⟨g, cap, cur, rfl, hh, ?_, ?_⟩
  · rw [row_cell hh, key _ (by omega)]; exact h1
  · rw [row_cell hh, key _ (by omega)]; exact h2

end Go.Proofs.Ytbdmdgghhefmcaa
