/-
  A term in memory of its own, and the places of its parts: what lies there when a part is written anew, and where the other parts are. No walk.
-/
import Derived.Test.YtcepgedbmffkdaaGreatFbtZ6
import Derived.Test.YtcepgedbmffkdaaGreatFbtZ3
namespace Go.Proofs.YtcepgedbmffkdaaGreat
open Go.RowKit
set_option linter.unusedVariables false
set_option linter.unusedSimpArgs false

def setP : Tm → List Nat → Tm → Tm
  | _, [], x => x
  | t, i :: p, x => if h : i < t.A.length then { t with A := t.A.set i (setP t.A[i] p x) } else t
/-- The part at a path. -/
def getP : Tm → List Nat → Option Tm
  | t, [] => some t
  | t, i :: p => if h : i < t.A.length then getP t.A[i] p else none

/-- Where a part's nine cells lie. -/
def AtP (w : World) : Nat → Nat → List Nat → Nat → Nat → Prop
  | b, o, [], b', o' => b' = b ∧ o' = o
  | b, o, i :: p, b', o' => ∃ g og l c, w.cell? ⟨b, o + 8, none⟩ = some (.slice (some ⟨g, og, none⟩) l c) ∧ AtP w g (og + i * 9) p b' o'

theorem OwM.deepP {w : World} {D : Nat} : ∀ {d d' : Nat} {ao : Option Addr} {len : Nat} {ts : List Tm} {bs : List Nat}, d ≤ d' → OwM w D d ao len ts bs → OwM w D d' ao len ts bs := by
  intro d
  induction d with
  | zero =>
    intro d' ao len ts bs _ h
    cases d' with
    | zero => exact h
    | succ d' => exact Or.inl h
  | succ d ih =>
    intro d' ao len ts bs hd h
    cases d' with
    | zero => omega
    | succ d' =>
      rcases h with h | ⟨g, cs, bss, e, hl, hm, hg, hc, hbl, hbs, hE⟩
      · exact Or.inl h
      · refine Or.inr ⟨g, cs, bss, e, hl, hm, hg, hc, hbl, hbs, fun i hi hi' => ?_⟩
        obtain ⟨a1, l1, c1, a2, l2, c2, a3, l3, c3, h9, hf⟩ := hE i hi hi'
        exact ⟨a1, l1, c1, a2, l2, c2, a3, l3, c3, h9, hf.map (fun _ _ _ _ _ hr => hr) (fun _ _ _ _ _ hr => ih (by omega) hr)⟩

/-- A term whose nine cells lie at ⟨b, o⟩, its lists in blocks of its own: bs. -/
def Own9 (w : World) (D d b o : Nat) (t : Tm) (bs : List Nat) : Prop :=
  ∃ a1 l1 c1 a2 l2 c2 a3 l3 c3, Nine w b o t.K t.N t.S t.Z t.T.K t.T.N (.slice a1 l1 c1) (.slice a2 l2 c2) (.slice a3 l3 c3) ∧ FldO w D (OwM w D d) t a1 l1 a2 l2 a3 l3 bs

theorem Own9.deeper {w : World} {D d d' b o : Nat} {t : Tm} {bs : List Nat} (h : Own9 w D d b o t bs) (hd : d ≤ d') : Own9 w D d' b o t bs := by
  obtain ⟨a1, l1, c1, a2, l2, c2, a3, l3, c3, h9, hf⟩ := h
  exact ⟨a1, l1, c1, a2, l2, c2, a3, l3, c3, h9, hf.map (fun _ _ _ _ _ hr => hr) (fun _ _ _ _ _ hr => hr.deepP hd)⟩
theorem Own9.keep {w w' : World} {D d b o : Nat} {t : Tm} {bs : List Nat} (h : Own9 w D d b o t bs) (hc : ∀ i, i < 9 → w'.cell? ⟨b, o + i, none⟩ = w.cell? ⟨b, o + i, none⟩) (hb : ∀ k ∈ bs, w'.heap[k]? = w.heap[k]?) : Own9 w' D d b o t bs := by
  obtain ⟨a1, l1, c1, a2, l2, c2, a3, l3, c3, h9, hf⟩ := h
  exact ⟨a1, l1, c1, a2, l2, c2, a3, l3, c3, h9.of_cells hc, FldO.keep hb hf⟩

/-- One part down: the row's block, and its parts. -/
theorem Own9.part {w : World} {D d b o : Nat} {t : Tm} {bs : List Nat} (h : Own9 w D d b o t bs) (hA : 0 < t.A.length) :
    ∃ (g l c : Nat) (cs : Array Value) (p12 : List Nat) (bss : List (List Nat)) (d1 : Nat), d = d1 + 1 ∧ w.cell? ⟨b, o + 8, none⟩ = some (.slice (some ⟨g, 0, none⟩) l c) ∧ w.heap[g]? = some (.cells cs 34 (0, 0)) ∧ t.A.length * 9 ≤ cs.size ∧ bss.length = t.A.length ∧ bs = p12 ++ g :: bss.flatten ∧
      (∀ i (_ : i < t.A.length) (_ : i < bss.length), Own9 w D d1 g (i * 9) t.A[i] bss[i]) ∧
      ∀ (w' : World) (d2 : Nat) (A' : List Tm) (bss' : List (List Nat)) (cs' : Array Value), A'.length = t.A.length → bss'.length = bss.length → (∀ k ∈ p12, w'.heap[k]? = w.heap[k]?) → (∀ i, i < 9 → w'.cell? ⟨b, o + i, none⟩ = w.cell? ⟨b, o + i, none⟩) → w'.heap[g]? = some (.cells cs' 34 (0, 0)) → cs'.size = cs.size →
        (∀ i (_ : i < A'.length) (_ : i < bss'.length), Own9 w' D d2 g (i * 9) A'[i] bss'[i]) → Own9 w' D (d2 + 1) b o { t with A := A' } (p12 ++ g :: bss'.flatten) := by
  obtain ⟨a1, l1, c1, a2, l2, c2, a3, l3, c3, h9, p1, p2, p3, rfl, h1, h2, h3, h4, h5⟩ := h
  cases d with
  | zero => obtain ⟨_, h6, _⟩ := h5; rw [h6] at hA; simp at hA
  | succ d1 =>
    rcases h5 with ⟨_, h6, _⟩ | ⟨g, cs, bss, rfl, hl, hm, hg, hc, hbl, rfl, hE⟩
    · rw [h6] at hA; simp at hA
    · refine ⟨g, l3, c3, cs, p1 ++ p2, bss, d1, rfl, h9.c8, hg, by omega, hbl, rfl, fun i hi hi' => ?_, ?_⟩
      · obtain ⟨y1, k1, j1, y2, k2, j2, y3, k3, j3, y9, yf⟩ := hE i hi hi'
        exact ⟨y1, k1, j1, y2, k2, j2, y3, k3, j3, y9, yf⟩
      · intro w' d2 A' bss' cs' e1 e2 hk hcell hg' hcs hE'
        refine ⟨a1, l1, c1, a2, l2, c2, _, l3, c3, h9.of_cells hcell, p1, p2, g :: bss'.flatten, rfl, h1, h2, h3.keep fun k hk' => hk k (by simp [hk']), h4.keep fun k hk' => hk k (by simp [hk']), ?_⟩
        exact Or.inr ⟨g, cs', bss', rfl, by simp only []; omega, hm, hg', by omega, by simp only []; omega, rfl, fun i hi hi' => hE' i hi hi'⟩

/-- Where a part lies: in the term's own cells, or in one of its blocks. -/
theorem atp_in {w : World} {D : Nat} : ∀ (p : List Nat) {d b o b' o' : Nat} {t : Tm} {bs : List Nat}, Own9 w D d b o t bs → (getP t p).isSome → AtP w b o p b' o' → (p = [] ∧ b' = b ∧ o' = o) ∨ (b' ∈ bs ∧ ∃ cs, w.heap[b']? = some (.cells cs 34 (0, 0)) ∧ o' + 8 < cs.size) := by
  intro p
  induction p with
  | nil => intro d b o b' o' t bs _ _ h; exact Or.inl ⟨rfl, h.1, h.2⟩
  | cons i p ih =>
    intro d b o b' o' t bs h hin hat
    refine Or.inr ?_
    unfold getP at hin
    split at hin
    · rename_i hi
      obtain ⟨g, l, c, cs, p12, bss, d1, rfl, hc8, hg, hcs, hbl, rfl, hE, _⟩ := h.part (by omega)
      obtain ⟨g', og, l', c', hc8', hat'⟩ := hat
      rw [hc8] at hc8'
      injection hc8' with e
      injection e with e1 e2 e3
      injection e1 with e1
      injection e1 with e4 e5
      subst e4
      subst e5
      rw [Nat.zero_add] at hat'
      rcases ih (hE i hi (by omega)) hin hat' with ⟨_, rfl, rfl⟩ | ⟨hm, hr⟩
      · exact ⟨by simp, cs, hg, by omega⟩
      · exact ⟨by simp only [List.mem_append, List.mem_cons]; exact Or.inr (Or.inr (mem_part (by omega) hm)), hr⟩
    · simp at hin

end Go.Proofs.YtcepgedbmffkdaaGreat

/-
  A part of a term of one's own is written anew: the whole is again one's own; the other parts are where they were. No walk.
-/
namespace Go.Proofs.YtcepgedbmffkdaaGreat
open Go.RowKit
set_option linter.unusedVariables false
set_option linter.unusedSimpArgs false

theorem nodup_setc {bss : List (List Nat)} {i : Nat} {l : List Nat} (hi : i < bss.length) (h : bss.flatten.Nodup) (hx : l.Nodup) (hl : ∀ k ∈ l, k ∈ bss[i] ∨ k ∉ bss.flatten) : (bss.set i l).flatten.Nodup := by
  have e1 : bss.flatten = (bss.take i).flatten ++ (bss[i] ++ (bss.drop (i + 1)).flatten) := by
    have h0 : bss = bss.take i ++ bss[i] :: bss.drop (i + 1) := by rw [← List.drop_eq_getElem_cons hi, List.take_append_drop]
    have h1 := congrArg List.flatten h0
    rw [List.flatten_append, List.flatten_cons] at h1
    exact h1
  have e2 : (bss.set i l).flatten = (bss.take i).flatten ++ (l ++ (bss.drop (i + 1)).flatten) := by
    rw [List.set_eq_take_append_cons_drop, if_pos hi]
    simp
  rw [e2]
  rw [e1] at h hl
  obtain ⟨n1, n2, d1⟩ := List.nodup_append.1 h
  obtain ⟨n3, n4, d2⟩ := List.nodup_append.1 n2
  refine List.nodup_append.2 ⟨n1, List.nodup_append.2 ⟨hx, n4, fun a ha b hb => ?_⟩, fun a ha b hb => ?_⟩
  · rcases hl a ha with h1 | h1
    · exact d2 a h1 b hb
    · intro e
      subst e
      exact h1 (by simp only [List.mem_append]; exact Or.inr (Or.inr hb))
  · rcases List.mem_append.1 hb with hb | hb
    · rcases hl b hb with h1 | h1
      · exact d1 a ha b (List.mem_append.2 (Or.inl h1))
      · intro e
        subst e
        exact h1 (List.mem_append.2 (Or.inl ha))
    · exact d1 a ha b (List.mem_append.2 (Or.inr hb))

theorem mem_setc {bss : List (List Nat)} {i : Nat} {l : List Nat} {k : Nat} (h : k ∈ (bss.set i l).flatten) : k ∈ bss.flatten ∨ k ∈ l := by
  obtain ⟨m, h1, h2⟩ := List.mem_flatten.1 h
  rcases List.mem_or_eq_of_mem_set h1 with h3 | rfl
  · exact Or.inl (List.mem_flatten.2 ⟨m, h3, h2⟩)
  · exact Or.inr h2

theorem part_apart {bss : List (List Nat)} (h : bss.flatten.Nodup) {i j : Nat} (hi : i < bss.length) (hj : j < bss.length) (hij : i ≠ j) {k : Nat} (h1 : k ∈ bss[i]) (h2 : k ∈ bss[j]) : False := by
  have hp := (List.pairwise_flatten.1 h).2
  rcases Nat.lt_or_gt_of_ne hij with hlt | hlt
  · exact (List.pairwise_iff_getElem.1 hp i j hi hj hlt) k h1 k h2 rfl
  · exact (List.pairwise_iff_getElem.1 hp j i hj hi hlt) k h2 k h1 rfl

set_option maxHeartbeats 1000000 in
theorem put_at {w : World} {D dx M : Nat} {x : Tm} {x1 x2 x3 : Option Addr} {n1 n2 n3 i1 i2 i3 : Nat} {bx : List Nat} (hx : FldO w D (OwM w D dx) x x1 n1 x2 n2 x3 n3 bx) (hxn : bx.Nodup) (hxM : ∀ k ∈ bx, M ≤ k) :
    ∀ (p : List Nat) {d b o b' o' : Nat} {t : Tm} {bs : List Nat}, Own9 w D d b o t bs → bs.Nodup → b ∉ bs → b < M → (∀ k ∈ bs, k < M) → (getP t p).isSome → AtP w b o p b' o' → (∃ cs ty fr, w.heap[b]? = some (.cells cs ty fr) ∧ o + 8 < cs.size) →
      ∃ bs', Own9 (set9 w b' o' (.int .i64 x.K) (.int .i64 x.N) (.string x.S) (.string x.Z) (.int .i64 x.T.K) (.int .i64 x.T.N) (.slice x1 n1 i1) (.slice x2 n2 i2) (.slice x3 n3 i3)) D (d + dx) b o (setP t p x) bs' ∧ bs'.Nodup ∧ (∀ k ∈ bs', k ∈ bs ∨ k ∈ bx) := by
  intro p
  induction p with
  | nil =>
    rintro d b o b' o' t bs h hnd hb hbM hM _ ⟨rfl, rfl⟩ ⟨cs, ty, fr, hrow, hsz⟩
    refine ⟨bx, ⟨x1, n1, i1, x2, n2, i2, x3, n3, i3, set9_cells hrow hsz, ?_⟩, hxn, fun k hk => Or.inr hk⟩
    exact (FldO.keep (fun k hk => set9_other k (by have := hxM k hk; omega)) hx).map (fun _ _ _ _ _ hr => hr) (fun _ _ _ _ _ hr => hr.deepP (by omega))
  | cons i p ih =>
    intro d b o b' o' t bs h hnd hb hbM hM hin hat hrow0
    unfold getP at hin
    split at hin
    · rename_i hi
      obtain ⟨g, l, c, cs, p12, bss, d1, rfl, hc8, hg, hcs, hbl, rfl, hE, hmk⟩ := h.part (by omega)
      obtain ⟨g', og, l', c', hc8', hat'⟩ := hat
      rw [hc8] at hc8'
      injection hc8' with e
      injection e with e1 e2 e3
      injection e1 with e1
      injection e1 with e4 e5
      subst e4
      subst e5
      rw [Nat.zero_add] at hat'
      have hib : i < bss.length := by omega
      obtain ⟨hn12, hng, hdis⟩ := List.nodup_append.1 hnd
      obtain ⟨hgf, hnf⟩ := List.nodup_cons.1 hng
      have hni : bss[i].Nodup := (List.pairwise_flatten.1 hnf).1 _ (List.getElem_mem hib)
      have hgi : g ∉ bss[i] := fun hh => hgf (mem_part hib hh)
      have hgM : g < M := hM g (by simp)
      obtain ⟨bi, ho, hnb, hsub⟩ := ih (hE i hi hib) hni hgi hgM (fun k hk => hM k (by simp only [List.mem_append, List.mem_cons]; exact Or.inr (Or.inr (mem_part hib hk)))) hin hat' ⟨cs, _, _, hg, by omega⟩
      have hwh := atp_in p (hE i hi hib) hin hat'
      have hoth : ∀ k, k ≠ b' → (set9 w b' o' (.int .i64 x.K) (.int .i64 x.N) (.string x.S) (.string x.Z) (.int .i64 x.T.K) (.int .i64 x.T.N) (.slice x1 n1 i1) (.slice x2 n2 i2) (.slice x3 n3 i3)).heap[k]? = w.heap[k]? := fun k hk => set9_other k hk
      have hb'in : b' = g ∨ b' ∈ bss[i] := by
        rcases hwh with ⟨_, h1, _⟩ | ⟨h1, _⟩
        · exact Or.inl h1
        · exact Or.inr h1
      have hb'b : b' ≠ b := by
        rintro rfl
        rcases hb'in with rfl | h1
        · exact hb (by simp)
        · exact hb (by simp only [List.mem_append, List.mem_cons]; exact Or.inr (Or.inr (mem_part hib h1)))
      have hb'12 : b' ∉ p12 := by
        intro hh
        rcases hb'in with rfl | h1
        · exact hdis _ hh _ (by simp) rfl
        · exact hdis _ hh _ (by simp only [List.mem_cons]; exact Or.inr (mem_part hib h1)) rfl
      have hgrow : ∃ cs', (set9 w b' o' (.int .i64 x.K) (.int .i64 x.N) (.string x.S) (.string x.Z) (.int .i64 x.T.K) (.int .i64 x.T.N) (.slice x1 n1 i1) (.slice x2 n2 i2) (.slice x3 n3 i3)).heap[g]? = some (.cells cs' 34 (0, 0)) ∧ cs'.size = cs.size := by
        by_cases e : b' = g
        · subst e; exact set9_row hg
        · exact ⟨cs, (hoth g (fun h => e h.symm)).trans hg, rfl⟩
      obtain ⟨cs', hg', hcs'⟩ := hgrow
      refine ⟨p12 ++ g :: (bss.set i bi).flatten, ?_, ?_, ?_⟩
      · have hs : setP t (i :: p) x = { t with A := t.A.set i (setP t.A[i] p x) } := by simp only [setP]; rw [dif_pos hi]
        rw [hs, show d1 + 1 + dx = d1 + dx + 1 by omega]
        refine hmk _ (d1 + dx) _ (bss.set i bi) cs' (by simp) (by simp) (fun k hk => hoth k (fun e => hb'12 (e ▸ hk))) (fun q hq => World.cell?_of_block (hoth b (fun e => hb'b e.symm))) hg' hcs' ?_
        intro j hj hj'
        have hj1 : j < t.A.length := by simpa using hj
        have hj2 : j < bss.length := by simpa using hj'
        by_cases hji : j = i
        · subst hji
          simp only [List.getElem_set_self]
          exact ho
        · simp only [List.getElem_set_ne (fun e => hji e.symm)]
          refine ((hE j hj1 hj2).keep (fun q hq => ?_) (fun k hk => hoth k ?_)).deeper (by omega)
          · rcases hwh with ⟨_, rfl, rfl⟩ | ⟨h1, _⟩
            · exact set9_far hg _ (by omega)
            · exact World.cell?_of_block (hoth g (fun e => hgi (e ▸ h1)))
          · rintro rfl
            rcases hb'in with rfl | h1
            · exact hgf (mem_part hj2 hk)
            · exact part_apart hnf hj2 hib hji hk h1
      · refine List.nodup_append.2 ⟨hn12, List.nodup_cons.2 ⟨fun hh => ?_, ?_⟩, ?_⟩
        · rcases mem_setc hh with h1 | h1
          · exact hgf h1
          · rcases hsub g h1 with h2 | h2
            · exact hgi h2
            · have := hxM g h2; omega
        · refine nodup_setc hib hnf hnb fun k hk => ?_
          rcases hsub k hk with h1 | h1
          · exact Or.inl h1
          · refine Or.inr fun hh => ?_
            have h2 := hxM k h1
            have h3 := hM k (by simp only [List.mem_append, List.mem_cons]; exact Or.inr (Or.inr hh))
            omega
        · intro a ha b2 hb2
          rcases List.mem_cons.1 hb2 with rfl | hb2
          · exact hdis a ha _ (by simp)
          · rcases mem_setc hb2 with h1 | h1
            · exact hdis a ha b2 (List.mem_cons_of_mem _ h1)
            · rcases hsub b2 h1 with h2 | h2
              · exact hdis a ha b2 (List.mem_cons_of_mem _ (mem_part hib h2))
              · have h3 := hxM b2 h2
                have h4 := hM a (List.mem_append_left _ ha)
                omega
      · intro k hk
        rcases List.mem_append.1 hk with hk | hk
        · exact Or.inl (List.mem_append_left _ hk)
        · rcases List.mem_cons.1 hk with rfl | hk
          · exact Or.inl (by simp)
          · rcases mem_setc hk with h1 | h1
            · exact Or.inl (List.mem_append_right _ (List.mem_cons_of_mem _ h1))
            · rcases hsub k h1 with h2 | h2
              · exact Or.inl (List.mem_append_right _ (List.mem_cons_of_mem _ (mem_part hib h2)))
              · exact Or.inr h2
    · simp at hin

end Go.Proofs.YtcepgedbmffkdaaGreat

/-
  The nodes of a part are fewer than the whole has.
-/
namespace Go.Proofs.YtcepgedbmffkdaaGreat
open Go.RowKit
set_option linter.unusedVariables false
set_option linter.unusedSimpArgs false

theorem nodesG_mono {f g : Tm → Option Nat} : ∀ (l : List Tm) (b : Nat), (∀ x ∈ l, ∀ a, f x = some a → g x = some a) → nodesG f l = some b → nodesG g l = some b
  | [], b, _, h => h
  | x :: l, b, hfg, h => by
    simp only [nodesG] at h ⊢
    cases h1 : f x with
    | none => simp [h1] at h
    | some a =>
      cases h2 : nodesG f l with
      | none => simp [h1, h2] at h
      | some c =>
        rw [hfg x (by simp) a h1, nodesG_mono l c (fun y hy => hfg y (by simp [hy])) h2]
        simpa [h1, h2] using h

theorem nodesM_more : ∀ (l : Nat) (t : Tm) (m : Nat), nodesM l t = some m → nodesM (l + 1) t = some m := by
  intro l
  induction l with
  | zero => intro t m h; simp [nodesM] at h
  | succ l ih =>
    intro t m h
    rw [nodesM] at h ⊢
    split at h
    · rename_i hn
      rw [if_pos hn]
      obtain ⟨b, hb, hm⟩ := Option.map_eq_some_iff.1 h
      rw [nodesG_mono t.A b (fun x _ a => ih x a) hb]
      simp [hm]
    · simp at h

theorem nodesG_get {f : Tm → Option Nat} : ∀ (l : List Tm) (b : Nat), nodesG f l = some b → ∀ i (h : i < l.length), ∃ a, f l[i] = some a ∧ a ≤ b
  | [], b, _, i, hi => by simp at hi
  | x :: l, b, h, i, hi => by
    simp only [nodesG] at h
    cases h1 : f x with
    | none => simp [h1] at h
    | some a =>
      cases h2 : nodesG f l with
      | none => simp [h1, h2] at h
      | some c =>
        simp [h1, h2] at h
        cases i with
        | zero => exact ⟨a, h1, by omega⟩
        | succ i =>
          obtain ⟨a', h3, h4⟩ := nodesG_get l c h2 i (by simpa using hi)
          exact ⟨a', by simpa using h3, by omega⟩

theorem nodesM_get {l : Nat} {t : Tm} {m : Nat} (h : nodesM (l + 1) t = some m) : nodeM t = true ∧ ∀ i (hi : i < t.A.length), ∃ a, nodesM l t.A[i] = some a ∧ a + 1 ≤ m := by
  rw [nodesM] at h
  split at h
  · rename_i hn
    obtain ⟨b, hb, hm⟩ := Option.map_eq_some_iff.1 h
    refine ⟨hn, fun i hi => ?_⟩
    obtain ⟨a, h1, h2⟩ := nodesG_get t.A b hb i hi
    exact ⟨a, h1, by omega⟩
  · simp at h

end Go.Proofs.YtcepgedbmffkdaaGreat
