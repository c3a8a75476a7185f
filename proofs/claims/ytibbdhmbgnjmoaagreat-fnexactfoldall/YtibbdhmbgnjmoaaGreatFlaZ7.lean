/-
  The state of 'ownTerm' in memory, and what each step makes of it: no walk. (Written by mkon3.py.)
-/
import Derived.Test.YtibbdhmbgnjmoaaGreatFlaZ6
import Derived.Test.YtibbdhmbgnjmoaaGreatFlaZ1
import Derived.Test.YtibbdhmbgnjmoaaGreatFlaZ3
import Derived.LaidEqlPtr
import Derived.Laws.StructEq
import Derived.MapKept
namespace Go.Proofs.YtibbdhmbgnjmoaaGreat
open Go.RowKit
set_option linter.unusedVariables false
set_option linter.unusedSimpArgs false

def Cl.ew (x : Cl) : Nat := match x.k with
  | true => 2 * cntMS x.tm
  | false => 1 + cntS x.tr

abbrev nineZ : Array Value := #[.int .i64 0, .int .i64 0, .string ⟨#[]⟩, .string ⟨#[]⟩, .int .i64 0, .int .i64 0, .slice none 0 0, .slice none 0 0, .slice none 0 0]

/-- X: the world in which all lies as it was; pt: the terms that are left, py: the types; ex: lists at hand that are still to be copied, hand: cells that are still to be written. -/
structure On (w X wr : World) (D d : Nat) (oM mM : Nat) (vM : Value) (oY mY : Nat) (vY : Value) (f : Nat → Nat) (E : List (Nat × Nat × Bool)) (pt : List TP) (py ex : List Cl) (hand : List Hd) : Prop where
  gc : Gc X wr D d f E (ex ++ (pt.flatMap TP.cells ++ py)) hand
  olM : ∃ cs, OlM (w.heap.size + 2) wr oM mM vM (pt.map TP.ad) cs ∧ ∀ c ∈ cs, c ∈ E.map Prod.fst
  olY : ∃ cs, OlY (w.heap.size + 2) wr oY mY vY (py.map Cl.ad) cs ∧ ∀ c ∈ cs, c ∈ E.map Prod.fst
  mm : mM ≠ mY
  bel : Below w.heap.size w wr
  bx : Below w.heap.size w X
  xs : X.heap.size = w.heap.size + 1
  low : ∀ g n k, (g, n, k) ∈ E → f g = w.heap.size ∨ w.heap.size + 2 ≤ f g
  eb : (w.heap.size, 1, true) ∈ E ∧ f w.heap.size = w.heap.size
  res : wr.heap[w.heap.size + 1]? = some (.cells nineZ 34 (0, 0))
  pyk : ∀ c ∈ py, c.k = false ∧ 2 ≤ c.o
  wt : (pt.map TP.wt).sum + (py.map Cl.wt).sum + (ex.map Cl.ew).sum ≤ 2097154

theorem len_cntS : ∀ l : List Tr, l.length ≤ cntS l
  | [] => by simp
  | t :: l => by
    have := len_cntS l
    have h : cntS (t :: l) = cnt t + cntS l := by simp [cntS]
    rw [h, cnt_eq]
    simp
    omega
theorem wt_lenT : ∀ l : List TP, l.length ≤ (l.map TP.wt).sum
  | [] => by simp
  | x :: l => by
    have := wt_lenT l
    simp only [List.map_cons, List.sum_cons, List.length_cons, TP.wt]
    omega
theorem wt_lenC : ∀ l : List Cl, l.length ≤ (l.map Cl.wt).sum
  | [] => by simp
  | x :: l => by
    have := wt_lenC l
    simp only [List.map_cons, List.sum_cons, List.length_cons, Cl.wt]
    omega

theorem olM_ne {base : Nat} {wr : World} {op mp : Nat} {v : Value} {ps : List (Nat × Nat)} {cs : List Nat} (h : OlM base wr op mp v ps cs) {b : Nat} {c0 : Array Value} {ty : TypeId} {fr : Nat × Nat} (hb : wr.heap[b]? = some (.cells c0 ty fr)) (h1 : ty ≠ 70) (h2 : ty ≠ 67) : b ≠ op ∧ b ≠ mp ∧ v.ownBlock ≠ some b := by
  obtain ⟨es, clock, hm, _⟩ := h.map
  obtain ⟨z, hz⟩ := h.box
  refine ⟨fun e => ?_, fun e => ?_, fun e => ?_⟩
  · subst e; rw [hz] at hb; cases hb; exact h1 rfl
  · subst e; rw [hm] at hb; cases hb
  · obtain ⟨_, cur, fr', e1⟩ := own_cells h.row e
    rw [hb] at e1; cases e1; exact h2 rfl

theorem olM_nem {base : Nat} {wr : World} {op mp : Nat} {v : Value} {ps : List (Nat × Nat)} {cs : List Nat} (h : OlM base wr op mp v ps cs) {b : Nat} {es : Array MapEntry} {clock : Nat} (hb : wr.heap[b]? = some (.map es clock)) : b ≠ op ∧ v.ownBlock ≠ some b := by
  obtain ⟨z, hz⟩ := h.box
  refine ⟨fun e => ?_, fun e => ?_⟩
  · subst e; rw [hz] at hb; cases hb
  · obtain ⟨_, cur, fr', e1⟩ := own_cells h.row e
    rw [hb] at e1; cases e1

theorem olY_ne {base : Nat} {wr : World} {op mp : Nat} {v : Value} {ps : List (Nat × Nat)} {cs : List Nat} (h : OlY base wr op mp v ps cs) {b : Nat} {c0 : Array Value} {ty : TypeId} {fr : Nat × Nat} (hb : wr.heap[b]? = some (.cells c0 ty fr)) (h1 : ty ≠ 74) (h2 : ty ≠ 77) : b ≠ op ∧ b ≠ mp ∧ v.ownBlock ≠ some b := by
  obtain ⟨es, clock, hm, _⟩ := h.map
  obtain ⟨z, hz⟩ := h.box
  refine ⟨fun e => ?_, fun e => ?_, fun e => ?_⟩
  · subst e; rw [hz] at hb; cases hb; exact h1 rfl
  · subst e; rw [hm] at hb; cases hb
  · obtain ⟨_, cur, fr', e1⟩ := own_cells h.row e
    rw [hb] at e1; cases e1; exact h2 rfl

theorem olY_nem {base : Nat} {wr : World} {op mp : Nat} {v : Value} {ps : List (Nat × Nat)} {cs : List Nat} (h : OlY base wr op mp v ps cs) {b : Nat} {es : Array MapEntry} {clock : Nat} (hb : wr.heap[b]? = some (.map es clock)) : b ≠ op ∧ v.ownBlock ≠ some b := by
  obtain ⟨z, hz⟩ := h.box
  refine ⟨fun e => ?_, fun e => ?_⟩
  · subst e; rw [hz] at hb; cases hb
  · obtain ⟨_, cur, fr', e1⟩ := own_cells h.row e
    rw [hb] at e1; cases e1

/-- What stays where only the lists of terms are worked on. -/
theorem On.chgM {w X wr w1 : World} {D d : Nat} {oM mM : Nat} {vM : Value} {oY mY : Nat} {vY v' : Value} {f : Nat → Nat} {E : List (Nat × Nat × Bool)} {pt : List TP} {py ex : List Cl} {hand : List Hd} (h : On w X wr D d oM mM vM oY mY vY f E pt py ex hand) (hC : ChgM oM mM vM v' wr w1) :
    (∀ g n k, (g, n, k) ∈ E → w1.heap[f g]? = wr.heap[f g]?) ∧ (∃ cs, OlY (w.heap.size + 2) w1 oY mY vY (py.map Cl.ad) cs ∧ ∀ c ∈ cs, c ∈ E.map Prod.fst) ∧ Below w.heap.size w w1 ∧ w1.heap[w.heap.size + 1]? = some (.cells nineZ 34 (0, 0)) := by
  obtain ⟨cs, hO, hcs⟩ := h.olM
  obtain ⟨cq, hQ, hcq⟩ := h.olY
  have hop := hO.opl
  have hmp := hO.mpl
  have hin := olY_in hQ
  refine ⟨fun g n k hg => ?_, ⟨cq, olY_keep hQ hC.size fun b hb => ?_, hcq⟩, ⟨hC.os.trans h.bel.os, hC.tape.trans h.bel.tape, hC.output.trans h.bel.output, Nat.le_trans h.bel.size hC.size, fun b hb => ?_⟩, ?_⟩
  · obtain ⟨_, _, ⟨c0, hc, _⟩, _⟩ := h.gc.row g n k hg
    obtain ⟨n1, n2, n3⟩ := olM_ne hO hc (by cases k <;> decide) (by cases k <;> decide)
    exact hC.block _ (Array.getElem?_eq_some_iff.1 hc).1 n1 n2 n3
  · rcases hb with rfl | rfl | hb | hb
    · obtain ⟨z, hz⟩ := hQ.box
      obtain ⟨n1, n2, n3⟩ := olM_ne hO hz (by decide) (by decide)
      exact hC.block _ hin.1 n1 n2 n3
    · obtain ⟨es, cl, hm, _⟩ := hQ.map
      obtain ⟨n1, n3⟩ := olM_nem hO hm
      exact hC.block _ hin.2.1 n1 (fun e => h.mm (e.symm)) n3
    · obtain ⟨_, cur, fr, hc⟩ := own_cells hQ.row hb
      obtain ⟨n1, n2, n3⟩ := olM_ne hO hc (by decide) (by decide)
      exact hC.block _ (hin.2.2 b hb) n1 n2 n3
    · have := hQ.bs
      exact hC.block _ (by omega) (by omega) (by omega) fun e => by have := hO.blk b e; omega
  · have := h.bel.size
    exact (hC.block b (by omega) (by omega) (by omega) fun e => by have := hO.blk b e; omega).trans (h.bel.block b hb)
  · obtain ⟨n1, n2, n3⟩ := olM_ne hO h.res (by decide) (by decide)
    exact (hC.block _ (Array.getElem?_eq_some_iff.1 h.res).1 n1 n2 n3).trans h.res

/-- What stays where only the lists of types are worked on. -/
theorem On.chgY {w X wr w1 : World} {D d : Nat} {oM mM : Nat} {vM : Value} {oY mY : Nat} {vY v' : Value} {f : Nat → Nat} {E : List (Nat × Nat × Bool)} {pt : List TP} {py ex : List Cl} {hand : List Hd} (h : On w X wr D d oM mM vM oY mY vY f E pt py ex hand) (hC : ChgY oY mY vY v' wr w1) :
    (∀ g n k, (g, n, k) ∈ E → w1.heap[f g]? = wr.heap[f g]?) ∧ (∃ cs, OlM (w.heap.size + 2) w1 oM mM vM (pt.map TP.ad) cs ∧ ∀ c ∈ cs, c ∈ E.map Prod.fst) ∧ Below w.heap.size w w1 ∧ w1.heap[w.heap.size + 1]? = some (.cells nineZ 34 (0, 0)) := by
  obtain ⟨cs, hO, hcs⟩ := h.olY
  obtain ⟨cq, hQ, hcq⟩ := h.olM
  have hop := hO.opl
  have hmp := hO.mpl
  have hin := olM_in hQ
  refine ⟨fun g n k hg => ?_, ⟨cq, olM_keep hQ hC.size fun b hb => ?_, hcq⟩, ⟨hC.os.trans h.bel.os, hC.tape.trans h.bel.tape, hC.output.trans h.bel.output, Nat.le_trans h.bel.size hC.size, fun b hb => ?_⟩, ?_⟩
  · obtain ⟨_, _, ⟨c0, hc, _⟩, _⟩ := h.gc.row g n k hg
    obtain ⟨n1, n2, n3⟩ := olY_ne hO hc (by cases k <;> decide) (by cases k <;> decide)
    exact hC.block _ (Array.getElem?_eq_some_iff.1 hc).1 n1 n2 n3
  · rcases hb with rfl | rfl | hb | hb
    · obtain ⟨z, hz⟩ := hQ.box
      obtain ⟨n1, n2, n3⟩ := olY_ne hO hz (by decide) (by decide)
      exact hC.block _ hin.1 n1 n2 n3
    · obtain ⟨es, cl, hm, _⟩ := hQ.map
      obtain ⟨n1, n3⟩ := olY_nem hO hm
      exact hC.block _ hin.2.1 n1 (fun e => h.mm (e)) n3
    · obtain ⟨_, cur, fr, hc⟩ := own_cells hQ.row hb
      obtain ⟨n1, n2, n3⟩ := olY_ne hO hc (by decide) (by decide)
      exact hC.block _ (hin.2.2 b hb) n1 n2 n3
    · have := hQ.bs
      exact hC.block _ (by omega) (by omega) (by omega) fun e => by have := hO.blk b e; omega
  · have := h.bel.size
    exact (hC.block b (by omega) (by omega) (by omega) fun e => by have := hO.blk b e; omega).trans (h.bel.block b hb)
  · obtain ⟨n1, n2, n3⟩ := olY_ne hO h.res (by decide) (by decide)
    exact (hC.block _ (Array.getElem?_eq_some_iff.1 h.res).1 n1 n2 n3).trans h.res

end Go.Proofs.YtibbdhmbgnjmoaaGreat

/-
  What a call of 'own' makes of the state of 'ownTerm'. (Written by mkon3.py.)
-/
namespace Go.Proofs.YtibbdhmbgnjmoaaGreat
open Go.RowKit
set_option linter.unusedVariables false
set_option linter.unusedSimpArgs false

/-- A list of terms is copied. -/
theorem ownM_on {w X wr : World} {D d : Nat} {oM mM : Nat} {vM : Value} {oY mY : Nat} {vY : Value} {f : Nat → Nat} {E : List (Nat × Nat × Bool)} {pt : List TP} {py : List Cl} {x : Cl} {ex : List Cl} {hand : List Hd} (h : On w X wr D d oM mM vM oY mY vY f E pt py (x :: ex) hand) (hk : x.k = true) :
    Calls Tryz.prog 50 #[.pointer (some ⟨oM, 0, none⟩), x.val] wr fun e w' => ∃ u f' E' its v', e = .returned u ∧ On w X w' D d oM mM v' oY mY vY f' E' (pt ++ its) py ex (⟨x.h, x.o, x.k, x.val⟩ :: hand) ∧ TrV f' E' x.k x.val u ∧ (∀ e ∈ E, e ∈ E') ∧ (∀ g n k, (g, n, k) ∈ E → f' g = f g) ∧ (∀ g n k, (g, n, k) ∈ E → w'.heap[f g]? = wr.heap[f g]?) ∧ (its.map TP.wt).sum ≤ x.ew := by
  obtain ⟨cs, hO, hcs⟩ := h.olM
  have hwt := h.wt
  rw [List.map_cons, List.sum_cons] at hwt
  have hpx := h.gc.pnd x (by simp)
  by_cases hl : x.l = 0
  · have e : x.val = .slice x.a 0 x.c := by unfold Cl.val; rw [hl]
    rw [e]
    refine (ownM_none _ _ _ _).mono ?_
    rintro e1 w' ⟨rfl, rfl⟩
    refine ⟨_, f, E, [], vM, rfl, ⟨?_, by simpa using h.olM, by simpa using h.olY, h.mm, h.bel, h.bx, h.xs, h.low, h.eb, h.res, by simpa using h.pyk, by simp; omega⟩, ?_, fun e he => he, fun _ _ _ _ => rfl, fun _ _ _ _ => rfl, by unfold Cl.ew; rw [hk]; simp⟩
    · have := h.gc.empty (x := x) (rest := ex ++ (pt.flatMap TP.cells ++ py)) hl
      rw [e] at this
      simpa using this
    · exact Or.inl ⟨_, _, rfl, rfl⟩
  · obtain ⟨g, c0, _, ea, hgx, hgX, hn, h1, hmx, hlt, _⟩ := newM hk (by omega) hpx.1 0
    have hndo := h.gc.ndo
    have hgE : g ∉ E.map Prod.fst := fun hm => (List.nodup_append.1 hndo).2.2 g (List.mem_flatMap.2 ⟨x, by simp, hgx⟩) g hm rfl
    have hgw : g < w.heap.size := by
      have q1 := h.gc.lto g (List.mem_append_left _ (List.mem_flatMap.2 ⟨x, by simp, hgx⟩))
      have q2 : g ≠ w.heap.size := fun e => hgE (e ▸ List.mem_map.2 ⟨_, h.eb.1, rfl⟩)
      have q3 := h.xs
      omega
    have hgr : wr.heap[g]? = some (.cells c0 34 (0, 0)) := (h.bel.block g hgw).trans ((h.bx.block g hgw).symm.trans hgX)
    have hew : x.l ≤ x.ew := by
      unfold Cl.ew
      rw [hk]
      simp only
      have := cntMS_eq x.tm
      omega
    have hpl := wt_lenT pt
    have e : x.val = .slice (some ⟨g, 0, none⟩) x.l x.c := by unfold Cl.val; rw [ea]
    rw [e]
    refine (ownM_some hO g x.l x.c (by omega) (by rw [List.length_map]; omega) (by omega) (fun hm => hgE (hcs g hm)) (by omega) hgr hn h1).mono ?_
    rintro e1 w' ⟨hb, v', rfl, hO', hC, hbs, hbh, hbv⟩
    obtain ⟨g', c0', its, ea', hgx', hgX', hn', _, _, _, hN⟩ := newM hk (by omega) hpx.1 hb
    rw [ea] at ea'
    cases ea'
    rw [hgX] at hgX'
    cases hgX'
    obtain ⟨had, hits, hnew⟩ := hN
    obtain ⟨k1, k2, k3, k4⟩ := h.chgM hC
    have hbel := h.bel.size
    have hcopy := h.gc.copy (x := x) (rest := ex ++ (pt.flatMap TP.cells ++ py)) (g := g) (hb := hb) (w1 := w') (by omega) hmx hgx hbs k1 (by rw [hk]; exact hbh) (by rw [hk]; simp [szK]; omega) (fun o ho => by
      rw [hk] at ho
      simp only [szK] at ho
      rw [row_cell hgX, List.getElem?_toArray, List.getElem?_take, if_pos ho, Array.getElem?_toList]) (its.flatMap TP.cells) (by rw [hk]; exact hnew.h1) (by rw [hk]; exact hnew.h2) hnew.h3 hnew.h4
    have hne : ∀ g' n k, (g', n, k) ∈ E → (if g' = g then hb else f g') = f g' := fun g' n k he => if_neg fun (e' : g' = g) => hgE (e' ▸ List.mem_map.2 ⟨_, he, rfl⟩)
    have hwi : (its.map TP.wt).sum ≤ x.ew := by
      unfold Cl.ew
      rw [hk]
      simp only
      rw [wts, hits]; exact Nat.le_refl _
    refine ⟨_, fun y => if y = g then hb else f y, (g, x.l, x.k) :: E, its, v', rfl, ⟨?_, ⟨_, by rw [List.map_append, had]; exact hO', fun c hc => ?_⟩, ?_, h.mm, k3, h.bx, h.xs, fun g' n k he => ?_, ⟨List.mem_cons_of_mem _ h.eb.1, by rw [hne _ _ _ h.eb.1]; exact h.eb.2⟩, k4, h.pyk, ?_⟩, ?_, fun e he => List.mem_cons_of_mem _ he, hne, k1, hwi⟩
    · rw [e] at hcopy
      exact hcopy.perm ((List.perm_append_comm_assoc _ _ _).trans (List.Perm.append_left _ (by rw [List.flatMap_append, List.append_assoc]; exact List.perm_append_comm_assoc _ _ _)))
    · rcases List.mem_cons.1 hc with rfl | hc
      · simp
      · exact List.mem_cons_of_mem _ (hcs c hc)
    · obtain ⟨cq, hQ, hcq⟩ := k2
      exact ⟨cq, hQ, fun c hc => List.mem_cons_of_mem _ (hcq c hc)⟩
    · rcases List.mem_cons.1 he with e | he
      · cases e
        rw [if_pos rfl]
        have := olM_in hO
        have := hO.opl
        right; omega
      · rw [hne g' n k he]; exact h.low g' n k he
    · rw [List.map_append, List.sum_append]; omega
    · rw [hk]
      exact Or.inr ⟨g, x.l, x.c, rfl, by omega, by rw [← hk]; exact List.mem_cons_self, by simp⟩

/-- A list of types is copied. -/
theorem ownY_on {w X wr : World} {D d : Nat} {oM mM : Nat} {vM : Value} {oY mY : Nat} {vY : Value} {f : Nat → Nat} {E : List (Nat × Nat × Bool)} {pt : List TP} {py : List Cl} {x : Cl} {ex : List Cl} {hand : List Hd} (h : On w X wr D d oM mM vM oY mY vY f E pt py (x :: ex) hand) (hk : x.k = false) :
    Calls Tryz.prog 51 #[.pointer (some ⟨oY, 0, none⟩), x.val] wr fun e w' => ∃ u f' E' its v', e = .returned u ∧ On w X w' D d oM mM vM oY mY v' f' E' pt (py ++ its) ex (⟨x.h, x.o, x.k, x.val⟩ :: hand) ∧ TrV f' E' x.k x.val u ∧ (∀ e ∈ E, e ∈ E') ∧ (∀ g n k, (g, n, k) ∈ E → f' g = f g) ∧ (∀ g n k, (g, n, k) ∈ E → w'.heap[f g]? = wr.heap[f g]?) ∧ (its.map Cl.wt).sum + 1 ≤ x.ew := by
  obtain ⟨cs, hO, hcs⟩ := h.olY
  have hwt := h.wt
  rw [List.map_cons, List.sum_cons] at hwt
  have hpx := h.gc.pnd x (by simp)
  by_cases hl : x.l = 0
  · have e : x.val = .slice x.a 0 x.c := by unfold Cl.val; rw [hl]
    rw [e]
    refine (ownY_none _ _ _ _).mono ?_
    rintro e1 w' ⟨rfl, rfl⟩
    refine ⟨_, f, E, [], vY, rfl, ⟨?_, by simpa using h.olM, by simpa using h.olY, h.mm, h.bel, h.bx, h.xs, h.low, h.eb, h.res, by simpa using h.pyk, by simp; omega⟩, ?_, fun e he => he, fun _ _ _ _ => rfl, fun _ _ _ _ => rfl, by unfold Cl.ew; rw [hk]; simp⟩
    · have := h.gc.empty (x := x) (rest := ex ++ (pt.flatMap TP.cells ++ py)) hl
      rw [e] at this
      simpa using this
    · exact Or.inl ⟨_, _, rfl, rfl⟩
  · obtain ⟨g, c0, _, ea, hgx, hgX, hn, h1, hmx, hlt, _⟩ := newY hk (by omega) hpx.1 0
    have hndo := h.gc.ndo
    have hgE : g ∉ E.map Prod.fst := fun hm => (List.nodup_append.1 hndo).2.2 g (List.mem_flatMap.2 ⟨x, by simp, hgx⟩) g hm rfl
    have hgw : g < w.heap.size := by
      have q1 := h.gc.lto g (List.mem_append_left _ (List.mem_flatMap.2 ⟨x, by simp, hgx⟩))
      have q2 : g ≠ w.heap.size := fun e => hgE (e ▸ List.mem_map.2 ⟨_, h.eb.1, rfl⟩)
      have q3 := h.xs
      omega
    have hgr : wr.heap[g]? = some (.cells c0 31 (0, 0)) := (h.bel.block g hgw).trans ((h.bx.block g hgw).symm.trans hgX)
    have hew : x.l ≤ x.ew := by
      unfold Cl.ew
      rw [hk]
      simp only
      have := len_cntS x.tr
      omega
    have hpl := wt_lenC py
    have e : x.val = .slice (some ⟨g, 0, none⟩) x.l x.c := by unfold Cl.val; rw [ea]
    rw [e]
    refine (ownY_some hO g x.l x.c (by omega) (by rw [List.length_map]; omega) (by omega) (fun hm => hgE (hcs g hm)) (by omega) hgr hn h1).mono ?_
    rintro e1 w' ⟨hb, v', rfl, hO', hC, hbs, hbh, hbv⟩
    obtain ⟨g', c0', its, ea', hgx', hgX', hn', _, _, _, hN⟩ := newY hk (by omega) hpx.1 hb
    rw [ea] at ea'
    cases ea'
    rw [hgX] at hgX'
    cases hgX'
    obtain ⟨had, hits, hwts, hnew⟩ := hN
    obtain ⟨k1, k2, k3, k4⟩ := h.chgY hC
    have hbel := h.bel.size
    have hcopy := h.gc.copy (x := x) (rest := ex ++ (pt.flatMap TP.cells ++ py)) (g := g) (hb := hb) (w1 := w') (by omega) hmx hgx hbs k1 (by rw [hk]; exact hbh) (by rw [hk]; simp [szK]; omega) (fun o ho => by
      rw [hk] at ho
      simp only [szK] at ho
      rw [row_cell hgX, List.getElem?_toArray, List.getElem?_take, if_pos ho, Array.getElem?_toList]) its (by rw [hk]; exact hnew.h1) (by rw [hk]; exact hnew.h2) hnew.h3 hnew.h4
    have hne : ∀ g' n k, (g', n, k) ∈ E → (if g' = g then hb else f g') = f g' := fun g' n k he => if_neg fun (e' : g' = g) => hgE (e' ▸ List.mem_map.2 ⟨_, he, rfl⟩)
    have hwi : (its.map Cl.wt).sum + 1 ≤ x.ew := by
      unfold Cl.ew
      rw [hk]
      simp only
      rw [hwts]; omega
    refine ⟨_, fun y => if y = g then hb else f y, (g, x.l, x.k) :: E, its, v', rfl, ⟨?_, ?_, ⟨_, by rw [List.map_append, had]; exact hO', fun c hc => ?_⟩, h.mm, k3, h.bx, h.xs, fun g' n k he => ?_, ⟨List.mem_cons_of_mem _ h.eb.1, by rw [hne _ _ _ h.eb.1]; exact h.eb.2⟩, k4, fun c hc => ?_, ?_⟩, ?_, fun e he => List.mem_cons_of_mem _ he, hne, k1, hwi⟩
    · rw [e] at hcopy
      exact hcopy.perm ((List.perm_append_comm_assoc _ _ _).trans (List.Perm.append_left _ ((List.perm_append_comm_assoc _ _ _).trans (List.Perm.append_left _ List.perm_append_comm))))
    · obtain ⟨cq, hQ, hcq⟩ := k2
      exact ⟨cq, hQ, fun c hc => List.mem_cons_of_mem _ (hcq c hc)⟩
    · rcases List.mem_cons.1 hc with rfl | hc
      · simp
      · exact List.mem_cons_of_mem _ (hcs c hc)
    · rcases List.mem_cons.1 he with e | he
      · cases e
        rw [if_pos rfl]
        have := olY_in hO
        have := hO.opl
        right; omega
      · rw [hne g' n k he]; exact h.low g' n k he
    · rcases List.mem_append.1 hc with hc | hc
      · exact h.pyk c hc
      · exact hits c hc
    · rw [List.map_append, List.sum_append]; omega
    · rw [hk]
      exact Or.inr ⟨g, x.l, x.c, rfl, by omega, by rw [← hk]; exact List.mem_cons_self, by simp⟩

end Go.Proofs.YtibbdhmbgnjmoaaGreat

/-
  What the other steps of 'ownTerm' make of its state.
-/
namespace Go.Proofs.YtibbdhmbgnjmoaaGreat
open Go.RowKit
set_option linter.unusedVariables false
set_option linter.unusedSimpArgs false

/-- A world in which nothing that the state names has changed. -/
theorem On.below {w X wr w1 : World} {D d : Nat} {oM mM : Nat} {vM : Value} {oY mY : Nat} {vY : Value} {f : Nat → Nat} {E : List (Nat × Nat × Bool)} {pt : List TP} {py ex : List Cl} {hand : List Hd} (h : On w X wr D d oM mM vM oY mY vY f E pt py ex hand) (hb : Below wr.heap.size wr w1) : On w X w1 D d oM mM vM oY mY vY f E pt py ex hand := by
  obtain ⟨c1, h1, h1'⟩ := h.olM
  obtain ⟨c2, h2, h2'⟩ := h.olY
  exact ⟨h.gc.keep hb.size (fun g n k hg => hb.block _ (h.gc.ltn g n k hg)), ⟨c1, olM_below h1 hb, h1'⟩, ⟨c2, olY_below h2 hb, h2'⟩, h.mm, h.bel.trans (hb.mono h.bel.size), h.bx, h.xs, h.low, h.eb, (hb.block _ (Array.getElem?_eq_some_iff.1 h.res).1).trans h.res, h.pyk, h.wt⟩

theorem nextM_on {w X wr : World} {D d : Nat} {oM mM : Nat} {vM : Value} {oY mY : Nat} {vY : Value} {f : Nat → Nat} {E : List (Nat × Nat × Bool)} {init : List TP} {x : TP} {py : List Cl} {hand : List Hd} (h : On w X wr D d oM mM vM oY mY vY f E (init ++ [x]) py [] hand) :
    Calls Tryz.prog 49 #[.pointer (some ⟨oM, 0, none⟩)] wr fun e w' => e = .returned (.pointer (some ⟨x.h, x.o, none⟩)) ∧ ∃ v', On w X w' D d oM mM v' oY mY vY f E init py [x.cA, x.cTs, x.cT] hand := by
  obtain ⟨cs, hO, hcs⟩ := h.olM
  rw [List.map_append] at hO
  refine (nextM_any hO).mono ?_
  rintro e w' ⟨rfl, v', hO', hC⟩
  refine ⟨rfl, v', ?_⟩
  obtain ⟨k1, k2, k3, k4⟩ := h.chgM hC
  refine ⟨(h.gc.keep hC.size k1).perm ?_, ⟨cs, hO', hcs⟩, k2, h.mm, k3, h.bx, h.xs, h.low, h.eb, k4, h.pyk, ?_⟩
  · rw [List.nil_append, List.flatMap_append, List.append_assoc]
    refine (List.perm_append_comm_assoc _ _ _).trans (List.Perm.append_right _ ?_)
    simp only [List.flatMap_cons, List.flatMap_nil, List.append_nil, TP.cells]
    exact ((List.Perm.swap _ _ _).cons _).trans ((List.Perm.swap _ _ _).trans ((List.Perm.swap _ _ _).cons _))
  · have h0 := h.wt
    rw [List.map_append, List.sum_append] at h0
    have e1 := cntM_eq x.t
    simp only [List.map_cons, List.map_nil, List.sum_cons, List.sum_nil, TP.wt, Cl.ew, TP.cA, TP.cTs, TP.cT] at h0 ⊢
    unfold ownM at e1
    omega

theorem nextY_on {w X wr : World} {D d : Nat} {oM mM : Nat} {vM : Value} {oY mY : Nat} {vY : Value} {f : Nat → Nat} {E : List (Nat × Nat × Bool)} {pt : List TP} {init : List Cl} {y : Cl} {hand : List Hd} (h : On w X wr D d oM mM vM oY mY vY f E pt (init ++ [y]) [] hand) :
    Calls Tryz.prog 52 #[.pointer (some ⟨oY, 0, none⟩)] wr fun e w' => e = .returned (.pointer (some ⟨y.h, y.o - 2, none⟩)) ∧ ∃ v', On w X w' D d oM mM vM oY mY v' f E pt init [y] hand := by
  obtain ⟨cs, hO, hcs⟩ := h.olY
  rw [List.map_append] at hO
  refine (nextY_any hO).mono ?_
  rintro e w' ⟨rfl, v', hO', hC⟩
  refine ⟨rfl, v', ?_⟩
  obtain ⟨k1, k2, k3, k4⟩ := h.chgY hC
  have hyk := (h.pyk y (by simp)).1
  refine ⟨(h.gc.keep hC.size k1).perm ?_, k2, ⟨cs, hO', hcs⟩, h.mm, k3, h.bx, h.xs, h.low, h.eb, k4, fun c hc => h.pyk c (by simp [hc]), ?_⟩
  · rw [List.nil_append, ← List.append_assoc]
    exact List.perm_append_comm
  · have h0 := h.wt
    rw [List.map_append, List.sum_append] at h0
    simp only [List.map_cons, List.map_nil, List.sum_cons, List.sum_nil, Cl.wt, Cl.ew, hyk] at h0 ⊢
    omega

/-- A cell is written. -/
theorem On.lay {w X wr : World} {D d : Nat} {oM mM : Nat} {vM : Value} {oY mY : Nat} {vY : Value} {f : Nat → Nat} {E : List (Nat × Nat × Bool)} {pt : List TP} {py ex : List Cl} {z : Hd} {hand : List Hd} (h : On w X wr D d oM mM vM oY mY vY f E pt py ex (z :: hand)) {u' : Value} (ht : TrV f E z.k z.u u') :
    On w X (wr.setCell ⟨z.h, z.o, none⟩ u') D d oM mM vM oY mY vY f E pt py ex hand := by
  obtain ⟨c1, h1, h1'⟩ := h.olM
  obtain ⟨c2, h2, h2'⟩ := h.olY
  obtain ⟨g, n, k, q1, q2, _⟩ := h.gc.hnd z List.mem_cons_self
  obtain ⟨_, _, ⟨c0, hc, _⟩, _⟩ := h.gc.row g n k q1
  have hl := h.low g n k q1
  rw [← q2] at hc hl
  obtain ⟨a1, a2, a3⟩ := olM_ne h1 hc (by cases k <;> decide) (by cases k <;> decide)
  obtain ⟨b1, b2, b3⟩ := olY_ne h2 hc (by cases k <;> decide) (by cases k <;> decide)
  have hk : ∀ b, b ≠ z.h → (wr.setCell ⟨z.h, z.o, none⟩ u').heap[b]? = wr.heap[b]? := fun b hb => row_other _ _ _ hb
  have hold : ∀ b, b < w.heap.size + 2 → b ≠ z.h ∨ b = w.heap.size := fun b hb => by
    by_cases e : b = z.h
    · right; omega
    · exact Or.inl e
  refine ⟨h.gc.lay ht, ⟨c1, ?_, h1'⟩, ⟨c2, ?_, h2'⟩, h.mm, h.bel.setCell (p := ⟨z.h, z.o, none⟩) (by rcases hl with e | e <;> simp <;> omega) _, h.bx, h.xs, h.low, h.eb, (hk _ (by omega)).trans h.res, h.pyk, h.wt⟩
  · obtain ⟨es, clock, hm, hkk⟩ := h1.map
    obtain ⟨z0, hz⟩ := h1.box
    refine ⟨by simpa using h1.bs, h1.opl, h1.mpl, ⟨z0, (hk _ (fun e => a1 e.symm)).trans hz⟩, own_keep h1.row fun b hb => hk b (fun e => a3 (e ▸ hb)), h1.blk, ⟨es, clock, (hk _ (fun e => a2 e.symm)).trans hm, hkk⟩, fun c hcc => ?_⟩
    obtain ⟨r1, a, t, r2⟩ := h1.key c hcc
    refine ⟨r1, ?_⟩
    by_cases e : c = z.h
    · exact ⟨_, _, by rw [e]; exact row_set hc _ _⟩
    · exact ⟨a, t, (hk c e).trans r2⟩
  · obtain ⟨es, clock, hm, hkk⟩ := h2.map
    obtain ⟨z0, hz⟩ := h2.box
    refine ⟨by simpa using h2.bs, h2.opl, h2.mpl, ⟨z0, (hk _ (fun e => b1 e.symm)).trans hz⟩, own_keep h2.row fun b hb => hk b (fun e => b3 (e ▸ hb)), h2.blk, ⟨es, clock, (hk _ (fun e => b2 e.symm)).trans hm, hkk⟩, fun c hcc => ?_⟩
    obtain ⟨r1, a, t, r2⟩ := h2.key c hcc
    refine ⟨r1, ?_⟩
    by_cases e : c = z.h
    · exact ⟨_, _, by rw [e]; exact row_set hc _ _⟩
    · exact ⟨a, t, (hk c e).trans r2⟩

/-- One more type that is left: what 'append' gives. -/
theorem On.push {w X wr : World} {D d : Nat} {oM mM : Nat} {vM : Value} {oY mY : Nat} {vY : Value} {f : Nat → Nat} {E : List (Nat × Nat × Bool)} {pt : List TP} {py : List Cl} {x : Cl} {ex : List Cl} {hand : List Hd} (h : On w X wr D d oM mM vM oY mY vY f E pt py (x :: ex) hand) (hk : x.k = false) (ho : 2 ≤ x.o) :
    ∃ g cap w2, (Builtin.append_ #[72, 72] 72 #[vY, .slice (some ⟨wr.heap.size, 0, none⟩) 1 1]).run Tryz.prog (wr.alloc (.cells #[.pointer (some ⟨x.h, x.o - 2, none⟩)] 77)) = .ok (.slice (some ⟨g, 0, none⟩) (py.length + 1) cap) w2 ∧
      On w X (w2.setCell ⟨oY, 1, none⟩ (.slice (some ⟨g, 0, none⟩) (py.length + 1) cap)) D d oM mM vM oY mY (.slice (some ⟨g, 0, none⟩) (py.length + 1) cap) f E pt (py ++ [x]) ex hand ∧ ∃ z : Int, w2.heap[oY]? = some (.cells #[.map (some mY), vY, .int .i64 z] 74 (0, 0)) := by
  obtain ⟨cs, hO, hcs⟩ := h.olY
  have hwt := h.wt
  have hpl := wt_lenC py
  obtain ⟨g, cap, w2, hrun, hO2, hC, hs, hz⟩ := olY_push hO (by rw [List.length_map]; omega) (x.h, x.o - 2)
  rw [List.length_map] at hrun hO2 hC
  obtain ⟨k1, k2, k3, k4⟩ := h.chgY (hC.setOp 1 (.slice (some ⟨g, 0, none⟩) (py.length + 1) cap))
  refine ⟨g, cap, w2, hrun, ⟨(h.gc.keep (hC.setOp 1 _).size k1).perm ?_, k2, ⟨cs, by rw [List.map_append]; exact hO2, hcs⟩, h.mm, k3, h.bx, h.xs, h.low, h.eb, k4, fun c hc => ?_, ?_⟩, hz⟩
  · rw [List.cons_append, ← List.append_assoc]
    refine (List.perm_append_singleton _ _).symm.trans ?_
    rw [List.append_assoc, List.append_assoc]
  · rcases List.mem_append.1 hc with hc | hc
    · exact h.pyk c hc
    · simp at hc; subst hc; exact ⟨hk, ho⟩
  · rw [List.map_cons, List.sum_cons] at hwt
    rw [List.map_append, List.sum_append]
    simp only [List.map_cons, List.map_nil, List.sum_cons, List.sum_nil, Cl.wt, Cl.ew, hk] at hwt ⊢
    omega

end Go.Proofs.YtibbdhmbgnjmoaaGreat

/-
  A least measure for a relation.
-/
namespace Go.Proofs.YtibbdhmbgnjmoaaGreat
open Go.RowKit
set_option linter.unusedVariables false
set_option linter.unusedSimpArgs false

theorem least_ex (R : Value → World → Nat → Prop) : ∃ μ : Value → World → Nat, ∀ v wr n, R v wr n → μ v wr ≤ n ∧ R v wr (μ v wr) := by
  classical
  have h : ∀ v wr, ∃ m, ∀ n, R v wr n → m ≤ n ∧ R v wr m := by
    intro v wr
    have key : ∀ n, R v wr n → ∃ m, R v wr m ∧ ∀ k, R v wr k → m ≤ k := by
      intro n
      induction n using Nat.strongRecOn with
      | ind n ih =>
        intro hn
        by_cases hs : ∃ k, k < n ∧ R v wr k
        · obtain ⟨k, hk, hR⟩ := hs
          exact ih k hk hR
        · exact ⟨n, hn, fun k hk => by
            by_cases hlt : k < n
            · exact (hs ⟨k, hlt, hk⟩).elim
            · omega⟩
    by_cases he : ∃ n, R v wr n
    · obtain ⟨n, hn⟩ := he
      obtain ⟨m, h1, h2⟩ := key n hn
      exact ⟨m, fun k hk => ⟨h2 k hk, h1⟩⟩
    · exact ⟨0, fun n hn => (he ⟨n, hn⟩).elim⟩
  exact ⟨fun v wr => Classical.choose (h v wr), fun v wr n hn => Classical.choose_spec (h v wr) n hn⟩

end Go.Proofs.YtibbdhmbgnjmoaaGreat

/-
  What 'IsValue' comes to, the model's and the program's.
-/
namespace Go.Proofs.YtibbdhmbgnjmoaaGreat
open Go.RowKit
set_option linter.unusedVariables false
set_option linter.unusedSimpArgs false

/-- A value, by its kind. -/
def isVal (k : Int) : Bool := k == 1 || k == 2 || k == 3 || k == 4 || k == 12

set_option maxHeartbeats 1000000 in
theorem isValue_any (D d L B : Nat) (t : Tm) (a1 : Option Addr) (l1 c1 : Nat) (a2 : Option Addr) (l2 c2 : Nat) (a3 : Option Addr) (l3 c3 : Nat) (w : World) (hB : B ≤ w.heap.size) (hf : Fm L B w D d t a1 l1 a2 l2 a3 l3) :
    Calls Tryz.prog 100 #[.agg #[.int .i64 t.K, .int .i64 t.N, .string t.S, .string t.Z, .int .i64 t.T.K, .int .i64 t.T.N, .slice a1 l1 c1, .slice a2 l2 c2, .slice a3 l3 c3]] w fun e w' => e = .returned (.bool (isVal t.K)) ∧ Below w.heap.size w w' := by
  have hbel : Below w.heap.size w (w.alloc (.cells #[.int .i64 t.K, .int .i64 t.N, .string t.S, .string t.Z, .int .i64 t.T.K, .int .i64 t.T.N, .slice a1 l1 c1, .slice a2 l2 c2, .slice a3 l3 c3] 34)) := (Below.refl _ _).alloc (Nat.le_refl _) _
  unfold isVal
  cases h1 : (t.K == 1)
  all_goals cases h2 : (t.K == 2)
  all_goals cases h3 : (t.K == 3)
  all_goals cases h4 : (t.K == 4)
  all_goals cases h5 : (t.K == 12)
  all_goals
    go_enter Tryz.func100, Tryz.ntmps100
    go_wp2_with fail
    go_ret
    exact ⟨rfl, hbel⟩

set_option maxHeartbeats 1000000 in
theorem sIsValue_any (D d L B : Nat) (t : Tm) (a1 : Option Addr) (l1 c1 : Nat) (a2 : Option Addr) (l2 c2 : Nat) (a3 : Option Addr) (l3 c3 : Nat) (w : World) (hB : B ≤ w.heap.size) (hf : Fm L B w D d t a1 l1 a2 l2 a3 l3) :
    Calls Tryz.prog 69 #[.agg #[.int .i64 t.K, .int .i64 t.N, .string t.S, .string t.Z, .int .i64 t.T.K, .int .i64 t.T.N, .slice a1 l1 c1, .slice a2 l2 c2, .slice a3 l3 c3]] w fun e w' => e = .returned (.bool (isVal t.K)) ∧ Below w.heap.size w w' := by
  have hbel : Below w.heap.size w (w.alloc (.cells #[.int .i64 t.K, .int .i64 t.N, .string t.S, .string t.Z, .int .i64 t.T.K, .int .i64 t.T.N, .slice a1 l1 c1, .slice a2 l2 c2, .slice a3 l3 c3] 34)) := (Below.refl _ _).alloc (Nat.le_refl _) _
  unfold isVal
  cases h1 : (t.K == 1)
  all_goals cases h2 : (t.K == 2)
  all_goals cases h3 : (t.K == 3)
  all_goals cases h4 : (t.K == 4)
  all_goals cases h5 : (t.K == 12)
  all_goals
    go_enter Tryz.func69, Tryz.ntmps69
    go_wp2_with fail
    go_ret
    exact ⟨rfl, hbel⟩

end Go.Proofs.YtibbdhmbgnjmoaaGreat

/-
  What is Pure, by a term's kinds; a map keyed by where a list of two begins: no walk.
-/
namespace Go.Proofs.YtibbdhmbgnjmoaaGreat
open Go.RowKit
set_option linter.unusedVariables false
set_option linter.unusedSimpArgs false

def pureM : Tm → Bool
  | ⟨k, _, _, _, _, _, a⟩ => if k = 9 ∨ k = 13 then decide (a.length = 2) && (a.attach.map fun ⟨x, _⟩ => pureM x).all id else isVal k

theorem pureM_eq (t : Tm) : pureM t = if t.K = 9 ∨ t.K = 13 then decide (t.A.length = 2) && t.A.all pureM else isVal t.K := by
  cases t; rw [pureM]; simp [List.all_map, Function.comp_def]

theorem Tryz.stoodP : Tryz.prog.stoodInHeld 97 = false := by kernel_rfl
theorem Tryz.infoTmQ : (Tryz.prog.info? 34).map (fun i => i.size) = some 9 := by kernel_rfl
theorem Tryz.infoIntP : (Tryz.prog.info? 3).map (fun i => i.zero) = some (some (.int .i64 0)) := by kernel_rfl

/-- The key of a list of two at the head of block c. -/
def keyP (c : Nat) : Value := .agg #[.pointer (some ⟨c, 0, none⟩), .int .i64 2]

set_option maxRecDepth 100000 in
set_option maxHeartbeats 1000000 in
theorem keyP_other {w : World} {c c' : Nat} {cs cs' : Array Value} {t t' : TypeId} (hne : c ≠ c') (h : w.heap[c]? = some (.cells cs t (0, 0))) (h' : w.heap[c']? = some (.cells cs' t' (0, 0))) :
    (Op.equal 97 (keyP c) (keyP c')).run Tryz.prog w = .ok false w := by
  obtain ⟨i0, hi, hz⟩ := Option.map_eq_some_iff.1 Tryz.infoTmQ
  have hA : (⟨c, 0, none⟩ : Addr) ≠ ⟨c', 0, none⟩ := by intro e; exact hne (congrArg Addr.block e)
  have hs := run_sameAddr_other (P := Tryz.prog) w (a := ⟨c, 0, none⟩) (b := ⟨c', 0, none⟩) hA h h'
  have hp : ∀ d : Nat, (Op.equalIn (d + 1) 67 (.pointer (some ⟨c, 0, none⟩)) (.pointer (some ⟨c', 0, none⟩))).run Tryz.prog w = .ok false w := fun d => by
    simp [Op.equalIn, run_underlying Tryz.underlying67, sizeOf, typeInfo, hi, hz, hs]
  have hpart : ∀ a b : Value, (part 67 #[a, b] 0).run Tryz.prog w = .ok a w := fun a b => by
    simp [part, isAgg, run_underlying Tryz.underlying67]
  unfold Op.equal keyP
  show (Op.equalIn (9999 + 1) _ _ _).run _ _ = _
  rw [run_equalIn_struct w 9999 _ _ _ (by unfold Program.fieldsOf; rw [Tryz.underlying97]) Tryz.stoodP]
  simp [Program.fieldsOf, Tryz.underlying97, Op.eqFields, hpart, hp 9998]

set_option maxRecDepth 100000 in
set_option maxHeartbeats 1000000 in
theorem keyP_same {w : World} (c : Nat) :
    (Op.equal 97 (keyP c) (keyP c)).run Tryz.prog w = .ok true w := by
  obtain ⟨i0, hi, hz⟩ := Option.map_eq_some_iff.1 Tryz.infoTmQ
  have hp : ∀ d : Nat, (Op.equalIn (d + 1) 67 (.pointer (some ⟨c, 0, none⟩)) (.pointer (some ⟨c, 0, none⟩))).run Tryz.prog w = .ok true w := fun d => by
    simp [Op.equalIn, run_underlying Tryz.underlying67, sizeOf, typeInfo, hi, hz, run_sameAddr_same]
  have hn : ∀ d : Nat, (Op.equalIn (d + 1) 3 (.int .i64 2) (.int .i64 2)).run Tryz.prog w = .ok true w := fun d => by
    simp [Op.equalIn, run_underlying Tryz.underlying3]
  have hpart : ∀ a b : Value, (part 67 #[a, b] 0).run Tryz.prog w = .ok a w := fun a b => by
    simp [part, isAgg, run_underlying Tryz.underlying67]
  have hpart1 : ∀ a b : Value, (part 3 #[a, b] 1).run Tryz.prog w = .ok b w := fun a b => by
    simp [part, isAgg, run_underlying Tryz.underlying3]
  unfold Op.equal keyP
  show (Op.equalIn (9999 + 1) _ _ _).run _ _ = _
  rw [run_equalIn_struct w 9999 _ _ _ (by unfold Program.fieldsOf; rw [Tryz.underlying97]) Tryz.stoodP]
  simp [Program.fieldsOf, Tryz.underlying97, Op.eqFields, hpart, hpart1, hp 9998, hn 9998]

/-- What lies in the map's block: keys of the blocks in cs. -/
def KeysP (es : Array MapEntry) (cs : List Nat) : Prop := ∀ e ∈ es.toList, ∃ c, c ∈ cs ∧ e.key = keyP c

theorem findP {w : World} {c : Nat} {cs : List Nat} (hfr : ∀ x, x = c ∨ x ∈ cs → ∃ a t, w.heap[x]? = some (.cells a t (0, 0))) :
    ∀ (es : List MapEntry) (i : Nat), (∀ e ∈ es, ∃ c, c ∈ cs ∧ e.key = keyP c) →
      ((Instr.findAsking 97 (keyP c) es i).run Tryz.prog w = .ok none w) ∨ (c ∈ cs ∧ ∃ j e, (Instr.findAsking 97 (keyP c) es i).run Tryz.prog w = .ok (some (i + j, e.val)) w ∧ es[j]? = some e ∧ e.key = keyP c) := by
  intro es
  induction es with
  | nil => intro i _; left; simp [Instr.findAsking]
  | cons e es ih =>
    intro i h
    obtain ⟨c', hc', he⟩ := h e (by simp)
    by_cases hcc : c = c'
    · subst hcc
      right
      refine ⟨hc', 0, e, ?_, rfl, he⟩
      simp [Instr.findAsking, he, keyP_same]
    · obtain ⟨a, t, ha⟩ := hfr c (Or.inl rfl)
      obtain ⟨a', t', ha'⟩ := hfr c' (Or.inr hc')
      have hk := keyP_other hcc ha ha'
      rcases ih (i + 1) (fun e he => h e (by simp [he])) with h1 | ⟨h0, j, e1, h1, h2, h3⟩
      · left; simp [Instr.findAsking, he, hk, h1]
      · right
        refine ⟨h0, j + 1, e1, ?_, by simpa using h2, h3⟩
        simp [Instr.findAsking, he, hk, h1]; omega

theorem findP_key {w : World} {c : Nat} {cs : List Nat} (hfr : ∀ x, x = c ∨ x ∈ cs → ∃ a t, w.heap[x]? = some (.cells a t (0, 0))) {es : Array MapEntry} (hk : KeysP es cs) :
    ((Instr.findKey 97 (keyP c) es.toList).run Tryz.prog w = .ok none w) ∨ (c ∈ cs ∧ ∃ j e, (Instr.findKey 97 (keyP c) es.toList).run Tryz.prog w = .ok (some (j, e.val)) w ∧ es.toList[j]? = some e ∧ e.key = keyP c) := by
  have h2 := findP (w := w) (c := c) hfr es.toList 0 hk
  have hred : (Instr.findKey 97 (keyP c) es.toList).run Tryz.prog w = (Instr.findAsking 97 (keyP c) es.toList 0).run Tryz.prog w := by
    unfold Instr.findKey
    simp only [Sem.run_bind, run_underlying Tryz.underlying97, Result.andThen_ok]
    cases hes : es.toList with
    | nil => simp [Instr.findNow, Instr.findAsking]
    | cons e l => simp [Instr.findNow, Instr.sameNow]
  rw [hred]
  simpa using h2

set_option maxRecDepth 100000 in
theorem checkP {w : World} (b : Bool) (c : Nat) : (Instr.checkKey b 10000 97 (keyP c)).run Tryz.prog w = .ok () w := by
  have hp : ∀ (d : Nat) (v : Option Addr), (Instr.checkKey b (d + 1) 67 (.pointer v)).run Tryz.prog w = .ok () w := fun d v => by simp [Instr.checkKey, run_underlying Tryz.underlying67]
  have hn : ∀ (d : Nat) (v : Int), (Instr.checkKey b (d + 1) 3 (.int .i64 v)).run Tryz.prog w = .ok () w := fun d v => by simp [Instr.checkKey, run_underlying Tryz.underlying3]
  have hpart0 : ∀ a b : Value, (part 67 #[a, b] 0).run Tryz.prog w = .ok a w := fun a b => by simp [part, isAgg, run_underlying Tryz.underlying67]
  have hpart1 : ∀ a b : Value, (part 3 #[a, b] 1).run Tryz.prog w = .ok b w := fun a b => by simp [part, isAgg, run_underlying Tryz.underlying3]
  unfold keyP
  show (Instr.checkKey b (9999 + 1) _ _).run _ _ = _
  rw [Instr.checkKey]
  simp only [Sem.run_bind, run_underlying Tryz.underlying97, Result.andThen_ok]
  simp [hpart0, hpart1, hp 9998, hn 9998]

/-- A list that was not met is not in the map. -/
theorem lookupP {w : World} {mp c : Nat} {cs : List Nat} {es : Array MapEntry} {clock : Nat} (hm : w.heap[mp]? = some (.map es clock)) (hfr : ∀ x, x = c ∨ x ∈ cs → ∃ a t, w.heap[x]? = some (.cells a t (0, 0))) (hc : c ∉ cs) (hk : KeysP es cs) :
    (Instr.lookup 130 (.map (some mp)) (keyP c) false).run Tryz.prog w = .ok (.int .i64 0) w := by
  have h1 := (findP_key (w := w) hfr hk).resolve_right (fun h => hc h.1)
  have h2 := checkP (w := w) es.isEmpty c
  obtain ⟨i1, hi1, hz1⟩ := Option.map_eq_some_iff.1 Tryz.infoIntP
  have hz : (zeroValue 3).run Tryz.prog w = .ok (.int .i64 0) w := by
    simp [zeroValue, typeInfo, hi1, hz1]
  have hg := MapKept.run_getObj_map (P := Tryz.prog) hm
  unfold Instr.lookup
  simp [run_underlying Tryz.underlying130, hg, h1, h2, hz]

/-- Whatever is laid at a key of cs: the map's keys are of cs still. -/
theorem updateP {w : World} {mp c : Nat} {cs : List Nat} {es : Array MapEntry} {clock : Nat} (v : Value) (hm : w.heap[mp]? = some (.map es clock)) (hfr : ∀ x, x = c ∨ x ∈ cs → ∃ a t, w.heap[x]? = some (.cells a t (0, 0))) (hk : KeysP es cs) :
    ∃ es' clock', (Instr.mapUpdate 130 (.map (some mp)) (keyP c) v).run Tryz.prog w = .ok () { w with heap := w.heap.setIfInBounds mp (.map es' clock') } ∧ KeysP es' (c :: cs) := by
  have h2 := checkP (w := w) false c
  have hg := MapKept.run_getObj_map (P := Tryz.prog) hm
  have hs := fun o => MapKept.run_setObj_map (P := Tryz.prog) o hm
  rcases findP_key (w := w) (c := c) hfr hk with h1 | ⟨_, j, e, h1, he, hek⟩
  · refine ⟨es.push { key := keyP c, val := v, born := clock }, clock + 1, ?_, ?_⟩
    · unfold Instr.mapUpdate
      simp [run_underlying Tryz.underlying130, hg, hs, h1, h2]
    · intro x hx
      rw [Array.toList_push, List.mem_append] at hx
      rcases hx with hx | hx
      · obtain ⟨c', h3, h4⟩ := hk x hx
        exact ⟨c', List.mem_cons_of_mem _ h3, h4⟩
      · simp at hx; subst hx; exact ⟨c, by simp, rfl⟩
  · have hst : (Instr.keyThatStays (keyP c) (keyP c)).run Tryz.prog w = .ok (keyP c) w := by
      unfold Instr.keyThatStays keyP
      simp [Instr.sameBits]
    have hje : es[j]? = some e := by rw [← Array.getElem?_toList]; exact he
    refine ⟨es.modify j (fun e => { e with key := keyP c, val := v }), clock, ?_, ?_⟩
    · unfold Instr.mapUpdate
      simp [run_underlying Tryz.underlying130, hg, hs, h1, h2, hje, hek, hst]
    · have hks := MapKept.modify_keys (es := es) j (fun e => { e with key := keyP c, val := v }) (fun e0 h0 => by rw [hje] at h0; cases h0; exact hek.symm)
      intro x hx
      have : x.key ∈ (es.modify j (fun e => { e with key := keyP c, val := v })).toList.map (·.key) := List.mem_map.2 ⟨x, hx, rfl⟩
      rw [hks] at this
      obtain ⟨y, hy, hyx⟩ := List.mem_map.1 this
      obtain ⟨c', h3, h4⟩ := hk y hy
      exact ⟨c', List.mem_cons_of_mem _ h3, by rw [← hyx]; exact h4⟩

end Go.Proofs.YtibbdhmbgnjmoaaGreat
