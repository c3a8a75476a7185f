/-
  What 'ownTerm' comes to.
-/
import Derived.Test.YtibbdhmbgnjmoaaGreatFlaZ31
import Derived.Deep.Cut
import Derived.Deep.CutRange
namespace Go.Proofs.YtibbdhmbgnjmoaaGreat
open Go.RowKit
set_option linter.unusedVariables false
set_option linter.unusedSimpArgs false

def OnT (w X : World) (D d oM mM oY mY : Nat) (v : Value) (wr : World) (n : Nat) : Prop := ∃ vM vY f E pt py, On w X wr D d oM mM vM oY mY vY f E pt py [] [] ∧ (pt.map TP.wt).sum = n
def OnY (w X : World) (D d oM mM oY mY : Nat) (v : Value) (wr : World) (n : Nat) : Prop := ∃ vM vY f E py, On w X wr D d oM mM vM oY mY vY f E [] py [] [] ∧ (py.map Cl.wt).sum = n

theorem hand_cell {w X wr : World} {D d : Nat} {oM mM : Nat} {vM : Value} {oY mY : Nat} {vY : Value} {f : Nat → Nat} {E : List (Nat × Nat × Bool)} {pt : List TP} {py ex : List Cl} {z : Hd} {hand : List Hd} (h : On w X wr D d oM mM vM oY mY vY f E pt py ex (z :: hand)) :
    (∃ v, wr.cell? ⟨z.h, z.o, none⟩ = some v) ∧ wr.frozen? ⟨z.h, z.o, none⟩ = false := by
  obtain ⟨g, n, k, q1, q2, q3, _⟩ := h.gc.hnd z (by simp)
  obtain ⟨_, _, ⟨cs, hc, hs⟩, _⟩ := h.gc.row g n k q1
  rw [← q2] at hc
  exact ⟨⟨cs[z.o]'(by omega), by rw [row_cell hc, Array.getElem?_eq_getElem]⟩, row_free hc _⟩

/-- The cells of a term whose lists are copied are there. -/
theorem hand_cells {w X wr : World} {D d : Nat} {oM mM : Nat} {vM : Value} {oY mY : Nat} {vY : Value} {f : Nat → Nat} {E : List (Nat × Nat × Bool)} {pt : List TP} {py ex : List Cl} {b c : Nat} {k1 k2 : Bool} {u1 u2 : Value} {hand : List Hd} (h : On w X wr D d oM mM vM oY mY vY f E pt py ex (⟨b, c + 7, k1, u1⟩ :: ⟨b, c + 8, k2, u2⟩ :: hand)) :
    (∃ v, wr.cell? ⟨b, c + 8, none⟩ = some v) ∧ (∃ v, wr.cell? ⟨b, c + 7, none⟩ = some v) ∧ wr.frozen? ⟨b, c + 8, none⟩ = false ∧ wr.frozen? ⟨b, c + 7, none⟩ = false := by
  obtain ⟨g, n, k, q1, q2, q3, _⟩ := h.gc.hnd ⟨b, c + 7, k1, u1⟩ (by simp)
  obtain ⟨g', n', k', r1, r2, r3, _⟩ := h.gc.hnd ⟨b, c + 8, k2, u2⟩ (by simp)
  simp only at q2 q3 r2 r3
  cases h.gc.inj q1 r1 (q2.symm.trans r2)
  obtain ⟨_, _, ⟨cs, hc, hs⟩, _⟩ := h.gc.row g n k q1
  rw [← q2] at hc
  refine ⟨⟨cs[c + 8]'(by omega), ?_⟩, ⟨cs[c + 7]'(by omega), ?_⟩, row_free hc _, row_free hc _⟩
  · rw [row_cell hc, Array.getElem?_eq_getElem]
  · rw [row_cell hc, Array.getElem?_eq_getElem]

set_option maxRecDepth 100000 in
set_option maxHeartbeats 8000000 in
theorem ownTerm_any (D d L B : Nat) (t : Tm) (a1 : Option Addr) (l1 c1 : Nat) (a2 : Option Addr) (l2 c2 : Nat) (a3 : Option Addr) (l3 c3 : Nat) (w : World) (hB : B ≤ w.heap.size) (hf : FmO L B w D d t a1 l1 a2 l2 a3 l3) (hc : cntM t ≤ 1048576) :
    Calls Tryz.prog 24 #[.agg #[.int .i64 t.K, .int .i64 t.N, .string t.S, .string t.Z, .int .i64 t.T.K, .int .i64 t.T.N, .slice a1 l1 c1, .slice a2 l2 c2, .slice a3 l3 c3]] w (NewM w D d t) := by
  have hmk1 : ∀ w : World, (Instr.makeMap 66 none).run Tryz.prog w = .ok (.map (some w.heap.size)) (w.alloc (.map #[] 0)) := fun w => rfl
  have hmk2 : ∀ w : World, (Instr.makeMap 71 none).run Tryz.prog w = .ok (.map (some w.heap.size)) (w.alloc (.map #[] 0)) := fun w => rfl
  obtain ⟨bs, ⟨p1, p2, p3, hbs, z1, z2, q1, q2, q3⟩, hnd, hbd⟩ := hf
  obtain ⟨X, hX⟩ : ∃ X, X = w.alloc (.cells #[.int .i64 t.K, .int .i64 t.N, .string t.S, .string t.Z, .int .i64 t.T.K, .int .i64 t.T.N, .slice a1 l1 c1, .slice a2 l2 c2, .slice a3 l3 c3] 34) := ⟨_, rfl⟩
  obtain ⟨W, hW⟩ : ∃ W, W = (((((((w.alloc (.cells #[.int .i64 t.K, .int .i64 t.N, .string t.S, .string t.Z, .int .i64 t.T.K, .int .i64 t.T.N, .slice a1 l1 c1, .slice a2 l2 c2, .slice a3 l3 c3] 34)).alloc (.cells #[.int .i64 0, .int .i64 0, .string ⟨#[]⟩, .string ⟨#[]⟩, .int .i64 0, .int .i64 0, .slice none 0 0, .slice none 0 0, .slice none 0 0] 34)).alloc (.map #[] 0)).alloc (.cells #[.pointer (some ⟨w.heap.size, 0, none⟩)] 67)).alloc (.cells #[.map (some (w.heap.size + 1 + 1)), .slice (some ⟨w.heap.size + 1 + 1 + 1, 0, none⟩) 1 1, .int .i64 0] 70)).alloc (.map #[] 0)).alloc (.cells #[.map (some (w.heap.size + 1 + 1 + 1 + 1 + 1)), .slice none 0 0, .int .i64 0] 74)) := ⟨_, rfl⟩
  have hWb : Below w.heap.size w W := by rw [hW]; exact bX_alloc (bX_alloc (bX_alloc (bX_alloc (bX_alloc (bX_alloc (bX_alloc (Below.refl _ _)))))))
  have HS : Hid (On w X W D d (w.heap.size + 1 + 1 + 1 + 1) (w.heap.size + 1 + 1) (.slice (some ⟨w.heap.size + 1 + 1 + 1, 0, none⟩) 1 1) (w.heap.size + 1 + 1 + 1 + 1 + 1 + 1) (w.heap.size + 1 + 1 + 1 + 1 + 1) (.slice none 0 0) id [(w.heap.size, 1, true)] [⟨w.heap.size, 0, t, a1, l1, c1, a2, l2, c2, a3, l3, c3, p1, p2, p3⟩] [] [] []) := by
    refine on_start hX hbs q1 q2 q3 hnd (fun b hb => Nat.lt_of_lt_of_le (hbd b hb).2 hB) hc hWb ?_ ?_ ?_ ?_ ?_ ?_ ?_
    · rw [hW, Below.heap_alloc _ _ _ (by simp <;> omega), Below.heap_alloc _ _ _ (by simp <;> omega), Below.heap_alloc _ _ _ (by simp <;> omega), Below.heap_alloc _ _ _ (by simp <;> omega), Below.heap_alloc _ _ _ (by simp <;> omega), Below.heap_alloc _ _ _ (by simp)]; exact heap_new rfl
    · rw [hW, Below.heap_alloc _ _ _ (by simp <;> omega), Below.heap_alloc _ _ _ (by simp <;> omega), Below.heap_alloc _ _ _ (by simp <;> omega), Below.heap_alloc _ _ _ (by simp <;> omega), Below.heap_alloc _ _ _ (by simp)]; exact heap_new (by simp)
    · rw [hW, Below.heap_alloc _ _ _ (by simp <;> omega), Below.heap_alloc _ _ _ (by simp <;> omega), Below.heap_alloc _ _ _ (by simp <;> omega), Below.heap_alloc _ _ _ (by simp)]; exact heap_new (by simp)
    · rw [hW, Below.heap_alloc _ _ _ (by simp <;> omega), Below.heap_alloc _ _ _ (by simp <;> omega), Below.heap_alloc _ _ _ (by simp)]; exact heap_new (by simp)
    · rw [hW, Below.heap_alloc _ _ _ (by simp <;> omega), Below.heap_alloc _ _ _ (by simp)]; exact heap_new (by simp)
    · rw [hW, Below.heap_alloc _ _ _ (by simp)]; exact heap_new (by simp)
    · rw [hW]; exact heap_new (by simp)
  have HX : Hid (Nine X w.heap.size 0 t.K t.N t.S t.Z t.T.K t.T.N (.slice a1 l1 c1) (.slice a2 l2 c2) (.slice a3 l3 c3) ∧ FldO X D (OwM X D d) t a1 l1 a2 l2 a3 l3 bs ∧ bs.Nodup ∧ ∀ b ∈ bs, b < w.heap.size) := by
    have hXb : Below w.heap.size w X := by rw [hX]; exact bX_alloc (Below.refl _ _)
    refine ⟨Nine.box (t := 34) (fr := (0, 0)) (by rw [hX]; exact heap_new rfl), FldO.keep (fun b hb => hXb.block b (Nat.lt_of_lt_of_le (hbd b hb).2 hB)) ⟨p1, p2, p3, hbs, z1, z2, q1, q2, q3⟩, hnd, fun b hb => Nat.lt_of_lt_of_le (hbd b hb).2 hB⟩
  obtain ⟨μ, hμ⟩ := least_ex (OnT w X D d (w.heap.size + 1 + 1 + 1 + 1) (w.heap.size + 1 + 1) (w.heap.size + 1 + 1 + 1 + 1 + 1 + 1) (w.heap.size + 1 + 1 + 1 + 1 + 1))
  have HM : Hid (∀ v wr n, _) := hμ
  obtain ⟨ν, hν⟩ := least_ex (OnY w X D d (w.heap.size + 1 + 1 + 1 + 1) (w.heap.size + 1 + 1) (w.heap.size + 1 + 1 + 1 + 1 + 1 + 1) (w.heap.size + 1 + 1 + 1 + 1 + 1))
  have HV : Hid (∀ v wr n, _) := hν
  have HW : Hid (W = _) := hW
  clear hμ hν hW hX hWb hbs z1 z2 q1 q2 q3 hnd hbd hc hB
  go_enter Tryz.func24, Tryz.ntmps24
  go_wp2_with fail
  rw [← HW.out]
  clear HW hmk1 hmk2
  generalize w.heap.size + 1 + 1 + 1 + 1 + 1 + 1 = oY at *
  generalize w.heap.size + 1 + 1 + 1 + 1 + 1 = mY at *
  generalize w.heap.size + 1 + 1 + 1 + 1 = oM at *
  generalize w.heap.size + 1 + 1 + 1 = lM at *
  generalize w.heap.size + 1 + 1 = mM at *
  go_loopw [5] (fun u wr => ∃ n, OnT w X D d oM mM oY mY u wr n) (fun u wr => μ u wr)
  case atStart => exact ⟨_, _, _, _, _, _, _, HS.out, rfl⟩
  case round =>
    obtain ⟨n0, hR0⟩ := hrel
    obtain ⟨_, vM, vY, f, E, pt, py, hO, hsum⟩ := HM.out _ _ _ hR0
    clear HS hR0
    obtain ⟨cM, hOM, _⟩ := hO.olM
    obtain ⟨zM, hzM⟩ := hOM.box
    have b1 := row_cell hzM 1
    rcases (by simpa [List.concat_eq_append] using List.eq_nil_or_concat pt : pt = [] ∨ ∃ init it, pt = init ++ [it]) with rfl | ⟨init, x, rfl⟩
    · have hv : ∃ ao cap, vM = .slice ao 0 cap := by
        rcases hOM.row.2 with ⟨e, _⟩ | ⟨g, cap, cur, e, _⟩
        · exact ⟨none, 0, e⟩
        · exact ⟨_, cap, e⟩
      obtain ⟨ao, cap, rfl⟩ := hv
      clear hOM hzM
      go_wp2_with fail
      clear b1
      go_loopw [6] (fun u wr => ∃ n, OnY w X D d oM mM oY mY u wr n) (fun u wr => ν u wr)
      case atStart => exact ⟨_, _, _, _, _, _, hO, rfl⟩
      case round =>
        obtain ⟨n1, hR1⟩ := hrel
        obtain ⟨_, vM', vY', f', E', py', hP, hsum'⟩ := HV.out _ _ _ hR1
        clear hO hR1
        obtain ⟨cY, hOY, _⟩ := hP.olY
        obtain ⟨zY, hzY⟩ := hOY.box
        have b1 := row_cell hzY 1
        rcases (by simpa [List.concat_eq_append] using List.eq_nil_or_concat py' : py' = [] ∨ ∃ init it, py' = init ++ [it]) with rfl | ⟨init, y, rfl⟩
        · have hv : ∃ ao cap, vY' = .slice ao 0 cap := by
            rcases hOY.row.2 with ⟨e, _⟩ | ⟨g, cap, cur, e, _⟩
            · exact ⟨none, 0, e⟩
            · exact ⟨_, cap, e⟩
          obtain ⟨ao', cap', rfl⟩ := hv
          clear hOY hzY
          obtain ⟨x9, xo, xn, xl⟩ := HX.out
          obtain ⟨r1, m1, e1, r2, m2, e2, r3, m3, e3, bs', n9, fo, nd, hin⟩ := hP.gc.fin hP.eb.1 x9 xo xn
          rw [hP.eb.2] at n9
          obtain ⟨y0, y1, y2, y3, y4, y5, y6, y7, y8⟩ := n9
          simp only [Nat.zero_add] at y1 y2 y3 y4 y5 y6 y7 y8
          have hres := hP.res
          obtain ⟨p0, p1, p2, p3, p4, p5, p6, p7, p8⟩ := Nine.box hres
          have pf := row_free hres
          have hFO : FmO (w.heap.size + 2) wr.heap.size wr D d t r1 m1 r2 m2 r3 m3 := ⟨bs', fo, nd, fun b hb => by
            obtain ⟨g, n, k, hg, hgb, rfl⟩ := hin b hb
            refine ⟨?_, hP.gc.ltn g n k hg⟩
            rcases hP.low g n k hg with e | e
            · have := hP.gc.inj hg hP.eb.1 (e.trans hP.eb.2.symm)
              cases this
              have := xl _ hgb
              omega
            · exact e⟩
          have hbel := hP.bel
          have HP : Hid (On _ _ _ _ _ _ _ _ _ _ _ _ _ _ _ _ _) := hP
          clear hP x9 xo xn xl fo nd hin
          go_wp2_with fail
          refine bodyPost_ret (v := .agg #[.int .i64 t.K, .int .i64 t.N, .string t.S, .string t.Z, .int .i64 t.T.K, .int .i64 t.T.N, .slice r1 m1 e1, .slice r2 m2 e2, .slice r3 m3 e3]) (by simp [results, Tryz.results24, go_sem, p0, p1, p2, p3, p4, p5, p6, p7, p8]) rfl ?_
          exact fin_new hFO (Nat.le_refl _) hbel
        · have hv : ∃ g cap, vY' = .slice (some ⟨g, 0, none⟩) (init.length + 1) cap := by
            rw [List.map_append] at hOY
            obtain ⟨g, cap, e, _⟩ := olY_pop hOY
            exact ⟨g, cap, by simpa using e⟩
          obtain ⟨g', cap', rfl⟩ := hv
          have hg0 : (0 : Int) < (init.length : Int) + 1 := by omega
          have hcall := nextY_on hP
          obtain ⟨hyk, hy2⟩ := hP.pyk y (by simp)
          obtain ⟨yo, hyo⟩ : ∃ yo, y.o = yo + 2 := ⟨y.o - 2, by omega⟩
          have e2 : y.o - 2 = yo := by omega
          rw [e2] at hcall
          have HSU : Hid (((init ++ [y]).map Cl.wt).sum = _) := hsum'
          clear hOY hzY hP hsum' hy2
          go_wp2_with fail
          refine hcall.mono ?_
          rintro e w1 ⟨rfl, v1, h1⟩
          clear hcall b1
          have pT : w1.cell? ⟨y.h, yo + 2, none⟩ = some (.slice y.a y.l y.c) := by rw [← hyo]; exact (h1.gc.pnd y (by simp)).2.1
          go_wp2_with fail
          refine (ownY_on h1 hyk).mono ?_
          rintro e w2 ⟨u1, f1, E1, its1, v2, rfl, h2, t2, x2, y2, k2, s2⟩
          obtain ⟨ua, ul, uc, rfl⟩ := t2.form
          obtain ⟨⟨wa, pA2⟩, fA⟩ := hand_cell h2
          rw [hyo] at pA2 fA
          have h3 := h2.lay t2
          simp only [hyo] at h3
          clear pT
          go_wp2_with fail
          go_roundw
          case rel => exact ⟨_, _, _, _, _, _, h3, rfl⟩
          case measure =>
            refine Nat.lt_of_le_of_lt (HV.out _ _ _ ⟨_, _, _, _, _, h3, rfl⟩).1 ?_
            have q2 := HSU.out
            rw [← q2]
            unfold Cl.ew at s2
            rw [hyk] at s2
            simp only [List.map_append, List.sum_append, List.map_cons, List.map_nil, List.sum_cons, List.sum_nil, Cl.wt] at s2 ⊢
            omega
    · have hv : ∃ g cap, vM = .slice (some ⟨g, 0, none⟩) (init.length + 1) cap := by
        rw [List.map_append] at hOM
        obtain ⟨g, cap, e, _⟩ := olM_pop hOM
        exact ⟨g, cap, by simpa using e⟩
      obtain ⟨g, cap, rfl⟩ := hv
      have hg0 : (0 : Int) < (init.length : Int) + 1 := by omega
      have hcall := nextM_on hO
      have HSU : Hid (((init ++ [x]).map TP.wt).sum = _) := hsum
      clear hOM hzM hO hsum
      go_wp2_with fail
      refine hcall.mono ?_
      rintro e w1 ⟨rfl, v1, h1⟩
      clear hcall b1
      have pA : w1.cell? ⟨x.h, x.o + 8, none⟩ = some (.slice x.a3 x.l3 x.c3) := (h1.gc.pnd x.cA (by simp)).2.1
      have pT : w1.cell? ⟨x.h, x.o + 7, none⟩ = some (.slice x.a2 x.l2 x.c2) := (h1.gc.pnd x.cTs (by simp)).2.1
      go_wp2_with fail
      go_region_law (first
        | (go_simp; go_at_call 50; refine (ownM_on (h1.below (Below.refl _ _).drew) rfl).mono ?_; rintro e w2 ⟨u1, f1, E1, its1, v2, rfl, h2, t2, x2, y2, k2, s2⟩; obtain ⟨ua, ul, uc, rfl⟩ := t2.form; have pT2 : w2.cell? ⟨x.h, x.o + 7, none⟩ = some (.slice x.a2 x.l2 x.c2) := (h2.gc.pnd x.cTs (by simp)).2.1)
        | (go_simp; go_at_call 51; refine (ownY_on h2 rfl).mono ?_; rintro e w3 ⟨u2, f3, E3, its3, v3, rfl, h3, t3, x3, y3, k3, s3⟩; obtain ⟨va, vl, vc, rfl⟩ := t3.form; obtain ⟨⟨wa, pA3⟩, ⟨wt, pT3⟩, fA, fT⟩ := hand_cells (b := x.h) (c := x.o) h3))
      all_goals
        have h5 : On w X ((w3.setCell ⟨x.h, x.o + 8, none⟩ (.slice ua ul uc)).setCell ⟨x.h, x.o + 7, none⟩ (.slice va vl vc)) D d oM mM v2 oY mY v3 f3 E3 (init ++ its1) (py ++ its3) [x.cT] [] := (h3.swap.lay (t2.more x3 y3)).lay t3
        generalize (w3.setCell ⟨x.h, x.o + 8, none⟩ (.slice ua ul uc)).setCell ⟨x.h, x.o + 7, none⟩ (.slice va vl vc) = W5 at *
        have HS2 : Hid ((its1.map TP.wt).sum ≤ x.cA.ew) := s2
        clear h1 h2 h3 t2 t3 x2 y2 k2 s2 x3 y3 k3 s3 pA pT pT2 pA3 pT3 fA fT
        obtain ⟨g6, cap6, w6, hrun6, h6, z6, hz6⟩ := On.push (h5.below (Below.refl _ _).drew) rfl (by simp [TP.cT])
        obtain ⟨cY, hOY, _⟩ := h5.olY
        obtain ⟨zY, hzY⟩ := hOY.box
        have hol : oY < W5.heap.size := (Array.getElem?_eq_some_iff.1 hzY).1
        have e4 : x.cT.o - 2 = x.o + 4 := by simp [TP.cT]
        rw [e4] at hrun6
        have SA : Hid (∀ o, (W5.alloc o).cell? ⟨oY, 1, none⟩ = some v3 ∧ (W5.alloc o).frozen? ⟨oY, 1, none⟩ = false) := fun o => by
          have e1 : (W5.alloc o).heap[oY]? = _ := (Below.heap_alloc _ _ _ hol).trans hzY
          exact ⟨row_cell e1 1, row_free e1 1⟩
        have HR : Hid ((Builtin.append_ #[72, 72] 72 #[v3, .slice (some ⟨W5.heap.size, 0, none⟩) 1 1]).run Tryz.prog (W5.alloc (.cells #[.pointer (some ⟨x.h, x.o + 4, none⟩)] 77)).drew = .ok (.slice (some ⟨g6, 0, none⟩) ((py ++ its3).length + 1) cap6) w6) := hrun6
        have m0 := row_cell hzY 1
        have m1 := row_free hzY 1
        have n0 := fun o => (SA.out o).1
        have n1 := fun o => (SA.out o).2
        have x0 := row_cell hz6 1
        have x1 := row_free hz6 1
        have H6 : Hid (On _ _ _ _ _ _ _ _ _ _ _ _ _ _ _ _ _) := h6
        have hrun2 := HR.out
        clear hrun6 hz6 hzY hOY h5 h6
        generalize (py ++ its3).length = N6 at *
        go_wp2_with fail
        go_region_law (refine step_run hrun2 (by rfl) _ _ (by rfl) (by rfl) (by rfl) (by rfl) ?_)
        all_goals
          go_wp2_with fail
          go_roundw
          case rel => exact ⟨_, _, _, _, _, _, _, H6.out, rfl⟩
          case measure =>
            refine Nat.lt_of_le_of_lt (HM.out _ _ _ ⟨_, _, _, _, _, _, H6.out, rfl⟩).1 ?_
            have q2 := HSU.out
            rw [← q2]
            have q3 := HS2.out
            have q4 := cntM_eq x.t
            simp only [Cl.ew, TP.cA] at q3
            simp only [List.map_append, List.sum_append, List.map_cons, List.map_nil, List.sum_cons, List.sum_nil, TP.wt]
            omega

end Go.Proofs.YtibbdhmbgnjmoaaGreat
