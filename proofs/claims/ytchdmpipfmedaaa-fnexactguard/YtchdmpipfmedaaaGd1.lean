/-
  The program's 'hasPlace', 'tryAround', 'Guard'.
-/
import Derived.Test.YtchdmpipfmedaaaBk
import Derived.Test.YtchdmpipfmedaaaGd0
namespace Go.Proofs.Ytchdmpipfmedaaa
open Go.RowKit Go.Shelf
set_option linter.unusedVariables false
set_option linter.unusedSimpArgs false

set_option maxHeartbeats 400000 in
theorem hasPlace_any (p : Pc) (ao : Option Addr) (len cap : Nat) (n : Int) (w : World) (hlen : len = p.Ins.length) (hl : len ≤ 1048576) :
    Calls Try.prog 35 #[vP p ao len cap, .int .i64 n] w fun e w' => e = .returned (.bool (decide (0 ≤ n) && decide (n < p.Ins.length))) ∧ Below w.heap.size w w' := by
  have hb : Below w.heap.size w (w.alloc (.cells #[.int .i64 p.Lam, .int .i64 p.In, .int .i64 p.Regs, .slice ao len cap] 29)) := (Below.refl _ _).alloc (Nat.le_refl _) _
  rw [← hlen]
  clear hlen
  obtain ⟨ans, hans⟩ : ∃ b, (decide (0 ≤ n) && decide (n < len)) = b := ⟨_, rfl⟩
  rw [hans]
  have HA : Hid ((decide (0 ≤ n) && decide (n < len)) = ans) := hans
  clear hans
  by_cases h0 : 0 ≤ n
  · by_cases h1 : n < len
    · have HE : Hid (ans = true) := by show _ = _; rw [← HA.out]; simp [h0, h1]
      go_enter Try.func35, Try.ntmps35
      go_wp2_with fail
      go_ret
      exact ⟨ret_bool (by rw [HE.out]), hb⟩
    · have HE : Hid (ans = false) := by show _ = _; rw [← HA.out]; simp [h0, h1]
      go_enter Try.func35, Try.ntmps35
      go_wp2_with fail
      go_ret
      exact ⟨ret_bool (by rw [HE.out]), hb⟩
  · have HE : Hid (ans = false) := by show _ = _; rw [← HA.out]; simp [h0]
    go_enter Try.func35, Try.ntmps35
    go_wp2_with fail
    go_ret
    exact ⟨ret_bool (by rw [HE.out]), hb⟩

/-- A block of cells. -/
def Blk (W : World) (B : Nat) (t : TypeId) (c : Array Value) : Prop := W.heap[B]? = some (.cells c t (0, 0))
theorem blk_own {β : Type} (B : Nat) (t : TypeId) (f : β → Array Value) : Own (fun s W => Blk W B t (f s)) := fun s X Y row hs hg hrow =>
  (hg.block B (Array.getElem?_eq_some_iff.1 hs).1 (fun e' => by obtain ⟨o, ho, hc⟩ := hrow B e'.symm; rw [show X.heap[B]? = _ from hs] at ho; cases ho; cases hc)).trans hs
theorem Blk.alloc {W : World} {B : Nat} {t : TypeId} {c : Array Value} (h : Blk W B t c) (o : Obj) : Blk (W.alloc o) B t c := (Below.heap_alloc _ _ _ (Array.getElem?_eq_some_iff.1 h).1).trans h
theorem Blk.set {W : World} {B B' : Nat} {t : TypeId} {c : Array Value} (h : Blk W B t c) (o : Nat) (v : Value) (hne : B ≠ B') : Blk (W.setCell ⟨B', o, none⟩ v) B t c := (row_other _ _ _ hne).trans h
theorem Blk.lt {W : World} {B : Nat} {t : TypeId} {c : Array Value} (h : Blk W B t c) : B < W.heap.size := (Array.getElem?_eq_some_iff.1 h).1

def c7 (x : At) : Array Value := #[.int .i64 x.i.Op, .int .i64 x.i.D, .int .i64 x.i.X, .int .i64 x.i.Y, .int .i64 x.i.N, .slice x.ao x.len x.cap, .int .i64 x.i.To]
def z7 : Array Value := #[.int .i64 0, .int .i64 0, .int .i64 0, .int .i64 0, .int .i64 0, .slice none 0 0, .int .i64 0]
/-- How many are over, of those that have come. -/
def ovA (pre : List At) : Nat := (foldB 0 (pre.map (·.i))).getD 0
def lastC (pre : List At) : Array Value := match pre.getLast? with
  | some x => c7 x
  | none => #[]

/-- What 'tryAround' comes to. -/
def TryEnd (r : Option Insn) (e : Ending) : Prop := match r with
  | some x => ∃ a l c, e = .returned (.tuple #[vI x a l c, .bool true])
  | none => e = .returned (.tuple #[.agg #[.int .i64 0, .int .i64 0, .int .i64 0, .int .i64 0, .int .i64 0, .slice none 0 0, .int .i64 0], .bool false])

/-- An instruction laid into a box, and a truth into another. -/
theorem ret_world {W w : World} {B1 B2 n₀ : Nat} {c : Array Value} {t1 t2 : TypeId} {u : Value} (hne : B1 ≠ B2) (h1 : Blk W B1 t1 c) (hc : c.size = 7) (h2 : Boxed W B2 t2 u) (hn1 : n₀ ≤ B1) (hn2 : n₀ ≤ B2) (hB : Below n₀ w W) (a7 : Array Value) (ha : a7.size = 7) (bb : Bool) :
    ∀ Z, Z = (setL W B1 0 a7.toList).setCell ⟨B2, 0, none⟩ (.bool bb) → KeepsOthers W Z ∧ Blk Z B1 t1 a7 ∧ Boxed Z B2 t2 (.bool bb) ∧ Below n₀ w Z := by
  rintro Z rfl
  have hk : ∀ (vs : List Value) (V : World) (o : Nat), KeepsOthers V (setL V B1 o vs) := by
    intro vs
    induction vs with
    | nil => intro V o; exact KeepsOthers.refl _
    | cons v vs ih => intro V o; exact (KeepsOthers.setCell _ _ _).trans (ih _ _)
  refine ⟨(hk _ _ _).trans (KeepsOthers.setCell _ _ _), ?_, ?_, ?_⟩
  · refine Blk.set ?_ 0 _ hne
    obtain ⟨cs', q1, q2, q3, q4⟩ := setL_row a7.toList W 0 c h1
    have e : cs' = a7 := by
      apply Array.ext_getElem?
      intro j
      by_cases hj : j < 7
      · have hj2 : j < a7.toList.length := by rw [Array.length_toList]; omega
        have := q4 j hj2 (by omega)
        rw [Nat.zero_add] at this
        rw [this, ← Array.getElem?_toList, List.getElem?_eq_getElem hj2]
      · rw [Array.getElem?_eq_none (by omega), Array.getElem?_eq_none (by omega)]
    rw [e] at q1
    exact q1
  · have e : Boxed (setL W B1 0 a7.toList) B2 t2 u := (setL_other hne.symm _ _ _).trans h2
    exact e.set _
  · exact (setL_below hn1 _ _ _ hB).setCell (p := ⟨B2, 0, none⟩) hn2 _

/-- Blocks of cells behind the end of a loop over an iterator. -/
theorem Blk.put {W : World} {B D : Nat} {t : TypeId} {c : Array Value} {o : Obj} (h : Blk W B t c) (hD : W.heap[D]? = some o) (ho : o.isCells = false) (o' : Obj) : Blk (W.putObj D o') B t c := by
  have hne : D ≠ B := fun e => by
    subst e
    rw [show W.heap[D]? = _ from h] at hD
    cases hD
    cases ho
  exact (World.putObj_heap_other hne.symm).trans h

theorem choose_at {L B : Nat} {w : World} {ao : Option Addr} {len : Nat} {l : List Insn} (h : Iss L B w ao len l) (k n₀ : Nat) (hk : k ≤ len) (hB : B ≤ n₀) : ∃ A : Nat → At, LiesA n₀ w ao A k ∧ ∀ j, j < k → l[j]? = some (A j).i := by
  have hex : ∀ j, ∃ x : At, j < k → (∃ b o, ao = some ⟨b, o, none⟩ ∧ b < n₀ ∧ x.k = (j : Int) ∧ Sev w b (o + j * 7) x.i x.ao x.len x.cap) ∧ l[j]? = some x.i := by
    intro j
    by_cases hj : j < k
    · have hj' : j < l.length := by have := h.1; omega
      obtain ⟨b, o, e, _, h2, a', len', cap', h3, _⟩ := h.2.2 j hj'
      exact ⟨⟨j, l[j], a', len', cap'⟩, fun _ => ⟨⟨b, o, e, by omega, rfl, h3⟩, List.getElem?_eq_getElem hj'⟩⟩
    · exact ⟨⟨0, ⟨0, 0, 0, 0, 0, [], 0⟩, none, 0, 0⟩, fun h => absurd h hj⟩
  refine ⟨fun j => Classical.choose (hex j), fun j hj => (Classical.choose_spec (hex j) hj).1, fun j hj => (Classical.choose_spec (hex j) hj).2⟩

theorem dn_ins {A : Nat → At} {l : List Insn} {k : Nat} (h : ∀ j, j < k → l[j]? = some (A j).i) (hk : k ≤ l.length) : (dn A k k).map (·.i) = (l.take k).reverse := by
  apply List.ext_getElem?
  intro t
  by_cases ht : t < k
  · rw [List.getElem?_map, List.getElem?_reverse (by rw [List.length_take]; omega), List.length_take, Nat.min_eq_left hk, List.getElem?_take_of_lt (by omega), h (k - 1 - t) (by omega)]
    simp [dn, ht]
  · rw [List.getElem?_eq_none (by simp [dn]; omega), List.getElem?_eq_none (by simp; omega)]

attribute [local go_sem] Oper.semAt_some

set_option maxRecDepth 100000 in
set_option maxHeartbeats 4000000 in
theorem tryAround_in (L B : Nat) (p : Pc) (ao : Option Addr) (len cap k : Nat) (w : World) (hB : B ≤ w.heap.size) (hs : Iss L B w ao len p.Ins) (hl : len ≤ 1048576) (hk : k < len) (hcap : len ≤ cap) :
    Calls Try.prog 29 #[vP p ao len cap, .int .i64 k] w fun e w' => TryEnd (tryB 0 (p.Ins.take k).reverse) e ∧ Below w.heap.size w w' := by
  have HL : Hid (len = p.Ins.length) := hs.1
  obtain ⟨X, hX⟩ : ∃ X, X = ((w.alloc (.cells #[.int .i64 p.Lam, .int .i64 p.In, .int .i64 p.Regs, .slice ao len cap] 29)).alloc (.cells #[.int .i64 0, .int .i64 0, .int .i64 0, .int .i64 0, .int .i64 0, .slice none 0 0, .int .i64 0] 41)).alloc (.cells #[.bool false] 4) := ⟨_, rfl⟩
  have KP := hasPlace_any p ao len cap k X hs.1 hl
  have HX : Hid (X = _) := hX
  have hXs : X.heap.size = w.heap.size + 3 := by rw [hX]; simp
  have hXb : Below w.heap.size w X := by rw [hX]; exact (((Below.refl _ _).alloc (Nat.le_refl _) _).alloc (by simp) _).alloc (by simp; omega) _
  have x0 : X.heap[w.heap.size]? = some (.cells #[.int .i64 p.Lam, .int .i64 p.In, .int .i64 p.Regs, .slice ao len cap] 29 (0, 0)) := by
    rw [hX, Below.heap_alloc _ _ _ (by simp; omega), Below.heap_alloc _ _ _ (by simp)]; exact heap_new (by simp)
  have x1 : X.heap[w.heap.size + 1]? = some (.cells z7 41 (0, 0)) := by
    rw [hX, Below.heap_alloc _ _ _ (by simp)]; exact heap_new (by simp)
  have x2 : X.heap[w.heap.size + 1 + 1]? = some (.cells #[.bool false] 4 (0, 0)) := by
    rw [hX]; exact heap_new (by simp)
  have hpl : (decide (0 ≤ (k : Int)) && decide ((k : Int) < p.Ins.length)) = true := by have := HL.out; simp; omega
  rw [hpl] at KP
  clear hX hpl
  refine (callsIn_wide (n := 10)).1 ?_
  refine callsIn_of_wp_marks Try.func29 rfl trivial ?_ rfl
  simp only [Try.ntmps29, List.size_toArray, List.length_cons, List.length_nil, Nat.reduceAdd, Nat.reduceSub, Array.replicate_succ, Array.replicate_zero, List.push_toArray, List.append_toArray, List.nil_append, List.cons_append]
  gi_wp2_with fail
  rw [← HX.out]
  refine ⟨trivial, (callsIn_wide.2 KP).mono ?_⟩
  rintro e w1 ⟨rfl, hb1⟩
  clear KP
  have hz1 := hb1.size
  have hw1 : Below w.heap.size w w1 := hXb.trans (hb1.mono (by omega))
  obtain ⟨f0, f1, f2, f3⟩ := cells4 ((hb1.block _ (by omega)).trans x0)
  have hlt0 : 0 < p.Ins.length := by have := HL.out; omega
  obtain ⟨bl, o, rfl, _, hbB, _⟩ := hs.2.2 0 hlt0
  have hq1 : w.heap.size < w1.heap.size := by omega
  gi_wp2_with fail
  refine ⟨trivial, (back_in Fence.wide 9 trivial rfl _ _ _ _).mono ?_⟩
  rintro e w2 ⟨rfl, rfl⟩
  gi_wp2_with fail
  obtain ⟨W0, hW0⟩ : ∃ W0, (w1.alloc (.cells #[.int .i64 0] 3)).alloc (.cells #[.slice (some ⟨bl, o, none⟩) k cap] 27) = W0 := ⟨_, rfl⟩
  have bO : Boxed W0 w1.heap.size 3 (.int .i64 0) := by rw [← hW0]; exact (Boxed.new w1 _ _).alloc _
  have bS : W0.heap[w1.heap.size + 1]? = some (.cells #[.slice (some ⟨bl, o, none⟩) k cap] 27 (0, 0)) := by rw [← hW0]; exact heap_new (by simp)
  have hsz : W0.heap.size = w1.heap.size + 2 := by rw [← hW0]; simp
  have hB0 : Below w1.heap.size w1 W0 := by rw [← hW0]; exact ((Below.refl _ _).alloc (Nat.le_refl _) _).alloc (by simp) _
  have hBw : Below w.heap.size w W0 := hw1.trans (hB0.mono hw1.size)
  have bI : Blk W0 (w.heap.size + 1) 41 z7 := (hB0.block _ (by omega)).trans ((hb1.block _ (by omega)).trans x1)
  have bR : Boxed W0 (w.heap.size + 1 + 1) 4 (.bool false) := (hB0.block _ (by omega)).trans ((hb1.block _ (by omega)).trans x2)
  obtain ⟨A, hA, hAi⟩ := choose_at hs k w.heap.size (by omega) hB
  have HDN : Hid ((dn A k k).map (·.i) = (p.Ins.take k).reverse) := dn_ins hAi (by have := HL.out; omega)
  have hA0 := hA.below hBw
  rw [hW0]
  clear hW0 f0 f1 f2 f3 hA hAi
  refine wpIn_rangeFunc_ownH rfl (by omega) (gf := 47) (lb := #[.pointer (some ⟨w1.heap.size + 1, 0, none⟩)]) rfl trivial (enters_of Try.func47 (by kernel_rfl) rfl)
    (back_stops Fence.wide 9 trivial rfl (by omega) (w1.heap.size + 1) w.heap.size k cap _ A (by omega) W0 (by omega) bS hA0) KpB.trans (fun W l o o' hl h ho _ => KpB.put (by omega) W l o o' hl h ho) (Below.refl _ _) (fun _ => rfl)
    (fun pre W => (((foldB 0 (pre.map (·.i)) = some (ovA pre) ∧ Boxed W w1.heap.size 3 (.int .i64 (ovA pre))) ∧ Blk W (w.heap.size + 1) 41 z7) ∧ Boxed W (w.heap.size + 1 + 1) 4 (.bool false)) ∧ Below w.heap.size w W)
    (fun c pre W => (((c = .ret ∧ ∃ pre0 x, pre = pre0 ++ [x] ∧ foldB 0 (pre0.map (·.i)) = some 0 ∧ stepB x.i 0 = none) ∧ Blk W (w.heap.size + 1) 41 (lastC pre)) ∧ Boxed W (w.heap.size + 1 + 1) 4 (.bool true)) ∧ Below w.heap.size w W)
    (OwnFrom.and (OwnFrom.and (OwnFrom.and (OwnFrom.and (ownFrom_pure _ _) (Own.from (boxed_own _ _ _) _)) (Own.from (blk_own _ _ _) _)) (Own.from (boxed_own _ _ _) _)) (ownFrom_below (Nat.le_refl _) (by omega)))
    (fun c => OwnFrom.and (OwnFrom.and (OwnFrom.and (ownFrom_pure _ _) (Own.from (blk_own _ _ _) _)) (Own.from (boxed_own _ _ _) _)) (ownFrom_below (Nat.le_refl _) (by omega)))
    ⟨⟨⟨⟨rfl, bO⟩, bI⟩, bR⟩, hBw⟩
    (fun x a' W => ∃ Bx, w1.heap.size < Bx ∧ Blk W Bx 41 (c7 x) ∧ a' = { tmps := #[vP p (some ⟨bl, o, none⟩) len cap, .int .i64 k, .pointer (some ⟨w.heap.size, 0, none⟩), undef, .pointer (some ⟨w.heap.size + 1, 0, none⟩), .pointer (some ⟨w.heap.size + 1 + 1, 0, none⟩), .pointer (some ⟨w1.heap.size, 0, none⟩), undef, .pointer (some ⟨Bx, 0, none⟩), .agg #[.int .i64 p.Lam, .int .i64 p.In, .int .i64 p.Regs, .slice (some ⟨bl, o, none⟩) len cap], .int .i64 k, .bool true, .bool false, undef, .pointer (some ⟨w.heap.size, 3, none⟩), .slice (some ⟨bl, o, none⟩) len cap, .int .i64 k, .slice (some ⟨bl, o, none⟩) k cap, .func (.func 47) #[] #[.pointer (some ⟨w1.heap.size + 1, 0, none⟩)], .int .i64 x.k, vI x.i x.ao x.len x.cap, undef, undef, undef, undef, undef, undef, undef, undef, undef, undef, undef, undef, undef, undef, undef, undef, undef, undef, undef, undef, undef, undef], defers := [] })
    (fun x a' _ X Y row hs hg hr => by obtain ⟨Bx, e1, e2, e3⟩ := hs; exact ⟨Bx, e1, blk_own Bx _ (fun (_ : Unit) => c7 x) () X Y row e2 hg (fun r e => (hr r e).2), e3⟩)
    ?assign ?body ?done ?stop
  case assign =>
    rintro l pre x W K ⟨⟨⟨⟨hfo, b1⟩, b2⟩, b3⟩, hB1⟩ hK
    unfold encA
    gi_wp2
    have hBW := hB1.size
    have bl1 := b1.lt
    exact hK _ _ ((KeepsOthers.alloc _ _).from _) ⟨(Below.refl _ W).alloc hBW _, fun c t fr hc => (Below.heap_alloc _ _ _ (Array.getElem?_eq_some_iff.1 hc).1).trans hc⟩ ⟨⟨⟨⟨hfo, b1.alloc _⟩, b2.alloc _⟩, b3.alloc _⟩, hB1.alloc hBW _⟩ ⟨W.heap.size, by omega, heap_new rfl, rfl⟩
  case body =>
    rintro l pre x a' W hl ⟨r, hr⟩ ⟨⟨⟨⟨hfo, b1⟩, b2⟩, b3⟩, hB1⟩ ⟨Bx, hBx, bX, rfl⟩ hlt
    have cO := b1.cell
    have fO := b1.frozen
    obtain ⟨g0, g1, g2, g3, g4, g5, g6⟩ := cells7 (show W.heap[Bx]? = _ from bX)
    have HF : Hid (foldB 0 (pre.map (·.i)) = some (ovA pre)) := hfo
    have hov : ovA pre ≤ 1048576 := by have := foldB_le _ _ _ hfo; rw [List.length_map] at this; omega
    have hsn : ∀ y, stepB x.i (ovA pre) = some y → foldB 0 ((pre ++ [x]).map (·.i)) = some (ovA (pre ++ [x])) ∧ ovA (pre ++ [x]) = y := fun y hy => by
      have e : foldB 0 ((pre ++ [x]).map (·.i)) = some y := by rw [List.map_append, List.map_singleton, foldB_snoc, hfo, Option.bind_some, hy]
      have e2 : ovA (pre ++ [x]) = y := by unfold ovA; rw [e]; rfl
      exact ⟨by rw [e2]; exact e, e2⟩
    have HSN : Hid (∀ y, stepB x.i (ovA pre) = some y → _) := hsn
    have HST : Hid (stepB x.i (ovA pre) = if x.i.Op == 18 then some (ovA pre + 1) else if x.i.Op == 17 then (if ovA pre = 0 then none else some (ovA pre - 1)) else some (ovA pre)) := rfl
    generalize ovA pre = o at *
    have hne1 : w.heap.size + 1 ≠ w1.heap.size := by omega
    have hne2 : w.heap.size + 1 + 1 ≠ w1.heap.size := by omega
    have hle1 : w.heap.size ≤ w1.heap.size := by omega
    clear hfo hsn hs hA0 bO bS bI bR hBw hB0 hsz x0 x1 x2 hb1 hXb hXs
    have goes : ∀ (v : Int) (y : Nat), stepB x.i o = some y → v = (y : Int) → KeepsFrom W0.heap.size W (W.setCell ⟨w1.heap.size, 0, none⟩ (.int .i64 v)) ∧ KpB w.heap.size (w1.heap.size + 1) W (W.setCell ⟨w1.heap.size, 0, none⟩ (.int .i64 v)) ∧
        (((foldB 0 ((pre ++ [x]).map (·.i)) = some (ovA (pre ++ [x])) ∧ Boxed (W.setCell ⟨w1.heap.size, 0, none⟩ (.int .i64 v)) w1.heap.size 3 (.int .i64 (ovA (pre ++ [x])))) ∧ Blk (W.setCell ⟨w1.heap.size, 0, none⟩ (.int .i64 v)) (w.heap.size + 1) 41 z7) ∧ Boxed (W.setCell ⟨w1.heap.size, 0, none⟩ (.int .i64 v)) (w.heap.size + 1 + 1) 4 (.bool false)) ∧ Below w.heap.size w (W.setCell ⟨w1.heap.size, 0, none⟩ (.int .i64 v)) := by
      intro v y hy hv
      obtain ⟨q1, q2⟩ := HSN.out y hy
      refine ⟨(KeepsOthers.setCell _ _ _).from _, ⟨(Below.refl _ W).setCell (p := ⟨w1.heap.size, 0, none⟩) hle1 _, fun c t fr hc => (row_other _ _ _ (by omega)).trans hc⟩, ⟨⟨⟨q1, ?_⟩, b2.set 0 _ hne1⟩, b3.other hne2 _⟩, hB1.setCell (p := ⟨w1.heap.size, 0, none⟩) hle1 _⟩
      rw [q2, ← hv]
      exact b1.set _
    have GOES : Hid (∀ (v : Int) (y : Nat), stepB x.i o = some y → v = (y : Int) → _) := goes
    clear goes
    by_cases h18 : x.i.Op = 18
    · have hb18 : (x.i.Op == 18) = true := by rw [h18]; rfl
      have hy : stepB x.i o = some (o + 1) := by rw [HST.out, hb18]; rfl
      have HY : Hid (stepB x.i o = some (o + 1)) := hy
      clear hb18 hy
      gi_wp2_with fail
      exact GOES.out _ _ HY.out (by omega)
    · have hb18 : (x.i.Op == 18) = false := beq_eq_false_iff_ne.2 h18
      by_cases h17 : x.i.Op = 17
      · have hb17 : (x.i.Op == 17) = true := by rw [h17]; rfl
        by_cases ho : o = 0
        · subst ho
          have HY : Hid (stepB x.i 0 = none) := by show _ = _; rw [HST.out, hb18, hb17]; rfl
          obtain ⟨r0, r1, r2, r3, r4, r5, r6⟩ := cells7 (show W.heap[w.heap.size + 1]? = some (.cells #[.int .i64 0, .int .i64 0, .int .i64 0, .int .i64 0, .int .i64 0, .slice none 0 0, .int .i64 0] 41 (0, 0)) from b2)
          have rf := row_free (show W.heap[w.heap.size + 1]? = _ from b2)
          have cR := b3.cell
          have fR := b3.frozen
          have RW := ret_world (by omega) b2 rfl b3 (by omega) (by omega) hB1 (c7 x) rfl true
          have HRW : Hid (∀ Z, Z = _ → _) := RW
          clear h17 RW
          gi_wp2_with fail
          obtain ⟨r1, r2, r3, r4⟩ := HRW.out _ rfl
          exact ⟨r1.from _, ⟨⟨⟨rfl, pre, x, rfl, HF.out, HY.out⟩, by rw [show lastC (pre ++ [x]) = c7 x by simp [lastC]]; exact r2⟩, r3⟩, r4⟩
        · have HY : Hid (stepB x.i o = some (o - 1)) := by show _ = _; rw [HST.out, hb18, hb17, if_neg (by simp), if_pos rfl, if_neg ho]
          have ho1 : 0 < o := by omega
          clear hb18 hb17 ho
          gi_wp2_with fail
          exact GOES.out _ _ HY.out (by omega)
      · have hb17 : (x.i.Op == 17) = false := beq_eq_false_iff_ne.2 h17
        have HY : Hid (stepB x.i o = some o) := by show _ = _; rw [HST.out, hb18, hb17]; rfl
        gi_wp2_with fail
        obtain ⟨q1, q2⟩ := HSN.out o HY.out
        exact ⟨KeepsFrom.refl _ _, KpB.refl _ _ _, ⟨⟨⟨q1, by rw [q2]; exact b1⟩, b2⟩, b3⟩, hB1⟩
  case done =>
    rintro D zs W hD rfl ⟨⟨⟨⟨hfo, b1⟩, b2⟩, b3⟩, hB1⟩ hK
    have HT : Hid (tryB 0 (p.Ins.take k).reverse = none) := by show _ = _; rw [← HDN.out]; exact tryB_none _ _ _ hfo
    obtain ⟨r0, r1, r2, r3, r4, r5, r6⟩ := cells7 (show W.heap[w.heap.size + 1]? = some (.cells #[.int .i64 0, .int .i64 0, .int .i64 0, .int .i64 0, .int .i64 0, .slice none 0 0, .int .i64 0] 41 (0, 0)) from b2)
    have rf := row_free (show W.heap[w.heap.size + 1]? = _ from b2)
    have cR := b3.cell
    have fR := b3.frozen
    have RW := ret_world (by omega) b2 rfl b3 (by omega) (by omega) hB1 z7 rfl false
    have HRW : Hid (∀ Z, Z = _ → _) := RW
    have HK : Hid (W.heap[D]? = some (.deferred (some []))) := hK
    clear RW
    gi_wp2_with fail
    obtain ⟨Z, hZ⟩ : ∃ Z, Z = (((((((W.setCell ⟨w.heap.size + 1, 0, none⟩ (.int .i64 0)).setCell ⟨w.heap.size + 1, 1, none⟩ (.int .i64 0)).setCell ⟨w.heap.size + 1, 2, none⟩ (.int .i64 0)).setCell ⟨w.heap.size + 1, 3, none⟩ (.int .i64 0)).setCell ⟨w.heap.size + 1, 4, none⟩ (.int .i64 0)).setCell ⟨w.heap.size + 1, 5, none⟩ (.slice none 0 0)).setCell ⟨w.heap.size + 1, 6, none⟩ (.int .i64 0)).setCell ⟨w.heap.size + 1 + 1, 0, none⟩ (.bool false) := ⟨_, rfl⟩
    obtain ⟨t1, t2, t3, t4⟩ := HRW.out Z hZ
    have hKZ := t1.same D _ HK.out rfl
    rw [← hZ]
    clear hZ
    refine ⟨by simp, .inl ⟨_, _, rfl, run_takeDeferred hKZ, ?_⟩⟩
    obtain ⟨s0, s1, s2, s3, s4, s5, s6⟩ := cells7 (show (Z.putObj D (.deferred none)).heap[w.heap.size + 1]? = some (.cells #[.int .i64 0, .int .i64 0, .int .i64 0, .int .i64 0, .int .i64 0, .slice none 0 0, .int .i64 0] 41 (0, 0)) from Blk.put t2 hKZ rfl _)
    have s7 := row_cell (show (Z.putObj D (.deferred none)).heap[w.heap.size + 1 + 1]? = some (.cells #[.bool false] 4 (0, 0)) from Blk.put (show Blk Z _ _ _ from t3) hKZ rfl _) 0
    refine ⟨.tuple #[.agg #[.int .i64 0, .int .i64 0, .int .i64 0, .int .i64 0, .int .i64 0, .slice none 0 0, .int .i64 0], .bool false], by simp [results, Try.results29, go_sem, s0, s1, s2, s3, s4, s5, s6, s7], ?_, t4.trans (KpB.put (Bs := 0) (show w.heap.size ≤ W0.heap.size by omega) Z D _ _ hD hKZ rfl).bel⟩
    rw [HT.out]
    exact rfl
  case stop =>
    rintro D c pre W hD hpre ⟨⟨⟨⟨rfl, pre0, x, rfl, hf0, hst⟩, b2⟩, b3⟩, hB1⟩ hK
    have HT : Hid (tryB 0 (p.Ins.take k).reverse = some x.i) := by
      show _ = _
      obtain ⟨rest, hr⟩ := hpre
      rw [← HDN.out, ← hr, List.append_assoc, List.map_append, List.map_append, List.map_singleton]
      exact tryB_found _ _ _ _ _ hf0 hst
    rw [show lastC (pre0 ++ [x]) = c7 x by simp [lastC]] at b2
    gi_wp2_with fail
    have t2 := b2
    have t3 := b3
    have t4 := hB1
    have hKZ := hK
    refine ⟨by simp, .inl ⟨_, _, rfl, run_takeDeferred hKZ, ?_⟩⟩
    obtain ⟨s0, s1, s2, s3, s4, s5, s6⟩ := cells7 (show (W.putObj D (.deferred none)).heap[w.heap.size + 1]? = some (.cells #[.int .i64 x.i.Op, .int .i64 x.i.D, .int .i64 x.i.X, .int .i64 x.i.Y, .int .i64 x.i.N, .slice x.ao x.len x.cap, .int .i64 x.i.To] 41 (0, 0)) from Blk.put t2 hKZ rfl _)
    have s7 := row_cell (show (W.putObj D (.deferred none)).heap[w.heap.size + 1 + 1]? = some (.cells #[.bool true] 4 (0, 0)) from Blk.put (show Blk W _ _ _ from t3) hKZ rfl _) 0
    refine ⟨.tuple #[.agg #[.int .i64 x.i.Op, .int .i64 x.i.D, .int .i64 x.i.X, .int .i64 x.i.Y, .int .i64 x.i.N, .slice x.ao x.len x.cap, .int .i64 x.i.To], .bool true], by simp [results, Try.results29, go_sem, s0, s1, s2, s3, s4, s5, s6, s7], ?_, t4.trans (KpB.put (Bs := 0) (show w.heap.size ≤ W0.heap.size by omega) W D _ _ hD hKZ rfl).bel⟩
    rw [HT.out]
    exact ⟨_, _, _, rfl⟩

end Go.Proofs.Ytchdmpipfmedaaa
