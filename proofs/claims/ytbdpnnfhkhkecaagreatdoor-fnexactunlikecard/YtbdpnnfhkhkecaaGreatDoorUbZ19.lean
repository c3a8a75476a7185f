/-
  'copyHead', 'copyTerm' of the program: the same term in memory of its own.
-/
import Derived.Test.YtbdpnnfhkhkecaaGreatDoorUbZ18
import Derived.Test.YtbdpnnfhkhkecaaGreatDoorUbZ8
import Derived.Test.YtbdpnnfhkhkecaaGreatDoorUbZ6
namespace Go.Proofs.YtbdpnnfhkhkecaaGreatDoor
open Go.RowKit
set_option linter.unusedVariables false
set_option linter.unusedSimpArgs false

set_option maxRecDepth 100000 in
set_option maxHeartbeats 2000000 in
theorem copyHead_any (D d L B : Nat) (t : Tm) (a1 : Option Addr) (l1 c1 : Nat) (a2 : Option Addr) (l2 c2 : Nat) (a3 : Option Addr) (l3 c3 : Nat) (w : World) (hB : B ≤ w.heap.size) (hf : Fm L B w D d t a1 l1 a2 l2 a3 l3) (hc : cntM t ≤ 1048576) :
    Calls Tryz.prog 62 #[.agg #[.int .i64 t.K, .int .i64 t.N, .string t.S, .string t.Z, .int .i64 t.T.K, .int .i64 t.T.N, .slice a1 l1 c1, .slice a2 l2 c2, .slice a3 l3 c3]] w fun e w' => ∃ b1 m1 e1 b2 e2 M, e = .returned (.agg #[.int .i64 t.K, .int .i64 t.N, .string t.S, .string t.Z, .int .i64 t.T.K, .int .i64 t.T.N, .slice b1 m1 e1, .slice b2 l2 e2, .slice none 0 0]) ∧ Below w.heap.size w w' ∧ w.heap.size ≤ M ∧ M ≤ w'.heap.size ∧ OwR w.heap.size M w' (D + 1) b1 m1 t.T.A ∧ OwR M w'.heap.size w' (D + 1) b2 l2 t.Ts := by
  have hce := cntM_eq t
  unfold ownM at hce
  have hcT : cntS t.T.A ≤ 1048576 := by omega
  have hcS : cntS t.Ts ≤ 1048576 := by omega
  have hl2 : l2 ≤ 1048576 := by have := hf.t2.len.1; have := cntS_eq t.Ts; omega
  obtain ⟨X, hX⟩ : ∃ X, X = ((w.alloc (.cells #[.int .i64 t.K, .int .i64 t.N, .string t.S, .string t.Z, .int .i64 t.T.K, .int .i64 t.T.N, .slice a1 l1 c1, .slice a2 l2 c2, .slice a3 l3 c3] 34)).alloc (.cells #[.int .i64 0, .int .i64 0, .string ⟨#[]⟩, .string ⟨#[]⟩, .int .i64 0, .int .i64 0, .slice none 0 0, .slice none 0 0, .slice none 0 0] 34)) := ⟨_, rfl⟩
  have hXs : X.heap.size = w.heap.size + 2 := by rw [hX]; simp
  have hXb : Below w.heap.size w X := by rw [hX]; exact ((Below.refl _ _).alloc (Nat.le_refl _) _).alloc (by simp) _
  have hX0 : X.heap[w.heap.size]? = some (.cells #[.int .i64 t.K, .int .i64 t.N, .string t.S, .string t.Z, .int .i64 t.T.K, .int .i64 t.T.N, .slice a1 l1 c1, .slice a2 l2 c2, .slice a3 l3 c3] 34 (0, 0)) := by rw [hX, Below.heap_alloc _ _ _ (by simp)]; exact heap_new rfl
  have hX1 : X.heap[w.heap.size + 1]? = some (.cells #[.int .i64 0, .int .i64 0, .string ⟨#[]⟩, .string ⟨#[]⟩, .int .i64 0, .int .i64 0, .slice none 0 0, .slice none 0 0, .slice none 0 0] 34 (0, 0)) := by rw [hX]; exact heap_new (by simp)
  have hfX : Fm L B X.drew D d t a1 l1 a2 l2 a3 l3 := Fm.drew (Fm.below hXb hB hf)
  have hs1 : Hs L B X.drew D a1 l1 t.T.A := hfX.t1
  have HX : Hid (X = _) := hX
  have H2 : Hid (∀ w1, Below X.drew.heap.size X.drew w1 → B ≤ w1.heap.size ∧ Hs L B w1 (D + 1) a2 l2 t.Ts ∧ MapCall0 w1 L B D D t.Ts t.Ts) := fun w1 hb1 => by
    have hz : X.heap.size ≤ w1.heap.size := hb1.size
    refine ⟨by omega, (hfX.t2.below hb1 (show B ≤ X.heap.size by omega)).deeper (by omega), fun i hi hr ao1 len1 cap1 w' hb' hs' => ?_⟩
    have hq := cntS_get t.Ts i hi
    exact copy_any D L B _ _ _ _ _ _ _ (by have := hb'.size; omega) hs' (by omega)
  have hlt0 : w.heap.size < X.heap.size := by omega
  have hlt1 : w.heap.size + 1 < X.heap.size := by omega
  have HXS : Hid (X.heap.size = w.heap.size + 2) := hXs
  have HXB : Hid (Below w.heap.size w X) := hXb
  have hBX : B ≤ X.heap.size := by omega
  obtain ⟨p0, p1, p2, p3, p4, p5, p6, p7, p8⟩ := Nine.box (w := X.drew) hX0
  clear hX hce hXs hfX hf hXb
  go_enter Tryz.func62, Tryz.ntmps62
  go_wp2_with fail
  rw [← HX.out]
  go_region_held3 (fun w' => w'.cell? ⟨w.heap.size, 0, none⟩ = some (.int .i64 t.K) ∧ w'.cell? ⟨w.heap.size, 1, none⟩ = some (.int .i64 t.N) ∧ w'.cell? ⟨w.heap.size, 2, none⟩ = some (.string t.S) ∧ w'.cell? ⟨w.heap.size, 3, none⟩ = some (.string t.Z) ∧ w'.cell? ⟨w.heap.size, 4, none⟩ = some (.int .i64 t.T.K) ∧ w'.cell? ⟨w.heap.size, 5, none⟩ = some (.int .i64 t.T.N) ∧ w'.cell? ⟨w.heap.size, 6, none⟩ = some (.slice a1 l1 c1) ∧ w'.cell? ⟨w.heap.size, 7, none⟩ = some (.slice a2 l2 c2))
    (first | (refine ⟨?_, ?_, ?_, ?_, ?_, ?_, ?_, ?_⟩; with_reducible exact u0; with_reducible exact u1; with_reducible exact u2; with_reducible exact u3; with_reducible exact u4; with_reducible exact u5; with_reducible exact u6; with_reducible exact u7) | (refine ⟨?_, ?_, ?_, ?_, ?_, ?_, ?_, ?_⟩; with_reducible exact z0; with_reducible exact z1; with_reducible exact z2; with_reducible exact z3; with_reducible exact z4; with_reducible exact z5; with_reducible exact z6; with_reducible exact z7) | (refine ⟨?_, ?_, ?_, ?_, ?_, ?_, ?_, ?_⟩; with_reducible exact p0; with_reducible exact p1; with_reducible exact p2; with_reducible exact p3; with_reducible exact p4; with_reducible exact p5; with_reducible exact p6; with_reducible exact p7) | (refine ⟨?_, ?_, ?_, ?_, ?_, ?_, ?_, ?_⟩ <;> simp [World.cell?_setCell_other, u0, u1, u2, u3, u4, u5, u6, u7]))
    (first
      | (go_at_call 93; refine (mapTys0_any L B D D _ _ _ t.Ts t.Ts w1 hBw hs2 hl2 rfl hmc).mono ?_; rintro e w2 ⟨b2, e2, rfl, hb2, ho2⟩; have hlu : w.heap.size < w1.heap.size := Nat.lt_of_lt_of_le hlt0 hb1.size; have hlv : w.heap.size + 1 < w1.heap.size := Nat.lt_of_lt_of_le hlt1 hb1.size; have u0 := (bcell hb2 hlu 0).trans z0; have u1 := (bcell hb2 hlu 1).trans z1; have u2 := (bcell hb2 hlu 2).trans z2; have u3 := (bcell hb2 hlu 3).trans z3; have u4 := (bcell hb2 hlu 4).trans z4; have u5 := (bcell hb2 hlu 5).trans z5; have u6 := (bcell hb2 hlu 6).trans z6; have u7 := (bcell hb2 hlu 7).trans z7; have hY := (hb2.block (w.heap.size + 1) hlv).trans hY1; obtain ⟨y0, y1, y2, y3, y4, y5, y6, y7, y8⟩ := Nine.box hY; have yf := row_free hY)
      | (go_at_call 92; refine (copy_any D L B _ _ _ _ _ t.T.A X.drew hBX hs1 hcT).mono ?_; rintro e w1 ⟨b1, m1, e1, rfl, hb1, ho1⟩; have z0 := (bcell hb1 hlt0 0).trans p0; have z1 := (bcell hb1 hlt0 1).trans p1; have z2 := (bcell hb1 hlt0 2).trans p2; have z3 := (bcell hb1 hlt0 3).trans p3; have z4 := (bcell hb1 hlt0 4).trans p4; have z5 := (bcell hb1 hlt0 5).trans p5; have z6 := (bcell hb1 hlt0 6).trans p6; have z7 := (bcell hb1 hlt0 7).trans p7; have hY1 := (hb1.block (w.heap.size + 1) hlt1).trans hX1; obtain ⟨hBw, hs2, hmc⟩ := H2.out w1 hb1))
  all_goals
    have hXs := HXS.out
    have hz1 : X.heap.size ≤ w1.heap.size := hb1.size
    have hz2 := hb2.size
    have hbw : Below w.heap.size w w2 := (HXB.out.drew.trans (hb1.mono (show w.heap.size ≤ X.heap.size by omega))).trans (hb2.mono (by omega))
    go_wp2_with fail
    obtain ⟨Y, hYe⟩ : ∃ Y, Y = set9 w2 (w.heap.size + 1) 0 (.int .i64 t.K) (.int .i64 t.N) (.string t.S) (.string t.Z) (.int .i64 t.T.K) (.int .i64 t.T.N) (.slice b1 m1 e1) (.slice b2 l2 e2) (.slice none 0 0) := ⟨_, rfl⟩
    have hYb : Below w.heap.size w Y := by rw [hYe]; exact set9_below hbw (by omega)
    have hYs : Y.heap.size = w2.heap.size := by rw [hYe]; exact set9_size _ _ _ _ _ _ _ _ _ _ _ _
    have hYo : ∀ j, j ≠ w.heap.size + 1 → Y.heap[j]? = w2.heap[j]? := fun j hj => by rw [hYe]; exact set9_other j hj
    refine bodyPost_ret (v := .agg #[.int .i64 t.K, .int .i64 t.N, .string t.S, .string t.Z, .int .i64 t.T.K, .int .i64 t.T.N, .slice b1 m1 e1, .slice b2 l2 e2, .slice none 0 0]) (by simp [results, Tryz.results62, go_sem, y0, y1, y2, y3, y4, y5, y6, y7, y8]) rfl ?_
    have hfin : ∃ b1' m1' e1' b2' e2' M, Ending.returned (.agg #[.int .i64 t.K, .int .i64 t.N, .string t.S, .string t.Z, .int .i64 t.T.K, .int .i64 t.T.N, .slice b1 m1 e1, .slice b2 l2 e2, .slice none 0 0]) = .returned (.agg #[.int .i64 t.K, .int .i64 t.N, .string t.S, .string t.Z, .int .i64 t.T.K, .int .i64 t.T.N, .slice b1' m1' e1', .slice b2' l2 e2', .slice none 0 0]) ∧ Below w.heap.size w Y ∧ w.heap.size ≤ M ∧ M ≤ Y.heap.size ∧ OwR w.heap.size M Y (D + 1) b1' m1' t.T.A ∧ OwR M Y.heap.size Y (D + 1) b2' l2 t.Ts := by
      refine ⟨b1, m1, e1, b2, e2, w1.heap.size, rfl, hYb, by omega, by omega, ?_, ?_⟩
      · exact ho1.one (by omega) (fun k hk1 hk2 => by have hk3 : X.heap.size ≤ k := hk1; exact (hYo k (by omega)).trans (hb2.block k hk2)) (show w.heap.size ≤ X.heap.size by omega) (Nat.le_refl _)
      · exact ho2.one (Nat.le_refl _) (fun k hk1 hk2 => hYo k (by omega)) (Nat.le_refl _) (by omega)
    rw [hYe] at hfin
    exact hfin

end Go.Proofs.YtbdpnnfhkhkecaaGreatDoor

/-
  The binders of a term, and all terms within it, in plain words; what a call leaves that changes no block but a few of its own.
-/
namespace Go.Proofs.YtbdpnnfhkhkecaaGreatDoor
open Go.RowKit
set_option linter.unusedVariables false
set_option linter.unusedSimpArgs false

/-- The names that a term binds itself. -/
def ownB (t : Tm) : List (List UInt8) := if t.K = 4 ∨ t.K = 6 ∨ t.K = 7 ∨ t.K = 17 then [bs t.S] else if t.K = 14 then [bs t.S, bs t.Z] else []

/-- The names of all binders, from the front. -/
def bndW (t : Tm) : List (List UInt8) := ((allW t).map ownB).flatten
def bndT (t : Tm) : List (List UInt8) := if okM t = true then bndW t else []

theorem ownB_len (t : Tm) : (ownB t).length ≤ 2 := by
  unfold ownB
  split
  · simp
  · split <;> simp

theorem binds_len : ∀ (l : List Tm), ((l.map ownB).flatten).length ≤ 2 * l.length := by
  intro l
  induction l with
  | nil => simp
  | cons t l ih =>
    have := ownB_len t
    simp only [List.map_cons, List.flatten_cons, List.length_append, List.length_cons]
    omega

theorem bndT_len (t : Tm) : (bndT t).length ≤ 300 := by
  unfold bndT
  split
  · rename_i h
    obtain ⟨m, hm, h6⟩ := okM_some h
    have h1 := allW_len 24 t m hm
    have h2 := binds_len (allW t)
    unfold bndW
    omega
  · simp

end Go.Proofs.YtbdpnnfhkhkecaaGreatDoor

/-
  'namesIn', 'namesBy' of the program: the names that a term binds. (Written by mkbn1.py.)
-/
namespace Go.Proofs.YtbdpnnfhkhkecaaGreatDoor
open Go.RowKit
set_option linter.unusedVariables false
set_option linter.unusedSimpArgs false

/-- A row of names that is told: none, or a block of its own. -/
def NmE (w w' : World) (e : Ending) (N : List (List UInt8)) : Prop := ∃ xo c, e = .returned (.slice xo N.length c) ∧ Below w.heap.size w w' ∧ (0 < N.length → ∃ sb, xo = some ⟨sb, 0, none⟩ ∧ w.heap.size ≤ sb ∧ w'.heap[sb]? = some (.cells (N.map tk).toArray 9 (0, 0)))
theorem NmE.of_lit {w w' : World} {e : Ending} {N : List (List UInt8)} (h : LitE w w' e N) : NmE w w' e N := by
  obtain ⟨g, h1, h2, h3, h4⟩ := h
  exact ⟨_, _, h1, h2, fun _ => ⟨g, rfl, h3, h4⟩⟩
theorem nm_0 (w : World) (o : Obj) : NmE w (w.alloc o) (.returned (.slice none 0 0)) [] :=
  ⟨none, 0, rfl, (Below.refl _ _).alloc (Nat.le_refl _) _, fun h => by simp at h⟩

/-- The names that a term binds in its i-th part. -/
def nmI (k : Int) (s z : List UInt8) (i : Int) : List (List UInt8) := if k = 4 ∨ k = 7 ∨ (k = 6 ∧ i = 1) ∨ (k = 17 ∧ i = 1) then [s] else if k = 14 ∧ i = 2 then [s, z] else []

theorem nmI_own {t : Tm} (hn : nodeM t = true) : nmI t.K (bs t.S) (bs t.Z) ((t.A.length : Int) - 1) = ownB t := by
  obtain ⟨_, _, hl⟩ := nodeM_kinds hn
  unfold nmI ownB
  by_cases h4 : t.K = 4
  · simp [h4]
  by_cases h7 : t.K = 7
  · simp [h7]
  by_cases h6 : t.K = 6
  · rw [h6] at hl ⊢
    have : (t.A.length : Int) = 2 := hl
    simp [this]
  by_cases h17 : t.K = 17
  · rw [h17] at hl ⊢
    have : (t.A.length : Int) = 2 := hl
    simp [this]
  by_cases h14 : t.K = 14
  · rw [h14] at hl ⊢
    have : (t.A.length : Int) = 3 := hl
    simp [this]
  simp [h4, h7, h6, h17, h14]

set_option maxRecDepth 100000 in
set_option maxHeartbeats 2000000 in
theorem namesIn_any (t : Tm) (a1 : Option Addr) (l1 c1 : Nat) (a2 : Option Addr) (l2 c2 : Nat) (a3 : Option Addr) (l3 c3 : Nat) (i : Int) (w : World) :
    Calls Tryz.prog 64 #[.agg #[.int .i64 t.K, .int .i64 t.N, .string t.S, .string t.Z, .int .i64 t.T.K, .int .i64 t.T.N, .slice a1 l1 c1, .slice a2 l2 c2, .slice a3 l3 c3], .int .i64 i] w fun e w' => NmE w w' e (nmI t.K (bs t.S) (bs t.Z) i) := by
  by_cases h4 : t.K = 4
  · have HN : Hid (nmI t.K (bs t.S) (bs t.Z) i = [bs t.S]) := by show _ = _; simp [nmI, h4]
    rw [HN.out]
    go_enter Tryz.func64, Tryz.ntmps64
    go_wp2_with fail
    go_ret
    exact (NmE.of_lit (lit_1 _ _ _))
  by_cases h7 : t.K = 7
  · have HN : Hid (nmI t.K (bs t.S) (bs t.Z) i = [bs t.S]) := by show _ = _; simp [nmI, h7]
    rw [HN.out]
    go_enter Tryz.func64, Tryz.ntmps64
    go_wp2_with fail
    go_ret
    exact (NmE.of_lit (lit_1 _ _ _))
  by_cases h6 : t.K = 6
  · by_cases hi1 : i = 1
    · have HN : Hid (nmI t.K (bs t.S) (bs t.Z) i = [bs t.S]) := by show _ = _; simp [nmI, h6, hi1]
      have bi : (i == 1) = true := by simp [hi1]
      clear hi1
      rw [HN.out]
      go_enter Tryz.func64, Tryz.ntmps64
      go_wp2_with fail
      go_ret
      exact (NmE.of_lit (lit_1 _ _ _))
    · have HN : Hid (nmI t.K (bs t.S) (bs t.Z) i = []) := by show _ = _; simp [nmI, h6, hi1]
      have bi : (i == 1) = false := by rw [beq_eq_false_iff_ne]; exact hi1
      clear hi1
      rw [HN.out]
      go_enter Tryz.func64, Tryz.ntmps64
      go_wp2_with fail
      go_ret
      exact (nm_0 _ _)
  by_cases h17 : t.K = 17
  · by_cases hi1 : i = 1
    · have HN : Hid (nmI t.K (bs t.S) (bs t.Z) i = [bs t.S]) := by show _ = _; simp [nmI, h17, hi1]
      have bi : (i == 1) = true := by simp [hi1]
      clear hi1
      rw [HN.out]
      go_enter Tryz.func64, Tryz.ntmps64
      go_wp2_with fail
      go_ret
      exact (NmE.of_lit (lit_1 _ _ _))
    · have HN : Hid (nmI t.K (bs t.S) (bs t.Z) i = []) := by show _ = _; simp [nmI, h17, hi1]
      have bi : (i == 1) = false := by rw [beq_eq_false_iff_ne]; exact hi1
      clear hi1
      rw [HN.out]
      go_enter Tryz.func64, Tryz.ntmps64
      go_wp2_with fail
      go_ret
      exact (nm_0 _ _)
  by_cases h14 : t.K = 14
  · by_cases hi2 : i = 2
    · have HN : Hid (nmI t.K (bs t.S) (bs t.Z) i = [bs t.S, bs t.Z]) := by show _ = _; simp [nmI, h14, hi2]
      have bi : (i == 2) = true := by simp [hi2]
      clear hi2
      rw [HN.out]
      go_enter Tryz.func64, Tryz.ntmps64
      go_wp2_with fail
      go_ret
      exact (NmE.of_lit (lit_2 _ _ _ _))
    · have HN : Hid (nmI t.K (bs t.S) (bs t.Z) i = []) := by show _ = _; simp [nmI, h14, hi2]
      have bi : (i == 2) = false := by rw [beq_eq_false_iff_ne]; exact hi2
      clear hi2
      rw [HN.out]
      go_enter Tryz.func64, Tryz.ntmps64
      go_wp2_with fail
      go_ret
      exact (nm_0 _ _)
  have HN : Hid (nmI t.K (bs t.S) (bs t.Z) i = []) := by show _ = _; simp [nmI, h4, h7, h6, h17, h14]
  have b4 : (t.K == 4) = false := by simp [h4]
  have b7 : (t.K == 7) = false := by simp [h7]
  have b6 : (t.K == 6) = false := by simp [h6]
  have b17 : (t.K == 17) = false := by simp [h17]
  have b14 : (t.K == 14) = false := by simp [h14]
  clear h4 h7 h6 h17 h14
  rw [HN.out]
  go_enter Tryz.func64, Tryz.ntmps64
  go_wp2_with fail
  go_ret
  exact (nm_0 _ _)

end Go.Proofs.YtbdpnnfhkhkecaaGreatDoor
