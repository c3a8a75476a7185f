/-
  The law FnExactSubstTy's walk: whatever trees lie in memory, true.
-/
import Derived.Test.YtkhgoghfjeejmaaSs
import Derived.Test.YtkhgoghfjeejmaaSz
import Derived.Test.YtkhgoghfjeejmaaTo2
import Derived.Test.YtkhgoghfjeejmaaEq
import Derived.Test.YtkhgoghfjeejmaaHd
namespace Go.Proofs.Ytkhgoghfjeejmaa
open Go.RowKit
set_option linter.unusedVariables false
set_option linter.unusedSimpArgs false

theorem nodes_cnt : ∀ (l : Nat) (t : Tr) (m : Nat), nodesW l t = some m → cnt t = m := by
  intro l
  induction l with
  | zero => intro t m h; simp [nodesW] at h
  | succ l ih =>
    intro t m h
    simp only [nodesW] at h
    split at h
    · cases h1 : nodesL (nodesW l) t.A with
      | none => simp [h1] at h
      | some s =>
        simp [h1] at h
        have key : ∀ (ts : List Tr) (s : Nat), nodesL (nodesW l) ts = some s → cntS ts = s := by
          intro ts
          induction ts with
          | nil => intro s hs; simp [nodesL] at hs; simp [cntS]; omega
          | cons x ts ihl =>
            intro s hs
            simp only [nodesL] at hs
            cases hx : nodesW l x with
            | none => simp [hx] at hs
            | some a =>
              cases hy : nodesL (nodesW l) ts with
              | none => simp [hx, hy] at hs
              | some b =>
                simp [hx, hy] at hs
                have h2 := ihl b hy
                have h3 := ih x a hx
                simp only [cntS, List.map_cons, List.sum_cons] at *
                omega
        rw [cnt_eq, key _ _ h1]
        omega
    · simp at h

theorem subst_small {t : Tr} {σ : List Tr} : cntS ((substT t σ).getD zeroT).A ≤ 100 := by
  unfold substT
  split
  · rename_i h
    obtain ⟨m, hm⟩ := okT_some h.2.2.2
    have h1 := nodes_cnt _ _ _ hm
    have h2 := nodesW_lt _ _ _ hm
    rw [cnt_eq] at h1
    simp only [Option.getD_some]
    omega
  · simp [zeroT, cntS]

/-- A type in a variable of its own (block r), with what it owns in blocks from lo on and below hi. -/
structure Held (cur : World) (r lo hi D : Nat) (K N : Int) (ao : Option Addr) (len cap : Nat) (ts : List Tr) : Prop where
  row : cur.heap[r]? = some (.cells #[.int .i64 K, .int .i64 N, .slice ao len cap] 26 (0, 0))
  own : OwR lo hi cur D ao len ts
  top : hi ≤ r
  low : lo ≤ hi
theorem Held.lt {cur : World} {r lo hi D : Nat} {K N : Int} {ao : Option Addr} {len cap : Nat} {ts : List Tr} (h : Held cur r lo hi D K N ao len cap ts) : r < cur.heap.size := (Array.getElem?_eq_some_iff.1 h.row).1
theorem Held.below {cur cur' : World} {r lo hi D : Nat} {K N : Int} {ao : Option Addr} {len cap : Nat} {ts : List Tr} (h : Held cur r lo hi D K N ao len cap ts) (hb : Below cur.heap.size cur cur') : Held cur' r lo hi D K N ao len cap ts :=
  ⟨(hb.block r h.lt).trans h.row, h.own.below hb (Nat.le_trans h.top (Nat.le_of_lt h.lt)), h.top, h.low⟩
theorem Held.chg {cur cur' : World} {r lo hi D : Nat} {K N : Int} {ao : Option Addr} {len cap : Nat} {ts : List Tr} (h : Held cur r lo hi D K N ao len cap ts) {bs : List Nat} {a b : Nat} (hc : Chg bs cur cur') (hbs : ∀ x ∈ bs, a ≤ x ∧ x < b) (hab : b ≤ lo ∨ r < a) : Held cur' r lo hi D K N ao len cap ts := by
  have hlt := h.lt
  have htop := h.top
  have hlow := h.low
  exact ⟨(hc.block r hlt (fun hm => by have := hbs r hm; omega)).trans h.row, h.own.keep (fun q h1 h2 => hc.block q (by omega) (fun hm => by have := hbs q hm; omega)) (Nat.le_refl _) (Nat.le_refl _), htop, hlow⟩
theorem Held.new {cur : World} {lo hi D : Nat} {K N : Int} {ao : Option Addr} {len cap : Nat} {ts : List Tr} (ho : OwR lo hi cur D ao len ts) (hh : hi ≤ cur.heap.size) (hl : lo ≤ hi) : Held (cur.alloc (.cells #[.int .i64 K, .int .i64 N, .slice ao len cap] 26)) cur.heap.size lo hi D K N ao len cap ts :=
  ⟨heap_new rfl, ho.keep (fun q _ hq => Below.heap_alloc _ _ _ (by omega)) (Nat.le_refl _) (Nat.le_refl _), hh, hl⟩

set_option maxHeartbeats 4000000 in
theorem law_subst (d L B d2 L2 B2 : Nat) (k n : Int) (ao : Option Addr) (len cap : Nat) (ts : List Tr) (sao : Option Addr) (slen scap : Nat) (σ : List Tr) (w : World) (hB : B ≤ w.heap.size) (hs : Hs L B w d ao len ts) (hB2 : B2 ≤ w.heap.size) (hs2 : Hs L2 B2 w d2 sao slen σ) :
    Calls Try.prog 9 #[.agg #[.int .i64 k, .int .i64 n, .slice ao len cap], .slice sao slen scap] w fun e w' => e = .returned (.bool true) ∧ Below w.heap.size w w' := by
  obtain ⟨X, hX⟩ : ∃ X, X = w.alloc (.cells #[.int .i64 k, .int .i64 n, .slice ao len cap] 36) := ⟨_, rfl⟩
  have hXs : X.heap.size = w.heap.size + 1 := by rw [hX]; simp
  have hXb : Below w.heap.size w X := by rw [hX]; exact (Below.refl _ _).alloc (Nat.le_refl _) _
  have hX1 : X.heap[w.heap.size]? = some (.cells #[.int .i64 k, .int .i64 n, .slice ao len cap] 36 (0, 0)) := by rw [hX]; exact heap_new rfl
  have hs1 := hs.below hXb hB
  have HX : Hid (X = _) := hX
  clear hX
  by_cases hc : (cntS ts : Int) ≤ 1048576
  · by_cases hcσ : (cntS σ : Int) ≤ 1048576 - cntS ts
    · go_enter Try.func9, Try.ntmps9
      go_wp2_with fail
      rw [← HX.out]
      refine (szTy_any _ _ _ _ _ _ _ _ _ _ _ (by omega) hs1 (by omega) (by omega)).mono ?_
      rintro e w1 ⟨rfl, hb1⟩
      rw [szL_pos hc]
      have hz1 := hb1.size
      have hb1w : Below w.heap.size w w1 := hXb.trans (hb1.mono (by omega))
      have bx1 := (hb1.block _ (by omega)).trans hX1
      go_wp2_with fail
      refine (szTyS_any d2 L2 B2 _ _ _ σ _ _ (by omega) (hs2.below hb1w hB2) (by omega) (by omega)).mono ?_
      rintro e w2 ⟨rfl, hb2⟩
      rw [szL_pos hcσ]
      have hz2 := hb2.size
      have hb2w : Below w.heap.size w w2 := hb1w.trans (hb2.mono (by omega))
      have bx2 := (hb2.block _ (by omega)).trans bx1
      obtain ⟨f0, f1, f2⟩ := box_cells bx2
      clear bx1 hX1
      -- the model's answer
      go_wp2_with fail
      refine (toTy_any2 d L B _ _ _ _ _ ts _ (by omega) (hs.below hb2w hB) (by omega)).mono ?_
      rintro e w3 ⟨g3, rfl, hb3, ho3⟩
      have hz3 := hb3.size
      have hb3w : Below w.heap.size w w3 := hb2w.trans (hb3.mono (by omega))
      have bx3 := (hb3.block _ (by omega)).trans bx2
      clear f0 f1 f2 bx2
      go_wp2_with fail
      refine (toTyS_any2 d2 L2 B2 _ _ _ σ _ (by omega) (hs2.below hb3w hB2) (by omega)).mono ?_
      rintro e w4 ⟨g4, rfl, hb4, ho4⟩
      have hz4 := hb4.size
      have hb4w : Below w.heap.size w w4 := hb3w.trans (hb4.mono (by omega))
      have bx4 := (hb4.block _ (by omega)).trans bx3
      clear bx3
      go_wp2_with fail
      refine (sSubst_any d d2 _ _ _ _ _ _ _ _ _ ts _ _ _ σ _ hz4 (ho3.below hb4 (Nat.le_refl _)).hs (Nat.le_refl _) ho4.hs (by omega)).mono ?_
      rintro e w5 ⟨ao5, len5, cap5, rfl, hb5, ho5⟩
      have hz5 := hb5.size
      have hb5w : Below w.heap.size w w5 := hb4w.trans (hb5.mono (by omega))
      have bx5 := (hb5.block _ (by omega)).trans bx4
      have hsm := subst_small (t := ⟨k, n, ts⟩) (σ := σ)
      have HSub : Hid (∃ RR, RR = substT ⟨k, n, ts⟩ σ) := ⟨_, rfl⟩
      generalize hRR : substT ⟨k, n, ts⟩ σ = RR at ho5 hsm ⊢
      generalize hR : RR.getD zeroT = R at ho5 hsm ⊢
      generalize hrb : RR.isSome = rb
      have HRR : Hid (substT ⟨k, n, ts⟩ σ = RR) := hRR
      have HR : Hid (RR.getD zeroT = R) := hR
      have Hrb : Hid (RR.isSome = rb) := hrb
      clear hRR hR hrb bx4 ho3 ho4 HSub
      -- the arguments' copies
      have bx5a := (Below.heap_alloc w5 (.cells #[.int .i64 R.K, .int .i64 R.N, .slice ao5 len5 cap5] 26) w.heap.size (by omega)).trans bx5
      have H6 : Held (w5.alloc (.cells #[.int .i64 R.K, .int .i64 R.N, .slice ao5 len5 cap5] 26)) w5.heap.size w4.heap.size w5.heap.size (6 + d2) R.K R.N ao5 len5 cap5 R.A := Held.new ho5 (Nat.le_refl _) hz5
      have hb5a : Below w.heap.size w (w5.alloc (.cells #[.int .i64 R.K, .int .i64 R.N, .slice ao5 len5 cap5] 26)) := hb5w.alloc (by omega) _
      obtain ⟨f0, f1, f2⟩ := box_cells bx5a
      go_wp2_with fail
      refine (toTy_any2 d L B _ _ _ _ _ ts _ (by simp; omega) (hs.below hb5a hB) (by omega)).mono ?_
      rintro e w6 ⟨g6, rfl, hb6, ho6⟩
      have hz6 := hb6.size
      simp only [World.size_alloc] at hz6
      have hb6w : Below w.heap.size w w6 := hb5a.trans (hb6.mono (by simp; omega))
      have bx6 := (hb6.block w.heap.size (by simp; omega)).trans bx5a
      have H6b := H6.below hb6
      clear f0 f1 f2 bx5 bx5a hb5a ho5 H6
      have H8 : Held (w6.alloc (.cells #[.int .i64 k, .int .i64 n, .slice (some ⟨g6, 0, none⟩) len len] 26)) w6.heap.size (w5.heap.size + 1) w6.heap.size d k n (some ⟨g6, 0, none⟩) len len ts := Held.new (by simpa using ho6) (Nat.le_refl _) hz6
      have hba6 : Below w6.heap.size w6 (w6.alloc (.cells #[.int .i64 k, .int .i64 n, .slice (some ⟨g6, 0, none⟩) len len] 26)) := (Below.refl _ _).alloc (Nat.le_refl _) _
      have hb6a : Below w.heap.size w (w6.alloc (.cells #[.int .i64 k, .int .i64 n, .slice (some ⟨g6, 0, none⟩) len len] 26)) := hb6w.alloc (by omega) _
      have bx6a := (hba6.block w.heap.size (by omega)).trans bx6
      have H6c := H6b.below hba6
      clear H6b bx6 ho6
      go_wp2_with fail
      refine (toTyS_any2 d2 L2 B2 _ _ _ σ _ (by simp; omega) (hs2.below hb6a hB2) (by omega)).mono ?_
      rintro e w7 ⟨g7, rfl, hb7, ho7⟩
      have hz7 := hb7.size
      simp only [World.size_alloc] at hz7
      have hb7w : Below w.heap.size w w7 := hb6a.trans (hb7.mono (by simp; omega))
      have bx7 := (hb7.block w.heap.size (by simp; omega)).trans bx6a
      have H6d := H6c.below hb7
      have H8b := H8.below hb7
      have ho7' : OwR (w6.heap.size + 1) w7.heap.size w7 d2 (some ⟨g7, 0, none⟩) slen σ := by simpa using ho7
      obtain ⟨f0, f1, f2⟩ := box_cells H8b.row
      clear H6c H8 ho7 bx6a hb6a
      -- the program's answer
      go_wp2_with fail
      refine (subst_any d d2 _ _ _ _ _ _ _ _ _ ts _ _ _ σ _ (by omega) H8b.own.hs (Nat.le_refl _) ho7'.hs (by omega)).mono ?_
      rintro e w8 ⟨ao8, len8, cap8, rfl, hb8, ho8⟩
      rw [HRR.out, HR.out] at ho8
      rw [HRR.out, HR.out, Hrb.out]
      have hz8 := hb8.size
      have hb8w : Below w.heap.size w w8 := hb7w.trans (hb8.mono (by omega))
      have hba8 : Below w8.heap.size w8 (w8.alloc (.cells #[.int .i64 R.K, .int .i64 R.N, .slice ao8 len8 cap8] 26)) := (Below.refl _ _).alloc (Nat.le_refl _) _
      have bx8 := (hba8.block w.heap.size (by omega)).trans ((hb8.block w.heap.size (by omega)).trans bx7)
      have H10 : Held (w8.alloc (.cells #[.int .i64 R.K, .int .i64 R.N, .slice ao8 len8 cap8] 26)) w8.heap.size w7.heap.size w8.heap.size (6 + d2) R.K R.N ao8 len8 cap8 R.A := Held.new ho8 (Nat.le_refl _) hz8
      have H6e := (H6d.below hb8).below hba8
      have H8c := (H8b.below hb8).below hba8
      have ho7a := (ho7'.below hb8 (Nat.le_refl _)).below hba8 (by omega)
      have hb8a : Below w.heap.size w (w8.alloc (.cells #[.int .i64 R.K, .int .i64 R.N, .slice ao8 len8 cap8] 26)) := hb8w.alloc (by omega) _
      have hS8 : (w8.alloc (.cells #[.int .i64 R.K, .int .i64 R.N, .slice ao8 len8 cap8] 26)).heap.size = w8.heap.size + 1 := by simp
      clear f0 f1 f2 H6d H8b ho7' bx7 ho8
      obtain ⟨f0, f1, f2⟩ := box_cells H6e.row
      go_wp2_with fail
      generalize hY : w8.alloc (.cells #[.int .i64 R.K, .int .i64 R.N, .slice ao8 len8 cap8] 26) = Y at bx8 H10 H6e H8c ho7a hb8a hS8 ⊢
      clear hY hba8 hb8 f0 f1 f2
      refine (eqTy_any (6 + d2) _ _ _ _ _ _ _ _ _ _ _ _ R.A _ (by omega) (by omega) H10.own.hs H6e.own.hs).mono ?_
      rintro e w9 ⟨rfl, hb9⟩
      have hz9 := hb9.size
      have hb9w : Below w.heap.size w w9 := hb8a.trans (hb9.mono (by omega))
      have bx9 := (hb9.block w.heap.size (by omega)).trans bx8
      have K10 := H10.below hb9
      have K6 := H6e.below hb9
      have K8 := H8c.below hb9
      have K7 := ho7a.below hb9 (by omega)
      clear bx8 H10 H6e H8c ho7a
      obtain ⟨p0, p1, p2⟩ := box_cells bx9
      obtain ⟨q0, q1, q2⟩ := box_cells K8.row
      have hs9 := hs.below hb9w hB
      have hs9σ := hs2.below hb9w hB2
      have k8lt := K8.lt
      have wlt9 : w.heap.size < w9.heap.size := by omega
      go_wp2_with fail
      go_region_held3 (fun w' => w'.cell? ⟨w6.heap.size, 0, none⟩ = some (.int .i64 k) ∧ w'.cell? ⟨w6.heap.size, 1, none⟩ = some (.int .i64 n) ∧ w'.cell? ⟨w6.heap.size, 2, none⟩ = some (.slice (some ⟨g6, 0, none⟩) len len) ∧ w'.cell? ⟨w.heap.size, 0, none⟩ = some (.int .i64 k) ∧ w'.cell? ⟨w.heap.size, 1, none⟩ = some (.int .i64 n) ∧ w'.cell? ⟨w.heap.size, 2, none⟩ = some (.slice ao len cap))
        (first | (refine ⟨?_, ?_, ?_, ?_, ?_, ?_⟩; exact q0; exact q1; exact q2; exact p0; exact p1; exact p2) | exact k11 | exact k10)
        (first
          | (go_at_call 21; refine (toTy_any2 d L B _ _ _ _ _ ts _ ?_ ?_ ?_).mono ?_; (show B ≤ w9.heap.size; omega); exact hs9.drew; omega; rintro e w10 ⟨g10, rfl, hb10, ho10⟩; have k10 : w10.cell? ⟨w6.heap.size, 0, none⟩ = some (.int .i64 k) ∧ w10.cell? ⟨w6.heap.size, 1, none⟩ = some (.int .i64 n) ∧ w10.cell? ⟨w6.heap.size, 2, none⟩ = some (.slice (some ⟨g6, 0, none⟩) len len) ∧ w10.cell? ⟨w.heap.size, 0, none⟩ = some (.int .i64 k) ∧ w10.cell? ⟨w.heap.size, 1, none⟩ = some (.int .i64 n) ∧ w10.cell? ⟨w.heap.size, 2, none⟩ = some (.slice ao len cap) := ⟨(bcell hb10 k8lt 0).trans q0, (bcell hb10 k8lt 1).trans q1, (bcell hb10 k8lt 2).trans q2, (bcell hb10 wlt9 0).trans p0, (bcell hb10 wlt9 1).trans p1, (bcell hb10 wlt9 2).trans p2⟩)
          | (go_at_call 22; refine (eqTy_any d _ _ _ _ _ _ _ _ _ _ _ _ ts _ ?_ ?_ (K8.own.hs.drew.below hb10 (show w6.heap.size ≤ w9.heap.size by omega)) ho10.hs).mono ?_; (have h10 : w9.heap.size ≤ w10.heap.size := hb10.size; (show w6.heap.size ≤ w10.heap.size); omega); exact Nat.le_refl _; rintro e w11 ⟨rfl, hb11⟩; have k8lt10 : w6.heap.size < w10.heap.size := Nat.lt_of_lt_of_le k8lt hb10.size; have wlt10 : w.heap.size < w10.heap.size := Nat.lt_of_lt_of_le wlt9 hb10.size; have k11 : w11.cell? ⟨w6.heap.size, 0, none⟩ = some (.int .i64 k) ∧ w11.cell? ⟨w6.heap.size, 1, none⟩ = some (.int .i64 n) ∧ w11.cell? ⟨w6.heap.size, 2, none⟩ = some (.slice (some ⟨g6, 0, none⟩) len len) ∧ w11.cell? ⟨w.heap.size, 0, none⟩ = some (.int .i64 k) ∧ w11.cell? ⟨w.heap.size, 1, none⟩ = some (.int .i64 n) ∧ w11.cell? ⟨w.heap.size, 2, none⟩ = some (.slice ao len cap) := ⟨(bcell hb11 k8lt10 0).trans k10.1, (bcell hb11 k8lt10 1).trans k10.2.1, (bcell hb11 k8lt10 2).trans k10.2.2.1, (bcell hb11 wlt10 0).trans k10.2.2.2.1, (bcell hb11 wlt10 1).trans k10.2.2.2.2.1, (bcell hb11 wlt10 2).trans k10.2.2.2.2.2⟩))
      have hz10 : w9.heap.size ≤ w10.heap.size := hb10.size
      have hz11 := hb11.size
      have hb911 : Below w9.heap.size w9 w11 := ((Below.refl _ _).drew.trans hb10).trans (hb11.mono (show w9.heap.size ≤ w10.heap.size by omega))
      have hb11w : Below w.heap.size w w11 := hb9w.trans (hb911.mono (by omega))
      have bx11 := (hb911.block w.heap.size (by omega)).trans bx9
      have M10 := K10.below hb911
      have M6 := K6.below hb911
      have M8 := K8.below hb911
      have M7 := K7.below hb911 (by omega)
      clear bx9 K10 K6 K8 K7 p0 p1 p2 q0 q1 q2 hs9 hs9σ k10 k11 ho10 hb10 hb11 hb911
      go_wp2_with fail
      refine (toTyS_any2 d2 L2 B2 _ _ _ σ _ (by omega) (hs2.below hb11w hB2) (by omega)).mono ?_
      rintro e w12 ⟨g12, rfl, hb12, ho12⟩
      have hz12 := hb12.size
      go_wp2_with fail
      refine (eqTyS_any d2 _ _ _ _ _ _ _ _ _ _ σ _ (by omega) (Nat.le_refl _) (M7.below hb12 (by omega)).hs ho12.hs).mono ?_
      rintro e w13 ⟨rfl, hb13⟩
      have hz13 := hb13.size
      have hb1113 : Below w11.heap.size w11 w13 := hb12.trans (hb13.mono (by omega))
      have hb13w : Below w.heap.size w w13 := hb11w.trans (hb1113.mono (by omega))
      have bx13 := (hb1113.block w.heap.size (by omega)).trans bx11
      have N10 := M10.below hb1113
      have N6 := M6.below hb1113
      have N8 := M8.below hb1113
      obtain ⟨bs7, o7, nd7, rg7⟩ := M7.below hb1113 (by omega)
      obtain ⟨bs8, o8, nd8, rg8⟩ := N8.own
      obtain ⟨f0, f1, f2⟩ := box_cells N8.row
      clear bx11 M10 M6 M8 M7 ho12 hb12 hb13 hb1113
      -- the marks on the arguments
      go_wp2_with fail
      refine (mk_any d _ _ _ _ _ ts bs8 _ _ o8 nd8 (fun x hx => by have := (rg8 x hx).2; omega) (by omega) (by omega)).mono ?_
      rintro e w14 ⟨rfl, hc14, _⟩
      have hz14 := hc14.size
      have hb14w : Below w.heap.size w w14 := Chg.below hb13w hc14 (by omega) (fun x hx => by have := (rg8 x hx).1; omega)
      have bx14 := (hc14.block w.heap.size (by omega) (fun hm => by have := (rg8 _ hm).1; omega)).trans bx13
      have P10 := N10.chg hc14 rg8 (Or.inl (by omega))
      have P6 := N6.chg hc14 rg8 (Or.inr (by omega))
      have o7' := o7.keep (w' := w14) (fun x hx => hc14.block x (by have := (rg7 x hx).2; omega) (fun hm => by have := (rg8 x hm).2; have := (rg7 x hx).1; omega))
      clear f0 f1 f2 bx13 N10 N6 N8 o8 o7 hc14
      have hmk1 : (0 : Int) ≤ 1 + 2 * cntS ts := by omega
      go_wp2_with fail
      refine (mkS_any d2 _ _ _ _ bs7 _ _ o7' nd7 (fun x hx => by have := (rg7 x hx).2; omega) (by omega) (by omega)).mono ?_
      rintro e w15 ⟨rfl, hc15, _⟩
      have hz15 := hc15.size
      have hb15w : Below w.heap.size w w15 := Chg.below hb14w hc15 (by omega) (fun x hx => by have := (rg7 x hx).1; omega)
      have bx15 := (hc15.block w.heap.size (by omega) (fun hm => by have := (rg7 _ hm).1; omega)).trans bx14
      have Q10 := P10.chg hc15 rg7 (Or.inl (by omega))
      have Q6 := P6.chg hc15 rg7 (Or.inr (by omega))
      have hmk2 : (0 : Int) ≤ 1 + 2 * cntS ts + 2 * cntS σ := by omega
      obtain ⟨f0, f1, f2⟩ := box_cells Q10.row
      obtain ⟨p0, p1, p2⟩ := box_cells Q6.row
      have q10lt := Q10.lt
      have q6lt := Q6.lt
      clear bx14 P10 P6 o7' hc15
      go_wp2_with fail
      refine (eqTy_any (6 + d2) _ _ _ _ _ _ _ _ _ _ _ _ R.A _ (by omega) (by omega) Q10.own.hs Q6.own.hs).mono ?_
      rintro e w16 ⟨rfl, hb16⟩
      have hz16 := hb16.size
      have hb16w : Below w.heap.size w w16 := hb15w.trans (hb16.mono (by omega))
      have bx16 := (hb16.block w.heap.size (by omega)).trans bx15
      have S10 := Q10.below hb16
      have S6 := Q6.below hb16
      obtain ⟨bs10, o10, nd10, rg10⟩ := S10.own
      clear f0 f1 f2 p0 p1 p2 Q10 Q6 bx15 hb16
      obtain ⟨f0, f1, f2⟩ := box_cells S10.row
      -- the marks on the answer
      go_wp2_with fail
      refine (mk_any (6 + d2) _ _ _ _ _ R.A bs10 _ _ o10 nd10 (fun x hx => by have := (rg10 x hx).2; omega) (by omega) (by omega)).mono ?_
      rintro e w17 ⟨rfl, hc17, o17⟩
      have hz17 := hc17.size
      have hb17w : Below w.heap.size w w17 := Chg.below hb16w hc17 (by omega) (fun x hx => by have := (rg10 x hx).1; omega)
      have bx17 := (hc17.block w.heap.size (by omega) (fun hm => by have := (rg10 _ hm).1; omega)).trans bx16
      have S6b := S6.chg hc17 rg10 (Or.inr (by omega))
      have row17 := (hc17.block w8.heap.size (by omega) (fun hm => by have := (rg10 _ hm).2; omega)).trans S10.row
      have T10 : Held w17 w8.heap.size w7.heap.size w8.heap.size (6 + d2) R.K R.N ao8 len8 cap8 (markD (6 + d2) 1 R.A) := ⟨row17, ⟨bs10, o17, nd10, rg10⟩, S10.top, S10.low⟩
      have dp10 : Dp (6 + d2) R.A := o10.dp
      clear f0 f1 f2 bx16 S10 S6 o10 o17 row17 hc17
      obtain ⟨f0, f1, f2⟩ := box_cells T10.row
      have t10lt := T10.lt
      have hmk3 : (0 : Int) ≤ 1 + 2 * cntS R.A := by omega
      have HDP : Hid (Dp (6 + d2) R.A) := dp10
      clear dp10
      go_wp2_with fail
      refine (hd_any (6 + d2) _ _ _ _ _ _ _ R.A _ _ (by omega) T10.own.hs HDP.out (by omega) (by omega)).mono ?_
      rintro e w18 ⟨rfl, hb18⟩
      have hz18 := hb18.size
      have hb18w : Below w.heap.size w w18 := hb17w.trans (hb18.mono (by omega))
      have bx18 := (hb18.block w.heap.size (by omega)).trans bx17
      have U10 := T10.below hb18
      have U6 := S6b.below hb18
      clear f0 f1 f2 bx17 T10 S6b hb18
      obtain ⟨f0, f1, f2⟩ := box_cells bx18
      -- once more
      go_wp2_with fail
      refine (toTy_any2 d L B _ _ _ _ _ ts _ (by omega) (hs.below hb18w hB) (by omega)).mono ?_
      rintro e w19 ⟨g19, rfl, hb19, ho19⟩
      have hz19 := hb19.size
      have hb19w : Below w.heap.size w w19 := hb18w.trans (hb19.mono (by omega))
      clear f0 f1 f2
      go_wp2_with fail
      refine (toTyS_any2 d2 L2 B2 _ _ _ σ _ (by omega) (hs2.below hb19w hB2) (by omega)).mono ?_
      rintro e w20 ⟨g20, rfl, hb20, ho20⟩
      have hz20 := hb20.size
      go_wp2_with fail
      refine (subst_any d d2 _ _ _ _ _ _ _ _ _ ts _ _ _ σ _ hz20 (ho19.below hb20 (Nat.le_refl _)).hs (Nat.le_refl _) ho20.hs (by omega)).mono ?_
      rintro e w21 ⟨ao21, len21, cap21, rfl, hb21, ho21⟩
      rw [HRR.out, HR.out] at ho21
      rw [HRR.out, HR.out, Hrb.out]
      have hz21 := hb21.size
      have hb1821 : Below w18.heap.size w18 w21 := (hb19.trans (hb20.mono (by omega))).trans (hb21.mono (by omega))
      have hba21 : Below w21.heap.size w21 (w21.alloc (.cells #[.int .i64 R.K, .int .i64 R.N, .slice ao21 len21 cap21] 26)) := (Below.refl _ _).alloc (Nat.le_refl _) _
      have H15 : Held (w21.alloc (.cells #[.int .i64 R.K, .int .i64 R.N, .slice ao21 len21 cap21] 26)) w21.heap.size w20.heap.size w21.heap.size (6 + d2) R.K R.N ao21 len21 cap21 R.A := Held.new ho21 (Nat.le_refl _) hz21
      have V10 := (U10.below hb1821).below hba21
      have V6 := (U6.below hb1821).below hba21
      have hb21w : Below w.heap.size w (w21.alloc (.cells #[.int .i64 R.K, .int .i64 R.N, .slice ao21 len21 cap21] 26)) := (hb18w.trans (hb1821.mono (by omega))).alloc (by omega) _
      have hS21 : (w21.alloc (.cells #[.int .i64 R.K, .int .i64 R.N, .slice ao21 len21 cap21] 26)).heap.size = w21.heap.size + 1 := by simp
      clear ho19 ho20 ho21 U10 U6 hb19 hb20 hb21 hba21 hb1821 bx18
      obtain ⟨f0, f1, f2⟩ := box_cells V6.row
      go_wp2_with fail
      generalize hZ : w21.alloc (.cells #[.int .i64 R.K, .int .i64 R.N, .slice ao21 len21 cap21] 26) = Z at H15 V10 V6 hb21w hS21 ⊢
      clear hZ f0 f1 f2
      refine (eqTy_any (6 + d2) _ _ _ _ _ _ _ _ _ _ _ _ R.A _ (by omega) (by omega) H15.own.hs V6.own.hs).mono ?_
      rintro e w22 ⟨rfl, hb22⟩
      have hz22 := hb22.size
      have hb22w : Below w.heap.size w w22 := hb21w.trans (hb22.mono (by omega))
      have X10 := V10.below hb22
      clear H15 V10 V6 hb22
      obtain ⟨f0, f1, f2⟩ := box_cells X10.row
      go_wp2_with fail
      refine (hd_any (6 + d2) _ _ _ _ _ _ _ R.A _ _ (by omega) X10.own.hs HDP.out (by omega) (by omega)).mono ?_
      rintro e w23 ⟨rfl, hb23⟩
      have hb23w : Below w.heap.size w w23 := hb22w.trans (hb23.mono (by omega))
      clear f0 f1 f2 X10
      go_wp2_with fail
      go_ret
      exact ⟨rfl, hb23w⟩
    · go_enter Try.func9, Try.ntmps9
      go_wp2_with fail
      rw [← HX.out]
      refine (szTy_any _ _ _ _ _ _ _ _ _ _ _ (by omega) hs1 (by omega) (by omega)).mono ?_
      rintro e w1 ⟨rfl, hb1⟩
      rw [szL_pos hc]
      have hz1 := hb1.size
      have hb1w : Below w.heap.size w w1 := hXb.trans (hb1.mono (by omega))
      go_wp2_with fail
      refine (szTyS_any d2 L2 B2 _ _ _ σ _ _ (by omega) (hs2.below hb1w hB2) (by omega) (by omega)).mono ?_
      rintro e w2 ⟨rfl, hb2⟩
      rw [szL_neg (by omega)]
      go_wp2_with fail
      go_ret
      exact ⟨rfl, hb1w.trans (hb2.mono (by omega))⟩
  · go_enter Try.func9, Try.ntmps9
    go_wp2_with fail
    rw [← HX.out]
    refine (szTy_any _ _ _ _ _ _ _ _ _ _ _ (by omega) hs1 (by omega) (by omega)).mono ?_
    rintro e w1 ⟨rfl, hb1⟩
    rw [szL_neg (by omega)]
    go_wp2_with fail
    go_ret
    exact ⟨rfl, hXb.trans (hb1.mono (by omega))⟩

end Go.Proofs.Ytkhgoghfjeejmaa
