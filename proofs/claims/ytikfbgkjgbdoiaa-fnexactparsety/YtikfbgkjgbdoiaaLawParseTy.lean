/-
  The law FnExactParseTy's walk: whatever text, true.
-/
import Derived.Test.YtikfbgkjgbdoiaaSq
import Derived.Test.YtikfbgkjgbdoiaaEq
import Derived.Test.YtikfbgkjgbdoiaaHd
namespace Go.Proofs.Ytikfbgkjgbdoiaa
open Go.RowKit
set_option linter.unusedVariables false
set_option linter.unusedSimpArgs false

theorem nodes_cnt : ∀ (l : Nat) (t : Tr) (m : Nat), nodesW l t = some m → cnt t = m := by
  intro l
  induction l with
  | zero => intro t m h; simp [nodesW] at h
  | succ l ih =>
    intro t m h
    simp only [nodesW] at h
    split at h
    · cases h1 : nodesL (nodesW l) t.A with
      | none => simp [h1] at h
      | some s =>
        simp [h1] at h
        have key : ∀ (ts : List Tr) (s : Nat), nodesL (nodesW l) ts = some s → cntS ts = s := by
          intro ts
          induction ts with
          | nil => intro s hs; simp [nodesL] at hs; simp [cntS]; omega
          | cons x ts ihl =>
            intro s hs
            simp only [nodesL] at hs
            cases hx : nodesW l x with
            | none => simp [hx] at hs
            | some a =>
              cases hy : nodesL (nodesW l) ts with
              | none => simp [hx, hy] at hs
              | some b =>
                simp [hx, hy] at hs
                have h2 := ihl b hy
                have h3 := ih x a hx
                simp only [cntS, List.map_cons, List.sum_cons] at *
                omega
        rw [cnt_eq, key _ _ h1]
        omega
    · simp at h

theorem par_small (T : List (List UInt8)) : cntS ((parT T).getD zeroT).A ≤ 100 := by
  cases h : parT T with
  | none => simp [zeroT, cntS]
  | some t =>
    have hok : okT t = true := by
      unfold parT at h
      split at h
      · split at h
        · rename_i hh
          cases h
          exact hh.2
        · cases h
      · cases h
    obtain ⟨m, hm⟩ := okT_some hok
    have h1 := nodes_cnt _ _ _ hm
    have h2 := nodesW_lt _ _ _ hm
    rw [cnt_eq] at h1
    simp only [Option.getD_some]
    omega

/-- A type in a variable of its own (block r), with what it owns in blocks from lo on and below hi. -/
structure Held (cur : World) (r lo hi D : Nat) (K N : Int) (ao : Option Addr) (len cap : Nat) (ts : List Tr) : Prop where
  row : cur.heap[r]? = some (.cells #[.int .i64 K, .int .i64 N, .slice ao len cap] 32 (0, 0))
  own : OwR lo hi cur D ao len ts
  top : hi ≤ r
  low : lo ≤ hi
theorem Held.lt {cur : World} {r lo hi D : Nat} {K N : Int} {ao : Option Addr} {len cap : Nat} {ts : List Tr} (h : Held cur r lo hi D K N ao len cap ts) : r < cur.heap.size := (Array.getElem?_eq_some_iff.1 h.row).1
theorem Held.below {cur cur' : World} {r lo hi D : Nat} {K N : Int} {ao : Option Addr} {len cap : Nat} {ts : List Tr} (h : Held cur r lo hi D K N ao len cap ts) (hb : Below cur.heap.size cur cur') : Held cur' r lo hi D K N ao len cap ts :=
  ⟨(hb.block r h.lt).trans h.row, h.own.below hb (Nat.le_trans h.top (Nat.le_of_lt h.lt)), h.top, h.low⟩
theorem Held.chg {cur cur' : World} {r lo hi D : Nat} {K N : Int} {ao : Option Addr} {len cap : Nat} {ts : List Tr} (h : Held cur r lo hi D K N ao len cap ts) {bs : List Nat} {a b : Nat} (hc : Chg bs cur cur') (hbs : ∀ x ∈ bs, a ≤ x ∧ x < b) (hab : b ≤ lo ∨ r < a) : Held cur' r lo hi D K N ao len cap ts := by
  have hlt := h.lt
  have htop := h.top
  have hlow := h.low
  exact ⟨(hc.block r hlt (fun hm => by have := hbs r hm; omega)).trans h.row, h.own.keep (fun q h1 h2 => hc.block q (by omega) (fun hm => by have := hbs q hm; omega)) (Nat.le_refl _) (Nat.le_refl _), htop, hlow⟩
theorem Held.new {cur : World} {lo hi D : Nat} {K N : Int} {ao : Option Addr} {len cap : Nat} {ts : List Tr} (ho : OwR lo hi cur D ao len ts) (hh : hi ≤ cur.heap.size) (hl : lo ≤ hi) : Held (cur.alloc (.cells #[.int .i64 K, .int .i64 N, .slice ao len cap] 32)) cur.heap.size lo hi D K N ao len cap ts :=
  ⟨heap_new rfl, ho.keep (fun q _ hq => Below.heap_alloc _ _ _ (by omega)) (Nat.le_refl _) (Nat.le_refl _), hh, hl⟩

set_option maxRecDepth 100000 in
set_option maxHeartbeats 4000000 in
theorem law_parseTy (s : ByteArray) (w : World) :
    Calls Try.prog 6 #[.string s] w fun e w' => e = .returned (.bool true) ∧ Below w.heap.size w w' := by
  by_cases hl : s.size ≤ 1048576
  case' neg =>
    have hd : decide ((1048576 : Int) < (s.size : Int)) = true := by rw [decide_eq_true_eq]; omega
    go_enter Try.func6, Try.ntmps6
    go_wp2_with fail
    go_ret
    exact ⟨rfl, Below.refl _ _⟩
  have hd : decide ((1048576 : Int) < (s.size : Int)) = false := by rw [decide_eq_false_iff_not]; omega
  go_enter Try.func6, Try.ntmps6
  go_wp2_with fail
  refine (sParseTy_any s _ hl).mono ?_
  rintro e w1 ⟨ao1, len1, cap1, rfl, hb1, ho1⟩
  have hsm := par_small (spl s.data.toList)
  generalize hRR : parT (spl s.data.toList) = RR at ho1 hsm ⊢
  generalize hR : RR.getD zeroT = R at ho1 hsm ⊢
  generalize hrb : RR.isSome = rb
  have HRR : Hid (parT (spl s.data.toList) = RR) := hRR
  have HR : Hid (RR.getD zeroT = R) := hR
  have Hrb : Hid (RR.isSome = rb) := hrb
  clear hRR hR hrb
  have hz1 := hb1.size
  have H1 : Held (w1.alloc (.cells #[.int .i64 R.K, .int .i64 R.N, .slice ao1 len1 cap1] 32)) w1.heap.size w.heap.size w1.heap.size 6 R.K R.N ao1 len1 cap1 R.A := Held.new ho1 (Nat.le_refl _) hz1
  have hb1a : Below w.heap.size w (w1.alloc (.cells #[.int .i64 R.K, .int .i64 R.N, .slice ao1 len1 cap1] 32)) := hb1.alloc (by omega) _
  clear ho1
  -- the program's answer
  go_wp2_with fail
  refine (parseTy_any s _ hl).mono ?_
  rintro e w2 ⟨ao2, len2, cap2, rfl, hb2, ho2⟩
  rw [HRR.out, HR.out] at ho2
  rw [HRR.out, HR.out, Hrb.out]
  have hz2 := hb2.size
  have ho2' : OwR (w1.heap.size + 1) w2.heap.size w2 6 ao2 len2 R.A := by simpa using ho2
  have H1b := H1.below hb2
  simp only [World.size_alloc] at hz2
  have hb2w : Below w.heap.size w w2 := hb1a.trans (hb2.mono (by simp; omega))
  have hba2 : Below w2.heap.size w2 (w2.alloc (.cells #[.int .i64 R.K, .int .i64 R.N, .slice ao2 len2 cap2] 32)) := (Below.refl _ _).alloc (Nat.le_refl _) _
  have H2 : Held (w2.alloc (.cells #[.int .i64 R.K, .int .i64 R.N, .slice ao2 len2 cap2] 32)) w2.heap.size (w1.heap.size + 1) w2.heap.size 6 R.K R.N ao2 len2 cap2 R.A := Held.new ho2' (Nat.le_refl _) hz2
  have H1c := H1b.below hba2
  have hb2a : Below w.heap.size w (w2.alloc (.cells #[.int .i64 R.K, .int .i64 R.N, .slice ao2 len2 cap2] 32)) := hb2w.alloc (by omega) _
  have hS2 : (w2.alloc (.cells #[.int .i64 R.K, .int .i64 R.N, .slice ao2 len2 cap2] 32)).heap.size = w2.heap.size + 1 := by simp
  clear ho2 ho2' H1 H1b
  obtain ⟨f0, f1, f2⟩ := box_cells H1c.row
  go_wp2_with fail
  generalize hY : w2.alloc (.cells #[.int .i64 R.K, .int .i64 R.N, .slice ao2 len2 cap2] 32) = Y at H2 H1c hb2a hS2 ⊢
  clear hY hba2 f0 f1 f2
  refine (eqTy_any 6 _ _ _ _ _ _ _ _ _ _ _ _ R.A _ (by omega) (by omega) H2.own.hs H1c.own.hs).mono ?_
  rintro e w3 ⟨rfl, hb3⟩
  have hz3 := hb3.size
  have hb3w : Below w.heap.size w w3 := hb2a.trans (hb3.mono (by omega))
  have S2 := H2.below hb3
  have S1 := H1c.below hb3
  clear H2 H1c hb3
  obtain ⟨bs, o2, nd, rg⟩ := S2.own
  obtain ⟨f0, f1, f2⟩ := box_cells S2.row
  -- the marks on the answer
  go_wp2_with fail
  refine (mk_any 6 _ _ _ _ _ R.A bs _ _ o2 nd (fun x hx => by have := (rg x hx).2; omega) (by omega) (by omega)).mono ?_
  rintro e w4 ⟨rfl, hc4, o4⟩
  have hz4 := hc4.size
  have hb4w : Below w.heap.size w w4 := Chg.below hb3w hc4 (by omega) (fun x hx => by have := (rg x hx).1; omega)
  have S1b := S1.chg hc4 rg (Or.inr (by omega))
  have row4 := (hc4.block w2.heap.size (by omega) (fun hm => by have := (rg _ hm).2; omega)).trans S2.row
  have T2 : Held w4 w2.heap.size (w1.heap.size + 1) w2.heap.size 6 R.K R.N ao2 len2 cap2 (markD 6 1 R.A) := ⟨row4, ⟨bs, o4, nd, rg⟩, S2.top, S2.low⟩
  have dp : Dp 6 R.A := o2.dp
  clear f0 f1 f2 S2 S1 o2 o4 row4 hc4
  obtain ⟨f0, f1, f2⟩ := box_cells T2.row
  have hmk : (0 : Int) ≤ 1 + 2 * cntS R.A := by omega
  have HDP : Hid (Dp 6 R.A) := dp
  clear dp
  go_wp2_with fail
  refine (hd_any 6 _ _ _ _ _ _ _ R.A _ _ (by omega) T2.own.hs HDP.out (by omega) (by omega)).mono ?_
  rintro e w5 ⟨rfl, hb5⟩
  have hz5 := hb5.size
  have hb5w : Below w.heap.size w w5 := hb4w.trans (hb5.mono (by omega))
  have U2 := T2.below hb5
  have U1 := S1b.below hb5
  clear f0 f1 f2 T2 S1b hb5
  -- once more
  go_wp2_with fail
  refine (parseTy_any s _ hl).mono ?_
  rintro e w6 ⟨ao6, len6, cap6, rfl, hb6, ho6⟩
  rw [HRR.out, HR.out] at ho6
  rw [HRR.out, HR.out, Hrb.out]
  have hz6 := hb6.size
  have hba6 : Below w6.heap.size w6 (w6.alloc (.cells #[.int .i64 R.K, .int .i64 R.N, .slice ao6 len6 cap6] 32)) := (Below.refl _ _).alloc (Nat.le_refl _) _
  have H6 : Held (w6.alloc (.cells #[.int .i64 R.K, .int .i64 R.N, .slice ao6 len6 cap6] 32)) w6.heap.size w5.heap.size w6.heap.size 6 R.K R.N ao6 len6 cap6 R.A := Held.new ho6 (Nat.le_refl _) hz6
  have V2 := (U2.below hb6).below hba6
  have V1 := (U1.below hb6).below hba6
  have hb6w : Below w.heap.size w (w6.alloc (.cells #[.int .i64 R.K, .int .i64 R.N, .slice ao6 len6 cap6] 32)) := (hb5w.trans (hb6.mono (by omega))).alloc (by omega) _
  have hS6 : (w6.alloc (.cells #[.int .i64 R.K, .int .i64 R.N, .slice ao6 len6 cap6] 32)).heap.size = w6.heap.size + 1 := by simp
  clear ho6 U2 U1 hb6 hba6
  obtain ⟨f0, f1, f2⟩ := box_cells V1.row
  go_wp2_with fail
  generalize hZ : w6.alloc (.cells #[.int .i64 R.K, .int .i64 R.N, .slice ao6 len6 cap6] 32) = Z at H6 V2 V1 hb6w hS6 ⊢
  clear hZ f0 f1 f2
  refine (eqTy_any 6 _ _ _ _ _ _ _ _ _ _ _ _ R.A _ (by omega) (by omega) H6.own.hs V1.own.hs).mono ?_
  rintro e w7 ⟨rfl, hb7⟩
  have hz7 := hb7.size
  have hb7w : Below w.heap.size w w7 := hb6w.trans (hb7.mono (by omega))
  have X2 := V2.below hb7
  clear H6 V2 V1 hb7
  obtain ⟨f0, f1, f2⟩ := box_cells X2.row
  go_wp2_with fail
  refine (hd_any 6 _ _ _ _ _ _ _ R.A _ _ (by omega) X2.own.hs HDP.out (by omega) (by omega)).mono ?_
  rintro e w8 ⟨rfl, hb8⟩
  have hb8w : Below w.heap.size w w8 := hb7w.trans (hb8.mono (by omega))
  clear f0 f1 f2 X2
  go_wp2_with fail
  go_ret
  exact ⟨rfl, hb8w⟩

end Go.Proofs.Ytikfbgkjgbdoiaa
