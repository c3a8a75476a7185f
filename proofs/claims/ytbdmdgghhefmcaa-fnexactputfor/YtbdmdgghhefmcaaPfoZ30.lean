/-
  A term put for a name, part after part, in plain words; what lies in memory when a part is written. No walk.
-/
import Derived.Test.YtbdmdgghhefmcaaPfoZ13
import Derived.Test.YtbdmdgghhefmcaaPfoZ5
import Derived.Test.YtbdmdgghhefmcaaPfoZ6
import Derived.Test.YtbdmdgghhefmcaaPfoZ3
namespace Go.Proofs.Ytbdmdgghhefmcaa
open Go.RowKit
set_option linter.unusedVariables false
set_option linter.unusedSimpArgs false

/-- The parts ahead of i have it put. -/
def putI (s : List UInt8) (l : Nat) (t x : Tm) (i : Nat) : Tm := putF t (catU (partP s l t) i) x

theorem putI_next {s : List UInt8} {l : Nat} {t x : Tm} {i : Nat} : putI s l t x (i + 1) = putF (putI s l t x i) (partP s l t i) x := by
  show putF t (catU (partP s l t) i ++ partP s l t i) x = _
  rw [putF_app]
  rfl
theorem putI_facts (s : List UInt8) (l : Nat) (t x : Tm) : ∀ i, i ≤ t.A.length → (putI s l t x i).A.length = t.A.length ∧ ∀ j (h : j < t.A.length) (h' : j < (putI s l t x i).A.length), i ≤ j → (putI s l t x i).A[j] = t.A[j] := by
  intro i
  induction i with
  | zero => intro _; exact ⟨rfl, fun j _ _ _ => rfl⟩
  | succ i ih =>
    intro hi
    obtain ⟨h1, h2⟩ := ih (by omega)
    have hi' : i < t.A.length := by omega
    by_cases hm : s ∈ bindsW t.K (bs t.S) (bs t.Z) i
    · have e : putI s l t x (i + 1) = putI s l t x i := by rw [putI_next, partP_in hi' hm]; rfl
      rw [e]
      exact ⟨h1, fun j h h' hj => h2 j h h' (by omega)⟩
    · have e : putI s l t x (i + 1) = { putI s l t x i with A := (putI s l t x i).A.set i (putF ((putI s l t x i).A[i]'(by omega)) (usesP s l t.A[i]) x) } := by
        rw [putI_next, partP_out hi' hm, putF_part _ _ _ _ _ (by omega)]
      rw [e]
      refine ⟨by simpa using h1, fun j h h' hj => ?_⟩
      simp only [List.getElem_set_ne (show i ≠ j by omega)]
      exact h2 j h (by omega) (by omega)
theorem putI_same {s : List UInt8} {l : Nat} {t x : Tm} {i : Nat} (h : partP s l t i = []) : putI s l t x (i + 1) = putI s l t x i := by rw [putI_next, h]; rfl
theorem partP_zero {s : List UInt8} {l : Nat} {t : Tm} {i : Nat} (hi : i < t.A.length) (h : usesN s l t.A[i] = 0) : partP s l t i = [] := by
  by_cases hm : s ∈ bindsW t.K (bs t.S) (bs t.Z) i
  · exact partP_in hi hm
  · have : usesP s l t.A[i] = [] := List.length_eq_zero_iff.1 (by rw [usesP_len]; exact h)
    rw [partP_out hi hm, this]; rfl
theorem putI_put {s : List UInt8} {l : Nat} {t x : Tm} {i : Nat} (hi : i < t.A.length) (hm : ¬ s ∈ bindsW t.K (bs t.S) (bs t.Z) i) : putI s l t x (i + 1) = setP (putI s l t x i) [i] (putF t.A[i] (usesP s l t.A[i]) x) := by
  obtain ⟨h1, h2⟩ := putI_facts s l t x i (by omega)
  rw [putI_next, partP_out hi hm, putF_part _ _ _ _ _ (by omega), h2 i hi (by omega) (Nat.le_refl _)]
  simp only [setP]
  rw [dif_pos (show i < (putI s l t x i).A.length by omega)]

theorem Own9.deeperD {w : World} {D D' d b o : Nat} {t : Tm} {bs : List Nat} (h : Own9 w D d b o t bs) (hD : D ≤ D') : Own9 w D' d b o t bs := by
  obtain ⟨a1, l1, c1, a2, l2, c2, a3, l3, c3, h9, hf⟩ := h
  exact ⟨a1, l1, c1, a2, l2, c2, a3, l3, c3, h9, hf.map (fun _ _ _ _ _ hr => hr.deeper hD) (fun _ _ _ _ _ hr => OwM.deep2D hD hr)⟩

/-- The copy whose parts ahead of i have it put; q its block, z: from where on what it owns lies. -/
structure SpS (w wr : World) (q z : Nat) (T : Tm) : Prop where
  bel : Below w.heap.size w wr
  row : ∃ cs : Array Value, wr.heap[q]? = some (.cells cs 35 (0, 0)) ∧ 8 < cs.size
  tree : ∃ bsT D d, Own9 wr D d q 0 T bsT ∧ bsT.Nodup ∧ q ∉ bsT ∧ ∀ g ∈ bsT, z ≤ g ∧ g < wr.heap.size

theorem SpS.below {w wr wr' : World} {q z : Nat} {T : Tm} (h : SpS w wr q z T) (hb : Below wr.heap.size wr wr') : SpS w wr' q z T := by
  obtain ⟨cs, hrow, hrs⟩ := h.row
  obtain ⟨bsT, D, d, ho, hnd, hnb, hin⟩ := h.tree
  have hq := (Array.getElem?_eq_some_iff.1 hrow).1
  have hz := hb.size
  exact ⟨h.bel.trans (hb.mono h.bel.size), ⟨cs, (hb.block q hq).trans hrow, hrs⟩, bsT, D, d, ho.keep (fun i _ => bcell hb hq _) (fun g hg => hb.block g (hin g hg).2), hnd, hnb, fun g hg => ⟨(hin g hg).1, by have := (hin g hg).2; omega⟩⟩

/-- The row of the copy's parts, and what is told when the i-th is written. -/
theorem sps_part {w wr : World} {q z : Nat} {T : Tm} (h : SpS w wr q z T) (hz : w.heap.size ≤ z) (hqz : w.heap.size ≤ q) {i : Nat} (hi : i < T.A.length) :
    ∃ g l c, wr.cell? ⟨q, 8, none⟩ = some (.slice (some ⟨g, 0, none⟩) l c) ∧ l = T.A.length ∧ g < wr.heap.size ∧ z ≤ g ∧ g ≠ q ∧ (∃ cs : Array Value, wr.heap[g]? = some (.cells cs 35 (0, 0))) ∧ (∃ (y : Tm) (v6 v7 v8 : Value), Nine wr g (i * 9) y.K y.N y.S y.Z y.T.K y.T.N v6 v7 v8) ∧
      ∀ (w5 W : World) (x : Tm) (D5 d5 N : Nat) (x1 : Option Addr) (n1 i1 : Nat) (x2 : Option Addr) (n2 i2 : Nat) (x3 : Option Addr) (n3 i3 : Nat), Below wr.heap.size wr w5 → wr.heap.size ≤ N → FmO N w5.heap.size w5 D5 d5 x x1 n1 x2 n2 x3 n3 → W = set9 w5 g (i * 9) (.int .i64 x.K) (.int .i64 x.N) (.string x.S) (.string x.Z) (.int .i64 x.T.K) (.int .i64 x.T.N) (.slice x1 n1 i1) (.slice x2 n2 i2) (.slice x3 n3 i3) → z ≤ N → SpS w W q z (setP T [i] x) := by
  obtain ⟨cs0, hrow, hrs⟩ := h.row
  obtain ⟨bsT, D, d, ho, hnd, hnb, hin⟩ := h.tree
  obtain ⟨g, l, c, cs, p12, bss, d1, hd, hc8, hg, hcs, hbl, rfl, hE, _⟩ := ho.part (by omega)
  have hgin := hin g (by simp)
  have hgq : g ≠ q := fun e => hnb (by rw [e]; simp)
  have hl : l = T.A.length := by
    obtain ⟨a1, l1, c1, a2, l2, c2, a3, l3, c3, h9, hf⟩ := ho
    obtain ⟨p1, p2, p3, _, _, _, _, _, h5⟩ := hf
    have h8 := h9.c8
    rw [hc8] at h8
    injection h8 with h8
    injection h8 with e1 e2 e3
    rw [e2]
    cases d with
    | zero => omega
    | succ d =>
      rcases h5 with ⟨e4, e5, _⟩ | ⟨_, _, _, _, e4, _⟩
      · rw [e5]; exact e4
      · exact e4
  obtain ⟨y1, k1, j1, y2, k2, j2, y3, k3, j3, y9, _⟩ := hE i hi (by omega)
  refine ⟨g, l, c, hc8, hl, hgin.2, hgin.1, hgq, ⟨cs, hg⟩, ⟨_, _, _, _, y9⟩, ?_⟩
  intro w5 W x D5 d5 N x1 n1 i1 x2 n2 i2 x3 n3 i3 hb hN hO hW hzN
  have hz5 := hb.size
  have hqw := (Array.getElem?_eq_some_iff.1 hrow).1
  have ho5 : Own9 w5 (max D D5) d q 0 T (p12 ++ g :: bss.flatten) := (ho.keep (fun i _ => bcell hb hqw _) (fun k hk => hb.block k (hin k hk).2)).deeperD (Nat.le_max_left _ _)
  have hat : AtP w5 q 0 [i] g (i * 9) := ⟨g, 0, l, c, (bcell hb hqw 8).trans hc8, by simp [AtP]⟩
  obtain ⟨bn, hfO, hndn, hbn⟩ := hO
  have hfO' : FldO w5 (max D D5) (OwM w5 (max D D5) d5) x x1 n1 x2 n2 x3 n3 bn := hfO.map (fun _ _ _ _ _ hr => hr.deeper (Nat.le_max_right _ _)) (fun _ _ _ _ _ hr => OwM.deep2D (Nat.le_max_right _ _) hr)
  have hrow5 := (hb.block q hqw).trans hrow
  obtain ⟨bsN, hoN0, hndN, hsub⟩ := put_at (i1 := i1) (i2 := i2) (i3 := i3) (M := wr.heap.size) hfO' hndn (fun k hk => by have := (hbn k hk).1; omega) [i] ho5 hnd hnb hqw (fun k hk => (hin k hk).2) (by simp [getP, hi]) hat ⟨cs0, _, _, hrow5, by omega⟩
  have hoN : Own9 W (max D D5) (d + d5) q 0 (setP T [i] x) bsN := by rw [hW]; exact hoN0
  clear hoN0
  have hWo : ∀ k, k ≠ g → W.heap[k]? = w5.heap[k]? := fun k hk => by rw [hW]; exact set9_other k hk
  have hWb : Below g w5 W := by rw [hW]; exact set9_below (Below.refl _ _) (Nat.le_refl _)
  have hWs : W.heap.size = w5.heap.size := by rw [hW]; exact set9_size _ _ _ _ _ _ _ _ _ _ _ _
  refine ⟨(h.bel.trans (hb.mono h.bel.size)).trans (hWb.mono (by omega)), ⟨cs0, (hWo q (fun e => hgq e.symm)).trans hrow5, hrs⟩, bsN, _, _, hoN, hndN, fun hh => ?_, fun k hk => ?_⟩
  · rcases hsub q hh with h1 | h1
    · exact hnb h1
    · have := (hbn q h1).1; omega
  · rw [hWs]
    rcases hsub k hk with h1 | h1
    · exact ⟨(hin k h1).1, by have := (hin k h1).2; omega⟩
    · have := hbn k h1
      exact ⟨by omega, this.2⟩

end Go.Proofs.Ytbdmdgghhefmcaa

/-
  Free names in the model: 'l2Binds'.
-/
namespace Go.Proofs.Ytbdmdgghhefmcaa
open Go.RowKit
set_option linter.unusedVariables false
set_option linter.unusedSimpArgs false

set_option maxRecDepth 100000 in
set_option maxHeartbeats 1000000 in
theorem l2Binds_any (t : Tm) (a1 : Option Addr) (l1 c1 : Nat) (a2 : Option Addr) (l2 c2 : Nat) (a3 : Option Addr) (l3 c3 : Nat) (i : Nat) (hi : i ≤ 1000) (w : World) :
    Calls Try.prog 39 #[.agg #[.int .i64 t.K, .int .i64 t.N, .string t.S, .string t.Z, .int .i64 t.T.K, .int .i64 t.T.N, .slice a1 l1 c1, .slice a2 l2 c2, .slice a3 l3 c3], .int .i64 i] w fun e w' => LitE w w' e (bindsW t.K (bs t.S) (bs t.Z) i) := by
  by_cases h4 : t.K = 4
  · have HN : Hid (bindsW t.K (bs t.S) (bs t.Z) i = [bs t.S]) := by show _ = _; simp [bindsW, h4]
    rw [HN.out]
    go_enter Try.func39, Try.ntmps39
    go_wp2_with fail
    go_ret
    exact lit_1 _ _ _
  by_cases h7 : t.K = 7
  · have HN : Hid (bindsW t.K (bs t.S) (bs t.Z) i = [bs t.S]) := by show _ = _; simp [bindsW, h7]
    rw [HN.out]
    go_enter Try.func39, Try.ntmps39
    go_wp2_with fail
    go_ret
    exact lit_1 _ _ _
  by_cases h6 : t.K = 6
  · by_cases hi1 : i = 1
    · have HN : Hid (bindsW t.K (bs t.S) (bs t.Z) i = [bs t.S]) := by show _ = _; simp [bindsW, h6, hi1]
      have bi : ((i : Int) == 1) = true := by simp [hi1]
      rw [HN.out]
      clear hi1
      go_enter Try.func39, Try.ntmps39
      go_wp2_with fail
      go_ret
      exact lit_1 _ _ _
    · have HN : Hid (bindsW t.K (bs t.S) (bs t.Z) i = []) := by show _ = _; simp [bindsW, h6, hi1]
      have bi : ((i : Int) == 1) = false := by rw [beq_eq_false_iff_ne]; omega
      rw [HN.out]
      clear hi1
      go_enter Try.func39, Try.ntmps39
      go_wp2_with fail
      go_ret
      exact lit_0 _ _
  by_cases h17 : t.K = 17
  · by_cases hi1 : i = 1
    · have HN : Hid (bindsW t.K (bs t.S) (bs t.Z) i = [bs t.S]) := by show _ = _; simp [bindsW, h17, hi1]
      have bi : ((i : Int) == 1) = true := by simp [hi1]
      rw [HN.out]
      clear hi1
      go_enter Try.func39, Try.ntmps39
      go_wp2_with fail
      go_ret
      exact lit_1 _ _ _
    · have HN : Hid (bindsW t.K (bs t.S) (bs t.Z) i = []) := by show _ = _; simp [bindsW, h17, hi1]
      have bi : ((i : Int) == 1) = false := by rw [beq_eq_false_iff_ne]; omega
      rw [HN.out]
      clear hi1
      go_enter Try.func39, Try.ntmps39
      go_wp2_with fail
      go_ret
      exact lit_0 _ _
  by_cases h14 : t.K = 14
  · by_cases hi2 : i = 2
    · have HN : Hid (bindsW t.K (bs t.S) (bs t.Z) i = [bs t.S, bs t.Z]) := by show _ = _; simp [bindsW, h14, hi2]
      have bi : ((i : Int) == 2) = true := by simp [hi2]
      rw [HN.out]
      clear hi2
      go_enter Try.func39, Try.ntmps39
      go_wp2_with fail
      go_ret
      exact lit_2 _ _ _ _
    · have HN : Hid (bindsW t.K (bs t.S) (bs t.Z) i = []) := by show _ = _; simp [bindsW, h14, hi2]
      have bi : ((i : Int) == 2) = false := by rw [beq_eq_false_iff_ne]; omega
      rw [HN.out]
      clear hi2
      go_enter Try.func39, Try.ntmps39
      go_wp2_with fail
      go_ret
      exact lit_0 _ _
  have HN : Hid (bindsW t.K (bs t.S) (bs t.Z) i = []) := by show _ = _; simp [bindsW, h4, h7, h6, h17, h14]
  have b4 : (t.K == 4) = false := by simp [h4]
  have b7 : (t.K == 7) = false := by simp [h7]
  have b6 : (t.K == 6) = false := by simp [h6]
  have b17 : (t.K == 17) = false := by simp [h17]
  have b14 : (t.K == 14) = false := by simp [h14]
  clear h4 h7 h6 h17 h14
  rw [HN.out]
  go_enter Try.func39, Try.ntmps39
  go_wp2_with fail
  go_ret
  exact lit_0 _ _

end Go.Proofs.Ytbdmdgghhefmcaa

/-
  Free names in the model: 'l2Has', 'l2Binds'.
-/
namespace Go.Proofs.Ytbdmdgghhefmcaa
open Go.RowKit
set_option linter.unusedVariables false
set_option linter.unusedSimpArgs false

set_option maxRecDepth 100000 in
set_option maxHeartbeats 1000000 in
theorem l2Has_any {base : Nat} (v : Value) (P : List (List UInt8)) (s : ByteArray) (w : World) (h : Toks base w v P) (hl : P.length ≤ 100000) :
    Calls Try.prog 38 #[v, .string s] w fun e w' => e = .returned (.bool (decide (bs s ∈ P))) ∧ w' = w := by
  obtain ⟨ao, cap, rfl⟩ := toks_form h
  go_enter Try.func38, Try.ntmps38
  go_wp2_with fail
  go_loopw [5] (fun i wr => ∃ j : Nat, j ≤ P.length ∧ i = .int .i64 j ∧ wr = w ∧ Hid (∀ q (hq : q < P.length), q < j → P[q] ≠ bs s)) (fun i _ => P.length - (intOf i).toNat)
  case atStart => exact ⟨0, by omega, rfl, rfl, fun q hq hj => by omega⟩
  case round =>
    obtain ⟨j, hj, rfl, rfl, HN⟩ := hrel
    by_cases hlt : j < P.length
    · obtain ⟨g, cap', e, hg, hgw, hc⟩ := toks_at h j hlt
      injection e with e1 e2 e3
      subst e1
      subst e3
      rw [Nat.zero_add] at hc
      by_cases he : P[j] = bs s
      · have HE : Hid (decide (bs s ∈ P) = true) := by show _ = _; simp; rw [← he]; exact List.getElem_mem hlt
        rw [he, tk_bs] at hc
        clear he
        go_wp2_with fail
        go_ret
        exact ⟨ret_bool HE.out.symm, rfl⟩
      · have HN2 : Hid (∀ q (hq : q < P.length), q < j + 1 → P[q] ≠ bs s) := fun q hq hj2 => by
          by_cases e : q = j
          · subst e; exact he
          · exact HN.out q hq (by omega)
        obtain ⟨z, hz⟩ : ∃ z : ByteArray, tk P[j] = .string z := ⟨_, rfl⟩
        have hzs : ¬ z = s := fun e => he (by
          have : (⟨P[j].toArray⟩ : ByteArray) = z := by simpa [tk] using hz
          rw [e] at this
          rw [← this]; simp [bs])
        have hzl : ¬ z.toList = s.toList := fun e => hzs (ByteArray.ext (by rw [ByteArray.toList_eq, ByteArray.toList_eq] at e; exact Array.toList_inj.1 e))
        have hzb : (z.toList == s.toList) = false := by rw [beq_eq_false_iff_ne]; exact hzl
        rw [hz] at hc
        clear he hz hzl hzs
        go_wp2_with fail
        go_roundw
        case rel => exact ⟨j + 1, by omega, by go_num, by first | rfl | trivial, HN2⟩
        case measure => simp [intOf]; omega
    · have HE : Hid (decide (bs s ∈ P) = false) := by
        show _ = _
        rw [decide_eq_false_iff_not]
        intro hm
        obtain ⟨q, hq, e⟩ := List.getElem_of_mem hm
        exact HN.out q hq (by omega) e
      go_wp2_with fail
      go_ret
      exact ⟨ret_bool HE.out.symm, rfl⟩

end Go.Proofs.Ytbdmdgghhefmcaa
