/-
  The model's 'l2CopyTys', 'l2Copy': the same in memory of its own.
-/
import Derived.Test.YtgljlgiebmnekaaGreatDoorQuZ22
import Derived.Test.YtgljlgiebmnekaaGreatDoorQuZ34
import Derived.Test.YtgljlgiebmnekaaGreatDoorQuZ10
import Derived.Laws.IdiomStrings
import Derived.Test.YtgljlgiebmnekaaGreatDoorQuTmT
import Derived.Test.YtgljlgiebmnekaaGreatDoorQuZ5
import Derived.Deep.RegionLaw
namespace Go.Proofs.YtgljlgiebmnekaaGreatDoor
open Go.RowKit
set_option linter.unusedVariables false
set_option linter.unusedSimpArgs false

theorem ap_emp {base : Nat} {w : World} {d b : Nat} (ts : List Tr) (h : w.heap[b]? = some (.cells #[] 31 (0, 0))) (hb : base ≤ b) : ApRel base w d (.slice (some ⟨b, 0, none⟩) 0 0) 0 ts :=
  ⟨[], ⟨by simp, Or.inr ⟨b, 0, #[], by simp, hb, h, by simp, by simp, by simp, by simp⟩⟩, [], rfl, by simp, by simp, fun i hi => by simp at hi⟩


set_option maxRecDepth 100000 in
set_option maxHeartbeats 2000000 in
theorem l2CopyTys_any (D L B : Nat) (ao : Option Addr) (len cap : Nat) (ts : List Tr) (w : World) (hB : B ≤ w.heap.size) (hs0 : Hs L B w D ao len ts) (hcnt : cntS ts ≤ 1048576) :
    Calls Tryz.prog 37 #[.slice ao len cap] w fun e w' => ∃ ao2 cap2, e = .returned (.slice ao2 len cap2) ∧ Below w.heap.size w w' ∧ OwR w.heap.size w'.heap.size w' (D + 1) ao2 len ts := by
  have hs : Hs L B w (D + 1) ao len ts := hs0.deeper (by omega)
  have hl : len ≤ 1048576 := by have := hs.1; have := cntS_eq ts; omega
  have HL : Hid (len = ts.length) := hs.1
  obtain ⟨W, hW⟩ : ∃ W, W = w.alloc (.cells #[] 31) := ⟨_, rfl⟩
  have hWb : Below w.heap.size w W := by rw [hW]; exact (Below.refl _ _).alloc (Nat.le_refl _) _
  have hW0 : W.heap[w.heap.size]? = some (.cells #[] 31 (0, 0)) := by rw [hW]; exact heap_new rfl
  have HW : Hid (W = _) := hW
  clear hW hs0
  go_enter Tryz.func37, Tryz.ntmps37
  go_wp2_with fail
  rw [← HW.out]
  go_loopw [3, 4] (fun v i wr => ∃ (j : Nat) (aj : Option Addr) (cj : Nat), j ≤ len ∧ i = .int .i64 j ∧ v = .slice aj j cj ∧ ApRel w.heap.size wr D (.slice aj j cj) j ts ∧ Below w.heap.size w wr) (fun _ i _ => len - (intOf i).toNat)
  case atStart => exact ⟨0, _, _, by omega, rfl, rfl, ap_emp ts hW0 (Nat.le_refl _), hWb⟩
  case round =>
    obtain ⟨j, aj, cj, hj, rfl, rfl, hap, hbr⟩ := hrel
    have hszr := hbr.size
    by_cases hlt : j < len
    · have hlt' : j < ts.length := by have := HL.out; omega
      obtain ⟨b, o, rfl, _, hbB, ao1, len1, cap1, c0, c1, c2, hs1⟩ := hs.2.2 j hlt'
      have e0 := (bcell hbr (by omega) _).trans c0
      have e1 := (bcell hbr (by omega) _).trans c1
      have e2 := (bcell hbr (by omega) _).trans c2
      have hs2 := hs1.below hbr hB
      have hc1 := cntS_get ts j hlt'
      have APR : Hid (∀ (w1 : World) (ao3 : Option Addr) (len3 cap3 : Nat), Below wr.heap.size wr w1 → OwR wr.heap.size w1.heap.size w1 D ao3 len3 ts[j].A → ∃ g cap w2, (Builtin.append_ #[29, 29] 29 #[.slice aj j cj, .slice (some ⟨w1.heap.size, 0, none⟩) 1 1]).run Tryz.prog (w1.alloc (.cells #[.int .i64 ts[j].K, .int .i64 ts[j].N, .slice ao3 len3 cap3] 31)) = .ok (.slice (some ⟨g, 0, none⟩) (j + 1) cap) w2 ∧ ApRel w.heap.size w2 D (.slice (some ⟨g, 0, none⟩) (j + 1) cap) (j + 1) ts ∧ Below w.heap.size w w2) := by
        intro w1 ao3 len3 cap3 hb1 ho1
        obtain ⟨g, cp, w2, hrun, hap2, hbe2⟩ := ap_run hap hlt' (by have := HL.out; omega) hb1 (by omega) ho1
        exact ⟨g, cp, w2, hrun, hap2, hbr.trans hbe2⟩
      clear c0 c1 c2 hs1
      go_wp2_with fail
      refine (lc_any D L B _ _ _ _ _ ts[j].A wr (by omega) hs2 (by omega)).mono ?_
      rintro e w1 ⟨ao3, len3, cap3, rfl, hb1, ho1⟩
      obtain ⟨g, cp, w2, hrun, hap2, hbr2⟩ := APR.out w1 ao3 len3 cap3 hb1 ho1
      clear e0 e1 e2
      go_wp2_with (at_builtin; refine list_run hrun (by rfl) _ _ (by rfl) (by rfl) (by rfl) (by rfl) ?_)
      clear hrun
      go_roundw
      case rel => exact ⟨j + 1, _, _, by omega, by go_num, rfl, hap2, hbr2⟩
      case measure => simp [intOf]; omega
    · have hjl : j = len := by omega
      have HJ : Hid (j = len) := hjl
      clear hjl
      go_wp2_with fail
      go_ret
      have hjl := HJ.out
      subst hjl
      obtain ⟨a', c', ev, ho⟩ := ap_done hap HL.out (by omega)
      injection ev with ev1 _ ev3
      subst ev1
      subst ev3
      exact ⟨_, _, rfl, hbr, ho⟩

end Go.Proofs.YtgljlgiebmnekaaGreatDoor

/-
  What the model's 'l1Text' comes to: the text of a type that is right.
-/
namespace Go.Proofs.YtgljlgiebmnekaaGreatDoor
open Go.RowKit
set_option linter.unusedVariables false
set_option linter.unusedSimpArgs false

theorem str_add (a b : List UInt8) : (⟨a.toArray⟩ : ByteArray) ++ ⟨b.toArray⟩ = ⟨(a ++ b).toArray⟩ := by
  apply ByteArray.ext
  simp

end Go.Proofs.YtgljlgiebmnekaaGreatDoor

/-
  The model's 'l2Int': a number as text; 'l2Word'.
-/
namespace Go.Proofs.YtgljlgiebmnekaaGreatDoor
open Go.RowKit
set_option linter.unusedVariables false
set_option linter.unusedSimpArgs false

theorem conv_any (w : World) (g : Nat) (b : UInt8) (x : Int) (hx : x = (b.toNat : Int)) (hc : w.cell? ⟨g, 0, none⟩ = some (.int .u8 x)) : (convert 83 9 (.slice (some ⟨g, 0, none⟩) 1 1)).run Tryz.prog w = .ok (.string ⟨#[b]⟩) w := by
  refine run_convert_bytes_back _ _ _ _ ⟨g, 0, none⟩ 1 [b] Tryz.underlying83 Tryz.underlying5 Tryz.underlying9 ?_
  intro j hj
  have hj0 : j = 0 := by simpa using hj
  subst hj0
  show w.cell? ⟨g, 0, none⟩ = _
  rw [hc, hx]
  rfl

set_option maxRecDepth 100000 in
set_option maxHeartbeats 1000000 in
theorem li_ten (u : Nat) (hu : u < 10) (w : World) : Calls Tryz.prog 40 #[.int .i64 (u : Int)] w fun e w' => e = .returned (.string ⟨(Lib.decDigits u).toArray⟩) ∧ Below w.heap.size w w' := by
  have h : u = 0 ∨ u = 1 ∨ u = 2 ∨ u = 3 ∨ u = 4 ∨ u = 5 ∨ u = 6 ∨ u = 7 ∨ u = 8 ∨ u = 9 := by omega
  have HD : Hid (Lib.decDigits u = [UInt8.ofNat (48 + u)]) := Lib.decDigits_one hu
  clear hu
  rcases h with rfl | rfl | rfl | rfl | rfl | rfl | rfl | rfl | rfl | rfl
  · have hcv := conv_any (w.alloc (.cells #[.int .u8 48] 5)) w.heap.size 48 48 rfl (row_cell (heap_new rfl) 0)
    go_enter Tryz.func40, Tryz.ntmps40
    go_wp2_with fail
    go_ret
    exact ⟨by rw [HD.out]; rfl, (Below.refl _ _).alloc (Nat.le_refl _) _⟩
  · have hcv := conv_any (w.alloc (.cells #[.int .u8 49] 5)) w.heap.size 49 49 rfl (row_cell (heap_new rfl) 0)
    go_enter Tryz.func40, Tryz.ntmps40
    go_wp2_with fail
    go_ret
    exact ⟨by rw [HD.out]; rfl, (Below.refl _ _).alloc (Nat.le_refl _) _⟩
  · have hcv := conv_any (w.alloc (.cells #[.int .u8 50] 5)) w.heap.size 50 50 rfl (row_cell (heap_new rfl) 0)
    go_enter Tryz.func40, Tryz.ntmps40
    go_wp2_with fail
    go_ret
    exact ⟨by rw [HD.out]; rfl, (Below.refl _ _).alloc (Nat.le_refl _) _⟩
  · have hcv := conv_any (w.alloc (.cells #[.int .u8 51] 5)) w.heap.size 51 51 rfl (row_cell (heap_new rfl) 0)
    go_enter Tryz.func40, Tryz.ntmps40
    go_wp2_with fail
    go_ret
    exact ⟨by rw [HD.out]; rfl, (Below.refl _ _).alloc (Nat.le_refl _) _⟩
  · have hcv := conv_any (w.alloc (.cells #[.int .u8 52] 5)) w.heap.size 52 52 rfl (row_cell (heap_new rfl) 0)
    go_enter Tryz.func40, Tryz.ntmps40
    go_wp2_with fail
    go_ret
    exact ⟨by rw [HD.out]; rfl, (Below.refl _ _).alloc (Nat.le_refl _) _⟩
  · have hcv := conv_any (w.alloc (.cells #[.int .u8 53] 5)) w.heap.size 53 53 rfl (row_cell (heap_new rfl) 0)
    go_enter Tryz.func40, Tryz.ntmps40
    go_wp2_with fail
    go_ret
    exact ⟨by rw [HD.out]; rfl, (Below.refl _ _).alloc (Nat.le_refl _) _⟩
  · have hcv := conv_any (w.alloc (.cells #[.int .u8 54] 5)) w.heap.size 54 54 rfl (row_cell (heap_new rfl) 0)
    go_enter Tryz.func40, Tryz.ntmps40
    go_wp2_with fail
    go_ret
    exact ⟨by rw [HD.out]; rfl, (Below.refl _ _).alloc (Nat.le_refl _) _⟩
  · have hcv := conv_any (w.alloc (.cells #[.int .u8 55] 5)) w.heap.size 55 55 rfl (row_cell (heap_new rfl) 0)
    go_enter Tryz.func40, Tryz.ntmps40
    go_wp2_with fail
    go_ret
    exact ⟨by rw [HD.out]; rfl, (Below.refl _ _).alloc (Nat.le_refl _) _⟩
  · have hcv := conv_any (w.alloc (.cells #[.int .u8 56] 5)) w.heap.size 56 56 rfl (row_cell (heap_new rfl) 0)
    go_enter Tryz.func40, Tryz.ntmps40
    go_wp2_with fail
    go_ret
    exact ⟨by rw [HD.out]; rfl, (Below.refl _ _).alloc (Nat.le_refl _) _⟩
  · have hcv := conv_any (w.alloc (.cells #[.int .u8 57] 5)) w.heap.size 57 57 rfl (row_cell (heap_new rfl) 0)
    go_enter Tryz.func40, Tryz.ntmps40
    go_wp2_with fail
    go_ret
    exact ⟨by rw [HD.out]; rfl, (Below.refl _ _).alloc (Nat.le_refl _) _⟩

set_option maxRecDepth 100000 in
set_option maxHeartbeats 1000000 in
theorem li_big (q r : Nat) (hr : r < 10) (hq : 1 ≤ q) (h6 : 10 * q + r ≤ 1000000) (u : Nat) (hu : u = 10 * q + r) (IH : ∀ w, Calls Tryz.prog 40 #[.int .i64 (q : Int)] w fun e w' => e = .returned (.string ⟨(Lib.decDigits q).toArray⟩) ∧ Below w.heap.size w w') (w : World) : Calls Tryz.prog 40 #[.int .i64 (u : Int)] w fun e w' => e = .returned (.string ⟨(Lib.decDigits u).toArray⟩) ∧ Below w.heap.size w w' := by
  have h10 : ¬ (u : Int) < 10 := by omega
  have h0 : ¬ (u : Int) < 0 := by omega
  have wq : IntKind.i64.wrap ((u : Int) / 10) = (q : Int) := by rw [IntKind.wrap_i64]; omega
  have wr : (u : Int).tmod 10 = (r : Int) := by rw [Int.tmod_eq_emod_of_nonneg (by omega)]; omega
  have wr2 : IntKind.i64.wrap (48 + (r : Int)) = 48 + (r : Int) := by rw [IntKind.wrap_i64]; omega
  have wr3 : IntKind.u8.wrap (48 + (r : Int)) = 48 + (r : Int) := by simp [IntKind.wrap, IntKind.bits, IntKind.signed]; omega
  have HD : Hid (Lib.decDigits u = Lib.decDigits q ++ [UInt8.ofNat (48 + r)]) := by
    show _ = _
    rw [Lib.decDigits, dif_neg (by omega), show u / 10 = q by omega, show u % 10 = r by omega]
  have hb : (48 + (r : Int)) = ((UInt8.ofNat (48 + r)).toNat : Int) := by
    rw [UInt8.toNat_ofNat']; omega
  generalize UInt8.ofNat (48 + r) = b at HD hb
  have CV : Hid (∀ W : World, W.cell? ⟨w.heap.size, 0, none⟩ = some (.int .u8 (48 + (r : Int))) → (convert 83 9 (.slice (some ⟨w.heap.size, 0, none⟩) 1 1)).run Tryz.prog W = .ok (.string ⟨#[b]⟩) W) := fun W hc => conv_any W _ b _ hb hc
  have CV1 : Hid (∀ W : World, (convert 83 9 (.slice (some ⟨W.heap.size, 0, none⟩) 1 1)).run Tryz.prog (W.alloc (.cells #[.int .u8 (48 + (r : Int))] 5)) = .ok (.string ⟨#[b]⟩) (W.alloc (.cells #[.int .u8 (48 + (r : Int))] 5))) := fun W => conv_any _ _ b _ hb (row_cell (heap_new rfl) 0)
  have hcv := CV.out (w.alloc (.cells #[.int .u8 (48 + (r : Int))] 5)).drew (row_cell (w := w.alloc (.cells #[.int .u8 (48 + (r : Int))] 5)) (heap_new rfl) 0)
  have HBD : Hid (Below w.heap.size w w.drew) := ⟨rfl, rfl, rfl, Nat.le_refl _, fun _ _ => rfl⟩
  have hln : ¬ 9223372036854775807 < (Lib.decDigits q).length + 1 := by
    have h := Lib.itoa_length_le (q : Int) (by omega) (by omega)
    rw [Lib.itoa_nonneg] at h
    omega
  clear hb hu hq h6
  go_enter Tryz.func40, Tryz.ntmps40
  go_wp2_with fail
  go_region_law (go_simp; go_at_call 40; refine (IH _).mono ?_; rintro e w5 ⟨rfl, hb5⟩; have hcv5 := CV1.out w5; first | (have hd5 := HBD.out.trans (hb5.mono HBD.out.size)) | (have hd5 := (HBD.out.alloc (Nat.le_refl _) _).trans (hb5.mono (by simp)); have hcv6 := CV.out w5 ((hb5.cell (by simp)).trans (row_cell (heap_new rfl) 0))))
  all_goals
    go_wp2_with fail
    go_ret
    exact ⟨by rw [HD.out, ← str_add]; rfl, by first | exact hd5 | exact hd5.alloc hd5.size _⟩

theorem li_nat (u : Nat) (h6 : u ≤ 1000000) (w : World) : Calls Tryz.prog 40 #[.int .i64 (u : Int)] w fun e w' => e = .returned (.string ⟨(Lib.decDigits u).toArray⟩) ∧ Below w.heap.size w w' := by
  induction u using Nat.strongRecOn generalizing w with
  | _ u ih =>
    by_cases hu : u < 10
    · exact li_ten u hu w
    · exact li_big (u / 10) (u % 10) (by omega) (by omega) (by omega) u (by omega) (fun W => ih (u / 10) (by omega) (by omega) W) w

set_option maxRecDepth 100000 in
set_option maxHeartbeats 1000000 in
theorem li_neg (u : Nat) (h1 : 1 ≤ u) (h6 : u ≤ 1000000) (w : World) : Calls Tryz.prog 40 #[.int .i64 (-(u : Int))] w fun e w' => e = .returned (.string ⟨(45 :: Lib.decDigits u).toArray⟩) ∧ Below w.heap.size w w' := by
  have h0 : (-(u : Int)) < 0 := by omega
  have wq : IntKind.i64.wrap (u : Int) = (u : Int) := by rw [IntKind.wrap_i64]; omega
  have hln : ¬ 9223372036854775807 < 1 + (Lib.decDigits u).length := by
    have h := Lib.itoa_length_le (u : Int) (by omega) (by omega)
    rw [Lib.itoa_nonneg] at h
    omega
  have K := li_nat u h6
  clear h1 h6
  go_enter Tryz.func40, Tryz.ntmps40
  go_wp2_with fail
  refine (K _).mono ?_
  rintro e w1 ⟨rfl, hb1⟩
  go_wp2_with fail
  go_ret
  exact ⟨by rw [show (45 :: Lib.decDigits u) = [45] ++ Lib.decDigits u from rfl, ← str_add]; rfl, hb1⟩

theorem li_any (n : Int) (h0 : -1000000 ≤ n) (h1 : n ≤ 1000000) (w : World) : Calls Tryz.prog 40 #[.int .i64 n] w fun e w' => e = .returned (.string ⟨(Lib.itoa n).toArray⟩) ∧ Below w.heap.size w w' := by
  by_cases hn : n < 0
  · obtain ⟨u, rfl⟩ : ∃ u : Nat, n = -(u : Int) := ⟨n.natAbs, by omega⟩
    rw [Lib.itoa_neg u (by omega)]
    exact li_neg u (by omega) (by omega) w
  · obtain ⟨u, rfl⟩ : ∃ u : Nat, n = (u : Int) := ⟨n.toNat, by omega⟩
    rw [Lib.itoa_nonneg]
    exact li_nat u (by omega) w

end Go.Proofs.YtgljlgiebmnekaaGreatDoor
