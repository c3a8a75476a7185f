/-
  The model's 'l2Int': a number as text; 'l2Word'.
-/
import Derived.Test.YtaljpbgggembmaaDoorShxTk0
import Derived.Laws.IdiomStrings
import Derived.Deep.RegionLaw
namespace Go.Proofs.YtaljpbgggembmaaDoor
open Go.RowKit
set_option linter.unusedVariables false
set_option linter.unusedSimpArgs false

theorem conv_any (w : World) (g : Nat) (b : UInt8) (x : Int) (hx : x = (b.toNat : Int)) (hc : w.cell? ⟨g, 0, none⟩ = some (.int .u8 x)) : (convert 39 9 (.slice (some ⟨g, 0, none⟩) 1 1)).run Tryd.prog w = .ok (.string ⟨#[b]⟩) w := by
  refine run_convert_bytes_back _ _ _ _ ⟨g, 0, none⟩ 1 [b] Tryd.underlying39 Tryd.underlying5 Tryd.underlying9 ?_
  intro j hj
  have hj0 : j = 0 := by simpa using hj
  subst hj0
  show w.cell? ⟨g, 0, none⟩ = _
  rw [hc, hx]
  rfl

set_option maxRecDepth 100000 in
set_option maxHeartbeats 1000000 in
theorem li_ten (u : Nat) (hu : u < 10) (w : World) : Calls Tryd.prog 21 #[.int .i64 (u : Int)] w fun e w' => e = .returned (.string ⟨(Lib.decDigits u).toArray⟩) ∧ Below w.heap.size w w' := by
  have h : u = 0 ∨ u = 1 ∨ u = 2 ∨ u = 3 ∨ u = 4 ∨ u = 5 ∨ u = 6 ∨ u = 7 ∨ u = 8 ∨ u = 9 := by omega
  have HD : Hid (Lib.decDigits u = [UInt8.ofNat (48 + u)]) := Lib.decDigits_one hu
  clear hu
  rcases h with rfl | rfl | rfl | rfl | rfl | rfl | rfl | rfl | rfl | rfl
  · have hcv := conv_any (w.alloc (.cells #[.int .u8 48] 5)) w.heap.size 48 48 rfl (row_cell (heap_new rfl) 0)
    go_enter Tryd.func21, Tryd.ntmps21
    go_wp2_with fail
    go_ret
    exact ⟨by rw [HD.out]; rfl, (Below.refl _ _).alloc (Nat.le_refl _) _⟩
  · have hcv := conv_any (w.alloc (.cells #[.int .u8 49] 5)) w.heap.size 49 49 rfl (row_cell (heap_new rfl) 0)
    go_enter Tryd.func21, Tryd.ntmps21
    go_wp2_with fail
    go_ret
    exact ⟨by rw [HD.out]; rfl, (Below.refl _ _).alloc (Nat.le_refl _) _⟩
  · have hcv := conv_any (w.alloc (.cells #[.int .u8 50] 5)) w.heap.size 50 50 rfl (row_cell (heap_new rfl) 0)
    go_enter Tryd.func21, Tryd.ntmps21
    go_wp2_with fail
    go_ret
    exact ⟨by rw [HD.out]; rfl, (Below.refl _ _).alloc (Nat.le_refl _) _⟩
  · have hcv := conv_any (w.alloc (.cells #[.int .u8 51] 5)) w.heap.size 51 51 rfl (row_cell (heap_new rfl) 0)
    go_enter Tryd.func21, Tryd.ntmps21
    go_wp2_with fail
    go_ret
    exact ⟨by rw [HD.out]; rfl, (Below.refl _ _).alloc (Nat.le_refl _) _⟩
  · have hcv := conv_any (w.alloc (.cells #[.int .u8 52] 5)) w.heap.size 52 52 rfl (row_cell (heap_new rfl) 0)
    go_enter Tryd.func21, Tryd.ntmps21
    go_wp2_with fail
    go_ret
    exact ⟨by rw [HD.out]; rfl, (Below.refl _ _).alloc (Nat.le_refl _) _⟩
  · have hcv := conv_any (w.alloc (.cells #[.int .u8 53] 5)) w.heap.size 53 53 rfl (row_cell (heap_new rfl) 0)
    go_enter Tryd.func21, Tryd.ntmps21
    go_wp2_with fail
    go_ret
    exact ⟨by rw [HD.out]; rfl, (Below.refl _ _).alloc (Nat.le_refl _) _⟩
  · have hcv := conv_any (w.alloc (.cells #[.int .u8 54] 5)) w.heap.size 54 54 rfl (row_cell (heap_new rfl) 0)
    go_enter Tryd.func21, Tryd.ntmps21
    go_wp2_with fail
    go_ret
    exact ⟨by rw [HD.out]; rfl, (Below.refl _ _).alloc (Nat.le_refl _) _⟩
  · have hcv := conv_any (w.alloc (.cells #[.int .u8 55] 5)) w.heap.size 55 55 rfl (row_cell (heap_new rfl) 0)
    go_enter Tryd.func21, Tryd.ntmps21
    go_wp2_with fail
    go_ret
    exact ⟨by rw [HD.out]; rfl, (Below.refl _ _).alloc (Nat.le_refl _) _⟩
  · have hcv := conv_any (w.alloc (.cells #[.int .u8 56] 5)) w.heap.size 56 56 rfl (row_cell (heap_new rfl) 0)
    go_enter Tryd.func21, Tryd.ntmps21
    go_wp2_with fail
    go_ret
    exact ⟨by rw [HD.out]; rfl, (Below.refl _ _).alloc (Nat.le_refl _) _⟩
  · have hcv := conv_any (w.alloc (.cells #[.int .u8 57] 5)) w.heap.size 57 57 rfl (row_cell (heap_new rfl) 0)
    go_enter Tryd.func21, Tryd.ntmps21
    go_wp2_with fail
    go_ret
    exact ⟨by rw [HD.out]; rfl, (Below.refl _ _).alloc (Nat.le_refl _) _⟩

set_option maxRecDepth 100000 in
set_option maxHeartbeats 1000000 in
theorem li_big (q r : Nat) (hr : r < 10) (hq : 1 ≤ q) (h6 : 10 * q + r ≤ 9223372036854775807) (u : Nat) (hu : u = 10 * q + r) (IH : ∀ w, Calls Tryd.prog 21 #[.int .i64 (q : Int)] w fun e w' => e = .returned (.string ⟨(Lib.decDigits q).toArray⟩) ∧ Below w.heap.size w w') (w : World) : Calls Tryd.prog 21 #[.int .i64 (u : Int)] w fun e w' => e = .returned (.string ⟨(Lib.decDigits u).toArray⟩) ∧ Below w.heap.size w w' := by
  have h10 : ¬ (u : Int) < 10 := by omega
  have h0 : ¬ (u : Int) < 0 := by omega
  have wq : IntKind.i64.wrap ((u : Int) / 10) = (q : Int) := by rw [IntKind.wrap_i64]; omega
  have wr : (u : Int).tmod 10 = (r : Int) := by rw [Int.tmod_eq_emod_of_nonneg (by omega)]; omega
  have wr2 : IntKind.i64.wrap (48 + (r : Int)) = 48 + (r : Int) := by rw [IntKind.wrap_i64]; omega
  have wr3 : IntKind.u8.wrap (48 + (r : Int)) = 48 + (r : Int) := by simp [IntKind.wrap, IntKind.bits, IntKind.signed]; omega
  have HD : Hid (Lib.decDigits u = Lib.decDigits q ++ [UInt8.ofNat (48 + r)]) := by
    show _ = _
    rw [Lib.decDigits, dif_neg (by omega), show u / 10 = q by omega, show u % 10 = r by omega]
  have hb : (48 + (r : Int)) = ((UInt8.ofNat (48 + r)).toNat : Int) := by
    rw [UInt8.toNat_ofNat']; omega
  generalize UInt8.ofNat (48 + r) = b at HD hb
  have CV : Hid (∀ W : World, W.cell? ⟨w.heap.size, 0, none⟩ = some (.int .u8 (48 + (r : Int))) → (convert 39 9 (.slice (some ⟨w.heap.size, 0, none⟩) 1 1)).run Tryd.prog W = .ok (.string ⟨#[b]⟩) W) := fun W hc => conv_any W _ b _ hb hc
  have CV1 : Hid (∀ W : World, (convert 39 9 (.slice (some ⟨W.heap.size, 0, none⟩) 1 1)).run Tryd.prog (W.alloc (.cells #[.int .u8 (48 + (r : Int))] 5)) = .ok (.string ⟨#[b]⟩) (W.alloc (.cells #[.int .u8 (48 + (r : Int))] 5))) := fun W => conv_any _ _ b _ hb (row_cell (heap_new rfl) 0)
  have hcv := CV.out (w.alloc (.cells #[.int .u8 (48 + (r : Int))] 5)).drew (row_cell (w := w.alloc (.cells #[.int .u8 (48 + (r : Int))] 5)) (heap_new rfl) 0)
  have HBD : Hid (Below w.heap.size w w.drew) := ⟨rfl, rfl, rfl, Nat.le_refl _, fun _ _ => rfl⟩
  have hln : ¬ 9223372036854775807 < (Lib.decDigits q).length + 1 := by
    have h := Lib.itoa_length_le (q : Int) (by omega) (by omega)
    rw [Lib.itoa_nonneg] at h
    omega
  clear hb hu hq h6
  go_enter Tryd.func21, Tryd.ntmps21
  go_wp2_with fail
  go_region_law (go_simp; go_at_call 21; refine (IH _).mono ?_; rintro e w5 ⟨rfl, hb5⟩; have hcv5 := CV1.out w5; first | (have hd5 := HBD.out.trans (hb5.mono HBD.out.size)) | (have hd5 := (HBD.out.alloc (Nat.le_refl _) _).trans (hb5.mono (by simp)); have hcv6 := CV.out w5 ((hb5.cell (by simp)).trans (row_cell (heap_new rfl) 0))))
  all_goals
    go_wp2_with fail
    go_ret
    exact ⟨by rw [HD.out, ← str_add]; rfl, by first | exact hd5 | exact hd5.alloc hd5.size _⟩

theorem li_nat (u : Nat) (h6 : u ≤ 9223372036854775807) (w : World) : Calls Tryd.prog 21 #[.int .i64 (u : Int)] w fun e w' => e = .returned (.string ⟨(Lib.decDigits u).toArray⟩) ∧ Below w.heap.size w w' := by
  induction u using Nat.strongRecOn generalizing w with
  | _ u ih =>
    by_cases hu : u < 10
    · exact li_ten u hu w
    · exact li_big (u / 10) (u % 10) (by omega) (by omega) (by omega) u (by omega) (fun W => ih (u / 10) (by omega) (by omega) W) w

set_option maxRecDepth 100000 in
set_option maxHeartbeats 1000000 in
theorem li_neg (u : Nat) (h1 : 1 ≤ u) (h6 : u ≤ 1000000) (w : World) : Calls Tryd.prog 21 #[.int .i64 (-(u : Int))] w fun e w' => e = .returned (.string ⟨(45 :: Lib.decDigits u).toArray⟩) ∧ Below w.heap.size w w' := by
  have h0 : (-(u : Int)) < 0 := by omega
  have wq : IntKind.i64.wrap (u : Int) = (u : Int) := by rw [IntKind.wrap_i64]; omega
  have hln : ¬ 9223372036854775807 < 1 + (Lib.decDigits u).length := by
    have h := Lib.itoa_length_le (u : Int) (by omega) (by omega)
    rw [Lib.itoa_nonneg] at h
    omega
  have K := li_nat u (by omega)
  clear h1 h6
  go_enter Tryd.func21, Tryd.ntmps21
  go_wp2_with fail
  refine (K _).mono ?_
  rintro e w1 ⟨rfl, hb1⟩
  go_wp2_with fail
  go_ret
  exact ⟨by rw [show (45 :: Lib.decDigits u) = [45] ++ Lib.decDigits u from rfl, ← str_add]; rfl, hb1⟩

theorem li_any (n : Int) (h0 : -1000000 ≤ n) (h1 : n ≤ 1000000) (w : World) : Calls Tryd.prog 21 #[.int .i64 n] w fun e w' => e = .returned (.string ⟨(Lib.itoa n).toArray⟩) ∧ Below w.heap.size w w' := by
  by_cases hn : n < 0
  · obtain ⟨u, rfl⟩ : ∃ u : Nat, n = -(u : Int) := ⟨n.natAbs, by omega⟩
    rw [Lib.itoa_neg u (by omega)]
    exact li_neg u (by omega) (by omega) w
  · obtain ⟨u, rfl⟩ : ∃ u : Nat, n = (u : Int) := ⟨n.toNat, by omega⟩
    rw [Lib.itoa_nonneg]
    exact li_nat u (by omega) w

end Go.Proofs.YtaljpbgggembmaaDoor
