/-
  'markTy' of a whole type; 'heldTyS', 'heldTy' over what bears the numbers: they answer the count.
-/
import Derived.Test.YtgckmnchlkgakaaBndMk
namespace Go.Proofs.Ytgckmnchlkgakaa
open Go.RowKit
set_option linter.unusedVariables false
set_option linter.unusedSimpArgs false

set_option maxHeartbeats 400000 in
theorem mk_any (d : Nat) (K N : Int) (ao : Option Addr) (len cap : Nat) (ts : List Tr) (bs : List Nat) (k : Int) (w : World) (ho : Ow w d ao len ts bs) (hnd : bs.Nodup) (hin : ∀ b ∈ bs, b < w.heap.size) (hk0 : 0 ≤ k) (hk1 : k + 2 * cntS ts ≤ 4611686018427387904) :
    Calls Try.prog 41 #[.agg #[.int .i64 K, .int .i64 N, .slice ao len cap], .int .i64 k] w fun e w' => e = .returned (.int .i64 (k + 2 * cntS ts)) ∧ Chg bs w w' ∧ Ow w' d ao len (markD d k ts) bs := by
  obtain ⟨X, hX⟩ : ∃ X, X = w.alloc (.cells #[.int .i64 K, .int .i64 N, .slice ao len cap] 33) := ⟨_, rfl⟩
  have hXs : X.heap.size = w.heap.size + 1 := by rw [hX]; simp
  have hXb : Below w.heap.size w X := by rw [hX]; exact (Below.refl _ _).alloc (Nat.le_refl _) _
  have hXo : Ow X d ao len ts bs := ho.keep fun b hb => hXb.block b (hin b hb)
  have HIn : Hid (∀ b ∈ bs, b < X.heap.size) := fun b hb => by have := hin b hb; omega
  have HX : Hid (X = _) := hX
  have HND : Hid bs.Nodup := hnd
  clear hX hin hnd
  go_enter Try.func41, Try.ntmps41
  go_wp2_with fail
  rw [← HX.out]
  refine (mkS_any d _ _ _ _ _ _ _ hXo HND.out HIn.out hk0 hk1).mono ?_
  rintro e w1 ⟨rfl, hc1, ho1⟩
  go_wp2_with fail
  go_ret
  exact ⟨rfl, (Below.chg hXb).trans hc1, ho1⟩

end Go.Proofs.Ytgckmnchlkgakaa
