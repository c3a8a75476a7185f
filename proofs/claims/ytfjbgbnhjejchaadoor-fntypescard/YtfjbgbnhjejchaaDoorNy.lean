/-
  What the model's 'l1Any' comes to: some tree in new memory.
-/
import Derived.Test.YtfjbgbnhjejchaaDoorBd
namespace Go.Proofs.YtfjbgbnhjejchaaDoor
open Go.RowKit
set_option linter.unusedVariables false
set_option linter.unusedSimpArgs false

theorem Hs.drw {L B : Nat} {w w' : World} {p : Nat} {cao : Option Addr} {clen ccap d : Nat} {ao : Option Addr} {len : Nat} {ts : List Tr} (h : Hs L B w d ao len ts) (hD : Drw w w' p cao clen ccap) (hp : p < L) (hB : B ≤ w.heap.size) : Hs L B w' d ao len ts :=
  h.keep (fun q hq hq' => hD.grown.block q (by omega) (by simp; omega)) (Nat.le_refl _) (Nat.le_refl _)

set_option maxRecDepth 100000 in
set_option maxHeartbeats 2000000 in
theorem l1Any_any (p : Nat) (cao : Option Addr) (clen ccap : Nat) (w : World) (hc : Cur w p cao clen ccap) :
    Calls Tryd.prog 26 #[.pointer (some ⟨p, 0, none⟩)] w fun e w' => BdEnd w w' e p cao clen ccap 10 261 := by
  have hp := hc.lt
  have hX : Below w.heap.size w (w.alloc (.cells #[.int .i64 0, .int .i64 0, .slice none 0 0] 29)) := (Below.refl _ _).alloc (Nat.le_refl _) _
  go_enter Tryd.func26, Tryd.ntmps26
  go_wp2_with fail
  refine (ty_any 4 (by omega) p cao clen ccap _ (hc.below hX)).mono ?_
  rintro e w1 ⟨K, N, ao, len, cap, ts, rfl, hD, ho, hcn⟩
  have hz1 := hD.grown.size
  simp only [World.size_alloc] at hz1
  have hr1 : w1.heap[w.heap.size]? = some (.cells #[.int .i64 0, .int .i64 0, .slice none 0 0] 29 (0, 0)) := (hD.grown.block _ (by simp) (by simp; omega)).trans (heap_new rfl)
  have hs1 := ho.hs
  simp only [World.size_alloc] at hs1
  have hA : Below w1.heap.size w1 (w1.alloc (.cells #[.int .i64 K, .int .i64 N, .slice ao len cap] 29)) := (Below.refl _ _).alloc (Nat.le_refl _) _
  go_wp2_with fail
  refine (l1Once_any p cao clen ccap 6 _ (hD.cur.below hA) (by omega) (by omega)).mono ?_
  rintro e w2 ⟨bb, rfl, hD2⟩
  have hz2 := hD2.grown.size
  simp only [World.size_alloc] at hz2
  have t2 : w2.heap[w1.heap.size]? = some (.cells #[.int .i64 K, .int .i64 N, .slice ao len cap] 29 (0, 0)) := (hD2.grown.block _ (by simp) (by simp; omega)).trans (heap_new rfl)
  have r2 : w2.heap[w.heap.size]? = some (.cells #[.int .i64 0, .int .i64 0, .slice none 0 0] 29 (0, 0)) := (hD2.grown.block _ (by simp; omega) (by simp; omega)).trans ((Below.heap_alloc _ _ _ (by omega)).trans hr1)
  have hs2 : Hs (w.heap.size + 1) w1.heap.size w2 4 ao len ts := (hs1.below hA (Nat.le_refl _)).drw hD2 (by omega) (by simp)
  have hDw : Drw w w2 p cao clen ccap := ⟨grown_trans' (grown_trans' (grown_below _ hX) hD.grown) (grown_trans' (grown_below _ hA) hD2.grown), hD2.cur⟩
  have HCN : Hid (cntS ts ≤ 255) := by show _ ≤ _; omega
  clear hcn hD2 hD hA hX hr1 hs1 ho
  obtain ⟨f0, f1, f2⟩ := box_cells t2
  have f3 := row_free t2
  obtain ⟨q0, q1, q2⟩ := box_cells r2
  have q3 := row_free r2
  cases bb
  · have HE : BdEnd w (set3 w2 w.heap.size 0 (.int .i64 K) (.int .i64 N) (.slice ao len cap)) (.returned (.agg #[.int .i64 K, .int .i64 N, .slice ao len cap])) p cao clen ccap 10 261 := by
      have := HCN.out
      refine ⟨K, N, ao, len, cap, ts, rfl, ((hDw.set hp (Nat.le_refl _) _).set hp (Nat.le_refl _) _).set hp (Nat.le_refl _) _, ?_, by omega⟩
      rw [set3_size]
      exact (hs2.keep (w' := set3 w2 w.heap.size 0 (.int .i64 K) (.int .i64 N) (.slice ao len cap)) (L' := w.heap.size) (B' := w2.heap.size) (fun x hx _ => set3_other _ (by omega)) (by omega) (by omega)).deeper (by omega)
    go_wp2_with fail
    refine bodyPost_ret (v := .agg #[.int .i64 K, .int .i64 N, .slice ao len cap]) (by simp [results, Tryd.results26, go_sem, q0, q1, q2]) rfl ?_
    exact HE
  · go_wp2_with fail
    refine (bd_any 4 p cao clen ccap (w.heap.size + 1) w1.heap.size K N ao len cap ts _ hDw.cur (by omega) (by omega) hs2 HCN.out).mono ?_
    rintro e w3 ⟨K3, N3, ao3, len3, cap3, ts3, rfl, hD3, hs3, hc3⟩
    have hz3 := hD3.grown.size
    have t3 := (hD3.grown.block w1.heap.size (by omega) (by simp; omega)).trans t2
    have r3 := (hD3.grown.block w.heap.size (by omega) (by simp; omega)).trans r2
    have hDw3 := hDw.trans hD3
    clear f0 f1 f2 f3 q0 q1 q2 q3 t2 r2
    obtain ⟨f0, f1, f2⟩ := box_cells t3
    have f3 := row_free t3
    obtain ⟨q0, q1, q2⟩ := box_cells r3
    have q3 := row_free r3
    have HE : BdEnd w (set3 (set3 w3 w1.heap.size 0 (.int .i64 K3) (.int .i64 N3) (.slice ao3 len3 cap3)) w.heap.size 0 (.int .i64 K3) (.int .i64 N3) (.slice ao3 len3 cap3)) (.returned (.agg #[.int .i64 K3, .int .i64 N3, .slice ao3 len3 cap3])) p cao clen ccap 10 261 := by
      have := HCN.out
      refine ⟨K3, N3, ao3, len3, cap3, ts3, rfl, (((((hDw3.set hp (by omega) _).set hp (by omega) _).set hp (by omega) _).set hp (Nat.le_refl _) _).set hp (Nat.le_refl _) _).set hp (Nat.le_refl _) _, ?_, by omega⟩
      rw [set3_size, set3_size]
      exact hs3.keep (fun x hx _ => by rw [set3_other _ (by omega), set3_other _ (by omega)]) (by omega) (Nat.le_refl _)
    have hne : w.heap.size ≠ w1.heap.size := by omega
    go_wp2_with fail
    refine bodyPost_ret (v := .agg #[.int .i64 K3, .int .i64 N3, .slice ao3 len3 cap3]) (by simp [results, Tryd.results26, go_sem, q0, q1, q2]) rfl ?_
    exact HE

end Go.Proofs.YtfjbgbnhjejchaaDoor
