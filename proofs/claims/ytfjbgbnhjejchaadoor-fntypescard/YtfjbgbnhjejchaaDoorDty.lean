/-
  What the model's 'DrawTyText' comes to: some type that lies in memory.
-/
import Derived.Test.YtfjbgbnhjejchaaDoorNy
import Derived.Test.YtfjbgbnhjejchaaDoorNw1
namespace Go.Proofs.YtfjbgbnhjejchaaDoor
open Go.RowKit
set_option linter.unusedVariables false
set_option linter.unusedSimpArgs false

theorem below_drawn {w wr w1 : World} {p : Nat} {cao : Option Addr} {clen ccap : Nat} (hb : Below w.heap.size w wr) (hD : Drw wr w1 p cao clen ccap) (hp : w.heap.size ≤ p) : Below w.heap.size w w1 :=
  ⟨hD.grown.os.trans hb.os, hD.grown.tape.trans hb.tape, hD.grown.output.trans hb.output, Nat.le_trans hb.size hD.grown.size, fun i hi => (hD.grown.block i (Nat.lt_of_lt_of_le hi hb.size) (by simp; omega)).trans (hb.block i hi)⟩

theorem bts_below {w w' : World} {cao : Option Addr} {clen : Nat} (h : Bts w cao clen) (hb : Below w.heap.size w w') : Bts w' cao clen := by
  intro j hj
  obtain ⟨b, o, x, e, hbw, hx, r⟩ := h j hj
  have := hb.size
  exact ⟨b, o, x, e, by omega, (World.cell?_of_block (hb.block b hbw)).trans hx, r⟩

set_option maxHeartbeats 400000 in
theorem drawTyText_any (cao : Option Addr) (clen ccap : Nat) (w : World) (hb : Bts w cao clen) (hl : clen ≤ 1048576) :
    Calls Tryd.prog 11 #[.slice cao clen ccap] w fun e w' => ∃ K N ao len cap ts, e = .returned (.agg #[.int .i64 K, .int .i64 N, .slice ao len cap]) ∧ Below w.heap.size w w' ∧ Hs w.heap.size w'.heap.size w' 10 ao len ts ∧ cntS ts ≤ 261 := by
  have hX : Below w.heap.size w (w.alloc (.cells #[.int .i64 0, .int .i64 0, .slice none 0 0] 29)) := (Below.refl _ _).alloc (Nat.le_refl _) _
  have hX1 : (w.alloc (.cells #[.int .i64 0, .int .i64 0, .slice none 0 0] 29)).heap[w.heap.size]? = some (.cells #[.int .i64 0, .int .i64 0, .slice none 0 0] 29 (0, 0)) := heap_new rfl
  go_enter Tryd.func11, Tryd.ntmps11
  go_wp2_with fail
  refine (l1New_any cao clen ccap _ (bts_below hb hX) hl).mono ?_
  rintro e w1 ⟨p, rfl, hb1, hp, hc⟩
  have hz1 := hb1.size
  simp only [World.size_alloc] at hz1 hp
  have hbw1 : Below w.heap.size w w1 := hX.trans (hb1.mono (by simp))
  have r1 := (hb1.block w.heap.size (by simp)).trans hX1
  go_wp2_with fail
  refine (l1Any_any p cao clen ccap _ hc).mono ?_
  rintro e w2 ⟨K, N, ao, len, cap, ts, rfl, hD, hs, hcn⟩
  have hz2 := hD.grown.size
  have r2 := (hD.grown.block w.heap.size (by omega) (by simp; omega)).trans r1
  have hbw2 := below_drawn hbw1 hD (by omega)
  obtain ⟨q0, q1, q2⟩ := box_cells r2
  have q3 := row_free r2
  have HE : Below w.heap.size w (set3 w2 w.heap.size 0 (.int .i64 K) (.int .i64 N) (.slice ao len cap)) ∧ Hs w.heap.size (set3 w2 w.heap.size 0 (.int .i64 K) (.int .i64 N) (.slice ao len cap)).heap.size (set3 w2 w.heap.size 0 (.int .i64 K) (.int .i64 N) (.slice ao len cap)) 10 ao len ts := by
    refine ⟨set3_below hbw2 (Nat.le_refl _), ?_⟩
    rw [set3_size]
    exact hs.keep (fun x hx _ => set3_other _ (by omega)) (by omega) (Nat.le_refl _)
  go_wp2_with fail
  refine bodyPost_ret (v := .agg #[.int .i64 K, .int .i64 N, .slice ao len cap]) (by simp [results, Tryd.results11, go_sem, q0, q1, q2]) rfl ?_
  exact ⟨K, N, ao, len, cap, ts, rfl, HE.1, HE.2, hcn⟩

end Go.Proofs.YtfjbgbnhjejchaaDoor
