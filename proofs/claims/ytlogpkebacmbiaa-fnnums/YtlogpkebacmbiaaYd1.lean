/-
  The model's draws of bytes and of great numbers.
-/
import Derived.Test.YtlogpkebacmbiaaNw1
import Derived.Test.YtlogpkebacmbiaaYp1
namespace Go.Proofs.Ytlogpkebacmbiaa
open Go.RowKit
set_option linter.unusedVariables false
set_option linter.unusedSimpArgs false

set_option maxHeartbeats 400000 in
theorem l1Below_big (p : Nat) (cao : Option Addr) (clen ccap : Nat) (n : Int) (w : World) (hc : Cur w p cao clen ccap) (h1 : 256 < n) (h2 : n ≤ 1000000) :
    Calls Try.prog 24 #[.pointer (some ⟨p, 0, none⟩), .int .i64 n] w fun e w' => ∃ x : Int, e = .returned (.int .i64 x) ∧ 0 ≤ x ∧ x < n ∧ Drw w w' p cao clen ccap := by
  go_enter Try.func24, Try.ntmps24
  go_wp2_with fail
  refine (l1Byte_any p cao clen ccap _ hc).mono ?_
  rintro e w1 ⟨x, rfl, hx0, hx1, hD⟩
  go_wp2_with fail
  refine (l1Byte_any p cao clen ccap _ hD.cur).mono ?_
  rintro e w2 ⟨y, rfl, hy0, hy1, hD2⟩
  go_wp2_with fail
  refine (l1Byte_any p cao clen ccap _ hD2.cur).mono ?_
  rintro e w3 ⟨z, rfl, hz0, hz1, hD3⟩
  go_wp2_with fail
  go_ret
  exact ⟨_, rfl, Int.emod_nonneg _ (by omega), Int.emod_lt_of_pos _ (by omega), (hD.trans hD2).trans hD3⟩

theorem Drw.upon {w wr w2 : World} {p : Nat} {cao : Option Addr} {clen ccap : Nat} (hD : Drw w wr p cao clen ccap) (hp : p < w.heap.size) (hb : Below w.heap.size wr w2) : Drw w w2 p cao clen ccap :=
  ⟨⟨hb.os.trans hD.grown.os, hb.tape.trans hD.grown.tape, hb.output.trans hD.grown.output, Nat.le_trans hD.grown.size hb.size, fun k hk hne => (hb.block k hk).trans (hD.grown.block k hk hne)⟩, hD.cur.keep (fun k hk => hb.block k (by omega))⟩
theorem Drw.base {w : World} {p : Nat} {cao : Option Addr} {clen ccap : Nat} (hc : Cur w p cao clen ccap) : Drw w w p cao clen ccap := ⟨grown_refl' _ _, hc⟩

set_option maxRecDepth 100000 in
set_option maxHeartbeats 1000000 in
theorem l1Bytes_any (p : Nat) (cao : Option Addr) (clen ccap n : Nat) (w : World) (hc : Cur w p cao clen ccap) (hn : n ≤ 256) :
    Calls Try.prog 23 #[.pointer (some ⟨p, 0, none⟩), .int .i64 n] w fun e w' => ∃ a' c' l, e = .returned (.slice a' n c') ∧ Byts w.heap.size w' (.slice a' n c') l ∧ (∀ x ∈ l, 0 ≤ x ∧ x ≤ 255) ∧ Drw w w' p cao clen ccap := by
  have hp := hc.lt
  obtain ⟨X, hX⟩ : ∃ X, X = w.alloc (.cells #[] 5) := ⟨_, rfl⟩
  have hXs : X.heap.size = w.heap.size + 1 := by rw [hX]; simp
  have hXb : Below w.heap.size w X := by rw [hX]; exact (Below.refl _ _).alloc (Nat.le_refl _) _
  have x1 : X.heap[w.heap.size]? = some (.cells #[] 5 (0, 0)) := by rw [hX]; exact heap_new rfl
  have hN0 : Byts w.heap.size X (.slice (some ⟨w.heap.size, 0, none⟩) 0 0) [] := byts_none x1 (Nat.le_refl _)
  have hD0 : Drw w X p cao clen ccap := (Drw.base hc).upon hp hXb
  have HX : Hid (X = _) := hX
  clear hX x1 hXs
  go_enter Try.func23, Try.ntmps23
  go_wp2_with fail
  rw [← HX.out]
  go_loopw [5, 6] (fun v i wr => ∃ (k : Nat) (a' : Option Addr) (c' : Nat) (R : List Int), k ≤ n ∧ i = .int .i64 k ∧ v = .slice a' k c' ∧ Hid (k = R.length) ∧ Hid (∀ x ∈ R, 0 ≤ x ∧ x ≤ 255) ∧ Byts w.heap.size wr (.slice a' k c') R ∧ Drw w wr p cao clen ccap) (fun _ i _ => n - (intOf i).toNat)
  case atStart => exact ⟨0, _, _, [], by omega, rfl, rfl, rfl, fun x hx => by simp at hx, hN0, hD0⟩
  case round =>
    obtain ⟨k, a', c', R, hk, rfl, rfl, HK, HO, hN, hD⟩ := hrel
    by_cases hlt : k < n
    · go_wp2_with fail
      refine (l1Byte_any p cao clen ccap _ hD.cur).mono ?_
      rintro e w1 ⟨x, rfl, hx0, hx1, hD1⟩
      have hN1 : Byts w.heap.size w1 (.slice a' k c') R := byts_keep hN fun g hg => hD1.grown.block g (byts_own hN hg).2 (by have := (byts_own hN hg).1; simp; omega)
      have hD1w := hD.trans hD1
      have hz1 := hD1w.grown.size
      obtain ⟨g2, cp, w2, HR, HN2, hb2⟩ := byts_push hN1 hz1 (by have := HK.out; omega) x
      have HR' : Hid (_ = _) := HR
      rw [← HK.out] at HR'
      have HK2 : Hid (k + 1 = (R ++ [x]).length) := by show _ = _; have := HK.out; simp; omega
      have HO2 : Hid (∀ y ∈ R ++ [x], 0 ≤ y ∧ y ≤ 255) := fun y hy => by
        rcases List.mem_append.1 hy with h | h
        · exact HO.out y h
        · rw [List.mem_singleton.1 h]; exact ⟨hx0, hx1⟩
      have HN' : Hid (Byts w.heap.size w2 (.slice (some ⟨g2, 0, none⟩) (k + 1) cp) (R ++ [x])) := by show Byts _ _ _ _; rw [HK.out]; exact HN2
      have hD2 : Drw w w2 p cao clen ccap := hD1w.upon hp hb2
      have hxm : x % 256 = x := by omega
      clear HR HN2 hb2 hN hN1 hD1 hD1w
      go_wp2_with (at_builtin; refine list_run HR'.out (by rfl) _ _ (by rfl) (by rfl) (by rfl) (by rfl) ?_)
      go_roundw
      case rel => exact ⟨k + 1, _, _, _, by omega, by go_num, rfl, HK2, HO2, HN'.out, hD2⟩
      case measure => simp [intOf]; omega
    · obtain rfl : k = n := by omega
      go_wp2_with fail
      go_ret
      exact ⟨_, _, _, rfl, hN, HO.out, hD⟩

end Go.Proofs.Ytlogpkebacmbiaa
