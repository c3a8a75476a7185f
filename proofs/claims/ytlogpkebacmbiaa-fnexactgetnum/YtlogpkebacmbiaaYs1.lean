/-
  The model's PutNum.
-/
import Derived.Test.YtlogpkebacmbiaaYp1
namespace Go.Proofs.Ytlogpkebacmbiaa
open Go.RowKit
set_option linter.unusedVariables false
set_option linter.unusedSimpArgs false

theorem i64_and127 (n : Int) : bits .and .i64 n 127 = n % 128 := by
  have h127 : (BitVec.ofInt 64 127).toNat = 2 ^ 7 - 1 := by decide
  have key : (BitVec.ofInt 64 n &&& BitVec.ofInt 64 127).toNat = (n % ((2 ^ 64 : Nat) : Int)).toNat % 2 ^ 7 := by
    rw [BitVec.toNat_and, BitVec.toNat_ofInt, h127, Nat.and_two_pow_sub_one_eq_mod]
  show IntKind.i64.wrap ((BitVec.ofInt 64 n &&& BitVec.ofInt 64 127).toNat : Nat) = n % 128
  rw [key, IntKind.wrap_i64]
  omega
/-- Bits that are apart are added. -/
theorem i64_or_apart (k : Nat) (hk : k ≤ 56) (x y : Nat) (hx : x < 2 ^ k) (hy : y * 2 ^ k + x < 9223372036854775808) : bits .or .i64 (x : Int) ((y * 2 ^ k : Nat) : Int) = (x : Int) + ((y * 2 ^ k : Nat) : Int) := by
  have e1 : (BitVec.ofInt 64 (x : Int)).toNat = x := by rw [BitVec.toNat_ofInt]; omega
  have e2 : (BitVec.ofInt 64 ((y * 2 ^ k : Nat) : Int)).toNat = y * 2 ^ k := by rw [BitVec.toNat_ofInt]; omega
  have key : (BitVec.ofInt 64 (x : Int) ||| BitVec.ofInt 64 ((y * 2 ^ k : Nat) : Int)).toNat = y * 2 ^ k + x := by
    rw [BitVec.toNat_or, e1, e2, Nat.or_comm, ← Nat.shiftLeft_eq, Nat.shiftLeft_add_eq_or_of_lt hx]
  show IntKind.i64.wrap ((BitVec.ofInt 64 (x : Int) ||| BitVec.ofInt 64 ((y * 2 ^ k : Nat) : Int)).toNat : Nat) = _
  rw [key, IntKind.wrap_i64]
  omega

set_option maxRecDepth 100000 in
set_option maxHeartbeats 400000 in
theorem sPutNum_any {L B : Nat} (ao : Option Addr) (len cap : Nat) (l : List Int) (n : Int) (w : World) (hB : B ≤ w.heap.size) (hs : Bs L B w ao len l) (hl : len ≤ 1048576) (h1 : -9223372036854775808 ≤ n) (h2 : n ≤ 9223372036854775807) :
    Calls Try.prog 6 #[.slice ao len cap, .int .i64 n] w fun e w' => ∃ a' n' c', e = .returned (.slice a' n' c') ∧ Byts w.heap.size w' (.slice a' n' c') (l ++ put n) ∧ Below w.heap.size w w' := by
  obtain ⟨X, hX⟩ : ∃ X, X = w.alloc (.cells #[] 5) := ⟨_, rfl⟩
  have hXs : X.heap.size = w.heap.size + 1 := by rw [hX]; simp
  have hXb : Below w.heap.size w X := by rw [hX]; exact (Below.refl _ _).alloc (Nat.le_refl _) _
  have x1 : X.heap[w.heap.size]? = some (.cells #[] 5 (0, 0)) := by rw [hX]; exact heap_new rfl
  have hN0 : Byts w.heap.size X (.slice (some ⟨w.heap.size, 0, none⟩) 0 0) [] := byts_none x1 (Nat.le_refl _)
  obtain ⟨a2, c2, w2, HR, HN2, hg2⟩ := byts_app hN0 (by omega) cap (hs.below hXb hB) (by simp; omega)
  simp only [List.nil_append, List.length_nil, Nat.zero_add] at HN2 HR
  have HB2 : Hid (Below w.heap.size w w2) := ⟨hg2.os.trans hXb.os, hg2.tape.trans hXb.tape, hg2.output.trans hXb.output, by have := hg2.size; omega, fun q hq => (hg2.block q (by omega) (fun e => by have := (byts_own hN0 e.symm).1; omega)).trans (hXb.block q hq)⟩
  rw [hX] at HR
  have HR' : Hid (_ = _) := HR
  have HL : Hid (len = l.length) := hs.1
  clear hX hg2 hXb x1 hN0 hs hXs HR
  rcases (by omega : 1000000000 < n ∨ n < -1000000000 ∨ (-1000000000 ≤ n ∧ n < 0) ∨ (0 ≤ n ∧ n ≤ 1000000000)) with h | h | ⟨h, h'⟩ | ⟨h, h'⟩
  all_goals
    go_enter Try.func6, Try.ntmps6
    go_wp2_with (at_builtin; refine list_run HR'.out (by rfl) _ _ (by rfl) (by rfl) (by rfl) (by rfl) ?_)
    go_loopw [5, 6] (fun v mm wr => ∃ (m k : Nat) (a' : Option Addr) (c' : Nat) (R : List Int), mm = .int .i64 m ∧ Grp n R m ∧ Hid (k = (l ++ R).length) ∧ k ≤ 1048580 ∧ v = .slice a' k c' ∧ Byts w.heap.size wr (.slice a' k c') (l ++ R) ∧ Below w.heap.size w wr) (fun _ mm _ => (intOf mm).toNat)
    case atStart =>
      refine ⟨zig n, len, _, _, [], ?_, Grp.start n, by show _ = _; rw [List.append_nil]; exact HL.out, by omega, rfl, by rw [List.append_nil]; exact HN2, HB2.out⟩
      rw [zig_eq]
      unfold cla
      congr 1
      repeat' split
      all_goals omega
    case round =>
      obtain ⟨m, k, a', c', R, rfl, hG, HK, hk, rfl, hT, hbr⟩ := hrel
      have hszr := hbr.size
      have hml := hG.le
      by_cases hm : 128 ≤ m
      · obtain ⟨g2, cp, w2, HR, HN2, hb2⟩ := byts_push hT (by omega) (by have := HK.out; omega) ((m % 128 + 128 : Nat) : Int)
        have HR' : Hid (_ = _) := HR
        rw [← HK.out] at HR'
        have HG : Hid (Grp n (R ++ [((m % 128 + 128 : Nat) : Int)]) (m / 128)) := hG.next hm
        have HK2 : Hid (k + 1 = (l ++ (R ++ [((m % 128 + 128 : Nat) : Int)])).length) := by show _ = _; have := HK.out; rw [← List.append_assoc, List.length_append, List.length_singleton]; omega
        have HN' : Hid (Byts w.heap.size w2 (.slice (some ⟨g2, 0, none⟩) (k + 1) cp) (l ++ (R ++ [((m % 128 + 128 : Nat) : Int)]))) := by show Byts _ _ _ _; rw [HK.out, ← List.append_assoc]; exact HN2
        have hk2 : k + 1 ≤ 1048580 := by
          have e1 := (hG.next hm).len
          have e2 := HK2.out
          have e3 := HL.out
          simp only [List.length_append, List.length_singleton] at e1 e2
          omega
        have hbr2 : Below w.heap.size w w2 := hbr.trans hb2
        have HO : bits .or .i64 ((m : Int) % 128) 128 = ((m % 128 + 128 : Nat) : Int) := by
          have := i64_or_apart 7 (by omega) (m % 128) 1 (by omega) (by omega)
          simpa using this
        clear HR HN2 hb2 hT hG
        go_wp2_with (first | (rw [i64_and127]) | (rw [HO]) | (at_builtin; refine list_run HR'.out (by rfl) _ _ (by rfl) (by rfl) (by rfl) (by rfl) ?_))
        go_roundw
        case rel => exact ⟨m / 128, k + 1, _, _, _, by simp, HG.out, HK2, hk2, rfl, HN'.out, hbr2⟩
        case measure => simp [intOf]; omega
      · obtain ⟨g2, cp, w2, HR, HN2, hb2⟩ := byts_push hT (by omega) (by have := HK.out; omega) (m : Int)
        have HR' : Hid (_ = _) := HR
        rw [← HK.out] at HR'
        have HF : Hid (R ++ [(m : Int)] = put n) := hG.fin (by omega)
        have HN' : Hid (Byts w.heap.size w2 (.slice (some ⟨g2, 0, none⟩) (k + 1) cp) (l ++ put n)) := by show Byts _ _ _ _; rw [HK.out, ← HF.out, ← List.append_assoc]; exact HN2
        have hbr2 : Below w.heap.size w w2 := hbr.trans hb2
        clear HR HN2 hb2 hT hG
        go_wp2_with (at_builtin; refine list_run HR'.out (by rfl) _ _ (by rfl) (by rfl) (by rfl) (by rfl) ?_)
        go_ret
        exact ⟨_, _, _, rfl, HN'.out, hbr2⟩

end Go.Proofs.Ytlogpkebacmbiaa
