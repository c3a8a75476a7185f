/-
  'Unlike' of the model.
-/
import Derived.Test.YtbdpnnfhkhkecaaGreatDoorUbUl2
import Derived.Test.YtbdpnnfhkhkecaaGreatDoorUbZ21
import Derived.Test.YtbdpnnfhkhkecaaGreatDoorUbLf2
import Derived.Test.YtbdpnnfhkhkecaaGreatDoorUbZ37
import Derived.Test.YtbdpnnfhkhkecaaGreatDoorUbZ15
import Derived.Test.YtbdpnnfhkhkecaaGreatDoorUbZ14
import Derived.Laws.IdiomStrings
namespace Go.Proofs.YtbdpnnfhkhkecaaGreatDoor
open Go.RowKit
set_option linter.unusedVariables false
set_option linter.unusedSimpArgs false

theorem ul_any (l : Nat) : SaidUl l := by
  induction l with
  | zero => intro D d L B p base0 t a1 l1 c1 a2 l2 c2 a3 l3 c3 m c E ve w hBp hf hm; simp [nodesM] at hm
  | succ l ih => exact ul_succ l ih

set_option maxRecDepth 100000 in
set_option maxHeartbeats 2000000 in
theorem sUnlike_any (D d L B : Nat) (t : Tm) (a1 : Option Addr) (l1 c1 : Nat) (a2 : Option Addr) (l2 c2 : Nat) (a3 : Option Addr) (l3 c3 : Nat) (w : World) (hB : B ≤ w.heap.size) (hf : Fm L B w D d t a1 l1 a2 l2 a3 l3) (hc : cntM t ≤ 1048576) :
    Calls Tryz.prog 6 #[.agg #[.int .i64 t.K, .int .i64 t.N, .string t.S, .string t.Z, .int .i64 t.T.K, .int .i64 t.T.N, .slice a1 l1 c1, .slice a2 l2 c2, .slice a3 l3 c3]] w fun e w' => TellM w w' (D + 1) d e (unlT t).1 (unlT t).2 := by
  obtain ⟨X, hX⟩ : ∃ X, X = ((w.alloc (.cells #[.int .i64 t.K, .int .i64 t.N, .string t.S, .string t.Z, .int .i64 t.T.K, .int .i64 t.T.N, .slice a1 l1 c1, .slice a2 l2 c2, .slice a3 l3 c3] 34)).alloc (.cells #[.int .i64 0, .int .i64 0, .string ⟨#[]⟩, .string ⟨#[]⟩, .int .i64 0, .int .i64 0, .slice none 0 0, .slice none 0 0, .slice none 0 0] 34)) := ⟨_, rfl⟩
  have hXs : X.heap.size = w.heap.size + 2 := by rw [hX]; simp
  have hXb : Below w.heap.size w X := by rw [hX]; exact ((Below.refl _ _).alloc (Nat.le_refl _) _).alloc (by simp) _
  have hX0 : X.heap[w.heap.size]? = some (.cells #[.int .i64 t.K, .int .i64 t.N, .string t.S, .string t.Z, .int .i64 t.T.K, .int .i64 t.T.N, .slice a1 l1 c1, .slice a2 l2 c2, .slice a3 l3 c3] 34 (0, 0)) := by rw [hX, Below.heap_alloc _ _ _ (by simp)]; exact heap_new rfl
  have hX1 : X.heap[w.heap.size + 1]? = some (.cells #[.int .i64 0, .int .i64 0, .string ⟨#[]⟩, .string ⟨#[]⟩, .int .i64 0, .int .i64 0, .slice none 0 0, .slice none 0 0, .slice none 0 0] 34 (0, 0)) := by rw [hX]; exact heap_new (by simp)
  have hfX := Fm.below hXb hB hf
  have HX : Hid (X = _) := hX
  clear hX
  cases hq : okM t
  · have HQ : Hid (okM t = false) := hq
    have HV : Hid (unlT t = (zTm, false)) := by show _ = _; simp [unlT, hq]
    clear hq
    go_enter Tryz.func6, Tryz.ntmps6
    go_wp2_with fail
    rw [← HX.out]
    refine (sTermOk_any D d L B t _ _ _ _ _ _ _ _ _ X (by omega) hfX).mono ?_
    rintro e w1 ⟨rfl, hb1⟩
    rw [HQ.out]
    have hz1 := hb1.size
    have hbw1 : Below w.heap.size w w1 := hXb.trans (hb1.mono (by omega))
    have x1 := (hb1.block (w.heap.size + 1) (by omega)).trans hX1
    obtain ⟨p0, p1, p2, p3, p4, p5, p6, p7, p8⟩ := Nine.box x1
    have pf := row_free x1
    go_wp2_with fail
    obtain ⟨Y, hYe⟩ : ∃ Y, Y = set9 w1 (w.heap.size + 1) 0 (.int .i64 0) (.int .i64 0) (.string ⟨#[]⟩) (.string ⟨#[]⟩) (.int .i64 0) (.int .i64 0) (.slice none 0 0) (.slice none 0 0) (.slice none 0 0) := ⟨_, rfl⟩
    have hYb : Below w.heap.size w Y := by rw [hYe]; exact set9_below hbw1 (by omega)
    refine bodyPost_ret (v := .tuple #[.agg #[.int .i64 0, .int .i64 0, .string ⟨#[]⟩, .string ⟨#[]⟩, .int .i64 0, .int .i64 0, .slice none 0 0, .slice none 0 0, .slice none 0 0], .bool false]) (by simp [results, Tryz.results6, go_sem, p0, p1, p2, p3, p4, p5, p6, p7, p8]) rfl ?_
    have hfin : TellM w Y (D + 1) d (.returned (.tuple #[.agg #[.int .i64 0, .int .i64 0, .string ⟨#[]⟩, .string ⟨#[]⟩, .int .i64 0, .int .i64 0, .slice none 0 0, .slice none 0 0, .slice none 0 0], .bool false])) zTm false := ⟨none, 0, 0, none, 0, 0, none, 0, 0, rfl, hYb, zTm_fmO _ _ _ _ _ hYb.size⟩
    rw [hYe] at hfin
    rw [HV.out]
    exact hfin
  have HQ : Hid (okM t = true) := hq
  obtain ⟨m, hm, hm6⟩ := okM_some hq
  have hfl := freeW_len 24 t m [] [] hm
  by_cases hfr : freeW 24 t [] [] = []
  · have HV : Hid (unlT t = ((renW 24 t 0 []).1, true)) := by show _ = _; simp [unlT, hq, hfr]
    have hcl := free_cl 24 t [] [] hfr (fun x hx => by simp at hx)
    have HFR : Hid (freeW 24 t [] [] = []) := hfr
    clear hq hfr hfl
    go_enter Tryz.func6, Tryz.ntmps6
    go_wp2_with fail
    rw [← HX.out]
    refine (sTermOk_any D d L B t _ _ _ _ _ _ _ _ _ X (by omega) hfX).mono ?_
    rintro e w1 ⟨rfl, hb1⟩
    rw [HQ.out]
    have hz1 := hb1.size
    have hbw1 : Below w.heap.size w w1 := hXb.trans (hb1.mono (by omega))
    have x0 := (hb1.block w.heap.size (by omega)).trans hX0
    obtain ⟨f0, f1, f2, f3, f4, f5, f6, f7, f8⟩ := Nine.box x0
    have hA : Below w1.heap.size w1 ((w1.alloc (.cells #[] 9)).alloc (.cells #[] 9)) := ((Below.refl _ _).alloc (Nat.le_refl _) _).alloc (by simp) _
    have hbA : Below w.heap.size w ((w1.alloc (.cells #[] 9)).alloc (.cells #[] 9)) := hbw1.trans (hA.mono (by omega))
    have hT1 : Toks w.heap.size ((w1.alloc (.cells #[] 9)).alloc (.cells #[] 9)) (.slice (some ⟨w1.heap.size, 0, none⟩) 0 0) [] := toks_lit6 (by rw [Below.heap_alloc _ _ _ (by simp)]; exact heap_new rfl) (by omega)
    have hT2 : Toks w.heap.size ((w1.alloc (.cells #[] 9)).alloc (.cells #[] 9)) (.slice (some ⟨w1.heap.size + 1, 0, none⟩) 0 0) [] := toks_lit6 (heap_new (by simp)) (by omega)
    have hfA : Fm L B ((w1.alloc (.cells #[] 9)).alloc (.cells #[] 9)) D d t a1 l1 a2 l2 a3 l3 := Fm.below hbA hB hf
    have hltA : w.heap.size < w1.heap.size := by omega
    go_wp2_with fail
    refine (lf_any 24 D d L B w.heap.size t a1 l1 c1 a2 l2 c2 a3 l3 c3 _ _ [] [] m _ hB (by simp; omega) hfA hm hT1 hT2 (fun g hg e => by simp [Value.ownBlock] at hg e; omega) (by simp) (by simp; omega)).mono ?_
    rintro e w2 ⟨v, rfl, hk2, hTk⟩
    rw [HFR.out] at hTk
    have hb2A := hk2.below hT2 (by simp; omega)
    obtain ⟨ao, cp, rfl⟩ := toks_form hTk
    have hz2 : w1.heap.size + 2 ≤ w2.heap.size := by have := hb2A.size; simpa using this
    have hbw2 : Below w.heap.size w w2 := hbA.trans hb2A
    have hko : ∀ i, i < w1.heap.size → w2.heap[i]? = w1.heap[i]? := fun i hi => by
      have g1 := hk2.block i (by simp; omega) (fun e => by simp [Value.ownBlock] at e; omega)
      rw [g1]
      exact hA.block i hi
    have x20 := (hko w.heap.size (by omega)).trans x0
    have x21 := (hko (w.heap.size + 1) (by omega)).trans ((hb1.block (w.heap.size + 1) (by omega)).trans hX1)
    clear f0 f1 f2 f3 f4 f5 f6 f7 f8
    obtain ⟨f0, f1, f2, f3, f4, f5, f6, f7, f8⟩ := Nine.box x20
    have hlt2 : w.heap.size < w2.heap.size := by omega
    obtain ⟨V, hV⟩ : ∃ V, V = (w2.alloc (.cells #[.int .i64 0] 3)).alloc (.cells #[] 93) := ⟨_, rfl⟩
    have hVs : V.heap.size = w2.heap.size + 2 := by rw [hV]; simp
    have hVb : Below w2.heap.size w2 V := by rw [hV]; exact ((Below.refl _ _).alloc (Nat.le_refl _) _).alloc (by simp) _
    have hVp : V.heap[w2.heap.size]? = some (.cells #[.int .i64 0] 3 (0, 0)) := by rw [hV, Below.heap_alloc _ _ _ (by simp)]; exact heap_new rfl
    have hVm : V.heap[w2.heap.size + 1]? = some (.cells #[] 93 (0, 0)) := by rw [hV]; exact heap_new (by simp)
    have hbwV : Below w.heap.size w V := hbw2.trans (hVb.mono (by omega))
    have K := ul_any 24 D d L B w2.heap.size (w2.heap.size + 1) t a1 l1 c1 a2 l2 c2 a3 l3 c3 m 0 [] _ V (by omega) (Fm.below hbwV hB hf) hm hc hVp (by omega) (by omega) (mps_emp hVm (Nat.le_refl _)) (by omega) (by simp) (fun q hq => by simp at hq)
    obtain ⟨R, hR⟩ : ∃ R, (renW 24 t 0 []).1 = R := ⟨_, rfl⟩
    obtain ⟨CF, hCF⟩ : ∃ CF, (renW 24 t 0 []).2 = CF := ⟨_, rfl⟩
    rw [hR, hCF] at K
    rw [hR] at HV
    have HVV : Hid (V = _) := hV
    clear hR hCF hV hcl
    go_wp2_with fail
    rw [← HVV.out]
    refine K.mono ?_
    rintro e w3 ⟨b1, m1, e1, b2, e2, b3, e3, rfl, hN3, ho3⟩
    have x31 := (hN3.kf.block (w.heap.size + 1) (by omega) (by omega)).trans ((hVb.block (w.heap.size + 1) (by omega)).trans x21)
    obtain ⟨p0, p1, p2, p3, p4, p5, p6, p7, p8⟩ := Nine.box x31
    have pf := row_free x31
    clear f0 f1 f2 f3 f4 f5 f6 f7 f8
    go_wp2_with fail
    obtain ⟨Y, hYe⟩ : ∃ Y, Y = set9 w3 (w.heap.size + 1) 0 (.int .i64 R.K) (.int .i64 R.N) (.string R.S) (.string R.Z) (.int .i64 R.T.K) (.int .i64 R.T.N) (.slice b1 m1 e1) (.slice b2 l2 e2) (.slice b3 l3 e3) := ⟨_, rfl⟩
    have hz3 := hN3.kf.size
    have hbw3 : Below w.heap.size w w3 := hbwV.trans (hN3.kf.below (fun k hk => by omega) (by omega))
    have hYb : Below w.heap.size w Y := by rw [hYe]; exact set9_below hbw3 (by omega)
    have hYs : Y.heap.size = w3.heap.size := by rw [hYe]; exact set9_size _ _ _ _ _ _ _ _ _ _ _ _
    have hYo : ∀ k, k ≠ w.heap.size + 1 → Y.heap[k]? = w3.heap[k]? := fun k hk => by rw [hYe]; exact set9_other k hk
    refine bodyPost_ret (v := .tuple #[.agg #[.int .i64 R.K, .int .i64 R.N, .string R.S, .string R.Z, .int .i64 R.T.K, .int .i64 R.T.N, .slice b1 m1 e1, .slice b2 l2 e2, .slice b3 l3 e3], .bool true]) (by simp [results, Tryz.results6, go_sem, p0, p1, p2, p3, p4, p5, p6, p7, p8]) rfl ?_
    have hfin : TellM w Y (D + 1) d (.returned (.tuple #[.agg #[.int .i64 R.K, .int .i64 R.N, .string R.S, .string R.Z, .int .i64 R.T.K, .int .i64 R.T.N, .slice b1 m1 e1, .slice b2 l2 e2, .slice b3 l3 e3], .bool true])) R true := ⟨_, _, _, _, _, _, _, _, _, rfl, hYb, ho3.keep (fun k hk1 hk2 => hYo k (by omega)) (by omega) (by omega)⟩
    rw [hYe] at hfin
    rw [HV.out]
    exact hfin
  · have HV : Hid (unlT t = (zTm, false)) := by show _ = _; simp [unlT, hfr]
    have HFP : Hid (0 < (freeW 24 t [] []).length) := List.length_pos_iff.2 hfr
    clear hq hfr
    go_enter Tryz.func6, Tryz.ntmps6
    go_wp2_with fail
    rw [← HX.out]
    refine (sTermOk_any D d L B t _ _ _ _ _ _ _ _ _ X (by omega) hfX).mono ?_
    rintro e w0 ⟨rfl, hb0⟩
    rw [HQ.out]
    have hz0 := hb0.size
    have hbw0 : Below w.heap.size w w0 := hXb.trans (hb0.mono (by omega))
    have x0 := (hb0.block w.heap.size (by omega)).trans hX0
    obtain ⟨f0, f1, f2, f3, f4, f5, f6, f7, f8⟩ := Nine.box x0
    have hA : Below w0.heap.size w0 ((w0.alloc (.cells #[] 9)).alloc (.cells #[] 9)) := ((Below.refl _ _).alloc (Nat.le_refl _) _).alloc (by simp) _
    have hbA : Below w.heap.size w ((w0.alloc (.cells #[] 9)).alloc (.cells #[] 9)) := hbw0.trans (hA.mono (by omega))
    have hT1 : Toks w.heap.size ((w0.alloc (.cells #[] 9)).alloc (.cells #[] 9)) (.slice (some ⟨w0.heap.size, 0, none⟩) 0 0) [] := toks_lit6 (by rw [Below.heap_alloc _ _ _ (by simp)]; exact heap_new rfl) (by omega)
    have hT2 : Toks w.heap.size ((w0.alloc (.cells #[] 9)).alloc (.cells #[] 9)) (.slice (some ⟨w0.heap.size + 1, 0, none⟩) 0 0) [] := toks_lit6 (heap_new (by simp)) (by omega)
    have hfA : Fm L B ((w0.alloc (.cells #[] 9)).alloc (.cells #[] 9)) D d t a1 l1 a2 l2 a3 l3 := Fm.below hbA hB hf
    have hltA : w.heap.size < w0.heap.size := by omega
    go_wp2_with fail
    refine (lf_any 24 D d L B w.heap.size t a1 l1 c1 a2 l2 c2 a3 l3 c3 _ _ [] [] m _ hB (by simp; omega) hfA hm hT1 hT2 (fun g hg e => by simp [Value.ownBlock] at hg e; omega) (by simp) (by simp; omega)).mono ?_
    rintro e w1 ⟨v, rfl, hk1, hTk⟩
    have hb1A := hk1.below hT2 (by simp; omega)
    obtain ⟨ao, cp, rfl⟩ := toks_form hTk
    obtain ⟨nf, hnf⟩ : ∃ nf, (freeW 24 t [] []).length = nf := ⟨_, rfl⟩
    rw [hnf] at hTk HFP hfl ⊢
    have hnp : 0 < nf := HFP.out
    have hz1 : w0.heap.size + 2 ≤ w1.heap.size := by have := hb1A.size; simpa using this
    have hbw1 : Below w.heap.size w w1 := hbA.trans hb1A
    have hko : w1.heap[w.heap.size + 1]? = w0.heap[w.heap.size + 1]? := by
      have g1 := hk1.block (w.heap.size + 1) (by simp; omega) (fun e => by simp [Value.ownBlock] at e; omega)
      rw [g1]
      exact hA.block _ (by omega)
    have x1 := hko.trans ((hb0.block (w.heap.size + 1) (by omega)).trans hX1)
    obtain ⟨p0, p1, p2, p3, p4, p5, p6, p7, p8⟩ := Nine.box x1
    have pf := row_free x1
    clear f0 f1 f2 f3 f4 f5 f6 f7 f8 hnf hTk
    go_wp2_with fail
    obtain ⟨Y, hYe⟩ : ∃ Y, Y = set9 w1 (w.heap.size + 1) 0 (.int .i64 0) (.int .i64 0) (.string ⟨#[]⟩) (.string ⟨#[]⟩) (.int .i64 0) (.int .i64 0) (.slice none 0 0) (.slice none 0 0) (.slice none 0 0) := ⟨_, rfl⟩
    have hYb : Below w.heap.size w Y := by rw [hYe]; exact set9_below hbw1 (by omega)
    refine bodyPost_ret (v := .tuple #[.agg #[.int .i64 0, .int .i64 0, .string ⟨#[]⟩, .string ⟨#[]⟩, .int .i64 0, .int .i64 0, .slice none 0 0, .slice none 0 0, .slice none 0 0], .bool false]) (by simp [results, Tryz.results6, go_sem, p0, p1, p2, p3, p4, p5, p6, p7, p8]) rfl ?_
    have hfin : TellM w Y (D + 1) d (.returned (.tuple #[.agg #[.int .i64 0, .int .i64 0, .string ⟨#[]⟩, .string ⟨#[]⟩, .int .i64 0, .int .i64 0, .slice none 0 0, .slice none 0 0, .slice none 0 0], .bool false])) zTm false := ⟨none, 0, 0, none, 0, 0, none, 0, 0, rfl, hYb, zTm_fmO _ _ _ _ _ hYb.size⟩
    rw [hYe] at hfin
    rw [HV.out]
    exact hfin

end Go.Proofs.YtbdpnnfhkhkecaaGreatDoor

/-
  Rows of names: held against each other; marked; and whether they still bear their marks.
-/
namespace Go.Proofs.YtbdpnnfhkhkecaaGreatDoor
open Go.RowKit
set_option linter.unusedVariables false
set_option linter.unusedSimpArgs false

theorem tk_inj {a b : List UInt8} (h : tk a = tk b) : a = b := by
  unfold tk at h
  injection h with h
  have := congrArg (fun s : ByteArray => s.data.toList) h
  simpa using this
theorem tk_list (a : List UInt8) : (⟨a.toArray⟩ : ByteArray).toList = a := by rw [ByteArray.toList_eq]

theorem below_drewN {B : Nat} {w wr : World} (h : Below B w wr) (n : Nat) : Below B w (wr.drewN n) := ⟨h.os, h.tape, h.output, h.size, h.block⟩

/-- Digits of n ahead of acc. -/
def dg : Nat → Nat → List UInt8 → List UInt8
  | 0, _, acc => acc
  | f + 1, n, acc => if n = 0 then acc else dg f (n / 10) (UInt8.ofNat (48 + n % 10) :: acc)
theorem dg_zero (f : Nat) (acc : List UInt8) : dg f 0 acc = acc := by cases f <;> simp [dg]
theorem dg_step (f n : Nat) (acc : List UInt8) (h : 0 < n) (hf : n < f) : dg f n acc = dg (f - 1) (n / 10) (UInt8.ofNat (48 + n % 10) :: acc) := by
  cases f with
  | zero => omega
  | succ f => simp [dg]; intro e; omega

/-- The text of a mark. -/
def mt (k : Nat) : List UInt8 := if k = 0 then [109, 48] else 109 :: dg (k + 1) k []

theorem conv_byte (w : World) (g : Nat) (b : UInt8) (x : Int) (hx : x = (b.toNat : Int)) (hg : g = w.heap.size) : (convert 41 9 (.slice (some ⟨g, 0, none⟩) 1 1)).run Tryz.prog (w.alloc (.cells #[.int .u8 x] 5)) = .ok (.string ⟨#[b]⟩) (w.alloc (.cells #[.int .u8 x] 5)) := by
  refine run_convert_bytes_back _ _ _ _ ⟨g, 0, none⟩ 1 [b] Tryz.underlying41 Tryz.underlying5 Tryz.underlying9 ?_
  intro j hj
  have hj0 : j = 0 := by simpa using hj
  subst hj0
  show (w.alloc _).cell? ⟨g, 0, none⟩ = _
  rw [row_cell (heap_new hg), hx]
  rfl

theorem str_cons (b : UInt8) (a : List UInt8) : (⟨#[b]⟩ : ByteArray) ++ ⟨a.toArray⟩ = ⟨(b :: a).toArray⟩ := by
  apply ByteArray.ext
  simp

set_option maxRecDepth 100000 in
set_option maxHeartbeats 1000000 in
theorem markText_any (k : Nat) (hk : k ≤ 4611686018427387904) (w : World) : Calls Tryz.prog 68 #[.int .i64 k] w fun e w' => e = .returned (tk (mt k)) ∧ Below w.heap.size w w' := by
  by_cases h0 : k = 0
  · subst h0
    go_enter Tryz.func68, Tryz.ntmps68
    go_wp2_with fail
    go_ret
    exact ⟨rfl, Below.refl _ _⟩
  · have hb : ¬ (k : Int) ≤ 0 := by omega
    have HM : Hid (mt k = 109 :: dg (k + 1) k []) := by show _ = _; simp [mt, h0]
    clear h0
    go_enter Tryz.func68, Tryz.ntmps68
    go_wp2_with fail
    go_loopw [0, 3] (fun kk o wr => ∃ (n f : Nat) (acc : List UInt8), kk = .int .i64 n ∧ o = .string ⟨acc.toArray⟩ ∧ n < f ∧ n + acc.length ≤ 4611686018427387904 ∧ Below w.heap.size w wr ∧ Hid (dg f n acc = dg (k + 1) k [])) (fun kk _ _ => (intOf kk).toNat)
    case atStart => exact ⟨k, k + 1, [], rfl, rfl, by omega, by simpa using hk, Below.refl _ _, rfl⟩
    case round =>
      obtain ⟨n, f, acc, rfl, rfl, hf, hl, hbr, HD⟩ := hrel
      by_cases hn : 0 < n
      · obtain ⟨b, hbv⟩ : ∃ b : UInt8, b = UInt8.ofNat (48 + n % 10) := ⟨_, rfl⟩
        have hx : 48 + (n : Int) % 10 = ((b.toNat : Nat) : Int) := by
          have : b.toNat = 48 + n % 10 := by rw [hbv]; simp; omega
          rw [this]; omega
        have hcv := conv_byte wr wr.heap.size b (48 + (n : Int) % 10) hx rfl
        have HD2 : Hid (dg (f - 1) (n / 10) (b :: acc) = dg (k + 1) k []) := by show _ = _; rw [← HD.out, dg_step f n acc hn hf, hbv]
        have hdv : n / 10 < n := by omega
        have hla : acc.length ≤ 4611686018427387904 := by omega
        clear hbv hx
        go_wp2_with fail
        go_roundw
        case rel => exact ⟨n / 10, f - 1, b :: acc, by go_num, by rw [str_cons], by omega, by simp only [List.length_cons]; omega, hbr.alloc (by have := hbr.size; omega) _, HD2⟩
        case measure => simp [intOf]; omega
      · have hn0 : n = 0 := by omega
        subst hn0
        rw [dg_zero] at HD
        have hla : acc.length ≤ 4611686018427387904 := by omega
        go_wp2_with fail
        go_ret
        exact ⟨by rw [HM.out, ← HD.out]; exact congrArg Ending.returned (congrArg Value.string (str_cons 109 acc)), hbr⟩

end Go.Proofs.YtbdpnnfhkhkecaaGreatDoor
