/-
  The program's reader of terms: signs of ops, the number behind a word, one type, a row of types.
-/
import Derived.Test.YthmmapahobkhnaaPmZ12
import Derived.Test.YthmmapahobkhnaaPmZ16
import Derived.Deep.RegionHeld3
import Derived.Deep.Cut
import Derived.Deep.CutRange
namespace Go.Proofs.Ythmmapahobkhnaa
open Go.RowKit Go.PlainAid
set_option linter.unusedVariables false
set_option linter.unusedSimpArgs false

set_option maxHeartbeats 400000 in
set_option maxRecDepth 100000 in
theorem indexByteR (s : ByteArray) (c : Int) (w : World) : Calls Try.prog 71 #[.string s, .int .u8 c] w fun e w' => e = .returned (.int .i64 (Lib.indexByte s.data.toList c.toNat.toUInt8)) ∧ w' = w := by
  go_enter Try.func71, Try.ntmps71
  go_wp2
  rw [run_callFunc_extern Try.func76 (by kernel_rfl) (by kernel_rfl) (by kernel_rfl) (e := Extern.BytealgIndexByte.indexByte) (by kernel_rfl), Lib.run_indexByteString]
  simp only [Result.andThen]
  rw [Oper.upon_value]
  go_wp2
  go_ret
  exact ⟨rfl, rfl⟩

theorem opI_index (c : UInt8) : opI [c] = Lib.indexByte [43, 45, 42, 60, 61] c + 1 := by
  unfold opI
  simp only [Lib.indexByte]
  by_cases h1 : c = 43
  · subst h1; rfl
  by_cases h2 : c = 45
  · subst h2; rfl
  by_cases h3 : c = 42
  · subst h3; rfl
  by_cases h4 : c = 60
  · subst h4; rfl
  by_cases h5 : c = 61
  · subst h5; rfl
  have g1 : ¬ (43 : UInt8) = c := fun e => h1 e.symm
  have g2 : ¬ (45 : UInt8) = c := fun e => h2 e.symm
  have g3 : ¬ (42 : UInt8) = c := fun e => h3 e.symm
  have g4 : ¬ (60 : UInt8) = c := fun e => h4 e.symm
  have g5 : ¬ (61 : UInt8) = c := fun e => h5 e.symm
  simp [h1, h2, h3, h4, h5, g1, g2, g3, g4, g5]

set_option maxHeartbeats 1000000 in
set_option maxRecDepth 100000 in
theorem indexOp (c : UInt8) (w : World) : Calls Try.prog 60 #[.string ⟨#[43, 45, 42, 60, 61]⟩, .string ⟨#[c]⟩] w fun e w' => e = .returned (.int .i64 (opI [c] - 1)) ∧ w' = w := by
  have hi : Calls Try.prog 66 #[.string ⟨#[43, 45, 42, 60, 61]⟩, .string ⟨#[c]⟩] w fun e w' => e = .returned (.int .i64 (opI [c] - 1)) ∧ w' = w := by
    have HO : Hid (Lib.indexByte [43, 45, 42, 60, 61] c = opI [c] - 1) := by show _ = _; rw [opI_index]; omega
    go_enter Try.func66, Try.ntmps66
    go_wp2_with (go_at_call 71; refine (indexByteR _ _ _).mono ?_; rintro e w' ⟨rfl, rfl⟩)
    go_ret
    exact ⟨ret_int (show Lib.indexByte [43, 45, 42, 60, 61] c = opI [c] - 1 from HO.out), rfl⟩
  go_enter Try.func60, Try.ntmps60
  go_wp2_with (go_at_call 66; refine hi.mono ?_; rintro e w' ⟨rfl, rfl⟩)
  go_ret
  exact ⟨rfl, rfl⟩

set_option maxRecDepth 100000 in
set_option maxHeartbeats 2000000 in
theorem sign_any (p : Nat) (ao : Option Addr) (len cap a L B : Nat) (bad : Bool) (T : List (List UInt8)) (w : World) (hT : ∀ x ∈ T, x.length ≤ 1048577) (h : Rdm L B w p ao len cap a bad T) :
    Calls Try.prog 54 #[.pointer (some ⟨p, 0, none⟩)] w fun e w' => NumEnd (tokR.bind fun y => Rr.opt (opR y)) (-10000000) L B w w' e p ao len cap T a bad := by
  go_enter Try.func54, Try.ntmps54
  go_wp2_with fail
  refine (token_any p ao len cap a L B bad T _ hT h).mono ?_
  rintro e w1 ⟨x, a1, b1, rfl, hg1, hR1, hO1, hx⟩
  obtain ⟨f0, f1, f2⟩ := box_cells hR1.row
  have f3 := row_free hR1.row
  have HO : ∀ (n : Int) (o : Option Int), opR x = o → (∀ y, o = some y → n = y) → RdO (tokR.bind fun y => Rr.opt (opR y)) T a bad n a1 (b1 || o.isNone) := fun n o ho hn => by
    have := rdo_bind (g := fun y => Rr.opt (opR y)) hO1 (rdo_opt (T := T) (a := a1) (b := b1) (o := opR x) (x := n) (by rw [ho]; exact hn))
    rw [ho] at this
    exact this
  have HB : Hid ((b1 || (none : Option Int).isNone) = true) := by show _ = _; simp
  have HB2 : ∀ n : Int, Hid ((b1 || (some n).isNone) = b1) := fun n => by show _ = _; simp
  by_cases h1 : x.length = 1
  · obtain ⟨c, rfl⟩ : ∃ c, x = [c] := List.length_eq_one_iff.1 h1
    have HH : Hid (RdO (tokR.bind fun y => Rr.opt (opR y)) T a bad (opI [c]) a1 (b1 || (some (opI [c])).isNone)) := HO _ _ rfl (fun y hy => by injection hy)
    rw [(HB2 _).out] at HH
    have hlo : 0 ≤ opI [c] ∧ opI [c] ≤ 5 := by unfold opI; (repeat' split) <;> decide
    obtain ⟨z, hz⟩ : ∃ z, z = opI [c] := ⟨_, rfl⟩
    have HZ : Hid (z = opI [c]) := hz
    have HI : ∀ w, Hid (Calls Try.prog 60 #[.string ⟨#[43, 45, 42, 60, 61]⟩, .string ⟨#[c]⟩] w fun e w' => e = .returned (.int .i64 (z - 1)) ∧ w' = w) := fun w => by rw [HZ.out]; exact indexOp c w
    rw [← hz] at hlo HH
    clear HO hO1 HB HB2 h1 hz hx
    show _
    unfold tk
    go_wp2_with (go_at_call 60; refine (HI _).out.mono ?_; rintro e w' ⟨rfl, rfl⟩)
    go_ret
    exact ⟨z, a1, b1, ret_int (by omega), hg1, hR1, HH.out, by omega, by omega⟩
  · have ho : opR x = none := by unfold opR; rw [if_neg h1]
    have HH : Hid (RdO (tokR.bind fun y => Rr.opt (opR y)) T a bad 0 a1 (b1 || (none : Option Int).isNone)) := HO _ none ho (fun y hy => by cases hy)
    rw [HB.out] at HH
    have hne : ((x.length : Int) != 1) = true := by rw [bne_iff_ne]; omega
    have hsz := tk_size x
    clear HO hO1 HB HB2 h1 ho
    unfold tk
    go_wp2_with fail
    go_ret
    exact ⟨0, a1, true, rfl, gr_set hg1, hR1.setB true, HH.out, by omega, by omega⟩

theorem NumEnd.lo {f : Rr Int} {lo lo' : Int} {L B : Nat} {w w' : World} {e : Ending} {p : Nat} {ao : Option Addr} {len cap : Nat} {T : List (List UInt8)} {a : Nat} {bad : Bool} (h : NumEnd f lo L B w w' e p ao len cap T a bad) (hl : lo' ≤ lo) : NumEnd f lo' L B w w' e p ao len cap T a bad := by
  obtain ⟨n, a', b', h1, h2, h3, h4, h5, h6⟩ := h
  exact ⟨n, a', b', h1, h2, h3, h4, by omega, h6⟩

set_option maxRecDepth 100000 in
set_option maxHeartbeats 4000000 in
theorem numberBehind_any (x : List UInt8) (p : Nat) (ao : Option Addr) (len cap a L B : Nat) (bad : Bool) (T : List (List UInt8)) (w : World) (hT : ∀ x ∈ T, x.length ≤ 1048577) (h : Rdm L B w p ao len cap a bad T) :
    Calls Try.prog 44 #[.pointer (some ⟨p, 0, none⟩), tk x] w fun e w' => NumEnd (numR x) (-10000000) L B w w' e p ao len cap T a bad := by
  unfold tk
  by_cases h1 : x = [116]
  · subst h1
    have HH : Hid (RdO (numR [116]) T a bad 1 a bad) := rdo_ret 1 T a bad
    go_enter Try.func44, Try.ntmps44
    go_wp2_with fail
    go_ret
    exact ⟨1, a, bad, rfl, gr_refl _ _, h, HH.out, by omega, by omega⟩
  by_cases h2 : x = [110]
  · subst h2
    have HN : Hid (numR [110] = tokR.bind fun y => Rr.opt (sgnR y)) := rfl
    go_enter Try.func44, Try.ntmps44
    go_wp2_with fail
    refine (signed_any p ao len cap a L B bad T _ hT h).mono ?_
    rintro e w1 ⟨n, a1, b1, rfl, hg1, hR1, hO1, k1, k2⟩
    go_wp2_with fail
    go_ret
    exact ⟨n, a1, b1, rfl, hg1, hR1, by rw [HN.out]; exact hO1, k1, k2⟩
  by_cases h3 : x = [108, 101, 116]
  · subst h3
    have HN : Hid (numR [108, 101, 116] = tokR.bind fun y => Rr.opt (cntR y)) := rfl
    go_enter Try.func44, Try.ntmps44
    go_wp2_with fail
    refine (count_any p ao len cap a L B bad T _ hT h).mono ?_
    rintro e w1 ⟨n, a1, b1, rfl, hg1, hR1, hO1, k1, k2⟩
    go_wp2_with fail
    go_ret
    exact ⟨n, a1, b1, rfl, hg1, hR1, by rw [HN.out]; exact hO1, by omega, k2⟩
  by_cases h4 : x = [102, 105, 120]
  · subst h4
    have HN : Hid (numR [102, 105, 120] = tokR.bind fun y => Rr.opt (cntR y)) := rfl
    go_enter Try.func44, Try.ntmps44
    go_wp2_with fail
    refine (count_any p ao len cap a L B bad T _ hT h).mono ?_
    rintro e w1 ⟨n, a1, b1, rfl, hg1, hR1, hO1, k1, k2⟩
    go_wp2_with fail
    go_ret
    exact ⟨n, a1, b1, rfl, hg1, hR1, by rw [HN.out]; exact hO1, by omega, k2⟩
  by_cases h5 : x = [111, 112]
  · subst h5
    have HN : Hid (numR [111, 112] = tokR.bind fun y => Rr.opt (opR y)) := rfl
    go_enter Try.func44, Try.ntmps44
    go_wp2_with fail
    refine (sign_any p ao len cap a L B bad T _ hT h).mono ?_
    rintro e w1 ⟨n, a1, b1, rfl, hg1, hR1, hO1, k1, k2⟩
    go_wp2_with fail
    go_ret
    exact ⟨n, a1, b1, rfl, hg1, hR1, by rw [HN.out]; exact hO1, k1, k2⟩
  have b1 : (x == [116]) = false := by rw [beq_eq_false_iff_ne]; exact h1
  have b2 : (x == [110]) = false := by rw [beq_eq_false_iff_ne]; exact h2
  have b3 : (x == [108, 101, 116]) = false := by rw [beq_eq_false_iff_ne]; exact h3
  have b4 : (x == [102, 105, 120]) = false := by rw [beq_eq_false_iff_ne]; exact h4
  have b5 : (x == [111, 112]) = false := by rw [beq_eq_false_iff_ne]; exact h5
  have HH : Hid (RdO (numR x) T a bad 0 a bad) := by
    have e : numR x = Rr.ret 0 := by
      unfold numR
      rw [if_neg h1, if_neg h2, if_neg (by rintro (h | h); exact h3 h; exact h4 h), if_neg h5]
    show RdO (numR x) T a bad 0 a bad
    rw [e]
    exact rdo_ret 0 T a bad
  clear h1 h2 h3 h4 h5
  go_enter Try.func44, Try.ntmps44
  go_wp2_with fail
  go_ret
  exact ⟨0, a, bad, rfl, gr_refl _ _, h, HH.out, by omega, by omega⟩

end Go.Proofs.Ythmmapahobkhnaa

/-
  The program's reader of terms: one type, a row of types.
-/
namespace Go.Proofs.Ythmmapahobkhnaa
open Go.RowKit Go.PlainAid
set_option linter.unusedVariables false
set_option linter.unusedSimpArgs false

/-- What a reader of a type comes to. -/
def TyRd (L B : Nat) (w w' : World) (e : Ending) (p : Nat) (ao : Option Addr) (len cap : Nat) (T : List (List UInt8)) (a : Nat) (bad : Bool) : Prop :=
  ∃ t ao2 l2 c2 a' bad', e = .returned (.agg #[.int .i64 t.K, .int .i64 t.N, .slice ao2 l2 c2]) ∧ w.grownBy w' (some p) ∧ Rdm L B w' p ao len cap a' bad' T ∧ RdO tyR T a bad t a' bad' ∧ OwR w.heap.size w'.heap.size w' 6 ao2 l2 t.A

theorem Rdm.keep {L B : Nat} {w w' : World} {p : Nat} {ao : Option Addr} {len cap a : Nat} {bad : Bool} {T : List (List UInt8)} (h : Rdm L B w p ao len cap a bad T) (hk : ∀ k, k < B → w'.heap[k]? = w.heap[k]?) (hp : w'.heap[p]? = w.heap[p]?) : Rdm L B w' p ao len cap a bad T := by
  refine ⟨hp.trans h.row, ⟨h.toks.1, fun i hi => ?_⟩, h.le, h.sm, h.lo⟩
  obtain ⟨b, o, e, h1, h2, h3⟩ := h.toks.2 i hi
  exact ⟨b, o, e, h1, h2, (World.cell?_of_block (hk b h2)).trans h3⟩
theorem gr_set3 {w w' : World} {p g o : Nat} {a b c : Value} (h : w.grownBy w' (some p)) (hg : w.heap.size ≤ g) : w.grownBy (set3 w' g o a b c) (some p) :=
  ⟨h.os, h.tape, h.output, by rw [set3_size]; exact h.size, fun k hk hne => (set3_other _ (by omega)).trans (h.block k hk hne)⟩

set_option maxRecDepth 100000 in
set_option maxHeartbeats 4000000 in
theorem ty_any (p : Nat) (ao : Option Addr) (len cap a L B : Nat) (bad : Bool) (T : List (List UInt8)) (w : World) (h : Rdm L B w p ao len cap a bad T) :
    Calls Try.prog 45 #[.pointer (some ⟨p, 0, none⟩)] w fun e w' => TyRd L B w w' e p ao len cap T a bad := by
  have hp := h.lt
  obtain ⟨X, hX⟩ : ∃ X, X = w.alloc (.cells #[.int .i64 0, .int .i64 0, .slice none 0 0] 24) := ⟨_, rfl⟩
  have hXb : Below w.heap.size w X := by rw [hX]; exact (Below.refl _ _).alloc (Nat.le_refl _) _
  have hXs : X.heap.size = w.heap.size + 1 := by rw [hX]; simp
  have hXr : X.heap[w.heap.size]? = some (.cells #[.int .i64 0, .int .i64 0, .slice none 0 0] 24 (0, 0)) := by rw [hX]; exact heap_new rfl
  have hRX := h.below hXb
  have hpX : p < X.heap.size := by omega
  have HS : Hid (∀ w', Below X.heap.size X w' → w'.cell? ⟨p, 0, none⟩ = some (.slice ao len cap) ∧ w'.cell? ⟨p, 1, none⟩ = some (.int .i64 a)) := fun y hy => by
    obtain ⟨g0, g1, g2⟩ := box_cells ((hy.block p hpX).trans hRX.row)
    exact ⟨g0, g1⟩
  have H1 : Hid (∀ y, Below X.heap.size X y → Calls Try.prog 55 #[.slice ao len cap, .int .i64 a, .int .i64 6] y fun e w' => ∃ K N ao2 len2 cap2 nx, e = .returned (.tuple #[.agg #[.int .i64 K, .int .i64 N, .slice ao2 len2 cap2], .int .i64 nx, .bool (prs 6 (T.drop a)).isSome]) ∧ Below y.heap.size y w' ∧
      ∀ t u, prs 6 (T.drop a) = some (t, u) → K = t.K ∧ N = t.N ∧ nx = a + u ∧ OwR y.heap.size w'.heap.size w' 6 ao2 len2 t.A) := fun y hy => pt_any 6 (by omega) L B ao len cap a T y (by have := hRX.lo; have := hy.size; omega) (hRX.toks.below hy (by have := hRX.lo; omega)) hRX.sm hRX.le
  have q0 : Below X.heap.size X X.drew := (Below.refl _ _).drew
  have q0a : ∀ o, Below X.heap.size X (X.alloc o).drew := fun o => ((Below.refl _ _).alloc (Nat.le_refl _) _).drew
  obtain ⟨f0, f1⟩ := HS.out _ (Below.refl _ _)
  have HX : Hid (X = _) := hX
  have HXS : Hid (X.heap.size = w.heap.size + 1) := hXs
  have HXB : Hid (Below w.heap.size w X) := hXb
  have HXR : Hid (X.heap[w.heap.size]? = some (.cells #[.int .i64 0, .int .i64 0, .slice none 0 0] 24 (0, 0))) := hXr
  have HRX : Hid (Rdm L B X p ao len cap a bad T) := hRX
  clear hX hXs hXb hXr hRX
  go_enter Try.func45, Try.ntmps45
  go_upto_region 1 with fail
  rw [← HX.out]
  go_cut [3, 4, 5] from 6 to 18 (fun v3 v4 v5 wx => ∃ h K N ao2 len2 cap2 nx, v3 = .pointer (some ⟨h, 0, none⟩) ∧ v4 = .int .i64 nx ∧ v5 = .bool (prs 6 (T.drop a)).isSome ∧ wx.heap[h]? = some (.cells #[.int .i64 K, .int .i64 N, .slice ao2 len2 cap2] 24 (0, 0)) ∧ Below X.heap.size X wx ∧ X.heap.size ≤ h ∧ ∀ t u, prs 6 (T.drop a) = some (t, u) → K = t.K ∧ N = t.N ∧ nx = a + u ∧ OwR X.heap.size wx.heap.size wx 6 ao2 len2 t.A)
  case first =>
    go_region_held3 (fun w' => w'.cell? ⟨p, 0, none⟩ = some (.slice ao len cap) ∧ w'.cell? ⟨p, 1, none⟩ = some (.int .i64 a))
      (first | with_reducible exact HS.out _ (q1a _) | with_reducible exact HS.out _ q1 | with_reducible exact HS.out _ (q0a _) | with_reducible exact HS.out _ q0 | (refine ⟨?_, ?_⟩ <;> simp [World.cell?_setCell_other, u0, u1, hno]))
      (first
        | (go_at_call 55; refine (H1.out _ q0).mono ?_; rintro e w1 ⟨K, N, ao2, len2, cap2, nx, rfl, hb1, ho1⟩; have q1 : Below X.heap.size X w1 := q0.trans (hb1.mono q0.size); have q1a : ∀ o, Below X.heap.size X (w1.alloc o) := fun o => q1.alloc q1.size _)
        | (go_at_call 55; refine (H1.out _ (q0a _)).mono ?_; rintro e w1 ⟨K, N, ao2, len2, cap2, nx, rfl, hb1, ho1⟩; have q1 : Below X.heap.size X w1 := (q0a _).trans (hb1.mono (q0a _).size); have q1a : ∀ o, Below X.heap.size X (w1.alloc o) := fun o => q1.alloc q1.size _; have xo1 : w1.heap[X.heap.size]? = some (.cells #[.int .i64 0, .int .i64 0, .slice none 0 0] 24 (0, 0)) := (hb1.block X.heap.size (by simp)).trans (heap_new rfl); obtain ⟨y0, y1, y2⟩ := box_cells xo1; have yf := row_free xo1; obtain ⟨u0, u1⟩ := HS.out _ q1; have hno : p ≠ X.heap.size := Nat.ne_of_lt hpX))
    · go_wp2_with fail
      go_meet
      refine ⟨w1.heap.size, K, N, ao2, len2, cap2, nx, rfl, rfl, rfl, heap_new rfl, q1a _, q1.size, fun t u ht => ?_⟩
      obtain ⟨k1, k2, k3, k4⟩ := ho1 t u ht
      exact ⟨k1, k2, k3, k4.keep (fun q _ hq => Below.heap_alloc _ _ _ hq) (Nat.le_refl _) (by simp)⟩
    · go_wp2_with fail
      go_meet
      have e : ((w1.setCell ⟨X.heap.size, 0, none⟩ (.int .i64 K)).setCell ⟨X.heap.size, 1, none⟩ (.int .i64 N)).setCell ⟨X.heap.size, 2, none⟩ (.slice ao2 len2 cap2) = set3 w1 X.heap.size 0 (.int .i64 K) (.int .i64 N) (.slice ao2 len2 cap2) := rfl
      rw [e]
      refine ⟨X.heap.size, K, N, ao2, len2, cap2, nx, rfl, rfl, rfl, by rw [set3_row xo1]; rfl, set3_below q1 (Nat.le_refl _), Nat.le_refl _, fun t u ht => ?_⟩
      obtain ⟨k1, k2, k3, k4⟩ := ho1 t u ht
      have hz : (X.alloc (.cells #[.int .i64 0, .int .i64 0, .slice none 0 0] 24)).drew.heap.size = X.heap.size + 1 := by show (X.alloc _).heap.size = _; simp
      exact ⟨k1, k2, k3, k4.keep (fun q hq _ => set3_other _ (by omega)) (by omega) (by rw [set3_size]; exact Nat.le_refl _)⟩
  case rest =>
    obtain ⟨h0, K, N, ao2, len2, cap2, nx, rfl, rfl, rfl, hbx, hWX, hXh, hres⟩ := hcut
    obtain ⟨W, hWe⟩ : ∃ v, v = wc := ⟨_, rfl⟩
    subst hWe
    have hXs := HXS.out
    have hXB := HXB.out
    have hRW := HRX.out.below hWX
    have hrW := (hWX.block w.heap.size (by omega)).trans HXR.out
    have hzW := hWX.size
    have hpr : p ≠ w.heap.size := by omega
    have hbW : Below w.heap.size w W := hXB.trans (hWX.mono (by omega))
    have hlo := hRW.lo
    obtain ⟨g0, g1, g2⟩ := box_cells hRW.row
    have g3 := row_free hRW.row
    obtain ⟨r0, r1, r2⟩ := box_cells hrW
    have r3 := row_free hrW
    obtain ⟨b0, b1, b2⟩ := box_cells hbx
    have hbp : h0 ≠ p := by omega
    have hbr : h0 ≠ w.heap.size := by omega
    cases hp0 : prs 6 (T.drop a) with
    | none =>
      have HN : Hid (prs 6 (T.drop a) = none) := hp0
      have HRB := hRW.setB true
      have hYr : (W.setCell ⟨p, 2, none⟩ (.bool true)).heap[w.heap.size]? = some (.cells #[.int .i64 0, .int .i64 0, .slice none 0 0] 24 (0, 0)) := by rw [row_other _ _ _ (by omega)]; exact hrW
      have hYg : w.grownBy (W.setCell ⟨p, 2, none⟩ (.bool true)) (some p) := gr_set (gr_below hbW)
      obtain ⟨y0, y1, y2⟩ := box_cells hYr
      have y3 := row_free hYr
      have HF : Hid (∀ e, e = Ending.returned (.agg #[.int .i64 0, .int .i64 0, .slice none 0 0]) → TyRd L B w (set3 (W.setCell ⟨p, 2, none⟩ (.bool true)) w.heap.size 0 (.int .i64 0) (.int .i64 0) (.slice none 0 0)) e p ao len cap T a bad) := fun e he => by
        refine ⟨⟨0, 0, []⟩, none, 0, 0, a, true, he, ?_, ?_, ⟨fun _ => rfl, fun _ => ?_⟩, OwR.nil _ _ _ _ _⟩
        · exact gr_set3 hYg (by omega)
        · exact HRB.keep (fun k hk => set3_other _ (by omega)) (set3_other _ (by omega))
        · have e : tyR (T.drop a) = none := HN.out
          rw [e]
      clear hp0 hres hrW r0 r1 r2 r3 hbx b0 b1 b2 hYr hYg HRB
      simp only [Option.isSome_none]
      go_wp2_with fail
      refine bodyPost_ret (v := .agg #[.int .i64 0, .int .i64 0, .slice none 0 0]) (by simp [results, Try.results45, go_sem, y0, y1, y2]) rfl ?_
      exact HF.out _ rfl
    | some tu =>
      obtain ⟨t, u⟩ := tu
      obtain ⟨rfl, rfl, rfl, ho⟩ := hres t u hp0
      have hul : u ≤ (T.drop a).length := prs_le 6 _ _ _ hp0
      rw [List.length_drop] at hul
      have hau : a + u ≤ len := by have := hRW.toks.1; have := hRW.le; omega
      have HRB := hRW.setA (a + u) hau
      have hYr : (W.setCell ⟨p, 1, none⟩ (.int .i64 ((a : Int) + (u : Int)))).heap[w.heap.size]? = some (.cells #[.int .i64 0, .int .i64 0, .slice none 0 0] 24 (0, 0)) := by rw [row_other _ _ _ (by omega)]; exact hrW
      have hYb : (W.setCell ⟨p, 1, none⟩ (.int .i64 ((a : Int) + (u : Int)))).heap[h0]? = some (.cells #[.int .i64 t.K, .int .i64 t.N, .slice ao2 len2 cap2] 24 (0, 0)) := by rw [row_other _ _ _ (by omega)]; exact hbx
      have hYg : w.grownBy (W.setCell ⟨p, 1, none⟩ (.int .i64 ((a : Int) + (u : Int)))) (some p) := gr_set (gr_below hbW)
      obtain ⟨y0, y1, y2⟩ := box_cells hYr
      have y3 := row_free hYr
      obtain ⟨x0, x1, x2⟩ := box_cells hYb
      have HF : Hid (∀ e, e = Ending.returned (.agg #[.int .i64 t.K, .int .i64 t.N, .slice ao2 len2 cap2]) → TyRd L B w (set3 (W.setCell ⟨p, 1, none⟩ (.int .i64 ((a : Int) + (u : Int)))) w.heap.size 0 (.int .i64 t.K) (.int .i64 t.N) (.slice ao2 len2 cap2)) e p ao len cap T a bad) := fun e he => by
        refine ⟨t, ao2, len2, cap2, a + u, bad, he, ?_, ?_, ⟨fun hb => hb, fun hb => ?_⟩, ?_⟩
        · exact gr_set3 hYg (by omega)
        · have HRB : Rdm L B (W.setCell ⟨p, 1, none⟩ (.int .i64 ((a : Int) + (u : Int)))) p ao len cap (a + u) bad T := HRB
          exact HRB.keep (fun k hk => set3_other _ (by omega)) (set3_other _ (by omega))
        · have e : tyR (T.drop a) = some (t, u) := hp0
          rw [e]
          exact ⟨hb, rfl, rfl⟩
        · refine ho.keep (fun q hq _ => ?_) (by omega) (by rw [set3_size]; simp)
          rw [set3_other _ (by omega), row_other _ _ _ (by omega)]
      clear hp0 hres hrW r0 r1 r2 r3 hbx b0 b1 b2 hYr hYb hYg HRB ho
      simp only [Option.isSome_some]
      go_wp2_with fail
      refine bodyPost_ret (v := .agg #[.int .i64 t.K, .int .i64 t.N, .slice ao2 len2 cap2]) (by simp [results, Try.results45, go_sem, y0, y1, y2]) rfl ?_
      exact HF.out _ rfl

end Go.Proofs.Ythmmapahobkhnaa
