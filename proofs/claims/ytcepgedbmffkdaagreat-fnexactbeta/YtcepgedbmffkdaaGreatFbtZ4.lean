/-
  The library's 'slices.Concat' of two rows of names: the names of both, in a row of their own.
-/
import Derived.Test.YtcepgedbmffkdaaGreatFbtZ2
import Derived.Test.YtcepgedbmffkdaaGreatFbtZ3
import Derived.Test.YtcepgedbmffkdaaGreatFbtZ1
import Derived.Lib.AppendZeros
import Derived.Deep.Upon
import Derived.Shelf.Strings.Search1
import Derived.Shelf.Strings.Search2
import Derived.Shelf.Strings.Search3
import Derived.Shelf.LaysM
import Derived.Shelf.Strings.Shaped
import Derived.Shelf.Slices.Turned
import Derived.Test.YtcepgedbmffkdaaGreatProg
namespace Go.Proofs.YtcepgedbmffkdaaGreat
open Go.RowKit
set_option linter.unusedVariables false
set_option linter.unusedSimpArgs false

/-- A slice holds these names. -/
def Nsl (w : World) (ao : Option Addr) (n : Nat) (N : List (List UInt8)) : Prop := n = N.length ∧ ∀ j (_ : j < N.length), ∃ b, ao = some ⟨b, 0, none⟩ ∧ (∃ cs, w.heap[b]? = some (.cells cs 9 (0, 0))) ∧ w.cell? ⟨b, 0 + j, none⟩ = some (tk N[j])

theorem Nsl.below {w w' : World} {ao : Option Addr} {n : Nat} {N : List (List UInt8)} (h : Nsl w ao n N) (hb : Below w.heap.size w w') : Nsl w' ao n N :=
  ⟨h.1, fun j hj => by obtain ⟨b, e, ⟨cs, hh⟩, hc⟩ := h.2 j hj; have hl := (Array.getElem?_eq_some_iff.1 hh).1; exact ⟨b, e, ⟨cs, (hb.block b hl).trans hh⟩, (bcell hb hl _).trans hc⟩⟩

theorem Nsl.of_toks {base : Nat} {w : World} {ao : Option Addr} {n c : Nat} {P : List (List UInt8)} (h : Toks base w (.slice ao n c) P) : Nsl w ao n P := by
  obtain ⟨ao', cap, e⟩ := toks_form h
  injection e with e1 e2 e3
  subst e2
  refine ⟨rfl, fun j hj => ?_⟩
  obtain ⟨g, cap, ev, h1, h2, h3⟩ := toks_at h j hj
  injection ev with ev1 _ _
  subst ev1
  refine ⟨g, rfl, ?_, h3⟩
  rcases h.2 with ⟨e4, _⟩ | ⟨g', cap', cur, e4, _, hh, _⟩
  · cases e4
  · injection e4 with e5 _ _
    injection e5 with e5
    injection e5 with e6 _ _
    subst e6
    exact ⟨cur, hh⟩

theorem Nsl.of_nm {w : World} {xo : Option Addr} {N : List (List UInt8)} (h : 0 < N.length → ∃ sb, xo = some ⟨sb, 0, none⟩ ∧ w.heap[sb]? = some (.cells (N.map tk).toArray 9 (0, 0))) : Nsl w xo N.length N := by
  refine ⟨rfl, fun j hj => ?_⟩
  obtain ⟨sb, e, hh⟩ := h (by omega)
  refine ⟨sb, e, ⟨_, hh⟩, ?_⟩
  rw [Nat.zero_add, row_cell hh j]
  simp [hj]

theorem toks_app {base : Nat} {wr : World} {v : Value} {P : List (List UInt8)} (h : Toks base wr v P) (hb : base ≤ wr.heap.size) {ao : Option Addr} {n : Nat} (c : Nat) {N : List (List UInt8)} (hs : Nsl wr ao n N) (hl : P.length + n ≤ 1048577) :
    ∃ ao2 cap w2, (Builtin.append_ #[60, 60] 60 #[v, .slice ao n c]).run Tryz.prog wr = .ok (.slice ao2 (P.length + n) cap) w2 ∧
      Toks base w2 (.slice ao2 (P.length + n) cap) (P ++ N) ∧ wr.grownBy w2 v.ownBlock := by
  by_cases hn : n = 0
  · subst hn
    have hN : N = [] := List.length_eq_zero_iff.1 hs.1.symm
    subst hN
    obtain ⟨i0, hi, hz0, hz1, hz2⟩ := info_parts Tryz.infoStr
    have hv : ∃ a2 cap, v = .slice a2 P.length cap ∧ P.length ≤ cap := by
      rcases h.2 with ⟨rfl, hn⟩ | ⟨g, cap, cur, rfl, hg, hh, h1, h2, h3, h4⟩
      · exact ⟨none, 0, by rw [hn], by omega⟩
      · exact ⟨_, cap, rfl, h1⟩
    obtain ⟨a2, cap, rfl, hcap⟩ := hv
    refine ⟨a2, cap, wr, ?_, by rw [List.append_nil, Nat.add_zero]; exact h, ⟨rfl, rfl, rfl, Nat.le_refl _, fun _ _ _ => rfl⟩⟩
    rw [Nat.add_zero]
    refine run_append_nothing (P := Tryz.prog) wr 60 60 60 9 i0 Tryz.underlying60 hi a2 P.length cap hcap _ ?_
    cases ao with
    | none => exact Src.ofNil _ Tryz.underlying60 c
    | some a => exact Src.ofSlice _ Tryz.underlying60 a 0 c [] (by simp) (by simp) (by simp)
  · have hn0 : 0 < N.length := by have := hs.1; omega
    obtain ⟨b, rfl, _, _⟩ := hs.2 0 hn0
    have hnl := hs.1
    subst hnl
    obtain ⟨g, cap, w2, r1, r2, r3, _, _⟩ := toks_grow h hb N hn0 (by omega) b c (fun j u hu => by
      rw [List.getElem?_map] at hu
      have hj : j < N.length := by
        rcases Nat.lt_or_ge j N.length with h | h
        · exact h
        · rw [List.getElem?_eq_none h] at hu; simp at hu
      rw [List.getElem?_eq_getElem hj] at hu
      simp at hu
      obtain ⟨b', e, _, hc⟩ := hs.2 j hj
      cases e
      rw [hc, hu])
    exact ⟨_, cap, w2, r1, r2, r3⟩

set_option maxRecDepth 100000 in
set_option maxHeartbeats 400000 in
theorem grow_noneS (n : Nat) (h0 : 0 < n) (hl : n ≤ 1048600) (m : Int) (hm : m = (n : Int)) (w : World) :
    Calls Tryz.prog 123 #[.slice none 0 0, .int .i64 m] w fun e w' => ∃ ao cap, e = .returned (.slice ao 0 cap) ∧ Toks w.heap.size w' (.slice ao 0 cap) [] ∧ Below w.heap.size w w' := by
  obtain ⟨i0, hi, hz0, hz1, hz2⟩ := info_parts Tryz.infoStr
  have hrun := Lib.run_append_nil_zeros (P := Tryz.prog) w 60 3 60 9 i0 _ .i64 .i64 Tryz.underlying60 Tryz.underlying3 hi hz0 n h0 (by omega) (by omega) (by rw [hz2]; omega)
  subst hm
  have hneg : ¬ (n : Int) < 0 := by omega
  have hpos : 0 < (n : Int) := by omega
  go_enter Tryz.func123, Tryz.ntmps123
  go_wp2_with (first | (at_builtin; refine Lib.wpList_append_run _ (by rfl) _ _ _ _ (by rfl) _ _ (by rfl) (by rfl) _ _ hrun ?_))
  go_ret
  have hge := grownCap_ge w n 0 9
  refine ⟨_, _, rfl, ⟨rfl, Or.inr ⟨_, _, _, rfl, Nat.le_refl _, heap_alloc_new _ _, Nat.zero_le _, grownCap_le_maxLen w n 0 9 (by unfold maxLen; omega), ?_, rfl⟩⟩, ((Below.refl _ _).alloc (Nat.le_refl _) _).drew⟩
  simp only [Array.size_append, size_zeroCells]
  simp
  omega

set_option maxRecDepth 100000 in
set_option maxHeartbeats 400000 in
theorem grow_zeroS (w : World) :
    Calls Tryz.prog 123 #[.slice none 0 0, .int .i64 0] w fun e w' => ∃ ao cap, e = .returned (.slice ao 0 cap) ∧ Toks w.heap.size w' (.slice ao 0 cap) [] ∧ Below w.heap.size w w' := by
  go_enter Tryz.func123, Tryz.ntmps123
  go_wp2_with fail
  go_ret
  exact ⟨_, _, rfl, ⟨rfl, Or.inl ⟨rfl, rfl⟩⟩, Below.refl _ _⟩

theorem growS (n : Nat) (hl : n ≤ 1048600) (m : Int) (hm : m = (n : Int)) (w : World) :
    Calls Tryz.prog 123 #[.slice none 0 0, .int .i64 m] w fun e w' => ∃ ao cap, e = .returned (.slice ao 0 cap) ∧ Toks w.heap.size w' (.slice ao 0 cap) [] ∧ Below w.heap.size w w' := by
  by_cases h0 : n = 0
  · subst h0
    subst hm
    exact grow_zeroS w
  · exact grow_noneS n (by omega) hl m hm w

set_option maxRecDepth 100000 in
set_option maxHeartbeats 1000000 in
theorem concat_names (p : Nat) (a1 : Option Addr) (n1 c1 : Nat) (a2 : Option Addr) (n2 c2 : Nat) (l1 l2 : List (List UInt8)) (w : World) (hp : p < w.heap.size)
    (x1 : w.cell? ⟨p, 0, none⟩ = some (.slice a1 n1 c1)) (x2 : w.cell? ⟨p, 1, none⟩ = some (.slice a2 n2 c2)) (h1 : Nsl w a1 n1 l1) (h2 : Nsl w a2 n2 l2) (hl : n1 + n2 ≤ 1048577) :
    Calls Tryz.prog 103 #[.slice (some ⟨p, 0, none⟩) 2 2] w fun e w' => ∃ v, e = .returned v ∧ Toks w.heap.size w' v (l1 ++ l2) ∧ Below w.heap.size w w' := by
  have w1 : ¬ (n1 : Int) < 0 := by omega
  have w2 : ¬ ((n1 : Int) + (n2 : Int)) < 0 := by omega
  go_enter Tryz.func103, Tryz.ntmps103
  go_wp2_with fail
  refine wp_loop_rounds 3 ?_
  rw [rounds_succ]
  go_wp2_with fail
  rw [rounds_succ]
  go_wp2_with fail
  rw [rounds_succ]
  go_wp2_with fail
  refine (growS (n1 + n2) (by omega) _ (by omega) _).mono ?_
  rintro e wA ⟨g, cap, rfl, hNA, hbA⟩
  have hzA := hbA.size
  obtain ⟨ao1, cap1, wB, r1, hNB, hgB⟩ := toks_app hNA hzA c1 (h1.below hbA) (by simp; omega)
  have HbB : Hid (Below w.heap.size w wB) := ⟨hgB.os.trans hbA.os, hgB.tape.trans hbA.tape, hgB.output.trans hbA.output, Nat.le_trans hzA hgB.size, fun q hq => (hgB.block q (by omega) (fun e => by have := (toks_own hNA e.symm).1; omega)).trans (hbA.block q hq)⟩
  have hbB := HbB.out
  have hzB := hbB.size
  simp only [List.nil_append, List.length_nil, Nat.zero_add] at hNB r1
  have hlB : Hid (l1.length = n1) := h1.1.symm
  obtain ⟨ao2, cap2, wC, r2, hNC, hgC⟩ := toks_app hNB hzB c2 (h2.below hbB) (by rw [hlB.out]; omega)
  have HbC : Hid (Below w.heap.size w wC) := ⟨hgC.os.trans hbB.os, hgC.tape.trans hbB.tape, hgC.output.trans hbB.output, Nat.le_trans hzB hgC.size, fun q hq => (hgC.block q (by omega) (fun e => by have := (toks_own hNB e.symm).1; omega)).trans (hbB.block q hq)⟩
  have y1 := (bcell hbA hp 0).trans x1
  have y2 := (bcell hbB hp 1).trans x2
  have HNC : Hid (Toks w.heap.size wC (.slice ao2 (l1.length + n2) cap2) (l1 ++ l2)) := hNC
  rw [hlB.out] at r2
  rw [hlB.out] at HNC
  clear hNA hNB hNC hgB hgC hbB HbB h1 h2 hbA hzA hzB x1 x2
  have HR1 : Hid (_ = _) := r1
  have HR2 : Hid (_ = _) := r2
  clear r1 r2
  go_wp2_with fail
  refine wp_loop_rounds 3 ?_
  rw [rounds_succ]
  go_wp2_with (first | (at_builtin; refine list_run HR1.out (by rfl) _ _ (by rfl) (by rfl) (by rfl) (by rfl) ?_))
  rw [rounds_succ]
  go_wp2_with (first | (at_builtin; refine list_run HR2.out (by rfl) _ _ (by rfl) (by rfl) (by rfl) (by rfl) ?_))
  rw [rounds_succ]
  go_wp2_with fail
  go_ret
  exact ⟨_, rfl, HNC.out, HbC.out⟩

end Go.Proofs.YtcepgedbmffkdaaGreat

/-
  What the library's functions come to at this program: the numbers that the shelf's own theorems want.
-/
namespace Go.Proofs.YtcepgedbmffkdaaGreat
open Go.Shelf Go.RowKit
set_option linter.unusedVariables false
def Tryz.lays110_ren : Go.Shelf.Ren := ⟨fun | 110 => 102 | 109 => 122 | n => n, fun | 31 => 60 | 9 => 9 | 4 => 4 | 3 => 3 | 0 => 0 | n => n, fun | n => n⟩
theorem Tryz.lays110 : Go.Proofs.Lays.n110 Tryz.prog Tryz.lays110_ren := {
  mixed := by kernel_rfl
  f109 := Tryz.func122.trans (congrArg some (by kernel_rfl))
  f110 := Tryz.func102.trans (congrArg some (by kernel_rfl))
  t0 := Tryz.underlying0
  a0 := Tryz.isAgg0
  z0 := Tryz.sizeOf0
  v0 := Tryz.zeroValue0
  t3 := Tryz.underlying3
  a3 := Tryz.isAgg3
  z3 := Tryz.sizeOf3
  v3 := Tryz.zeroValue3
  t4 := Tryz.underlying4
  a4 := Tryz.isAgg4
  z4 := Tryz.sizeOf4
  v4 := Tryz.zeroValue4
  t9 := Tryz.underlying9
  a9 := Tryz.isAgg9
  z9 := Tryz.sizeOf9
  v9 := Tryz.zeroValue9
  t31 := Tryz.underlying60
  a31 := Tryz.isAgg60
  z31 := Tryz.sizeOf60
  v31 := Tryz.zeroValue60 }
open Go.Lib in
theorem Tryz.slices_Contains_string (b off n c : Nat) (zs : List ByteArray) (x : ByteArray) (w : World) (hz : n ≤ zs.length) (hbig : n ≤ 9223372036854775807) (hc : ∀ j, j < zs.length → w.cell? ⟨b, off + j, none⟩ = some (.string (zs.getD j ByteArray.empty))) :
    Calls Tryz.prog 102 #[.slice (some ⟨b, off, none⟩) n c, .string x] w fun e w' => e = .returned (.bool (Lib.containsS (zs.take n) x)) ∧ w' = w := Any.slices_Contains_string Tryz.lays110 b off n c zs x w hz hbig hc
open Go.Lib in
theorem Tryz.slices_Contains_string_empty (a : Option Addr) (c : Nat) (x : ByteArray) (w : World) :
    Calls Tryz.prog 102 #[.slice a 0 c, .string x] w fun e w' => e = .returned (.bool false) ∧ w' = w := Any.slices_Contains_string_empty Tryz.lays110 a c x w
end Go.Proofs.YtcepgedbmffkdaaGreat

/-
  Free names: 'gatherBound', and free names in plain words.
-/
namespace Go.Proofs.YtcepgedbmffkdaaGreat
open Go.RowKit
set_option linter.unusedVariables false
set_option linter.unusedSimpArgs false

/-- The names that a term binds in its i-th part. -/
def bindsW (k : Int) (s z : List UInt8) (i : Nat) : List (List UInt8) := if k = 4 ∨ k = 7 ∨ (k = 6 ∧ i = 1) ∨ (k = 17 ∧ i = 1) then [s] else if k = 14 ∧ i = 2 then [s, z] else []

def freeF (f : Tm → List (List UInt8) → List (List UInt8) → List (List UInt8)) (k : Int) (s z : List UInt8) : Nat → List Tm → List (List UInt8) → List (List UInt8) → List (List UInt8)
  | _, [], _, Fr => Fr
  | i, t :: ts, Bd, Fr => freeF f k s z (i + 1) ts Bd (f t (Bd ++ bindsW k s z i) Fr)

/-- The free names of a term behind those that are there. -/
def freeW : Nat → Tm → List (List UInt8) → List (List UInt8) → List (List UInt8)
  | 0, _, _, Fr => Fr
  | l + 1, t, Bd, Fr => freeF (freeW l) t.K (bs t.S) (bs t.Z) 0 t.A Bd (if t.K = 3 then meetW Bd Fr (bs t.S) else Fr)

theorem meetW_len (Bd Fr : List (List UInt8)) (x : List UInt8) : (meetW Bd Fr x).length ≤ Fr.length + 1 := by
  unfold meetW; split <;> simp

theorem freeF_len {f : Tm → List (List UInt8) → List (List UInt8) → List (List UInt8)} {g : Tm → Option Nat} (hf : ∀ t m Bd Fr, g t = some m → (f t Bd Fr).length ≤ Fr.length + m) (k : Int) (s z : List UInt8) : ∀ (ts : List Tm) (i : Nat) (Bd Fr : List (List UInt8)) (m : Nat), nodesG g ts = some m → (freeF f k s z i ts Bd Fr).length ≤ Fr.length + m := by
  intro ts
  induction ts with
  | nil => intro i Bd Fr m h; simp [freeF]
  | cons t ts ih =>
    intro i Bd Fr m h
    simp only [nodesG] at h
    cases ht : g t with
    | none => simp [ht] at h
    | some a =>
      cases hz : nodesG g ts with
      | none => simp [ht, hz] at h
      | some b =>
        simp [ht, hz] at h
        have h1 := hf t a (Bd ++ bindsW k s z i) Fr ht
        have h2 := ih (i + 1) Bd (f t (Bd ++ bindsW k s z i) Fr) b hz
        simp only [freeF]
        omega

theorem freeW_len : ∀ (l : Nat) (t : Tm) (m : Nat) (Bd Fr : List (List UInt8)), nodesM l t = some m → (freeW l t Bd Fr).length ≤ Fr.length + m := by
  intro l
  induction l with
  | zero => intro t m Bd Fr h; simp [nodesM] at h
  | succ l ih =>
    intro t m Bd Fr h
    have hn := (nodesM_inv h).1
    simp only [nodesM, hn, if_true] at h
    cases hz : nodesG (nodesM l) t.A with
    | none => simp [hz] at h
    | some b =>
      simp [hz] at h
      have h1 := freeF_len (f := freeW l) (g := nodesM l) (fun t m Bd Fr h => ih t m Bd Fr h) t.K (bs t.S) (bs t.Z) t.A 0 Bd (if t.K = 3 then meetW Bd Fr (bs t.S) else Fr) b hz
      have h2 : (if t.K = 3 then meetW Bd Fr (bs t.S) else Fr).length ≤ Fr.length + 1 := by
        split
        · exact meetW_len _ _ _
        · omega
      simp only [freeW]
      omega

end Go.Proofs.YtcepgedbmffkdaaGreat
