/-
  Terms as forms: the value that 'formOf' answers of a term that is right; no memory is in it but that of its types.
-/
import Derived.Test.YtdihgldfncjbpaaFzZ8
import Derived.Test.YtdihgldfncjbpaaFzZ11
import Derived.Deep.RegionHeld3
import Derived.Shelf.Strings.Search1
import Derived.Shelf.Strings.Search2
import Derived.Shelf.Strings.Search3
import Derived.Shelf.LaysM
import Derived.Shelf.Strings.Shaped
import Derived.Shelf.Slices.Turned
import Derived.Test.YtdihgldfncjbpaaProg
namespace Go.Proofs.Ytdihgldfncjbpaa
open Go.RowKit
set_option linter.unusedVariables false
set_option linter.unusedSimpArgs false

/-- The form of a term, its parts' forms being ps. -/
def fval (nd k n : Int) (s z : ByteArray) (tk tn : Int) (v1 v2 : Value) (p0 p1 p2 : Value) : Value :=
  if k = 1 then .iface 175 (.agg #[.int .i64 n])
  else if k = 2 then .iface 176 (.agg #[.int .i64 n])
  else if k = 3 then .iface 128 (.agg #[.string s, v2])
  else if k = 4 then .iface 131 (.agg #[.int .i64 nd, .string s, .int .i64 tk, .int .i64 tn, v1, p0])
  else if k = 5 then .iface 178 (.agg #[.int .i64 nd, p0, p1])
  else if k = 6 then .iface 134 (.agg #[.string s, .int .i64 n, p0, p1])
  else if k = 7 then .iface 136 (.agg #[.string s, .int .i64 n, .int .i64 tk, .int .i64 tn, v1, p0, p1])
  else if k = 8 then .iface 180 (.agg #[p0, p1, p2])
  else if k = 9 then .iface 182 (.agg #[p0, p1])
  else if k = 10 then .iface 184 (.agg #[p0])
  else if k = 11 then .iface 185 (.agg #[p0])
  else if k = 12 then .iface 187 (.agg #[.int .i64 tk, .int .i64 tn, v1])
  else if k = 13 then .iface 189 (.agg #[p0, p1])
  else if k = 14 then .iface 138 (.agg #[.string s, .string z, p0, p1, p2])
  else if k = 15 then .iface 191 (.agg #[.int .i64 n, p0, p1])
  else if k = 16 then .iface 193 (.agg #[.int .i64 tk, .int .i64 tn, v1, p0])
  else .iface 140 (.agg #[.string s, p0, p1])

/-- v is the form of t. -/
def Fv (L B : Nat) (w : World) (D : Nat) : Nat → Tm → Value → Prop
  | 0, _, _ => False
  | l + 1, t, v => ∃ (nd : Int) (a1 : Option Addr) (l1 c1 : Nat) (a2 : Option Addr) (l2 c2 : Nat) (p : Nat → Value), Hs L B w D a1 l1 t.T.A ∧ Hs L B w D a2 l2 t.Ts ∧ (∀ i (h : i < t.A.length), Fv L B w D l t.A[i] (p i)) ∧ v = fval nd t.K t.N t.S t.Z t.T.K t.T.N (.slice a1 l1 c1) (.slice a2 l2 c2) (p 0) (p 1) (p 2)

theorem Fv.iface {L B : Nat} {w : World} {D l : Nat} {t : Tm} {v : Value} (h : Fv L B w D l t v) : ∃ τ u, v = .iface τ u := by
  cases l with
  | zero => exact h.elim
  | succ l =>
    obtain ⟨nd, a1, l1, c1, a2, l2, c2, p, _, _, _, hx⟩ := h
    rw [hx]
    unfold fval
    by_cases h1 : t.K = 1
    · rw [if_pos h1]; exact ⟨_, _, rfl⟩
    rw [if_neg h1]
    by_cases h2 : t.K = 2
    · rw [if_pos h2]; exact ⟨_, _, rfl⟩
    rw [if_neg h2]
    by_cases h3 : t.K = 3
    · rw [if_pos h3]; exact ⟨_, _, rfl⟩
    rw [if_neg h3]
    by_cases h4 : t.K = 4
    · rw [if_pos h4]; exact ⟨_, _, rfl⟩
    rw [if_neg h4]
    by_cases h5 : t.K = 5
    · rw [if_pos h5]; exact ⟨_, _, rfl⟩
    rw [if_neg h5]
    by_cases h6 : t.K = 6
    · rw [if_pos h6]; exact ⟨_, _, rfl⟩
    rw [if_neg h6]
    by_cases h7 : t.K = 7
    · rw [if_pos h7]; exact ⟨_, _, rfl⟩
    rw [if_neg h7]
    by_cases h8 : t.K = 8
    · rw [if_pos h8]; exact ⟨_, _, rfl⟩
    rw [if_neg h8]
    by_cases h9 : t.K = 9
    · rw [if_pos h9]; exact ⟨_, _, rfl⟩
    rw [if_neg h9]
    by_cases h10 : t.K = 10
    · rw [if_pos h10]; exact ⟨_, _, rfl⟩
    rw [if_neg h10]
    by_cases h11 : t.K = 11
    · rw [if_pos h11]; exact ⟨_, _, rfl⟩
    rw [if_neg h11]
    by_cases h12 : t.K = 12
    · rw [if_pos h12]; exact ⟨_, _, rfl⟩
    rw [if_neg h12]
    by_cases h13 : t.K = 13
    · rw [if_pos h13]; exact ⟨_, _, rfl⟩
    rw [if_neg h13]
    by_cases h14 : t.K = 14
    · rw [if_pos h14]; exact ⟨_, _, rfl⟩
    rw [if_neg h14]
    by_cases h15 : t.K = 15
    · rw [if_pos h15]; exact ⟨_, _, rfl⟩
    rw [if_neg h15]
    by_cases h16 : t.K = 16
    · rw [if_pos h16]; exact ⟨_, _, rfl⟩
    rw [if_neg h16]
    exact ⟨_, _, rfl⟩

/-- From w to w' nothing has changed but what lies at p, and there is c. -/
structure Nx (p : Nat) (w w' : World) (c : Int) : Prop where
  kf : Kf (fun k => k = p) w (fun k => k = p) w'
  is : w'.heap[p]? = some (.cells #[.int .i64 c] 3 (0, 0))

theorem Nx.trans {p : Nat} {w w' w'' : World} {c c' : Int} (h : Nx p w w' c) (k : Nx p w' w'' c') : Nx p w w'' c' := ⟨h.kf.trans k.kf, k.is⟩
theorem Nx.lt {p : Nat} {w w' : World} {c : Int} (h : Nx p w w' c) : p < w'.heap.size := (Array.getElem?_eq_some_iff.1 h.is).1
theorem Nx.fm {p : Nat} {w w' : World} {c : Int} {L B D d : Nat} {t : Tm} {a1 a2 a3 : Option Addr} {l1 l2 l3 : Nat} (h : Nx p w w' c) (hB : B ≤ p) (hw : B ≤ w.heap.size) (hf : Fm L B w D d t a1 l1 a2 l2 a3 l3) : Fm L B w' D d t a1 l1 a2 l2 a3 l3 :=
  Fm.keep (fun k _ hk => h.kf.block k (by omega) (by omega)) (Nat.le_refl _) (Nat.le_refl _) hf

theorem Nx.drew {p : Nat} {w w' : World} {c : Int} (h : Nx p w w' c) : Nx p w w'.drew c := ⟨h.kf.trans (Kf.of_below ((Below.refl _ w').drew)), h.is⟩
theorem Nx.undrew {p : Nat} {w w' : World} {c : Int} (h : Nx p w.drew w' c) : Nx p w w' c := ⟨(Kf.of_below ((Below.refl _ w).drew)).trans h.kf, h.is⟩

end Go.Proofs.Ytdihgldfncjbpaa

/-
  What the library's functions come to at this program: the numbers that the shelf's own theorems want.
-/
namespace Go.Proofs.Ytdihgldfncjbpaa
open Go.Shelf Go.RowKit
set_option linter.unusedVariables false
def Try.lays109_ren : Go.Shelf.Ren := ⟨fun | 109 => 133 | n => n, fun | 31 => 55 | 9 => 9 | 3 => 3 | 0 => 0 | 4 => 4 | n => n, fun | n => n⟩
theorem Try.lays109 : Go.Proofs.Lays.n109 Try.prog Try.lays109_ren := {
  mixed := by kernel_rfl
  f109 := Try.func133.trans (congrArg some (by kernel_rfl))
  t0 := Try.underlying0
  a0 := Try.isAgg0
  z0 := Try.sizeOf0
  v0 := Try.zeroValue0
  t3 := Try.underlying3
  a3 := Try.isAgg3
  z3 := Try.sizeOf3
  v3 := Try.zeroValue3
  t4 := Try.underlying4
  a4 := Try.isAgg4
  z4 := Try.sizeOf4
  v4 := Try.zeroValue4
  t9 := Try.underlying9
  a9 := Try.isAgg9
  z9 := Try.sizeOf9
  v9 := Try.zeroValue9
  t31 := Try.underlying55
  a31 := Try.isAgg55
  z31 := Try.sizeOf55
  v31 := Try.zeroValue55 }
open Go.Lib in
theorem Try.slices_Index_string (b off n c : Nat) (zs : List ByteArray) (x : ByteArray) (w : World) (hz : n ≤ zs.length) (hbig : n ≤ 9223372036854775807) (hc : ∀ j, j < zs.length → w.cell? ⟨b, off + j, none⟩ = some (.string (zs.getD j ByteArray.empty))) :
    Calls Try.prog 133 #[.slice (some ⟨b, off, none⟩) n c, .string x] w fun e w' => e = .returned (.int .i64 (Lib.idxOfS (zs.take n) x)) ∧ w' = w := Any.slices_Index_string Try.lays109 b off n c zs x w hz hbig hc
open Go.Lib in
theorem Try.slices_Index_string_empty (a : Option Addr) (c : Nat) (x : ByteArray) (w : World) :
    Calls Try.prog 133 #[.slice a 0 c, .string x] w fun e w' => e = .returned (.int .i64 (Lib.idxOfS [] x)) ∧ w' = w := Any.slices_Index_string_empty Try.lays109 a c x w
def Try.lays110_ren : Go.Shelf.Ren := ⟨fun | 110 => 125 | 109 => 133 | n => n, fun | 31 => 55 | 9 => 9 | 4 => 4 | 3 => 3 | 0 => 0 | n => n, fun | n => n⟩
theorem Try.lays110 : Go.Proofs.Lays.n110 Try.prog Try.lays110_ren := {
  mixed := by kernel_rfl
  f109 := Try.func133.trans (congrArg some (by kernel_rfl))
  f110 := Try.func125.trans (congrArg some (by kernel_rfl))
  t0 := Try.underlying0
  a0 := Try.isAgg0
  z0 := Try.sizeOf0
  v0 := Try.zeroValue0
  t3 := Try.underlying3
  a3 := Try.isAgg3
  z3 := Try.sizeOf3
  v3 := Try.zeroValue3
  t4 := Try.underlying4
  a4 := Try.isAgg4
  z4 := Try.sizeOf4
  v4 := Try.zeroValue4
  t9 := Try.underlying9
  a9 := Try.isAgg9
  z9 := Try.sizeOf9
  v9 := Try.zeroValue9
  t31 := Try.underlying55
  a31 := Try.isAgg55
  z31 := Try.sizeOf55
  v31 := Try.zeroValue55 }
open Go.Lib in
theorem Try.slices_Contains_string (b off n c : Nat) (zs : List ByteArray) (x : ByteArray) (w : World) (hz : n ≤ zs.length) (hbig : n ≤ 9223372036854775807) (hc : ∀ j, j < zs.length → w.cell? ⟨b, off + j, none⟩ = some (.string (zs.getD j ByteArray.empty))) :
    Calls Try.prog 125 #[.slice (some ⟨b, off, none⟩) n c, .string x] w fun e w' => e = .returned (.bool (Lib.containsS (zs.take n) x)) ∧ w' = w := Any.slices_Contains_string Try.lays110 b off n c zs x w hz hbig hc
open Go.Lib in
theorem Try.slices_Contains_string_empty (a : Option Addr) (c : Nat) (x : ByteArray) (w : World) :
    Calls Try.prog 125 #[.slice a 0 c, .string x] w fun e w' => e = .returned (.bool false) ∧ w' = w := Any.slices_Contains_string_empty Try.lays110 a c x w
end Go.Proofs.Ytdihgldfncjbpaa
