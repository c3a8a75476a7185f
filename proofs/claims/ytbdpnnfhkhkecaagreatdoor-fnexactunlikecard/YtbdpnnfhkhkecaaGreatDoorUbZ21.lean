/-
  The functions of a term, in plain words.
-/
import Derived.Test.YtbdpnnfhkhkecaaGreatDoorUbZ19
import Derived.Test.YtbdpnnfhkhkecaaGreatDoorUbZ15
import Derived.Test.YtbdpnnfhkhkecaaGreatDoorUbUn0
import Derived.Shelf.Strings.Search1
import Derived.Shelf.Strings.Search2
import Derived.Shelf.Strings.Search3
import Derived.Shelf.LaysM
import Derived.Shelf.Strings.Shaped
import Derived.Shelf.Slices.Turned
import Derived.Test.YtbdpnnfhkhkecaaGreatDoorProg
namespace Go.Proofs.YtbdpnnfhkhkecaaGreatDoor
open Go.RowKit
set_option linter.unusedVariables false
set_option linter.unusedSimpArgs false

def isFn (t : Tm) : Bool := t.K == 4
/-- The functions of a term, from the front. -/
def lamT (t : Tm) : List Tm := if okM t = true then (allW t).filter isFn else []
theorem lamT_len (t : Tm) : (lamT t).length ≤ 150 := by
  unfold lamT
  split
  · rename_i h
    obtain ⟨m, hm, h6⟩ := okM_some h
    have h1 := allW_len 24 t m hm
    have h2 := List.length_filter_le isFn (allW t)
    omega
  · simp

theorem Fm.deeperM {L B : Nat} {w : World} {D d d' : Nat} {t : Tm} {a1 a2 a3 : Option Addr} {l1 l2 l3 : Nat} (hd : d ≤ d') (h : Fm L B w D d t a1 l1 a2 l2 a3 l3) : Fm L B w D d' t a1 l1 a2 l2 a3 l3 :=
  h.wider (fun _ _ _ hr => hr) (fun _ _ _ hr => hr.deeper hd (Nat.le_refl _))

end Go.Proofs.YtbdpnnfhkhkecaaGreatDoor

/-
  The n-th of a row of terms, in plain words.
-/
namespace Go.Proofs.YtbdpnnfhkhkecaaGreatDoor
open Go.RowKit
set_option linter.unusedVariables false
set_option linter.unusedSimpArgs false

/-- The zero term. -/
def zTm : Tm := ⟨0, 0, ⟨#[]⟩, ⟨#[]⟩, ⟨0, 0, []⟩, [], []⟩
theorem zTm_fmO (L B : Nat) (w : World) (D d : Nat) (hLB : L ≤ B) : FmO L B w D d zTm none 0 none 0 none 0 :=
  FmO.mk (M1 := L) (M2 := L) (by show (0 : Nat) ≤ 9223372036854775807; omega) (by show (0 : Nat) ≤ 9223372036854775807; omega) (OwR.nil _ _ _ _ _) (OwR.nil _ _ _ _ _) (OwMR.nil _ _ _ _ _ _) (Nat.le_refl _) (Nat.le_refl _) hLB
theorem zTm_cnt : cntM zTm = 0 := by rw [cntM_eq]; rfl

theorem sub_le {l : List Tm} {x : Tm} (h : x ∈ l) : cntM x ≤ subMS l := by
  obtain ⟨i, hi, e⟩ := List.getElem_of_mem h
  have h1 := subMS_take l i hi
  have h2 := subMS_take_le l (i + 1)
  rw [← e]
  omega

theorem allW_cnt : ∀ (n : Nat) (t : Tm), cntM t ≤ n → ∀ r ∈ allW t, cntM r ≤ cntM t := by
  intro n
  induction n with
  | zero =>
    intro t ht r hr
    have h1 := cntM_eq t
    have h2 := cntMS_eq t.A
    have hA : t.A = [] := List.length_eq_zero_iff.1 (by omega)
    rw [allW_eq, hA] at hr
    simp at hr
    rw [hr]; omega
  | succ n ih =>
    intro t ht r hr
    rw [allW_eq, List.mem_cons] at hr
    rcases hr with rfl | hr
    · omega
    · rw [List.mem_flatten] at hr
      obtain ⟨l, hl, hrl⟩ := hr
      rw [List.mem_map] at hl
      obtain ⟨x, hx, rfl⟩ := hl
      have h1 := cntM_eq t
      have h2 := cntMS_eq t.A
      have h3 := sub_le hx
      have h4 : 0 < t.A.length := List.length_pos_of_mem hx
      have h5 := ih x (by omega) r hrl
      omega

theorem lamT_cnt {t r : Tm} (hm : r ∈ lamT t) : cntM r ≤ cntM t := by
  unfold lamT at hm
  split at hm
  · exact allW_cnt _ t (Nat.le_refl _) _ (List.mem_filter.1 hm).1
  · simp at hm

/-- The n-th of a row of terms. -/
def nthM (A : List Tm) (n : Int) : Tm × Bool := if 0 ≤ n then (match A[n.toNat]? with | some r => (r, true) | none => (zTm, false)) else (zTm, false)
theorem nthM_at {A : List Tm} {i : Nat} (h : i < A.length) : nthM A (i : Int) = (A[i], true) := by
  unfold nthM
  rw [if_pos (by omega), Int.toNat_natCast, List.getElem?_eq_getElem h]
theorem nthM_no {A : List Tm} {n : Int} (h : ¬ (0 ≤ n ∧ n < A.length)) : nthM A n = (zTm, false) := by
  unfold nthM
  by_cases h0 : 0 ≤ n
  · rw [if_pos h0, List.getElem?_eq_none (by omega)]
  · rw [if_neg h0]
/-- The n-th function of a term. -/
def latM (t : Tm) (n : Int) : Tm × Bool := nthM (lamT t) n
theorem latM_cnt (t : Tm) (n : Int) : cntM (latM t n).1 ≤ cntM t := by
  unfold latM
  by_cases h : 0 ≤ n ∧ n < (lamT t).length
  · obtain ⟨i, rfl⟩ : ∃ i : Nat, n = i := ⟨n.toNat, by omega⟩
    have hi : i < (lamT t).length := by omega
    rw [nthM_at hi]
    exact lamT_cnt (List.getElem_mem hi)
  · rw [nthM_no h, zTm_cnt]; omega

/-- What is told of a term: it lies in memory of its own. -/
def TellM (w w' : World) (D d : Nat) (e : Ending) (R : Tm) (b : Bool) : Prop :=
  ∃ b1 m1 e1 b2 m2 e2 b3 m3 e3, e = .returned (.tuple #[.agg #[.int .i64 R.K, .int .i64 R.N, .string R.S, .string R.Z, .int .i64 R.T.K, .int .i64 R.T.N, .slice b1 m1 e1, .slice b2 m2 e2, .slice b3 m3 e3], .bool b]) ∧ Below w.heap.size w w' ∧ FmO w.heap.size w'.heap.size w' D d R b1 m1 b2 m2 b3 m3

end Go.Proofs.YtbdpnnfhkhkecaaGreatDoor

/-
  'Unlike', in plain words.
-/
namespace Go.Proofs.YtbdpnnfhkhkecaaGreatDoor
open Go.RowKit
set_option linter.unusedVariables false
set_option linter.unusedSimpArgs false

/-- A term with names that are all unlike; none, if it is not right or has free names. -/
def unlT (t : Tm) : Tm × Bool := if okM t = true ∧ freeW 24 t [] [] = [] then ((renW 24 t 0 []).1, true) else (zTm, false)

theorem cnt_ty {l : Nat} : ∀ {t : Tr} {m : Nat}, nodesW l t = some m → cntS t.A + 1 ≤ m := by
  induction l with
  | zero => intro t m h; simp [nodesW] at h
  | succ l ih =>
    intro t m h
    simp only [nodesW] at h
    split at h
    · cases hs : nodesL (nodesW l) t.A with
      | none => simp [hs] at h
      | some s =>
        simp [hs] at h
        have key : ∀ (ts : List Tr) (s : Nat), nodesL (nodesW l) ts = some s → cntS ts ≤ s := by
          intro ts
          induction ts with
          | nil => intro s _; simp [cntS]
          | cons x xs ihx =>
            intro s hs
            simp only [nodesL] at hs
            cases hx : nodesW l x with
            | none => simp [hx] at hs
            | some a =>
              cases hy : nodesL (nodesW l) xs with
              | none => simp [hx, hy] at hs
              | some b =>
                simp [hx, hy] at hs
                have h1 := ih hx
                have h2 := ihx b hy
                have h3 := cnt_eq x
                have h4 : cntS (x :: xs) = cnt x + cntS xs := by simp [cntS]
                omega
        have := key t.A s hs
        omega
    · cases h

theorem cnt_ok {t : Tr} (h : okT t = true) : cnt t ≤ 60 := by
  obtain ⟨m, hm, h6⟩ := okT_le h
  have := cnt_ty hm
  have := cnt_eq t
  omega

/-- One right node with short names is small. -/
theorem own_small {t : Tm} (hn : nodeM t = true) (s z : ByteArray) (hs : s.size ≤ 22) (hz : z.size ≤ 22) (A : List Tm) : ownM ⟨t.K, t.N, s, z, t.T, t.Ts, A⟩ ≤ 224 := by
  have h := NodeIs.of hn
  unfold ownM
  have h1 : cntS t.T.A ≤ 60 := by
    by_cases hT : shT t.K = true
    · have := cnt_ok (h.ty hT)
      have := cnt_eq t.T
      omega
    · simp only [nodeM, Bool.and_eq_true, decide_eq_true_eq, typesB] at hn
      have h2 := hn.2.1.1
      rw [if_neg hT] at h2
      simp only [zeroT, Bool.and_eq_true, beq_iff_eq] at h2
      have h3 : t.T.A.length = 0 := by omega
      have h4 : t.T.A = [] := List.length_eq_zero_iff.1 h3
      rw [h4]; simp [cntS]
  have h2 : cntS t.Ts ≤ 60 * t.Ts.length := by
    have key : ∀ ts : List Tr, (∀ x ∈ ts, okT x = true) → cntS ts ≤ 60 * ts.length := by
      intro ts
      induction ts with
      | nil => intro _; simp [cntS]
      | cons x xs ih =>
        intro hx
        have h3 := cnt_ok (hx x (by simp))
        have h4 := ih fun y hy => hx y (by simp [hy])
        have h5 : cntS (x :: xs) = cnt x + cntS xs := by simp [cntS]
        simp only [List.length_cons]
        omega
    exact key _ h.each
  have h3 : t.Ts.length ≤ 2 := by have := h.ts; have := (shS_bd t.K).2; omega
  show s.size + z.size + cntS t.T.A + cntS t.Ts ≤ 224
  omega

theorem renW_small : ∀ (l : Nat) (t : Tm) (m : Nat) (c : Int) (E : Env), nodesM l t = some m → 0 ≤ c → c + 2 * m ≤ 1000 → EnvOk E → cntM (renW l t c E).1 ≤ 230 * m := by
  intro l
  induction l with
  | zero => intro t m c E h; simp [nodesM] at h
  | succ l ih =>
    intro t m c E hm h0 hc hE
    obtain ⟨hn, hparts⟩ := nodesM_inv hm
    have hnm := (NodeIs.of hn).names
    have hml := allW_len _ t m hm
    have hm0 : 0 < m := by rw [← hml, allW_eq]; simp
    have hlen := nodeM_len hn
    simp only [renW]
    split
    · rename_i hK
      have hA0 : t.A = [] := by
        have := (nodeM_kinds hn).2.2
        rw [hK] at this
        have h2 : shP 3 = 0 := rfl
        exact List.length_eq_zero_iff.1 (by omega)
      have h1 := own_small hn (fnd E t.S) t.Z (fnd_size hE (by omega)) (by omega) t.A
      rw [cntM_eq]
      show ownM ⟨t.K, t.N, fnd E t.S, t.Z, t.T, t.Ts, t.A⟩ + cntMS t.A ≤ _
      rw [hA0] at h1 ⊢
      simp [cntMS]
      omega
    · have hs' : (newS t.K t.S c).size ≤ 22 := by
        unfold newS
        split
        · exact nm_size _ (by omega) (by omega)
        · omega
      have hz' : (newZ t.K t.Z c).size ≤ 22 := by
        unfold newZ
        split
        · exact nm_size _ (by omega) (by omega)
        · omega
      have h1 := own_small hn (newS t.K t.S c) (newZ t.K t.Z c) hs' hz' (renA (renW l) t c E t.A.length).1
      have key : ∀ j, j ≤ t.A.length → subMS (renA (renW l) t c E j).1 ≤ 230 * (preW t j).length := by
        intro j
        induction j with
        | zero => intro _; simp [renA, renP, subMS]
        | succ j ihj =>
          intro hj
          have g1 := ihj (by omega)
          obtain ⟨a, ha⟩ := hparts j (by omega)
          have hbd := renA_cnt l t c E j (by omega)
          have hb2 := preW_len hm j (by omega) ha
          have h3 := congrArg List.length (preW_succ t j (by omega))
          rw [List.length_append, allW_len _ _ _ ha] at h3
          have hle2 := ownN_le t.K
          have g2 := ih t.A[j] a (renA (renW l) t c E j).2 (bindE t.K t.S t.Z (newS t.K t.S c) (newZ t.K t.Z c) j E) ha (by omega) (by omega) (bindE_ok hE hs' hz')
          unfold renA at g1 g2 ⊢
          rw [renP_succ _ _ _ _ j (by omega)]
          show subMS (_ ++ [_]) ≤ _
          have e : ∀ (X : List Tm) (y : Tm), subMS (X ++ [y]) = subMS X + cntM y := by intro X y; simp [subMS]
          rw [e]
          omega
      have g3 := key t.A.length (Nat.le_refl _)
      have g4 := congrArg List.length (preW_all t t.A.length (Nat.le_refl _))
      rw [List.length_cons] at g4
      have g5 : (renA (renW l) t c E t.A.length).1.length = t.A.length := renP_len _ _ _ _ _ (Nat.le_refl _)
      rw [cntM_eq]
      show ownM ⟨t.K, t.N, newS t.K t.S c, newZ t.K t.Z c, t.T, t.Ts, (renA (renW l) t c E t.A.length).1⟩ + cntMS (renA (renW l) t c E t.A.length).1 ≤ _
      rw [cntMS_eq, g5]
      omega

theorem unlike_cnt (t : Tm) : cntM (unlT t).1 ≤ 1048576 := by
  unfold unlT
  split
  · rename_i h
    obtain ⟨m, hm, hm6⟩ := okM_some h.1
    have := renW_small 24 t m 0 [] hm (by omega) (by omega) (fun q hq => by simp at hq)
    show cntM (renW 24 t 0 []).1 ≤ _
    omega
  · show cntM zTm ≤ _
    rw [zTm_cnt]; omega

end Go.Proofs.YtbdpnnfhkhkecaaGreatDoor

/-
  What the library's functions come to at this program: the numbers that the shelf's own theorems want.
-/
namespace Go.Proofs.YtbdpnnfhkhkecaaGreatDoor
open Go.Shelf Go.RowKit
set_option linter.unusedVariables false
def Tryz.lays109_ren : Go.Shelf.Ren := ⟨fun | 109 => 148 | n => n, fun | 31 => 51 | 9 => 9 | 3 => 3 | 0 => 0 | 4 => 4 | n => n, fun | n => n⟩
theorem Tryz.lays109 : Go.Proofs.Lays.n109 Tryz.prog Tryz.lays109_ren := {
  mixed := by kernel_rfl
  f109 := Tryz.func148.trans (congrArg some (by kernel_rfl))
  t0 := Tryz.underlying0
  a0 := Tryz.isAgg0
  z0 := Tryz.sizeOf0
  v0 := Tryz.zeroValue0
  t3 := Tryz.underlying3
  a3 := Tryz.isAgg3
  z3 := Tryz.sizeOf3
  v3 := Tryz.zeroValue3
  t4 := Tryz.underlying4
  a4 := Tryz.isAgg4
  z4 := Tryz.sizeOf4
  v4 := Tryz.zeroValue4
  t9 := Tryz.underlying9
  a9 := Tryz.isAgg9
  z9 := Tryz.sizeOf9
  v9 := Tryz.zeroValue9
  t31 := Tryz.underlying51
  a31 := Tryz.isAgg51
  z31 := Tryz.sizeOf51
  v31 := Tryz.zeroValue51 }
open Go.Lib in
theorem Tryz.slices_Index_string (b off n c : Nat) (zs : List ByteArray) (x : ByteArray) (w : World) (hz : n ≤ zs.length) (hbig : n ≤ 9223372036854775807) (hc : ∀ j, j < zs.length → w.cell? ⟨b, off + j, none⟩ = some (.string (zs.getD j ByteArray.empty))) :
    Calls Tryz.prog 148 #[.slice (some ⟨b, off, none⟩) n c, .string x] w fun e w' => e = .returned (.int .i64 (Lib.idxOfS (zs.take n) x)) ∧ w' = w := Any.slices_Index_string Tryz.lays109 b off n c zs x w hz hbig hc
open Go.Lib in
theorem Tryz.slices_Index_string_empty (a : Option Addr) (c : Nat) (x : ByteArray) (w : World) :
    Calls Tryz.prog 148 #[.slice a 0 c, .string x] w fun e w' => e = .returned (.int .i64 (Lib.idxOfS [] x)) ∧ w' = w := Any.slices_Index_string_empty Tryz.lays109 a c x w
def Tryz.lays110_ren : Go.Shelf.Ren := ⟨fun | 110 => 122 | 109 => 148 | n => n, fun | 31 => 51 | 9 => 9 | 4 => 4 | 3 => 3 | 0 => 0 | n => n, fun | n => n⟩
theorem Tryz.lays110 : Go.Proofs.Lays.n110 Tryz.prog Tryz.lays110_ren := {
  mixed := by kernel_rfl
  f109 := Tryz.func148.trans (congrArg some (by kernel_rfl))
  f110 := Tryz.func122.trans (congrArg some (by kernel_rfl))
  t0 := Tryz.underlying0
  a0 := Tryz.isAgg0
  z0 := Tryz.sizeOf0
  v0 := Tryz.zeroValue0
  t3 := Tryz.underlying3
  a3 := Tryz.isAgg3
  z3 := Tryz.sizeOf3
  v3 := Tryz.zeroValue3
  t4 := Tryz.underlying4
  a4 := Tryz.isAgg4
  z4 := Tryz.sizeOf4
  v4 := Tryz.zeroValue4
  t9 := Tryz.underlying9
  a9 := Tryz.isAgg9
  z9 := Tryz.sizeOf9
  v9 := Tryz.zeroValue9
  t31 := Tryz.underlying51
  a31 := Tryz.isAgg51
  z31 := Tryz.sizeOf51
  v31 := Tryz.zeroValue51 }
open Go.Lib in
theorem Tryz.slices_Contains_string (b off n c : Nat) (zs : List ByteArray) (x : ByteArray) (w : World) (hz : n ≤ zs.length) (hbig : n ≤ 9223372036854775807) (hc : ∀ j, j < zs.length → w.cell? ⟨b, off + j, none⟩ = some (.string (zs.getD j ByteArray.empty))) :
    Calls Tryz.prog 122 #[.slice (some ⟨b, off, none⟩) n c, .string x] w fun e w' => e = .returned (.bool (Lib.containsS (zs.take n) x)) ∧ w' = w := Any.slices_Contains_string Tryz.lays110 b off n c zs x w hz hbig hc
open Go.Lib in
theorem Tryz.slices_Contains_string_empty (a : Option Addr) (c : Nat) (x : ByteArray) (w : World) :
    Calls Tryz.prog 122 #[.slice a 0 c, .string x] w fun e w' => e = .returned (.bool false) ∧ w' = w := Any.slices_Contains_string_empty Tryz.lays110 a c x w
end Go.Proofs.YtbdpnnfhkhkecaaGreatDoor
