/-
  What the library's functions come to at this program: the numbers that the shelf's own theorems want.
-/
import Derived.Shelf.LaysM
import Derived.Shelf.Strconv.Itoa3
import Derived.Test.YtgljlgiebmnekaaGreatDoorProg
import Derived.Test.YtgljlgiebmnekaaGreatDoorQuUn0
import Derived.Deep.LoopGhost
namespace Go.Proofs.YtgljlgiebmnekaaGreatDoor
open Go.Shelf Go.RowKit
set_option linter.unusedVariables false
def Tryz.laysM171_ren : Go.Shelf.Ren := ⟨fun | 171 => 49 | 243 => 58 | 246 => 67 | 283 => 74 | 284 => 75 | 285 => 76 | 286 => 77 | 129 => 83 | 317 => 82 | 318 => 84 | 319 => 85 | 320 => 86 | 337 => 88 | 338 => 89 | n => n, fun | 3 => 3 | 9 => 9 | 2 => 2 | 4 => 4 | 171 => 143 | 0 => 0 | 53 => 144 | 37 => 83 | 5 => 5 | 173 => 147 | 212 => 152 | 51 => 153 | 20 => 20 | 213 => 154 | 46 => 156 | 232 => 161 | 233 => 162 | n => n, fun | 17 => 0 | 18 => 1 | 19 => 2 | n => n⟩
theorem Tryz.laysM171 : Go.Proofs.LaysM.n171 Tryz.prog Tryz.laysM171_ren := {
  mixed := by kernel_rfl
  f129 := Tryz.func83.trans (congrArg some (by kernel_rfl))
  f171 := Tryz.func49.trans (congrArg some (by kernel_rfl))
  f243 := Tryz.func58.trans (congrArg some (by kernel_rfl))
  f246 := Tryz.func67.trans (congrArg some (by kernel_rfl))
  f283 := Tryz.func74.trans (congrArg some (by kernel_rfl))
  f284 := Tryz.func75.trans (congrArg some (by kernel_rfl))
  f285 := Tryz.func76.trans (congrArg some (by kernel_rfl))
  f286 := Tryz.func77.trans (congrArg some (by kernel_rfl))
  f317 := Tryz.func82.trans (congrArg some (by kernel_rfl))
  f318 := Tryz.func84.trans (congrArg some (by kernel_rfl))
  f319 := Tryz.func85.trans (congrArg some (by kernel_rfl))
  f320 := Tryz.func86.trans (congrArg some (by kernel_rfl))
  f337 := Tryz.func88.trans (congrArg some (by kernel_rfl))
  f338 := Tryz.func89.trans (congrArg some (by kernel_rfl))
  t0 := Tryz.underlying0
  a0 := Tryz.isAgg0
  z0 := Tryz.sizeOf0
  v0 := Tryz.zeroValue0
  t2 := Tryz.underlying2
  a2 := Tryz.isAgg2
  z2 := Tryz.sizeOf2
  v2 := Tryz.zeroValue2
  t3 := Tryz.underlying3
  a3 := Tryz.isAgg3
  z3 := Tryz.sizeOf3
  v3 := Tryz.zeroValue3
  t4 := Tryz.underlying4
  a4 := Tryz.isAgg4
  z4 := Tryz.sizeOf4
  v4 := Tryz.zeroValue4
  t5 := Tryz.underlying5
  a5 := Tryz.isAgg5
  z5 := Tryz.sizeOf5
  v5 := Tryz.zeroValue5
  t9 := Tryz.underlying9
  a9 := Tryz.isAgg9
  z9 := Tryz.sizeOf9
  v9 := Tryz.zeroValue9
  t20 := Tryz.underlying20
  a20 := Tryz.isAgg20
  z20 := Tryz.sizeOf20
  v20 := Tryz.zeroValue20
  t37 := Tryz.underlying83
  a37 := Tryz.isAgg83
  z37 := Tryz.sizeOf83
  v37 := Tryz.zeroValue83
  t46 := Tryz.underlying156
  a46 := Tryz.isAgg156
  z46 := Tryz.sizeOf156
  v46 := Tryz.zeroValue156
  t51 := Tryz.underlying153
  a51 := Tryz.isAgg153
  z51 := Tryz.sizeOf153
  v51 := Tryz.zeroValue153
  t53 := Tryz.underlying144
  a53 := Tryz.isAgg144
  z53 := Tryz.sizeOf144
  v53 := Tryz.zeroValue144
  t171 := Tryz.underlying143
  a171 := Tryz.isAgg143
  z171 := Tryz.sizeOf143
  v171 := Tryz.zeroValue143
  t173 := Tryz.underlying147
  a173 := Tryz.isAgg147
  z173 := Tryz.sizeOf147
  v173 := Tryz.zeroValue147
  t212 := Tryz.underlying152
  a212 := Tryz.isAgg152
  z212 := Tryz.sizeOf152
  v212 := Tryz.zeroValue152
  t213 := Tryz.underlying154
  a213 := Tryz.isAgg154
  z213 := Tryz.sizeOf154
  t232 := Tryz.underlying161
  a232 := Tryz.isAgg161
  z232 := Tryz.sizeOf161
  v232 := Tryz.zeroValue161
  t233 := Tryz.underlying162
  a233 := Tryz.isAgg162
  z233 := Tryz.sizeOf162
  v233 := Tryz.zeroValue162
  g17 := by kernel_rfl
  g18 := by kernel_rfl
  g19 := by kernel_rfl
  i0 := by kernel_rfl
  i2 := by kernel_rfl
  i3 := by kernel_rfl
  i4 := by kernel_rfl
  i5 := by kernel_rfl
  i9 := by kernel_rfl
  i20 := by kernel_rfl
  i37 := by kernel_rfl
  i46 := by kernel_rfl
  i51 := by kernel_rfl
  i53 := by kernel_rfl
  i171 := by kernel_rfl
  i173 := by kernel_rfl
  i212 := by kernel_rfl
  i232 := by kernel_rfl
  i233 := by kernel_rfl
  m17 := by kernel_rfl
  m18 := by kernel_rfl
  m19 := by kernel_rfl }
open Go.RowKit Go.Sort Go.Lib in
theorem Tryz.strconv_Itoa (n : Int) (h0 : -9223372036854775808 ≤ n) (h1 : n ≤ 9223372036854775807) (w : World) (htab : Lib.TabIs Tryz.prog w "internal/strconv.uint64pow10" .u64 Lib.pow10Tab) :
    Calls Tryz.prog 49 #[.int .i64 n] w fun e w' => e = .returned (.string ⟨(Lib.itoa n).toArray⟩) ∧ ∃ k os, w' = grow (w.drewN k) os := Any.strconv_Itoa Tryz.laysM171 n h0 h1 w htab
end Go.Proofs.YtgljlgiebmnekaaGreatDoor

/-
  'strconv.Itoa' at every number, while the table of powers of ten lies untouched; rows of tokens that grow.
-/
namespace Go.Proofs.YtgljlgiebmnekaaGreatDoor
open Go.RowKit Go.Sort
set_option linter.unusedVariables false
set_option linter.unusedSimpArgs false

/-- The table of powers of ten, in every world that keeps what lies below B. -/
def TabB (B : Nat) (w : World) : Prop := ∀ w', Below B w w' → Lib.TabIs Tryz.prog w' "internal/strconv.uint64pow10" .u64 Lib.pow10Tab

theorem TabB.below {B : Nat} {w w' : World} (h : TabB B w) (hb : Below B w w') : TabB B w' := fun w2 h2 => h w2 (hb.trans h2)
theorem TabB.mono {B B' : Nat} {w : World} (h : TabB B w) (hB : B ≤ B') : TabB B' w := fun w2 h2 => h w2 (h2.mono hB)
theorem TabB.of {w : World} (h : Lib.TabIs Tryz.prog w "internal/strconv.uint64pow10" .u64 Lib.pow10Tab) : TabB w.heap.size w := by
  intro w' hb
  unfold Lib.TabIs World.var? at *
  cases hg : Program.globalNamed Tryz.prog "internal/strconv.uint64pow10" with
  | none => simp [hg] at h
  | some g =>
    simp only [hg, Option.bind_some] at h ⊢
    have hlt : g < w.heap.size := by
      rcases Nat.lt_or_ge g w.heap.size with h' | h'
      · exact h'
      · rw [Array.getElem?_eq_none h'] at h; simp at h
    rw [hb.block g hlt]
    exact h

theorem below_growN (w : World) (k : Nat) (os : Array Obj) : Below w.heap.size w (grow (w.drewN k) os) :=
  ⟨rfl, rfl, rfl, by simp [grow], fun q hq => by
    show (w.heap ++ os)[q]? = _
    rw [Array.getElem?_append_left hq]⟩

theorem itoa_any {B : Nat} (n : Int) (h0 : -1000000 ≤ n) (h1 : n ≤ 1000000) (w : World) (h : TabB B w) :
    Calls Tryz.prog 49 #[.int .i64 n] w fun e w' => e = .returned (.string ⟨(Lib.itoa n).toArray⟩) ∧ Below w.heap.size w w' :=
  (Tryz.strconv_Itoa n (by omega) (by omega) w (h w (Below.refl _ _))).mono fun e w' ⟨he, k, os, hw⟩ => ⟨he, by rw [hw]; exact below_growN w k os⟩

end Go.Proofs.YtgljlgiebmnekaaGreatDoor

/-
  'countedNames' and what it hands out; scopes of names: 'find', 'with'.
-/
namespace Go.Proofs.YtgljlgiebmnekaaGreatDoor
open Go.RowKit
set_option linter.unusedVariables false
set_option linter.unusedSimpArgs false

/-- A scope: the innermost name first, each in a block of its own that is not p. -/
def Sc (p : Nat) (w : World) : Env → Value → Prop
  | [], v => v = .pointer none
  | (n, o) :: E, v => ∃ b a, v = .pointer (some ⟨b, 0, none⟩) ∧ b ≠ p ∧ w.heap[b]? = some (.cells #[.string n, .string o, .pointer a] 106 (0, 0)) ∧ Sc p w E (.pointer a)

theorem Sc.ptr {p : Nat} {w : World} {E : Env} {v : Value} (h : Sc p w E v) : ∃ a, v = .pointer a := by
  cases E with
  | nil => exact ⟨none, h⟩
  | cons q E => obtain ⟨n, o⟩ := q; obtain ⟨b, a, e, _⟩ := h; exact ⟨_, e⟩
theorem Sc.keep {p : Nat} {w w' : World} (hb : ∀ k, k < w.heap.size → k ≠ p → w'.heap[k]? = w.heap[k]?) : ∀ {E : Env} {v : Value}, Sc p w E v → Sc p w' E v := by
  intro E
  induction E with
  | nil => intro v h; exact h
  | cons q E ih =>
    intro v h
    obtain ⟨n, o⟩ := q
    obtain ⟨b, a, e, hp, hh, hs⟩ := h
    exact ⟨b, a, e, hp, (hb b (Array.getElem?_eq_some_iff.1 hh).1 hp).trans hh, ih hs⟩
theorem Sc.nx {p : Nat} {w w' : World} {c : Int} (hN : Nx p w w' c) {E : Env} {v : Value} (h : Sc p w E v) : Sc p w' E v := h.keep fun k hk hp => hN.kf.block k hk hp
theorem Sc.below {p : Nat} {w w' : World} (hb : Below w.heap.size w w') {E : Env} {v : Value} (h : Sc p w E v) : Sc p w' E v := h.keep fun k hk _ => hb.block k hk

set_option maxRecDepth 100000 in
set_option maxHeartbeats 1000000 in
theorem find_any (p : Nat) (E : Env) (s : ByteArray) (v : Value) (w : World) (h : Sc p w E v) (hm : ∃ q ∈ E, q.1 = s) :
    Calls Tryz.prog 45 #[v, .string s] w fun e w' => e = .returned (.string (fnd E s)) ∧ w' = w := by
  obtain ⟨a, rfl⟩ := h.ptr
  have HF : Hid (fnd E s = fnd E s) := rfl
  go_enter Tryz.func45, Tryz.ntmps45
  go_wp2_with fail
  go_loopg [0] E.length (fun k v wr => ∃ (E' : Env) (a' : Option Addr), k = E'.length ∧ wr = w ∧ v = .pointer a' ∧ Sc p w E' (.pointer a') ∧ (∃ q ∈ E', q.1 = s) ∧ fnd E' s = fnd E s)
  case atStart => exact ⟨E, a, rfl, rfl, rfl, h, hm, rfl⟩
  case round =>
    obtain ⟨E', a', rfl, rfl, rfl, hs, hq, hfe⟩ := hrel
    cases E' with
    | nil => obtain ⟨q, hq, _⟩ := hq; simp at hq
    | cons q E'' =>
      obtain ⟨n, o⟩ := q
      obtain ⟨b, a2, e, hp, hh, hs2⟩ := hs
      injection e with e
      subst e
      have k0 := row_cell hh 0
      have k1 := row_cell hh 1
      have k2 := row_cell hh 2
      simp only [List.getElem?_toArray, List.getElem?_cons_zero, List.getElem?_cons_succ] at k0 k1 k2
      by_cases hns : n = s
      · subst hns
        have HF2 : Hid (fnd E n = o) := by show _ = _; rw [← hfe]; simp [fnd]
        clear hfe hq HF
        go_wp2_with fail
        go_ret
        exact ⟨by rw [HF2.out]; rfl, rfl⟩
      · have hb : (n.toList == s.toList) = false := by
          rw [beq_eq_false_iff_ne]
          intro e
          apply hns
          rw [ByteArray.toList_eq, ByteArray.toList_eq] at e
          exact bs_inj e
        have HF2 : Hid (fnd E'' s = fnd E s) := by show _ = _; rw [← hfe]; simp [fnd, hns]
        have HQ : Hid (∃ q ∈ E'', q.1 = s) := by
          obtain ⟨q, hq, e⟩ := hq
          rcases List.mem_cons.1 hq with rfl | hq
          · exact (hns e).elim
          · exact ⟨q, hq, e⟩
        have HS2 : Hid (Sc p wr E'' (.pointer a2)) := hs2
        clear hfe hq HF hns hs2
        go_wp2_with fail
        go_roundg E''.length
        case measure => simp
        case rel => exact ⟨E'', a2, rfl, rfl, rfl, HS2.out, HQ.out, HF2.out⟩

theorem with_any (p : Nat) (E : Env) (n o : ByteArray) (v : Value) (w : World) (h : Sc p w E v) (hp : p < w.heap.size) :
    Calls Tryz.prog 47 #[v, .string n, .string o] w fun e w' => ∃ a, e = .returned (.pointer a) ∧ Below w.heap.size w w' ∧ Sc p w' ((n, o) :: E) (.pointer a) := by
  obtain ⟨a, rfl⟩ := h.ptr
  have hb : Below w.heap.size w (w.alloc (.cells #[.string n, .string o, .pointer a] 106)) := (Below.refl _ _).alloc (Nat.le_refl _) _
  go_enter Tryz.func47, Tryz.ntmps47
  go_wp2_with fail
  go_ret
  exact ⟨_, rfl, hb, w.heap.size, a, rfl, by omega, heap_new rfl, h.below hb⟩

theorem app97 (T : List UInt8) : (⟨#[97]⟩ : ByteArray) ++ ⟨T.toArray⟩ = ⟨(97 :: T).toArray⟩ := by
  apply ByteArray.ext
  rw [ByteArray.data_append]
  simp

theorem next_any (B p : Nat) (c : Int) (w : World) (hB : B ≤ p) (hp : w.heap[p]? = some (.cells #[.int .i64 c] 3 (0, 0))) (h0 : 0 ≤ c) (h1 : c ≤ 100000) (hT : TabB B w) :
    Calls Tryz.prog 48 #[.pointer (some ⟨p, 0, none⟩)] w fun e w' => e = .returned (.string (nm (c + 1))) ∧ Nx p w w' (c + 1) := by
  have hpl := (Array.getElem?_eq_some_iff.1 hp).1
  have r0 := cell_1 hp
  have r1 := row_free hp 0
  have hw1 : IntKind.i64.wrap (c + 1) = c + 1 := by rw [IntKind.wrap_i64]; omega
  have hbS : Below B w (w.setCell ⟨p, 0, none⟩ (.int .i64 (c + 1))) := (Below.refl _ _).setCell (p := ⟨p, 0, none⟩) hB _
  have hN : Nx p w (w.setCell ⟨p, 0, none⟩ (.int .i64 (c + 1))) (c + 1) := ⟨⟨hbS.os, hbS.tape, hbS.output, by simp, fun i hi hne => row_other _ _ _ hne, fun i hi => Or.inl hi⟩, by rw [row_set hp]; rfl⟩
  have K := itoa_any (B := B) (c + 1) (by omega) (by omega) (w.setCell ⟨p, 0, none⟩ (.int .i64 (c + 1))) (hT.below hbS)
  have hil := Lib.itoa_length_le (c + 1) (by omega) (by omega)
  have HN : Hid (nm (c + 1) = ⟨(97 :: Lib.itoa (c + 1)).toArray⟩) := rfl
  obtain ⟨T, hT2⟩ : ∃ T, Lib.itoa (c + 1) = T := ⟨_, rfl⟩
  rw [hT2] at K hil HN
  clear hT2
  go_enter Tryz.func48, Tryz.ntmps48
  go_wp2_with fail
  refine K.mono ?_
  rintro e w2 ⟨rfl, hb2⟩
  have hfin : Nx p w w2 (c + 1) := ⟨hN.kf.trans (Kf.of_below hb2), (hb2.block p (by simpa using hpl)).trans hN.is⟩
  go_wp2_with fail
  go_ret
  exact ⟨by rw [HN.out]; simp; exact app97 T, hfin⟩

theorem counted_any (w : World) :
    Calls Tryz.prog 23 #[] w fun e w' => e = .returned (.func (Fn.func 48) #[] #[.pointer (some ⟨w.heap.size, 0, none⟩)]) ∧ w' = w.alloc (.cells #[.int .i64 0] 3) := by
  go_enter Tryz.func23, Tryz.ntmps23
  go_wp2_with fail
  go_ret
  exact ⟨rfl, rfl⟩

end Go.Proofs.YtgljlgiebmnekaaGreatDoor
