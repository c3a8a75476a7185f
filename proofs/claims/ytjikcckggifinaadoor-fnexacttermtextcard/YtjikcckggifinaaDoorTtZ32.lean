/-
  What the library's functions come to at this program: the numbers that the shelf's own theorems want.
-/
import Derived.Shelf.Strings.Builder1
import Derived.Shelf.Strings.Builder2
import Derived.Shelf.Strings.OnBuilder
import Derived.Test.YtjikcckggifinaaDoorProg
import Derived.Test.YtjikcckggifinaaDoorTtZ5
import Derived.Test.YtjikcckggifinaaDoorTtTt
import Derived.Test.YtjikcckggifinaaDoorTtZ8
import Derived.Test.YtjikcckggifinaaDoorTtFt2
import Derived.Test.YtjikcckggifinaaDoorTtFr4
import Derived.Test.YtjikcckggifinaaDoorTtTq
namespace Go.Proofs.YtjikcckggifinaaDoor
open Go.Shelf Go.RowKit
set_option linter.unusedVariables false
def Tryd.lays156_ren : Go.Shelf.Ren := ⟨fun | 156 => 18 | 165 => 30 | 166 => 31 | 169 => 32 | 240 => 39 | 241 => 40 | 276 => 49 | 277 => 50 | n => n, fun | 31 => 47 | 9 => 9 | 3 => 3 | 4 => 4 | 0 => 0 | 20 => 20 | 72 => 64 | 76 => 68 | 70 => 61 | 37 => 62 | 75 => 67 | 127 => 110 | 164 => 117 | 5 => 5 | 80 => 70 | n => n, fun | n => n⟩
theorem Tryd.lays156 : Go.Proofs.Lays.n156 Tryd.prog Tryd.lays156_ren := {
  mixed := by kernel_rfl
  f156 := Tryd.func18.trans (congrArg some (by kernel_rfl))
  f165 := Tryd.func30.trans (congrArg some (by kernel_rfl))
  f166 := Tryd.func31.trans (congrArg some (by kernel_rfl))
  f169 := Tryd.func32.trans (congrArg some (by kernel_rfl))
  f240 := Tryd.func39.trans (congrArg some (by kernel_rfl))
  f241 := Tryd.func40.trans (congrArg some (by kernel_rfl))
  f276 := Tryd.func49.trans (congrArg some (by kernel_rfl))
  f277 := Tryd.func50.trans (congrArg some (by kernel_rfl))
  t0 := Tryd.underlying0
  a0 := Tryd.isAgg0
  z0 := Tryd.sizeOf0
  v0 := Tryd.zeroValue0
  t3 := Tryd.underlying3
  a3 := Tryd.isAgg3
  z3 := Tryd.sizeOf3
  v3 := Tryd.zeroValue3
  t4 := Tryd.underlying4
  a4 := Tryd.isAgg4
  z4 := Tryd.sizeOf4
  v4 := Tryd.zeroValue4
  t9 := Tryd.underlying9
  a9 := Tryd.isAgg9
  z9 := Tryd.sizeOf9
  v9 := Tryd.zeroValue9
  t20 := Tryd.underlying20
  a20 := Tryd.isAgg20
  z20 := Tryd.sizeOf20
  v20 := Tryd.zeroValue20
  t31 := Tryd.underlying47
  a31 := Tryd.isAgg47
  z31 := Tryd.sizeOf47
  v31 := Tryd.zeroValue47
  t37 := Tryd.underlying62
  a37 := Tryd.isAgg62
  z37 := Tryd.sizeOf62
  v37 := Tryd.zeroValue62
  t70 := Tryd.underlying61
  a70 := Tryd.isAgg61
  z70 := Tryd.sizeOf61
  v70 := Tryd.zeroValue61
  t72 := Tryd.underlying64
  a72 := Tryd.isAgg64
  z72 := Tryd.sizeOf64
  v72 := Tryd.zeroValue64
  t75 := Tryd.underlying67
  a75 := Tryd.isAgg67
  z75 := Tryd.sizeOf67
  v75 := Tryd.zeroValue67
  t76 := Tryd.underlying68
  a76 := Tryd.isAgg68
  z76 := Tryd.sizeOf68
  v76 := Tryd.zeroValue68
  t127 := Tryd.underlying110
  a127 := Tryd.isAgg110
  z127 := Tryd.sizeOf110
  v127 := Tryd.zeroValue110
  t164 := Tryd.underlying117
  a164 := Tryd.isAgg117
  z164 := Tryd.sizeOf117
  v164 := Tryd.zeroValue117 }
theorem Tryd.Builder_Extra_156 : Builder.Extra Tryd.prog Tryd.lays156_ren := {
  sizeBuilder := by kernel_rfl
  liesBuilder := by kernel_rfl
  t5 := Tryd.underlying5
  a5 := Tryd.isAgg5
  z5 := Tryd.sizeOf5
  v5 := Tryd.zeroValue5
  infoByte := by kernel_rfl
  cellsByte := by kernel_rfl
  sizeByte := by kernel_rfl
  neB5 := by decide }
theorem Tryd.strings_Join_none (a : Option Addr) (c : Nat) (sep : ByteArray) (w : World) :
    Calls Tryd.prog 18 #[.slice a 0 c, .string sep] w fun e w' => e = .returned (.string ⟨#[]⟩) ∧ w' = w := Any.strings_Join_none Tryd.lays156 Tryd.Builder_Extra_156 a c sep w
theorem Tryd.strings_Join (bk o c : Nat) (xs : List ByteArray) (sep : ByteArray) (w : World) (hcells : ∀ (j : Nat) x, xs[j]? = some x → w.cell? ⟨bk, o + j, none⟩ = some (.string x)) (hbk : bk < w.heap.size) (hN : xs.length ≤ 140737488355328) (hcap : xs.length ≤ c) (hlen : (Lib.join (xs.map (·.data.toList)) sep.data.toList).length ≤ 140737488355328) :
    Calls Tryd.prog 18 #[.slice (some ⟨bk, o, none⟩) xs.length c, .string sep] w fun e w' => e = .returned (.string ⟨(Lib.join (xs.map (·.data.toList)) sep.data.toList).toArray⟩) ∧ Below w.heap.size w w' := Any.strings_Join Tryd.lays156 Tryd.Builder_Extra_156 bk o c xs sep w hcells hbk hN hcap hlen
end Go.Proofs.YtjikcckggifinaaDoor

/-
  What the program's 'TyText' comes to.
-/
namespace Go.Proofs.YtjikcckggifinaaDoor
open Go.RowKit
set_option linter.unusedVariables false
set_option linter.unusedSimpArgs false

end Go.Proofs.YtjikcckggifinaaDoor

/-
  What the program's 'TermText' comes to.
-/
namespace Go.Proofs.YtjikcckggifinaaDoor
open Go.RowKit
set_option linter.unusedVariables false
set_option linter.unusedSimpArgs false

set_option maxRecDepth 100000 in
set_option maxHeartbeats 1000000 in
theorem termText_any (D d L B : Nat) (t : Tm) (a1 : Option Addr) (l1 c1 : Nat) (a2 : Option Addr) (l2 c2 : Nat) (a3 : Option Addr) (l3 c3 : Nat) (w : World) (hB : B ≤ w.heap.size) (hf : Fm L B w D d t a1 l1 a2 l2 a3 l3) (hTab : TabB B w) :
    Calls Tryd.prog 7 #[.agg #[.int .i64 t.K, .int .i64 t.N, .string t.S, .string t.Z, .int .i64 t.T.K, .int .i64 t.T.N, .slice a1 l1 c1, .slice a2 l2 c2, .slice a3 l3 c3]] w fun e w' => e = .returned (.string ⟨(txM t).toArray⟩) ∧ Below w.heap.size w w' := by
  obtain ⟨X, hX⟩ : ∃ X, X = w.alloc (.cells #[.int .i64 t.K, .int .i64 t.N, .string t.S, .string t.Z, .int .i64 t.T.K, .int .i64 t.T.N, .slice a1 l1 c1, .slice a2 l2 c2, .slice a3 l3 c3] 35) := ⟨_, rfl⟩
  have hXs : X.heap.size = w.heap.size + 1 := by rw [hX]; simp
  have hXb : Below w.heap.size w X := by rw [hX]; exact (Below.refl _ _).alloc (Nat.le_refl _) _
  have hX1 : X.heap[w.heap.size]? = some (.cells #[.int .i64 t.K, .int .i64 t.N, .string t.S, .string t.Z, .int .i64 t.T.K, .int .i64 t.T.N, .slice a1 l1 c1, .slice a2 l2 c2, .slice a3 l3 c3] 35 (0, 0)) := by rw [hX]; exact heap_new rfl
  have hf1 := Fm.below hXb hB hf
  have HX : Hid (X = _) := hX
  clear hX
  cases hok : okM t with
  | false =>
    have HE : Hid (txM t = []) := by show _ = _; simp [txM, hok]
    have HF : Hid (okM t = false) := hok
    clear hok
    go_enter Tryd.func7, Tryd.ntmps7
    go_wp2_with fail
    rw [← HX.out]
    refine (termOk_any D d L B t _ _ _ _ _ _ _ _ _ _ (by omega) hf1).mono ?_
    rintro e w1 ⟨rfl, hb1⟩
    rw [HF.out]
    go_wp2_with fail
    go_ret
    exact ⟨by rw [HE.out]; rfl, hXb.trans (hb1.mono (by omega))⟩
  | true =>
    obtain ⟨m, hm, hm6⟩ := okM_le hok
    have HE : Hid (txM t = Lib.join (toksM 24 t) [32]) := by show _ = _; simp [txM, hok]
    have HF : Hid (okM t = true) := hok
    obtain ⟨v, hv, hcall⟩ := fo_any 24 D d L B t a1 l1 c1 a2 l2 c2 a3 l3 c3 m w hB hf hm (by omega)
    have HC : Hid (∀ w' : World, _) := hcall
    have HV : Hid (Fv L B w D 24 t v) := hv
    have HM : Hid (nodesM 24 t = some m) := hm
    have HLT : Hid ((toksM 24 t).length ≤ 18450) := by have := toksM_len _ _ _ hm; show _ ≤ _; omega
    have HLN : Hid ((Lib.join (toksM 24 t) [32]).length ≤ 405900) := by have := textM_len _ _ _ hm; show _ ≤ _; omega
    have HNE : Hid (toksM 24 t ≠ []) := toksM_ne 23 t
    obtain ⟨τ, u, rfl⟩ := hv.iface
    clear hok hcall hv hm
    go_enter Tryd.func7, Tryd.ntmps7
    go_wp2_with fail
    rw [← HX.out]
    refine (termOk_any D d L B t _ _ _ _ _ _ _ _ _ _ (by omega) hf1).mono ?_
    rintro e w1 ⟨rfl, hb1⟩
    rw [HF.out]
    have hz1 := hb1.size
    have hbw1 : Below w.heap.size w w1 := hXb.trans (hb1.mono (by omega))
    have y1 := (hb1.block _ (by omega)).trans hX1
    obtain ⟨f0, f1, f2, f3, f4, f5, f6, f7, f8⟩ := Nine.box y1
    go_wp2_with fail
    refine (HC.out _ hbw1).mono ?_
    rintro e w2 ⟨rfl, hb2⟩
    have hz2 := hb2.size
    have hbw2 : Below w.heap.size w w2 := hbw1.trans (hb2.mono (by omega))
    have hst : Toks w2.heap.size w2 (.slice none 0 0) [] := ⟨rfl, Or.inl ⟨rfl, rfl⟩⟩
    go_wp2_with fail
    refine (ft_any 24 L B D w2.heap.size w t _ _ [] m w2 (by omega) (Nat.le_refl _) HV.out HM.out (hbw2.mono hB) (hTab.below (hbw2.mono hB)) hst (by simp; omega)).mono ?_
    rintro e w3 ⟨v3, rfl, hk3, hT3⟩
    have hb3 := hk3.below hst (Nat.le_refl _)
    have hbw3 : Below w.heap.size w w3 := hbw2.trans (hb3.mono (by omega))
    rw [List.nil_append] at hT3
    obtain ⟨g, cap2, rfl, hg, hc2, hcell⟩ := toks_cells hT3 HNE.out
    have HCL : Hid (∀ (j : Nat) x, _ → _) := hcell
    clear hT3 hcell hst hk3
    have HJ : Hid (((toksM 24 t).map (fun l => (⟨l.toArray⟩ : ByteArray))).map (fun x => x.data.toList) = toksM 24 t) := by show _ = _; rw [List.map_map]; exact List.map_id _
    have hj := Tryd.strings_Join g 0 cap2 ((toksM 24 t).map fun l => (⟨l.toArray⟩ : ByteArray)) ⟨#[32]⟩ w3 HCL.out hg (by rw [List.length_map]; have := HLT.out; omega) (by rw [List.length_map]; exact hc2) (by rw [HJ.out]; exact Nat.le_trans HLN.out (by omega))
    rw [HJ.out, List.length_map] at hj
    go_wp2_with fail
    refine hj.mono ?_
    rintro e w4 ⟨rfl, hb4⟩
    clear hj
    go_wp2_with fail
    go_ret
    exact ⟨by rw [HE.out]; rfl, hbw3.trans (hb4.mono hbw3.size)⟩

end Go.Proofs.YtjikcckggifinaaDoor
