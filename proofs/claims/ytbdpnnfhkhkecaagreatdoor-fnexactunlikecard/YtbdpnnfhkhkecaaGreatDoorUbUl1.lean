/-
  The model's rows of renamings; 'l6Find'.
-/
import Derived.Test.YtbdpnnfhkhkecaaGreatDoorUbUn0
import Derived.Test.YtbdpnnfhkhkecaaGreatDoorUbApM
import Derived.Test.YtbdpnnfhkhkecaaGreatDoorUbZ18
import Derived.Deep.AppendLies
namespace Go.Proofs.YtbdpnnfhkhkecaaGreatDoor
open Go.RowKit
set_option linter.unusedVariables false
set_option linter.unusedSimpArgs false

theorem Tryz.infoMap : (Tryz.prog.info? 93).map (fun i => (i.zero, i.size, i.bytes)) = some (some (.agg #[.string ⟨#[]⟩, .string ⟨#[]⟩]), 2, 32) := by kernel_rfl

def flE (F : Env) : List Value := (F.map fun q => [Value.string q.1, Value.string q.2]).flatten
theorem flE_cons (q : ByteArray × ByteArray) (F : Env) : flE (q :: F) = .string q.1 :: .string q.2 :: flE F := rfl
theorem flE_app (F G : Env) : flE (F ++ G) = flE F ++ flE G := by simp [flE]
theorem flE_len (F : Env) : (flE F).length = F.length * 2 := by
  induction F with
  | nil => rfl
  | cons q F ih => rw [flE_cons, List.length_cons, List.length_cons, List.length_cons, ih]; omega
theorem flE_at : ∀ (F : Env) (i : Nat) (hi : i < F.length), (flE F)[i * 2]? = some (.string F[i].1) ∧ (flE F)[i * 2 + 1]? = some (.string F[i].2)
  | [], i, hi => by simp at hi
  | q :: F, 0, _ => ⟨rfl, rfl⟩
  | q :: F, i + 1, hi => by
    have h := flE_at F i (by simpa using hi)
    rw [flE_cons, show (i + 1) * 2 = i * 2 + 1 + 1 by omega]
    simp only [List.getElem?_cons_succ, List.getElem_cons_succ]
    exact h
theorem flE_one (F : Env) : ∀ u ∈ flE F, u.oneCell' = true := by
  induction F with
  | nil => intro u hu; simp [flE] at hu
  | cons q F ih =>
    intro u hu
    rw [flE_cons] at hu
    rcases List.mem_cons.1 hu with rfl | hu
    · rfl
    rcases List.mem_cons.1 hu with rfl | hu
    · rfl
    · exact ih u hu

/-- A row of renamings; the innermost is the last. -/
def Mps (base : Nat) (w : World) (v : Value) (F : Env) : Prop := w.ownsRow base 93 2 v F.length (flE F)

theorem mps_form {base : Nat} {w : World} {v : Value} {F : Env} (h : Mps base w v F) : ∃ ao cap, v = .slice ao F.length cap := owns_form h
theorem mps_own {base : Nat} {w : World} {v : Value} {F : Env} (h : Mps base w v F) {g : Nat} (hg : v.ownBlock = some g) : base ≤ g ∧ g < w.heap.size := owns_block h hg
theorem mps_keep {base : Nat} {w w' : World} {v : Value} {F : Env} (h : Mps base w v F) (hk : ∀ g, v.ownBlock = some g → w'.heap[g]? = w.heap[g]?) : Mps base w' v F := owns_keep h hk
theorem mps_bel {base : Nat} {w w' : World} {v : Value} {F : Env} (h : Mps base w v F) (hb : Below w.heap.size w w') : Mps base w' v F := mps_keep h fun g hg => hb.block g (mps_own h hg).2
theorem mps_emp {base : Nat} {w : World} {b : Nat} (h : w.heap[b]? = some (.cells #[] 93 (0, 0))) (hb : base ≤ b) : Mps base w (.slice (some ⟨b, 0, none⟩) 0 0) [] :=
  ⟨by simp [flE], Or.inr ⟨b, 0, #[], by simp, hb, h, by simp, by simp, by simp, by simp [flE]⟩⟩
theorem mps_at {base : Nat} {w : World} {v : Value} {F : Env} (h : Mps base w v F) (i : Nat) (hi : i < F.length) : ∃ g cap, v = .slice (some ⟨g, 0, none⟩) F.length cap ∧ base ≤ g ∧ g < w.heap.size ∧ w.cell? ⟨g, i * 2, none⟩ = some (.string F[i].1) ∧ w.cell? ⟨g, i * 2 + 1, none⟩ = some (.string F[i].2) := by
  rcases h.2 with ⟨rfl, hn⟩ | ⟨g, cap, cur, rfl, hg, hh, h1, h2, h3, h4⟩
  · omega
  · have e := flE_at F i hi
    rw [← h4, List.getElem?_take, List.getElem?_take, if_pos (by omega), if_pos (by omega)] at e
    refine ⟨g, cap, rfl, hg, (Array.getElem?_eq_some_iff.1 hh).1, ?_, ?_⟩
    · rw [row_cell hh, ← Array.getElem?_toList, e.1]
    · rw [row_cell hh, ← Array.getElem?_toList, e.2]

set_option maxRecDepth 100000 in
/-- A whole row behind an empty one. -/
theorem mps_copy {base base' : Nat} {w : World} {b : Nat} {ao : Option Addr} {cap : Nat} {F : Env} (h0 : w.heap[b]? = some (.cells #[] 93 (0, 0))) (hb : base ≤ b) (hw : base ≤ w.heap.size) (h : Mps base' w (.slice ao F.length cap) F) (hl : F.length ≤ 1000) :
    ∃ v' w2, (Builtin.append_ #[55, 55] 55 #[.slice (some ⟨b, 0, none⟩) 0 0, .slice ao F.length cap]).run Tryz.prog w = .ok v' w2 ∧ Mps base w2 v' F ∧ Below b w w2 := by
  obtain ⟨i0, hi, hz0, hz1, hz2⟩ := info_parts Tryz.infoMap
  have hbl := (Array.getElem?_eq_some_iff.1 h0).1
  by_cases hN : 0 < F.length
  · obtain ⟨g0, cp0, e, _, _, _⟩ := mps_at h 0 hN
    injection e with e1 e2 e3
    subst e1
    subst e3
    obtain ⟨g, cap2, w2, hrun, hown2, hgrow, hat, hlt⟩ := run_append_lies (P := Tryz.prog) w 55 55 base 93 i0 _ 2 32 Tryz.underlying55 hi hz0 hz1 hz2 rfl (by omega) _ 0 [] (mps_emp h0 hb)
      ⟨g0, 0, none⟩ F.length cap (flE F) (flE_len F) (fun j u hu => by
        have ea : (⟨g0, 0, none⟩ : Addr).add j = ⟨g0, 0 + j, none⟩ := (by unfold Addr.add; split <;> simp_all)
        rw [ea, Nat.zero_add]
        rcases h.2 with ⟨e, hn⟩ | ⟨g', cap', cur, e, hg, hh, h1, h2, h3, h4⟩
        · cases e
        · injection e with e1 _ _
          injection e1 with e1
          injection e1 with e1 _ _
          subst e1
          have hj := (List.getElem?_eq_some_iff.1 hu).1
          rw [← h4, List.getElem?_take] at hu
          rw [flE_len] at hj
          rw [if_pos (by omega)] at hu
          rw [row_cell hh, ← Array.getElem?_toList, hu]) (flE_one F)
      hN (by unfold maxLen; omega) (by omega) hw _ rfl
    refine ⟨_, w2, hrun, ?_, ⟨hgrow.os, hgrow.tape, hgrow.output, hgrow.size, fun k hk => hgrow.block k (by omega) (fun e => by have e1 : k = b := by { simpa [Value.ownBlock] using e }; omega)⟩⟩
    simpa [Mps] using hown2
  · have e : F = [] := List.length_eq_zero_iff.1 (by omega)
    subst e
    refine ⟨.slice (some ⟨b, 0, none⟩) 0 0, w, ?_, mps_emp h0 hb, Below.refl _ _⟩
    cases ao <;> simp [Builtin.append_, run_underlying Tryz.underlying55, sizeOf, typeInfo, hi, Builtin.lenOf, Builtin.firstCells, storeCells, loadCells, loadCellsFrom]

/-- One renaming more. -/
theorem mps_push {base : Nat} {w : World} {v : Value} {F : Env} (h : Mps base w v F) (hw : base ≤ w.heap.size) (hl : F.length ≤ 1000) (n o : ByteArray) :
    ∃ g cap w2, (Builtin.append_ #[55, 55] 55 #[v, .slice (some ⟨w.heap.size, 0, none⟩) 1 1]).run Tryz.prog (w.alloc (.cells #[.string n, .string o] 93)) = .ok (.slice (some ⟨g, 0, none⟩) (F.length + 1) cap) w2 ∧ Mps base w2 (.slice (some ⟨g, 0, none⟩) (F.length + 1) cap) (F ++ [(n, o)]) ∧ Below base w w2 := by
  obtain ⟨i0, hi, hz0, hz1, hz2⟩ := info_parts Tryz.infoMap
  have hA : Below w.heap.size w (w.alloc (.cells #[.string n, .string o] 93)) := (Below.refl _ _).alloc (Nat.le_refl _) _
  obtain ⟨g, cap, w2, hrun, hown2, hgrow, hat, hlt⟩ := run_append_lies (P := Tryz.prog) (w.alloc (.cells #[.string n, .string o] 93)) 55 55 base 93 i0 _ 2 32 Tryz.underlying55 hi hz0 hz1 hz2 rfl (by omega) v F.length (flE F) (mps_bel h hA)
    ⟨w.heap.size, 0, none⟩ 1 1 [.string n, .string o] rfl (World.news_of_block (cs := #[.string n, .string o]) (t := 93) (fr := (0, 0)) (heap_alloc_new w _)) (by intro u hu; simp at hu; rcases hu with rfl | rfl <;> rfl)
    (by omega) (by unfold maxLen; omega) (by omega) (by simp; omega) _ rfl
  have hsz := hgrow.size
  simp only [World.size_alloc] at hsz
  refine ⟨g, cap, w2, hrun, ?_, ⟨hgrow.os, hgrow.tape, hgrow.output, by omega, fun k hk => ?_⟩⟩
  · unfold Mps
    rw [flE_app, List.length_append]
    exact hown2
  · have h1 := hgrow.block k (by simp; omega) (fun e => by have := (mps_own h e.symm).1; omega)
    rw [h1]
    exact hA.block k (by omega)


/-- What is left to be looked through: the first k of a row, from behind. -/
def fndR (F : Env) (s : ByteArray) : Nat → ByteArray
  | 0 => s
  | k + 1 => match F[k]? with
    | some q => if q.1 = s then q.2 else fndR F s k
    | none => fndR F s k
theorem fndR_succ (F : Env) (s : ByteArray) (k : Nat) (hk : k < F.length) : fndR F s (k + 1) = if F[k].1 = s then F[k].2 else fndR F s k := by
  simp only [fndR, List.getElem?_eq_getElem hk]
theorem fndR_app (F : Env) (q : ByteArray × ByteArray) (s : ByteArray) : ∀ k, k ≤ F.length → fndR (F ++ [q]) s k = fndR F s k := by
  intro k
  induction k with
  | zero => intro _; rfl
  | succ k ih =>
    intro hk
    rw [fndR_succ _ _ _ (by simp; omega), fndR_succ _ _ _ (by omega), ih (by omega), List.getElem_append_left (by omega)]
theorem fndR_all : ∀ (E : Env) (s : ByteArray), fndR E.reverse s E.reverse.length = fnd E s := by
  intro E
  induction E with
  | nil => intro s; rfl
  | cons q E ih =>
    intro s
    obtain ⟨n, o⟩ := q
    have e : ((n, o) :: E).reverse = E.reverse ++ [(n, o)] := by simp
    rw [e, List.length_append, List.length_singleton, fndR_succ _ _ _ (by simp), fndR_app _ _ _ _ (Nat.le_refl _), ih s]
    simp [fnd]

set_option maxRecDepth 100000 in
set_option maxHeartbeats 1000000 in
theorem l6Find_any {base : Nat} (v : Value) (F : Env) (s : ByteArray) (w : World) (h : Mps base w v F) (hl : F.length ≤ 1000) :
    Calls Tryz.prog 58 #[v, .string s] w fun e w' => e = .returned (.string (fndR F s F.length)) ∧ w' = w := by
  obtain ⟨ao, cap, rfl⟩ := mps_form h
  obtain ⟨nF, hnF⟩ : ∃ x, F.length = x := ⟨_, rfl⟩
  have HN : Hid (F.length = nF) := hnF
  rw [hnF] at h hl ⊢
  have HF : Hid (fndR F s nF = fndR F s nF) := rfl
  clear hnF
  go_enter Tryz.func58, Tryz.ntmps58
  go_wp2_with fail
  go_loopw [5] (fun i wr => ∃ (k : Nat), k ≤ nF ∧ i = .int .i64 ((k : Int) - 1) ∧ wr = w ∧ fndR F s k = fndR F s nF) (fun i _ => (intOf i + 1).toNat)
  case atStart => exact ⟨nF, Nat.le_refl _, rfl, rfl, rfl⟩
  case round =>
    obtain ⟨k, hk, rfl, rfl, hfe⟩ := hrel
    cases k with
    | zero =>
      have HF2 : Hid (fndR F s nF = s) := by show _ = _; rw [← hfe]; rfl
      clear hfe HF
      have hneg : ¬ (0 : Int) ≤ ((0 : Nat) : Int) - 1 := by omega
      go_wp2_with fail
      go_ret
      exact ⟨by rw [HF2.out]; rfl, rfl⟩
    | succ k =>
      have hkF : k < F.length := by rw [HN.out]; omega
      obtain ⟨g, cp, e, _, hgl, z1, z2⟩ := mps_at h k hkF
      injection e with e1 e2 e3
      subst e1
      subst e3
      have hfs := fndR_succ F s k hkF
      obtain ⟨q1, hq1⟩ : ∃ q, F[k].1 = q := ⟨_, rfl⟩
      obtain ⟨q2, hq2⟩ : ∃ q, F[k].2 = q := ⟨_, rfl⟩
      rw [hq1] at z1 hfs
      rw [hq2] at z2 hfs
      have ek : ((k + 1 : Nat) : Int) - 1 = (k : Int) := by omega
      rw [ek]
      have hix : (k : Int) < (nF : Int) := by omega
      by_cases hns : q1 = s
      · subst hns
        have HF2 : Hid (fndR F q1 nF = q2) := by show _ = _; rw [← hfe, hfs, if_pos rfl]
        clear hfe hfs HF hq1 hq2 e2 ek
        go_wp2_with fail
        go_ret
        exact ⟨by rw [HF2.out]; rfl, rfl⟩
      · have hb : (q1.toList == s.toList) = false := by
          rw [beq_eq_false_iff_ne]
          intro e
          apply hns
          rw [ByteArray.toList_eq, ByteArray.toList_eq] at e
          exact bs_inj e
        have HF2 : Hid (fndR F s k = fndR F s nF) := by show _ = _; rw [← hfe, hfs, if_neg hns]
        clear hfe hfs HF hq1 hq2 e2 ek hns
        go_wp2_with fail
        go_roundw
        case rel => exact ⟨k, by omega, by go_num, trivial, HF2.out⟩
        case measure => simp [intOf]

end Go.Proofs.YtbdpnnfhkhkecaaGreatDoor
