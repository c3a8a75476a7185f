/-
  The model's rows of renamings; 'l6Find'.
-/
import Derived.Test.YtgljlgiebmnekaaGreatDoorQuUn0
import Derived.Test.YtgljlgiebmnekaaGreatDoorQuApM
import Derived.Test.YtgljlgiebmnekaaGreatDoorQuZ23
import Derived.Deep.AppendLies
import Derived.Test.YtgljlgiebmnekaaGreatDoorQuZ22
import Derived.Test.YtgljlgiebmnekaaGreatDoorQuZ5
import Derived.Deep.RegionWith
import Derived.Deep.RegionLaw
namespace Go.Proofs.YtgljlgiebmnekaaGreatDoor
open Go.RowKit
set_option linter.unusedVariables false
set_option linter.unusedSimpArgs false

theorem Tryz.infoMap : (Tryz.prog.info? 71).map (fun i => (i.zero, i.size, i.bytes)) = some (some (.agg #[.string ⟨#[]⟩, .string ⟨#[]⟩]), 2, 32) := by kernel_rfl

def flE (F : Env) : List Value := (F.map fun q => [Value.string q.1, Value.string q.2]).flatten
theorem flE_cons (q : ByteArray × ByteArray) (F : Env) : flE (q :: F) = .string q.1 :: .string q.2 :: flE F := rfl
theorem flE_app (F G : Env) : flE (F ++ G) = flE F ++ flE G := by simp [flE]
theorem flE_len (F : Env) : (flE F).length = F.length * 2 := by
  induction F with
  | nil => rfl
  | cons q F ih => rw [flE_cons, List.length_cons, List.length_cons, List.length_cons, ih]; omega
theorem flE_at : ∀ (F : Env) (i : Nat) (hi : i < F.length), (flE F)[i * 2]? = some (.string F[i].1) ∧ (flE F)[i * 2 + 1]? = some (.string F[i].2)
  | [], i, hi => by simp at hi
  | q :: F, 0, _ => ⟨rfl, rfl⟩
  | q :: F, i + 1, hi => by
    have h := flE_at F i (by simpa using hi)
    rw [flE_cons, show (i + 1) * 2 = i * 2 + 1 + 1 by omega]
    simp only [List.getElem?_cons_succ, List.getElem_cons_succ]
    exact h
theorem flE_one (F : Env) : ∀ u ∈ flE F, u.oneCell' = true := by
  induction F with
  | nil => intro u hu; simp [flE] at hu
  | cons q F ih =>
    intro u hu
    rw [flE_cons] at hu
    rcases List.mem_cons.1 hu with rfl | hu
    · rfl
    rcases List.mem_cons.1 hu with rfl | hu
    · rfl
    · exact ih u hu

/-- A row of renamings; the innermost is the last. -/
def Mps (base : Nat) (w : World) (v : Value) (F : Env) : Prop := w.ownsRow base 71 2 v F.length (flE F)

theorem mps_form {base : Nat} {w : World} {v : Value} {F : Env} (h : Mps base w v F) : ∃ ao cap, v = .slice ao F.length cap := owns_form h
theorem mps_own {base : Nat} {w : World} {v : Value} {F : Env} (h : Mps base w v F) {g : Nat} (hg : v.ownBlock = some g) : base ≤ g ∧ g < w.heap.size := owns_block h hg
theorem mps_keep {base : Nat} {w w' : World} {v : Value} {F : Env} (h : Mps base w v F) (hk : ∀ g, v.ownBlock = some g → w'.heap[g]? = w.heap[g]?) : Mps base w' v F := owns_keep h hk
theorem mps_bel {base : Nat} {w w' : World} {v : Value} {F : Env} (h : Mps base w v F) (hb : Below w.heap.size w w') : Mps base w' v F := mps_keep h fun g hg => hb.block g (mps_own h hg).2
theorem mps_emp {base : Nat} {w : World} {b : Nat} (h : w.heap[b]? = some (.cells #[] 71 (0, 0))) (hb : base ≤ b) : Mps base w (.slice (some ⟨b, 0, none⟩) 0 0) [] :=
  ⟨by simp [flE], Or.inr ⟨b, 0, #[], by simp, hb, h, by simp, by simp, by simp, by simp [flE]⟩⟩
theorem mps_at {base : Nat} {w : World} {v : Value} {F : Env} (h : Mps base w v F) (i : Nat) (hi : i < F.length) : ∃ g cap, v = .slice (some ⟨g, 0, none⟩) F.length cap ∧ base ≤ g ∧ g < w.heap.size ∧ w.cell? ⟨g, i * 2, none⟩ = some (.string F[i].1) ∧ w.cell? ⟨g, i * 2 + 1, none⟩ = some (.string F[i].2) := by
  rcases h.2 with ⟨rfl, hn⟩ | ⟨g, cap, cur, rfl, hg, hh, h1, h2, h3, h4⟩
  · omega
  · have e := flE_at F i hi
    rw [← h4, List.getElem?_take, List.getElem?_take, if_pos (by omega), if_pos (by omega)] at e
    refine ⟨g, cap, rfl, hg, (Array.getElem?_eq_some_iff.1 hh).1, ?_, ?_⟩
    · rw [row_cell hh, ← Array.getElem?_toList, e.1]
    · rw [row_cell hh, ← Array.getElem?_toList, e.2]

set_option maxRecDepth 100000 in
/-- A whole row behind an empty one. -/
theorem mps_copy {base base' : Nat} {w : World} {b : Nat} {ao : Option Addr} {cap : Nat} {F : Env} (h0 : w.heap[b]? = some (.cells #[] 71 (0, 0))) (hb : base ≤ b) (hw : base ≤ w.heap.size) (h : Mps base' w (.slice ao F.length cap) F) (hl : F.length ≤ 1000) :
    ∃ v' w2, (Builtin.append_ #[49, 49] 49 #[.slice (some ⟨b, 0, none⟩) 0 0, .slice ao F.length cap]).run Tryz.prog w = .ok v' w2 ∧ Mps base w2 v' F ∧ Below b w w2 := by
  obtain ⟨i0, hi, hz0, hz1, hz2⟩ := info_parts Tryz.infoMap
  have hbl := (Array.getElem?_eq_some_iff.1 h0).1
  by_cases hN : 0 < F.length
  · obtain ⟨g0, cp0, e, _, _, _⟩ := mps_at h 0 hN
    injection e with e1 e2 e3
    subst e1
    subst e3
    obtain ⟨g, cap2, w2, hrun, hown2, hgrow, hat, hlt⟩ := run_append_lies (P := Tryz.prog) w 49 49 base 71 i0 _ 2 32 Tryz.underlying49 hi hz0 hz1 hz2 rfl (by omega) _ 0 [] (mps_emp h0 hb)
      ⟨g0, 0, none⟩ F.length cap (flE F) (flE_len F) (fun j u hu => by
        have ea : (⟨g0, 0, none⟩ : Addr).add j = ⟨g0, 0 + j, none⟩ := (by unfold Addr.add; split <;> simp_all)
        rw [ea, Nat.zero_add]
        rcases h.2 with ⟨e, hn⟩ | ⟨g', cap', cur, e, hg, hh, h1, h2, h3, h4⟩
        · cases e
        · injection e with e1 _ _
          injection e1 with e1
          injection e1 with e1 _ _
          subst e1
          have hj := (List.getElem?_eq_some_iff.1 hu).1
          rw [← h4, List.getElem?_take] at hu
          rw [flE_len] at hj
          rw [if_pos (by omega)] at hu
          rw [row_cell hh, ← Array.getElem?_toList, hu]) (flE_one F)
      hN (by unfold maxLen; omega) (by omega) hw _ rfl
    refine ⟨_, w2, hrun, ?_, ⟨hgrow.os, hgrow.tape, hgrow.output, hgrow.size, fun k hk => hgrow.block k (by omega) (fun e => by have e1 : k = b := by { simpa [Value.ownBlock] using e }; omega)⟩⟩
    simpa [Mps] using hown2
  · have e : F = [] := List.length_eq_zero_iff.1 (by omega)
    subst e
    refine ⟨.slice (some ⟨b, 0, none⟩) 0 0, w, ?_, mps_emp h0 hb, Below.refl _ _⟩
    cases ao <;> simp [Builtin.append_, run_underlying Tryz.underlying49, sizeOf, typeInfo, hi, Builtin.lenOf, Builtin.firstCells, storeCells, loadCells, loadCellsFrom]

/-- One renaming more. -/
theorem mps_push {base : Nat} {w : World} {v : Value} {F : Env} (h : Mps base w v F) (hw : base ≤ w.heap.size) (hl : F.length ≤ 1000) (n o : ByteArray) :
    ∃ g cap w2, (Builtin.append_ #[49, 49] 49 #[v, .slice (some ⟨w.heap.size, 0, none⟩) 1 1]).run Tryz.prog (w.alloc (.cells #[.string n, .string o] 71)) = .ok (.slice (some ⟨g, 0, none⟩) (F.length + 1) cap) w2 ∧ Mps base w2 (.slice (some ⟨g, 0, none⟩) (F.length + 1) cap) (F ++ [(n, o)]) ∧ Below base w w2 := by
  obtain ⟨i0, hi, hz0, hz1, hz2⟩ := info_parts Tryz.infoMap
  have hA : Below w.heap.size w (w.alloc (.cells #[.string n, .string o] 71)) := (Below.refl _ _).alloc (Nat.le_refl _) _
  obtain ⟨g, cap, w2, hrun, hown2, hgrow, hat, hlt⟩ := run_append_lies (P := Tryz.prog) (w.alloc (.cells #[.string n, .string o] 71)) 49 49 base 71 i0 _ 2 32 Tryz.underlying49 hi hz0 hz1 hz2 rfl (by omega) v F.length (flE F) (mps_bel h hA)
    ⟨w.heap.size, 0, none⟩ 1 1 [.string n, .string o] rfl (World.news_of_block (cs := #[.string n, .string o]) (t := 71) (fr := (0, 0)) (heap_alloc_new w _)) (by intro u hu; simp at hu; rcases hu with rfl | rfl <;> rfl)
    (by omega) (by unfold maxLen; omega) (by omega) (by simp; omega) _ rfl
  have hsz := hgrow.size
  simp only [World.size_alloc] at hsz
  refine ⟨g, cap, w2, hrun, ?_, ⟨hgrow.os, hgrow.tape, hgrow.output, by omega, fun k hk => ?_⟩⟩
  · unfold Mps
    rw [flE_app, List.length_append]
    exact hown2
  · have h1 := hgrow.block k (by simp; omega) (fun e => by have := (mps_own h e.symm).1; omega)
    rw [h1]
    exact hA.block k (by omega)


/-- What is left to be looked through: the first k of a row, from behind. -/
def fndR (F : Env) (s : ByteArray) : Nat → ByteArray
  | 0 => s
  | k + 1 => match F[k]? with
    | some q => if q.1 = s then q.2 else fndR F s k
    | none => fndR F s k
theorem fndR_succ (F : Env) (s : ByteArray) (k : Nat) (hk : k < F.length) : fndR F s (k + 1) = if F[k].1 = s then F[k].2 else fndR F s k := by
  simp only [fndR, List.getElem?_eq_getElem hk]
theorem fndR_app (F : Env) (q : ByteArray × ByteArray) (s : ByteArray) : ∀ k, k ≤ F.length → fndR (F ++ [q]) s k = fndR F s k := by
  intro k
  induction k with
  | zero => intro _; rfl
  | succ k ih =>
    intro hk
    rw [fndR_succ _ _ _ (by simp; omega), fndR_succ _ _ _ (by omega), ih (by omega), List.getElem_append_left (by omega)]
theorem fndR_all : ∀ (E : Env) (s : ByteArray), fndR E.reverse s E.reverse.length = fnd E s := by
  intro E
  induction E with
  | nil => intro s; rfl
  | cons q E ih =>
    intro s
    obtain ⟨n, o⟩ := q
    have e : ((n, o) :: E).reverse = E.reverse ++ [(n, o)] := by simp
    rw [e, List.length_append, List.length_singleton, fndR_succ _ _ _ (by simp), fndR_app _ _ _ _ (Nat.le_refl _), ih s]
    simp [fnd]

set_option maxRecDepth 100000 in
set_option maxHeartbeats 1000000 in
theorem l6Find_any {base : Nat} (v : Value) (F : Env) (s : ByteArray) (w : World) (h : Mps base w v F) (hl : F.length ≤ 1000) :
    Calls Tryz.prog 38 #[v, .string s] w fun e w' => e = .returned (.string (fndR F s F.length)) ∧ w' = w := by
  obtain ⟨ao, cap, rfl⟩ := mps_form h
  obtain ⟨nF, hnF⟩ : ∃ x, F.length = x := ⟨_, rfl⟩
  have HN : Hid (F.length = nF) := hnF
  rw [hnF] at h hl ⊢
  have HF : Hid (fndR F s nF = fndR F s nF) := rfl
  clear hnF
  go_enter Tryz.func38, Tryz.ntmps38
  go_wp2_with fail
  go_loopw [5] (fun i wr => ∃ (k : Nat), k ≤ nF ∧ i = .int .i64 ((k : Int) - 1) ∧ wr = w ∧ fndR F s k = fndR F s nF) (fun i _ => (intOf i + 1).toNat)
  case atStart => exact ⟨nF, Nat.le_refl _, rfl, rfl, rfl⟩
  case round =>
    obtain ⟨k, hk, rfl, rfl, hfe⟩ := hrel
    cases k with
    | zero =>
      have HF2 : Hid (fndR F s nF = s) := by show _ = _; rw [← hfe]; rfl
      clear hfe HF
      have hneg : ¬ (0 : Int) ≤ ((0 : Nat) : Int) - 1 := by omega
      go_wp2_with fail
      go_ret
      exact ⟨by rw [HF2.out]; rfl, rfl⟩
    | succ k =>
      have hkF : k < F.length := by rw [HN.out]; omega
      obtain ⟨g, cp, e, _, hgl, z1, z2⟩ := mps_at h k hkF
      injection e with e1 e2 e3
      subst e1
      subst e3
      have hfs := fndR_succ F s k hkF
      obtain ⟨q1, hq1⟩ : ∃ q, F[k].1 = q := ⟨_, rfl⟩
      obtain ⟨q2, hq2⟩ : ∃ q, F[k].2 = q := ⟨_, rfl⟩
      rw [hq1] at z1 hfs
      rw [hq2] at z2 hfs
      have ek : ((k + 1 : Nat) : Int) - 1 = (k : Int) := by omega
      rw [ek]
      have hix : (k : Int) < (nF : Int) := by omega
      by_cases hns : q1 = s
      · subst hns
        have HF2 : Hid (fndR F q1 nF = q2) := by show _ = _; rw [← hfe, hfs, if_pos rfl]
        clear hfe hfs HF hq1 hq2 e2 ek
        go_wp2_with fail
        go_ret
        exact ⟨by rw [HF2.out]; rfl, rfl⟩
      · have hb : (q1.toList == s.toList) = false := by
          rw [beq_eq_false_iff_ne]
          intro e
          apply hns
          rw [ByteArray.toList_eq, ByteArray.toList_eq] at e
          exact bs_inj e
        have HF2 : Hid (fndR F s k = fndR F s nF) := by show _ = _; rw [← hfe, hfs, if_neg hns]
        clear hfe hfs HF hq1 hq2 e2 ek hns
        go_wp2_with fail
        go_roundw
        case rel => exact ⟨k, by omega, by go_num, trivial, HF2.out⟩
        case measure => simp [intOf]

end Go.Proofs.YtgljlgiebmnekaaGreatDoor

/-
  What the model's 'l1Copy' comes to: the same tree in new memory.
-/
namespace Go.Proofs.YtgljlgiebmnekaaGreatDoor
open Go.RowKit
set_option linter.unusedVariables false
set_option linter.unusedSimpArgs false

/-- A slice that is appended to, as a value. -/
theorem ap_form {base : Nat} {wr : World} {d : Nat} {v : Value} {k : Nat} {ts : List Tr} (h : ApRel base wr d v k ts) : ∃ ao cap, v = .slice ao k cap := by
  obtain ⟨xs, hown, _⟩ := h.own
  rcases hown.2 with ⟨rfl, rfl⟩ | ⟨g, cap, cur, rfl, _⟩
  · exact ⟨none, 0, rfl⟩
  · exact ⟨_, cap, rfl⟩

/-- One element more appended to it: what the run of 'append' gives, w1 being the world behind the call that made the element. -/
theorem ap_run {base : Nat} {wr w1 : World} {d : Nat} {v : Value} {k : Nat} {ts : List Tr} (h : ApRel base wr d v k ts) (hk : k < ts.length) (hk2 : ts.length ≤ 1048576) (hb : Below wr.heap.size wr w1) (hbase : base ≤ wr.heap.size) {ao1 : Option Addr} {len1 cap1 : Nat}
    (ho : OwR wr.heap.size w1.heap.size w1 d ao1 len1 ts[k].A) :
    ∃ g cap w2, (Builtin.append_ #[29, 29] 29 #[v, .slice (some ⟨w1.heap.size, 0, none⟩) 1 1]).run Tryz.prog (w1.alloc (.cells #[.int .i64 ts[k].K, .int .i64 ts[k].N, .slice ao1 len1 cap1] 31)) = .ok (.slice (some ⟨g, 0, none⟩) (k + 1) cap) w2 ∧
      ApRel base w2 d (.slice (some ⟨g, 0, none⟩) (k + 1) cap) (k + 1) ts ∧ Below base wr w2 := by
  obtain ⟨i0, hi, hz0, hz1, hz2⟩ := info_parts Tryz.infoTy3
  have hX : Below wr.heap.size wr (w1.alloc (.cells #[.int .i64 ts[k].K, .int .i64 ts[k].N, .slice ao1 len1 cap1] 31)) := hb.alloc hb.size _
  have h1 := ap_below h hX
  obtain ⟨xs, hown, _⟩ := h1.own
  obtain ⟨xs0, hown0, _⟩ := h.own
  have hsz := hb.size
  obtain ⟨g, cap, w2, hrun, hown2, hgrow, hat, hlt⟩ := run_append_lies (P := Tryz.prog) (w1.alloc (.cells #[.int .i64 ts[k].K, .int .i64 ts[k].N, .slice ao1 len1 cap1] 31)) 29 29 base 31 i0 _ 3 40 Tryz.underlying29 hi hz0 hz1 hz2 rfl (by omega) v k xs hown
    ⟨w1.heap.size, 0, none⟩ 1 1 [.int .i64 ts[k].K, .int .i64 ts[k].N, .slice ao1 len1 cap1] rfl (World.news_of_block (cs := #[.int .i64 ts[k].K, .int .i64 ts[k].N, .slice ao1 len1 cap1]) (t := 31) (fr := (0, 0)) (heap_alloc_new w1 _)) (by simp [Value.oneCell'])
    (by omega) (by unfold maxLen; omega) (by omega) (by simp; omega) _ rfl
  refine ⟨g, cap, w2, hrun, ?_, ?_⟩
  · have hxx : xs = xs0 := by
      rcases hown.2 with ⟨hv, hn⟩ | ⟨g1, cap1', cur1, hv, _, hh, _, _, _, ht⟩
      · have q1 := hown.1
        have q2 := hown0.1
        rw [hn] at q1 q2
        simp at q1 q2
        rw [q1, q2]
      · rcases hown0.2 with ⟨hv2, _⟩ | ⟨g2, cap2, cur2, hv2, _, hh2, _, _, _, ht2⟩
        · rw [hv] at hv2; cases hv2
        · rw [hv] at hv2
          cases hv2
          rw [hX.block g1 (Array.getElem?_eq_some_iff.1 hh2).1, hh2] at hh
          cases hh
          rw [← ht, ← ht2]
    subst hxx
    exact ap_next h hk hX hbase (ho.keep (fun q _ hq => Below.heap_alloc _ _ _ hq) (Nat.le_refl _) (by simp)) hown0 hown2 hgrow hat
  · exact (hX.mono hbase).grown hgrow (by simp; omega) (fun q hq => (ap_block h1 hq).1)


def SaidLc (d : Nat) : Prop := ∀ (L B : Nat) (k n : Int) (ao : Option Addr) (len cap : Nat) (ts : List Tr) (w : World), B ≤ w.heap.size → Hs L B w d ao len ts → cntS ts ≤ 1048576 →
    Calls Tryz.prog 36 #[.agg #[.int .i64 k, .int .i64 n, .slice ao len cap]] w fun e w' => ∃ ao2 len2 cap2, e = .returned (.agg #[.int .i64 k, .int .i64 n, .slice ao2 len2 cap2]) ∧ Below w.heap.size w w' ∧ OwR w.heap.size w'.heap.size w' d ao2 len2 ts

/-- What the loop of 'l1Copy' (and of 'l1Put') keeps: the argument's box, the block of what is built, what it has so far. -/
structure LcRel (w wr : World) (d kk : Nat) (box out : Array Value) (v : Value) (K N : Int) (g0 go : Nat) (ts : List Tr) : Prop where
  bel : Below w.heap.size w wr
  hbox : wr.heap[g0]? = some (.cells box 31 (0, 0))
  hout : wr.heap[go]? = some (.cells #[.int .i64 K, .int .i64 N, v] 31 (0, 0))
  ap : ApRel (go + 1) wr d v kk ts

set_option maxRecDepth 100000 in
set_option maxHeartbeats 2000000 in
theorem lc_succ (d : Nat) (IH : SaidLc d) : SaidLc (d + 1) := by
  intro L B k n ao len capA ts w hB hs hcnt
  have hl : len ≤ 1048576 := by have := hs.1; have := cntS_eq ts; omega
  have HL : Hid (len = ts.length) := hs.1
  obtain ⟨X, hX⟩ : ∃ X, X = (((w.alloc (.cells #[.int .i64 k, .int .i64 n, .slice ao len capA] 31)).alloc (.cells #[.int .i64 0, .int .i64 0, .slice none 0 0] 31)).alloc (.cells #[.int .i64 k, .int .i64 n, .slice none 0 0] 31)) := ⟨_, rfl⟩
  have hXs : X.heap.size = w.heap.size + 3 := by rw [hX]; simp
  have hXb : Below w.heap.size w X := by rw [hX]; exact (((Below.refl _ _).alloc (Nat.le_refl _) _).alloc (by simp) _).alloc (by simp; omega) _
  have hX0 : X.heap[w.heap.size]? = some (.cells #[.int .i64 k, .int .i64 n, .slice ao len capA] 31 (0, 0)) := by rw [hX, Below.heap_alloc _ _ _ (by simp only [World.size_alloc]; omega), Below.heap_alloc _ _ _ (by simp only [World.size_alloc]; omega)]; exact heap_new rfl
  have hX2 : X.heap[w.heap.size + 1 + 1]? = some (.cells #[.int .i64 k, .int .i64 n, .slice none 0 0] 31 (0, 0)) := by rw [hX]; exact heap_new (by simp)
  have hX1 : X.heap[w.heap.size + 1]? = some (.cells #[.int .i64 0, .int .i64 0, .slice none 0 0] 31 (0, 0)) := by rw [hX, Below.heap_alloc _ _ _ (by simp only [World.size_alloc]; omega)]; exact heap_new (by simp)
  have HX : Hid (X = _) := hX
  have hStart : LcRel w X d 0 #[.int .i64 k, .int .i64 n, .slice ao len capA] #[] (.slice none 0 0) k n w.heap.size (w.heap.size + 1 + 1) ts := ⟨hXb, hX0, hX2, ap_nil _ _ _ _⟩
  have HX1 : Hid (_ = _) := hX1
  clear hX hX0 hX1 hX2
  go_enter Tryz.func36, Tryz.ntmps36
  go_wp2_with fail
  rw [← HX.out]
  go_loopw [4] (fun i wr => ∃ (j : Nat) (v : Value), j ≤ len ∧ i = .int .i64 j ∧ Below (w.heap.size + 1 + 1) X wr ∧ LcRel w wr d j #[.int .i64 k, .int .i64 n, .slice ao len capA] #[] v k n w.heap.size (w.heap.size + 1 + 1) ts) (fun i _ => len - (intOf i).toNat)
  case atStart => exact ⟨0, _, by omega, rfl, Below.refl _ _, hStart⟩
  case round =>
    obtain ⟨j, v, hj, rfl, hbX, hR⟩ := hrel
    have hbel := hR.bel
    have hszr : w.heap.size + 3 ≤ wr.heap.size := by have := hbX.size; omega
    obtain ⟨x0, x1, x2⟩ := box_cells hR.hbox
    obtain ⟨y0, y1, y2⟩ := box_cells hR.hout
    clear x0 x1
    by_cases hlt : j < len
    · have hlt' : j < ts.length := by have := HL.out; omega
      obtain ⟨b, o, rfl, _, hbB, ao1, len1, cap1, c0, c1, c2, hs1⟩ := hs.2.2 j hlt'
      have e0 := (bcell hbel (by omega) _).trans c0
      have e1 := (bcell hbel (by omega) _).trans c1
      have e2 := (bcell hbel (by omega) _).trans c2
      have hs2 := (hs1.below hbel hB).drew
      have hc1 := cntS_get ts j hlt'
      have hapd : ApRel (w.heap.size + 1 + 1 + 1) wr.drew d v j ts := ap_below hR.ap (Below.refl _ _).drew
      have APR : Hid (∀ (w1 : World) (ao3 : Option Addr) (len3 cap3 : Nat), Below wr.drew.heap.size wr.drew w1 → OwR wr.drew.heap.size w1.heap.size w1 d ao3 len3 ts[j].A → ∃ g cap w2, (Builtin.append_ #[29, 29] 29 #[v, .slice (some ⟨w1.heap.size, 0, none⟩) 1 1]).run Tryz.prog (w1.alloc (.cells #[.int .i64 ts[j].K, .int .i64 ts[j].N, .slice ao3 len3 cap3] 31)) = .ok (.slice (some ⟨g, 0, none⟩) (j + 1) cap) w2 ∧
          LcRel w (w2.setCell ⟨w.heap.size + 1 + 1, 2, none⟩ (.slice (some ⟨g, 0, none⟩) (j + 1) cap)) d (j + 1) #[.int .i64 k, .int .i64 n, .slice (some ⟨b, o, none⟩) len capA] #[] (.slice (some ⟨g, 0, none⟩) (j + 1) cap) k n w.heap.size (w.heap.size + 1 + 1) ts ∧ Below (w.heap.size + 1 + 1) X (w2.setCell ⟨w.heap.size + 1 + 1, 2, none⟩ (.slice (some ⟨g, 0, none⟩) (j + 1) cap)) ∧
          w2.cell? ⟨w.heap.size + 1 + 1, 2, none⟩ = some v ∧ w2.frozen? ⟨w.heap.size + 1 + 1, 2, none⟩ = false) := by
        intro w1 ao3 len3 cap3 hb1 ho1
        obtain ⟨g, cp, w2, hrun, hap2, hbe2⟩ := ap_run hapd hlt' (by have := HL.out; omega) hb1 (show w.heap.size + 1 + 1 + 1 ≤ wr.heap.size by omega) ho1
        have hbe3 : Below (w.heap.size + 1 + 1 + 1) wr w2 := (Below.refl _ _).drew.trans hbe2
        have q := (hbe3.block (w.heap.size + 1 + 1) (by omega)).trans hR.hout
        refine ⟨g, cp, w2, hrun, ⟨(hbel.trans (hbe3.mono (by omega))).setCell (p := ⟨w.heap.size + 1 + 1, 2, none⟩) (show w.heap.size ≤ w.heap.size + 1 + 1 by omega) _, ?_, ?_, ap_set hap2 (by omega) _⟩, (hbX.trans (hbe3.mono (by omega))).setCell (p := ⟨w.heap.size + 1 + 1, 2, none⟩) (Nat.le_refl _) _, (box_cells q).2.2, row_free q 2⟩
        · rw [row_other _ _ _ (by omega)]
          exact (hbe3.block w.heap.size (by omega)).trans hR.hbox
        · rw [row_set q]
          rfl
      clear c0 c1 c2
      go_wp2_with fail
      go_region_law (first | (refine step_run hrun (by rfl) _ _ (by rfl) (by rfl) (by rfl) (by rfl) ?_) | (go_simp; go_at_call 36; refine (IH L B _ _ _ _ _ (ts[j]'hlt').A _ ?_ hs2 ?_).mono ?_; (show B ≤ wr.heap.size; omega); omega; rintro e w1 ⟨ao3, len3, cap3, rfl, hb1, ho1⟩; have hz1 : w.heap.size + 1 + 1 < w1.heap.size := Nat.lt_of_lt_of_le (show w.heap.size + 1 + 1 < wr.heap.size by omega) hb1.size; have a2 := (bcell hb1 (show w.heap.size + 1 + 1 < wr.heap.size by omega) 2).trans y2; have a3 : (w1.alloc (.cells #[.int .i64 ts[j].K, .int .i64 ts[j].N, .slice ao3 len3 cap3] 31)).cell? ⟨w.heap.size + 1 + 1, 2, none⟩ = some v := (World.cell?_of_block (Below.heap_alloc _ _ _ hz1)).trans a2; obtain ⟨g, cp, w2, hrun, hN, hbX2, q2, q3⟩ := APR.out w1 ao3 len3 cap3 hb1 ho1))
      all_goals
        clear e0 e1 e2 y0 y1 y2 x2 a2 a3 hrun q2 q3
        go_wp2_with fail
        go_roundw
        case rel => exact ⟨j + 1, _, by omega, by go_num, hbX2, hN⟩
        case measure => simp [intOf]; omega
    · obtain ⟨ao2, cap2, rfl, ho2⟩ := ap_done hR.ap (by have := HL.out; omega) (by omega)
      have r := (hbX.block (w.heap.size + 1) (by omega)).trans HX1.out
      obtain ⟨r0, r1, r2⟩ := box_cells r
      have r3 := row_free r
      clear r
      go_wp2_with fail
      obtain rfl : j = len := by omega
      refine bodyPost_ret (v := .agg #[.int .i64 k, .int .i64 n, .slice ao2 j cap2]) (by simp [results, Tryz.results36, go_sem, r0, r1, r2]) rfl ⟨ao2, j, cap2, rfl, ?_, ?_⟩
      · exact set3_below hbel (by omega)
      · refine ho2.keep (fun q hq _ => ?_) (by omega) (by simp)
        rw [row_other _ _ _ (by omega), row_other _ _ _ (by omega), row_other _ _ _ (by omega)]

set_option maxHeartbeats 400000 in
theorem lc_zero : SaidLc 0 := by
  intro L B k n ao len cap ts w hB hs hcnt
  obtain ⟨rfl, rfl⟩ := hs
  go_enter Tryz.func36, Tryz.ntmps36
  go_wp2_with fail
  refine wp_loop_rounds 1 ?_; rw [rounds_succ]
  go_wp2_with fail
  refine bodyPost_ret (v := .agg #[.int .i64 k, .int .i64 n, .slice none 0 0]) (by simp [results, Tryz.results36, go_sem]) rfl ⟨none, 0, 0, rfl, ?_, OwR.nil _ _ _ _ _⟩
  exact (((Below.refl _ _).alloc (Nat.le_refl _) _).alloc (by simp) _).alloc (by simp; omega) _

theorem lc_any : ∀ d, SaidLc d := by
  intro d
  induction d with
  | zero => exact lc_zero
  | succ d ih => exact lc_succ d ih

end Go.Proofs.YtgljlgiebmnekaaGreatDoor
