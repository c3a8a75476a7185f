/-
  What the methods of 'ownLists' come to. (Written by mkol.py.)
-/
import Derived.Test.YtibbdhmbgnjmoaaGreatFldOlY0
import Derived.Test.YtibbdhmbgnjmoaaGreatFldZ5
import Derived.Deep.RegionHeld3
import Derived.Deep.RegionLaw
import Derived.Sort.AtCall
import Derived.LoopN
namespace Go.Proofs.YtibbdhmbgnjmoaaGreat
open Go.RowKit
set_option linter.unusedVariables false
set_option linter.unusedSimpArgs false

/-- The pointers to the elements of a row of n at the head of block h. -/
def kidsY (h n : Nat) : List (Nat × Nat) := (List.range n).map fun i => (h, i * 3)
theorem kidsY_succ (h n : Nat) : kidsY h (n + 1) = kidsY h n ++ [(h, n * 3)] := by simp [kidsY, List.range_succ]
theorem kidsY_len (h n : Nat) : (kidsY h n).length = n := by simp [kidsY]

set_option maxHeartbeats 1000000 in
theorem placeOfY_any (c n cap : Nat) (hn : 0 < n) (hn2 : n ≤ 4194304) (w : World) :
    Calls Tryz.prog 73 #[.slice (some ⟨c, 0, none⟩) n cap] w fun e w' => e = .returned (keyY c n) ∧ Below w.heap.size w w' := by
  have hbel : Below w.heap.size w (w.alloc (.cells #[.pointer (some ⟨c, 0, none⟩), .int .i64 n] 102)) := (Below.refl _ _).alloc (Nat.le_refl _) _
  have h : (w.alloc (.cells #[.pointer (some ⟨c, 0, none⟩), .int .i64 n] 102)).heap[w.heap.size]? = _ := heap_new rfl
  have p0 := row_cell h 0
  have p1 := row_cell h 1
  clear h
  have h0 : (0 : Int) < n := by omega
  go_enter Tryz.func73, Tryz.ntmps73
  go_wp2_with fail
  refine bodyPost_ret (v := keyY c n) (by simp [results, Tryz.results73, go_sem, p0, p1, keyY]) rfl ⟨rfl, hbel⟩

theorem ownY_none (o : Value) (ao : Option Addr) (cap : Nat) (w : World) :
    Calls Tryz.prog 51 #[o, .slice ao 0 cap] w fun e w' => e = .returned (.slice none 0 0) ∧ w' = w := by
  go_enter Tryz.func51, Tryz.ntmps51
  go_wp2_with fail
  go_ret
  exact ⟨rfl, rfl⟩

set_option maxRecDepth 100000 in
set_option maxHeartbeats 4000000 in
theorem nextY_any {base : Nat} {wr : World} {op mp : Nat} {v : Value} {init : List (Nat × Nat)} {p : Nat × Nat} {cs : List Nat} (h : OlY base wr op mp v (init ++ [p]) cs) :
    Calls Tryz.prog 52 #[.pointer (some ⟨op, 0, none⟩)] wr fun e w' => e = .returned (.pointer (some ⟨p.1, p.2, none⟩)) ∧ ∃ v', OlY base w' op mp v' init cs ∧ ChgY op mp v v' wr w' := by
  obtain ⟨g, cap, rfl, hgl, hgo, hc1, hc2, hcell, hO⟩ := olY_pop h
  obtain ⟨z, hz⟩ := h.box
  have b1 := row_cell hz 1
  have bf := row_free hz 1
  have e1 : ((init.length : Int) + 1 - 1) = init.length := by omega
  have hi1 : (0 : Int) ≤ (init.length : Int) := by omega
  have hi2 : (init.length : Int) < (init.length : Int) + 1 := by omega
  have hC : ChgY op mp (.slice (some ⟨g, 0, none⟩) (init.length + 1) cap) (.slice (some ⟨g, 0, none⟩) init.length cap) wr (wr.setCell ⟨op, 1, none⟩ (.slice (some ⟨g, 0, none⟩) init.length cap)) :=
    ⟨rfl, rfl, rfl, by simp, fun b hb h1 _ _ => row_other _ _ _ h1, fun x hx => Or.inl hx⟩
  clear hz h
  go_enter Tryz.func52, Tryz.ntmps52
  go_wp2_with fail
  go_ret
  exact ⟨rfl, _, hO, hC⟩

set_option maxRecDepth 100000 in
set_option maxHeartbeats 8000000 in
theorem ownY_some {base : Nat} {w0 : World} {op mp : Nat} {v : Value} {ps : List (Nat × Nat)} {cs : List Nat} (h : OlY base w0 op mp v ps cs) (g n cap : Nat) (hn : 0 < n) (hsz : ps.length + n ≤ 8388608) (hn2 : n ≤ 4194304) (hg : g ∉ cs) (hgb : g < base) {cur : Array Value} (hcur : w0.heap[g]? = some (.cells cur 31 (0, 0))) (hcn : n * 3 ≤ cur.size) (h1 : ∀ j (hj : j < n * 3), (cur[j]'(by omega)).oneCell' = true) :
    Calls Tryz.prog 51 #[.pointer (some ⟨op, 0, none⟩), .slice (some ⟨g, 0, none⟩) n cap] w0 fun e w' => ∃ hb v', e = .returned (.slice (some ⟨hb, 0, none⟩) n n) ∧ OlY base w' op mp v' (ps ++ kidsY hb n) (g :: cs) ∧ ChgY op mp v v' w0 w' ∧ w0.heap.size ≤ hb ∧ w'.heap[hb]? = some (.cells (cur.toList.take (n * 3)).toArray 31 (0, 0)) ∧ v'.ownBlock ≠ some hb := by
  obtain ⟨i0, hi, hz0, hz1, hz2⟩ := info_parts Tryz.infoFY
  have hmk : ∃ C : Array Value, C.size = n * 3 ∧ ∀ w : World, (Instr.makeSlice 29 (.int .i64 (n : Int)) (.int .i64 (n : Int))).run Tryz.prog w = .ok (.slice (some ⟨w.heap.size, 0, none⟩) n n) (w.alloc (.cells C 31)) := by
    refine ⟨madeCells (Value.cells (.agg #[.int .i64 0, .int .i64 0, .slice none 0 0])) (n * 3), ?_, fun w => ?_⟩
    · exact size_madeCells _ _
    · have := run_make (P := Tryz.prog) (w := w) 29 31 i0 _ Tryz.underlying29 hi hz0 .i64 .i64 (n : Int) (n : Int) (by omega) (by omega) (by rw [hz2]; omega) (by omega)
      rw [hz1] at this
      simpa using this
  obtain ⟨C, hC, hmk⟩ := hmk
  have hne : ((n : Int) == 0) = false := by rw [beq_eq_false_iff_ne]; omega
  clear hi hz0 hz1 hz2
  have hgl : g < w0.heap.size := (Array.getElem?_eq_some_iff.1 hcur).1
  have HMK : Hid (∀ w : World, (Instr.makeSlice 29 (.int .i64 (n : Int)) (.int .i64 (n : Int))).run Tryz.prog w = .ok (.slice (some ⟨w.heap.size, 0, none⟩) n n) (w.alloc (.cells C 31))) := hmk
  clear hmk
  go_enter Tryz.func51, Tryz.ntmps51
  go_wp2_with fail
  refine (placeOfY_any g n cap hn hn2 w0).mono ?_
  rintro e w1 ⟨rfl, hb1⟩
  have hz1 := hb1.size
  unfold keyY
  obtain ⟨Y, hY⟩ : ∃ Y, Y = w1.alloc (.cells #[.pointer (some ⟨g, 0, none⟩), .int .i64 n] 102) := ⟨_, rfl⟩
  have hYb : Below w0.heap.size w0 Y := hb1.trans (by rw [hY]; exact (Below.refl _ _).alloc hz1 _)
  have hYk : Y.heap[w1.heap.size]? = some (.cells #[.pointer (some ⟨g, 0, none⟩), .int .i64 n] 102 (0, 0)) := by rw [hY]; exact heap_new rfl
  have hYs : Y.heap.size = w1.heap.size + 1 := by rw [hY]; simp
  have HY : Hid (Y = _) := hY
  clear hY
  go_wp2_with fail
  rw [← HY.out]
  have hO := olY_below h hYb
  have hgY := (hYb.block g hgl).trans hcur
  obtain ⟨z, hz⟩ := hO.box
  have b0 := row_cell hz 0
  have k0 := row_cell hYk 0
  have k1 := row_cell hYk 1
  have hlk := olY_look (olY_below hO (Below.refl _ _).drew) g n hg (a := cur) (t := 31) hgY
  unfold keyY at hlk
  go_region
  clear hlk b0 k0 k1
  have hO1 : OlY base Y.drew op mp v ps cs := olY_below hO (Below.refl _ _).drew
  have hK1 : Y.drew.heap[w1.heap.size]? = some (.cells #[.pointer (some ⟨g, 0, none⟩), .int .i64 n] 102 (0, 0)) := hYk
  have hG1 : Y.drew.heap[g]? = some (.cells cur 31 (0, 0)) := hgY
  have hB1 : Below w0.heap.size w0 Y.drew := hYb.drew
  have hS1 : w1.heap.size < Y.drew.heap.size := by show _ < Y.heap.size; omega
  clear hO hYk hgY hz hYb hYs HY hb1
  generalize Y.drew = Y1 at *
  obtain ⟨Z, hcp, hZb, hZs, hZh⟩ := copyY (c := cap) hG1 hcn h1 C hC
  have hmk := HMK.out
  go_wp2_with fail
  clear hcp hmk
  have hgY1 : g < Y1.heap.size := (Array.getElem?_eq_some_iff.1 hG1).1
  have hOZ := olY_below hO1 hZb
  obtain ⟨q1, q2, q3⟩ := olY_in hO1
  have hKZ := (hZb.block _ hS1).trans hK1
  have HB : Hid (Below w0.heap.size w0 Z) := hB1.trans (hZb.mono hB1.size)
  have HI : Hid (op < Y1.heap.size ∧ mp < Y1.heap.size ∧ ∀ x, v.ownBlock = some x → x < Y1.heap.size) := ⟨q1, q2, q3⟩
  have HN : Hid (0 < n ∧ n ≤ 4194304 ∧ ps.length + n ≤ 8388608) := ⟨hn, hn2, hsz⟩
  have HGZ : Hid (Z.heap[g]? = some (.cells cur 31 (0, 0))) := (hZb.block _ hgY1).trans hG1
  have HZ : Hid (Z.heap.size = Y1.heap.size + 1 ∧ w1.heap.size < Y1.heap.size) := ⟨hZs, hS1⟩
  have hB0 : Hid (w0.heap.size ≤ Y1.heap.size) := hB1.size
  clear q1 q2 q3 hO1 hK1 hG1 hB1 hZb hgY1 HMK hne h hZs hS1 h1 hcn
  generalize Y1.heap.size = H at *
  go_loopw [41] (fun y wr => ∃ i : Nat, y = .int .i64 i ∧ i ≤ n ∧ ∃ v', OlY base wr op mp v' (ps ++ kidsY H i) cs ∧ ChgY op mp v v' Z wr) (fun y _ => n - (intOf y).toNat)
  case atStart => exact ⟨0, rfl, by omega, v, by simpa [kidsY] using hOZ, ChgY.refl _ _ _ _⟩
  case round =>
    obtain ⟨i, rfl, hi, v', hO', hC'⟩ := hrel
    by_cases hlt : i < n
    · obtain ⟨a, ca, W2, hrun, hOW, hCW, hWs, z2, hWx⟩ := olY_push (olY_below hO' (Below.refl _ _).drew) (by rw [List.length_append, kidsY_len]; have := HN.out; omega) (H, i * 3)
      obtain ⟨z', hz'⟩ := hO'.box
      have hol : op < wr.heap.size := (Array.getElem?_eq_some_iff.1 hz').1
      have hlen : (ps ++ kidsY H i).length = ps.length + i := by rw [List.length_append, kidsY_len]
      rw [hlen] at hrun hOW hCW
      have SA : Hid (∀ o, (wr.alloc o).cell? ⟨op, 1, none⟩ = some v' ∧ (wr.alloc o).frozen? ⟨op, 1, none⟩ = false) := fun o => by
        have e1 : (wr.alloc o).heap[op]? = _ := (Below.heap_alloc _ _ _ hol).trans hz'
        exact ⟨row_cell e1 1, row_free e1 1⟩
      have HR : Hid ((Builtin.append_ #[72, 72] 72 #[v', .slice (some ⟨wr.heap.size, 0, none⟩) 1 1]).run Tryz.prog (wr.alloc (.cells #[.pointer (some ⟨H, i * 3, none⟩)] 77)).drew = .ok (.slice (some ⟨a, 0, none⟩) (ps.length + i + 1) ca) W2) := hrun
      have m0 := row_cell hz' 1
      have m1 := row_free hz' 1
      have n0 := fun o => (SA.out o).1
      have n1 := fun o => (SA.out o).2
      have x0 := row_cell hWx 1
      have x1 := row_free hWx 1
      have hrun2 := HR.out
      have hCN : ChgY op mp v (.slice (some ⟨a, 0, none⟩) (ps.length + i + 1) ca) Z (W2.setCell ⟨op, 1, none⟩ (.slice (some ⟨a, 0, none⟩) (ps.length + i + 1) ca)) := (hC'.trans ⟨hCW.os, hCW.tape, hCW.output, hCW.size, hCW.block, hCW.vb⟩).setOp _ _
      have HON : Hid (OlY base (W2.setCell ⟨op, 1, none⟩ (.slice (some ⟨a, 0, none⟩) (ps.length + i + 1) ca)) op mp (.slice (some ⟨a, 0, none⟩) (ps.length + i + 1) ca) (ps ++ kidsY H (i + 1)) cs) := by
        have e := hOW
        rw [List.append_assoc, ← kidsY_succ] at e
        exact e
      have HCN : Hid (ChgY op mp v (.slice (some ⟨a, 0, none⟩) (ps.length + i + 1) ca) Z (W2.setCell ⟨op, 1, none⟩ (.slice (some ⟨a, 0, none⟩) (ps.length + i + 1) ca))) := hCN
      have hiI : (0 : Int) ≤ (i : Int) := by omega
      have hil : (i : Int) < (n : Int) := by omega
      clear hrun hOW hCW hWx hWs hCN hO' hC' hz' hlen
      go_wp2_with fail
      go_region_law (refine step_run hrun2 (by rfl) _ _ (by rfl) (by rfl) (by rfl) (by rfl) ?_)
      all_goals
        go_wp2_with fail
        go_roundw
        case rel => exact ⟨i + 1, by go_num, by omega, _, HON.out, HCN.out⟩
        case measure => simp [intOf]; omega
    · obtain rfl : i = n := by omega
      have hgz := HGZ.out
      have hin := HI.out
      have hzz := HZ.out
      have hbase := hO'.bs
      have hv'H : v'.ownBlock ≠ some H := fun e => by
        rcases hC'.vb _ e with e | e
        · have := hin.2.2 _ e; omega
        · omega
      have hgb' : ∀ b, b < Z.heap.size → b ≠ op → b ≠ mp → v.ownBlock ≠ some b → wr.heap[b]? = Z.heap[b]? := hC'.block
      have hvH : v.ownBlock ≠ some H := fun e => by have := hin.2.2 _ e; omega
      have hHx : wr.heap[H]? = some (.cells (cur.toList.take (i * 3)).toArray 31 (0, 0)) := (hgb' H (by omega) (by omega) (by omega) hvH).trans hZh
      have hkv : v.ownBlock ≠ some w1.heap.size := fun e => by
        obtain ⟨_, cur', fr, e1⟩ := own_cells hOZ.row e
        rw [hKZ] at e1; cases e1
      have hko : w1.heap.size ≠ op := fun e => by
        obtain ⟨z9, hz9⟩ := hOZ.box
        rw [← e, hKZ] at hz9; cases hz9
      have hkm : w1.heap.size ≠ mp := fun e => by
        obtain ⟨es9, cl9, hm9, _⟩ := hOZ.map
        rw [← e, hKZ] at hm9; cases hm9
      have hKx := (hgb' w1.heap.size (by omega) hko hkm hkv).trans hKZ
      have hgx : wr.heap[g]? = some (.cells cur 31 (0, 0)) := by
        have o1 := hOZ.opl
        have o2 := hOZ.mpl
        refine (hgb' g (Array.getElem?_eq_some_iff.1 hgz).1 (by omega) (by omega) fun e => ?_).trans hgz
        have := hOZ.blk g e
        omega
      obtain ⟨Q, hup, hOQ, hCQ, hQo, hQs⟩ := olY_key (olY_below hO' (Below.refl _ _).drew) g i hg hgb (a := cur) (t := 31) hgx (.slice (some ⟨H, 0, none⟩) i i)
      unfold keyY at hup
      obtain ⟨z', hz'⟩ := hO'.box
      have b0 := row_cell hz' 0
      have k0 := row_cell hKx 0
      have k1 := row_cell hKx 1
      have hap := olY_apart hO'
      have hHo : H ≠ mp := by omega
      have hQH := (hQo H hHo).trans hHx
      have hQop := (hQo op hap.1).trans hz'
      have y2 := row_cell hQop 2
      have yf := row_free hQop 2
      have hHop : H ≠ op := by omega
      have HF : Hid (∀ z : Int, OlY base (Q.setCell ⟨op, 2, none⟩ (.int .i64 z)) op mp v' (ps ++ kidsY H i) (g :: cs) ∧ ChgY op mp v v' w0 (Q.setCell ⟨op, 2, none⟩ (.int .i64 z)) ∧ (Q.setCell ⟨op, 2, none⟩ (.int .i64 z)).heap[H]? = some (.cells (cur.toList.take (i * 3)).toArray 31 (0, 0))) := fun z =>
        ⟨olY_z hOQ z, (((((ChgY.refl op mp v w0).below HB.out).trans hC').below (Below.refl _ _).drew).trans hCQ).setOp 2 _, (row_other _ _ _ hHop).trans hQH⟩
      have hHl : w0.heap.size ≤ H := by have := HB.out.size; have := hB0.out; omega
      clear hOQ hCQ hQo hQs hQop hQH hO' hC' hz' hap
      go_wp2_with fail
      go_region
      go_wp2_with fail
      go_ret
      exact ⟨H, v', rfl, (HF.out _).1, (HF.out _).2.1, hHl, (HF.out _).2.2, hv'H⟩

end Go.Proofs.YtibbdhmbgnjmoaaGreat
