/-
  What the program's 'mapTys' comes to: a new row, each element what the function that was handed in makes of the old one; and 'copyTy'.
-/
import Derived.Test.YthmmapahobkhnaaPmZ1
import Derived.Deep.RegionHeld3
import Derived.Test.YthmmapahobkhnaaPmZ2
import Derived.Deep.RegionWith
import Derived.Deep.RegionLaw
import Derived.Test.YthmmapahobkhnaaPmZ4
namespace Go.Proofs.Ythmmapahobkhnaa
open Go.RowKit
set_option linter.unusedVariables false
set_option linter.unusedSimpArgs false

theorem Try.infoTy3 : (Try.prog.info? 24).map (fun i => (i.zero, i.size, i.bytes)) = some (some (.agg #[.int .i64 0, .int .i64 0, .slice none 0 0]), 3, 40) := by kernel_rfl

theorem make_ty (len : Nat) (hl : len ≤ 1048576) : ∃ C : Array Value, C.size = len * 3 ∧ ∀ w : World, (Instr.makeSlice 22 (.int .i64 (len : Int)) (.int .i64 (len : Int))).run Try.prog w = .ok (.slice (some ⟨w.heap.size, 0, none⟩) len len) (w.alloc (.cells C 24)) := by
  obtain ⟨i0, hi, hz0, hz1, hz2⟩ := info_parts Try.infoTy3
  refine ⟨madeCells (Value.cells (.agg #[.int .i64 0, .int .i64 0, .slice none 0 0])) (len * 3), size_madeCells _ _, fun w => ?_⟩
  have := run_make (P := Try.prog) (w := w) 22 24 i0 _ Try.underlying22 hi hz0 .i64 .i64 (len : Int) (len : Int) (by omega) (by omega) (by rw [hz2]; omega) (by omega)
  rw [hz1] at this
  simpa using this

theorem Hs.up {L B : Nat} {w : World} {d : Nat} {ao : Option Addr} {len : Nat} {ts : List Tr} (h : Hs L B w 0 ao len ts) : Hs L B w (d + 1) ao len ts := by
  obtain ⟨rfl, rfl⟩ := h
  exact ⟨rfl, by omega, fun i hi => by simp at hi⟩

/-- The row of a struct that was made for a result, told anew behind three stores. -/
theorem res_cells {w : World} {g : Nat} {cs : Array Value} {t : TypeId} {a b c : Value} (h : w.heap[g]? = some (.cells cs t (0, 0))) (hc : cs.size = 3) :
    (set3 w g 0 a b c).cell? ⟨g, 0, none⟩ = some a ∧ (set3 w g 0 a b c).cell? ⟨g, 1, none⟩ = some b ∧ (set3 w g 0 a b c).cell? ⟨g, 2, none⟩ = some c := by
  have := set3_cells (o := 0) (a := a) (b := b) (c := c) h (by omega)
  simpa using this

theorem OwR.len0 {L B : Nat} {w : World} {d : Nat} {ao : Option Addr} {len : Nat} (h : OwR L B w d ao len []) : len = 0 := by
  obtain ⟨bs, h1, _⟩ := h
  cases d with
  | zero => exact h1.1
  | succ d =>
    rcases h1 with h1 | ⟨_, _, _, _, hl, _⟩
    · exact h1.1
    · simpa using hl

end Go.Proofs.Ythmmapahobkhnaa

/-
  What the model's 'l1Copy' comes to: the same tree in new memory.
-/
namespace Go.Proofs.Ythmmapahobkhnaa
open Go.RowKit
set_option linter.unusedVariables false
set_option linter.unusedSimpArgs false

/-- A slice that is appended to, as a value. -/
theorem ap_form {base : Nat} {wr : World} {d : Nat} {v : Value} {k : Nat} {ts : List Tr} (h : ApRel base wr d v k ts) : ∃ ao cap, v = .slice ao k cap := by
  obtain ⟨xs, hown, _⟩ := h.own
  rcases hown.2 with ⟨rfl, rfl⟩ | ⟨g, cap, cur, rfl, _⟩
  · exact ⟨none, 0, rfl⟩
  · exact ⟨_, cap, rfl⟩

/-- One element more appended to it: what the run of 'append' gives, w1 being the world behind the call that made the element. -/
theorem ap_run {base : Nat} {wr w1 : World} {d : Nat} {v : Value} {k : Nat} {ts : List Tr} (h : ApRel base wr d v k ts) (hk : k < ts.length) (hk2 : ts.length ≤ 1048576) (hb : Below wr.heap.size wr w1) (hbase : base ≤ wr.heap.size) {ao1 : Option Addr} {len1 cap1 : Nat}
    (ho : OwR wr.heap.size w1.heap.size w1 d ao1 len1 ts[k].A) :
    ∃ g cap w2, (Builtin.append_ #[22, 22] 22 #[v, .slice (some ⟨w1.heap.size, 0, none⟩) 1 1]).run Try.prog (w1.alloc (.cells #[.int .i64 ts[k].K, .int .i64 ts[k].N, .slice ao1 len1 cap1] 24)) = .ok (.slice (some ⟨g, 0, none⟩) (k + 1) cap) w2 ∧
      ApRel base w2 d (.slice (some ⟨g, 0, none⟩) (k + 1) cap) (k + 1) ts ∧ Below base wr w2 := by
  obtain ⟨i0, hi, hz0, hz1, hz2⟩ := info_parts Try.infoTy3
  have hX : Below wr.heap.size wr (w1.alloc (.cells #[.int .i64 ts[k].K, .int .i64 ts[k].N, .slice ao1 len1 cap1] 24)) := hb.alloc hb.size _
  have h1 := ap_below h hX
  obtain ⟨xs, hown, _⟩ := h1.own
  obtain ⟨xs0, hown0, _⟩ := h.own
  have hsz := hb.size
  obtain ⟨g, cap, w2, hrun, hown2, hgrow, hat, hlt⟩ := run_append_lies (P := Try.prog) (w1.alloc (.cells #[.int .i64 ts[k].K, .int .i64 ts[k].N, .slice ao1 len1 cap1] 24)) 22 22 base 24 i0 _ 3 40 Try.underlying22 hi hz0 hz1 hz2 rfl (by omega) v k xs hown
    ⟨w1.heap.size, 0, none⟩ 1 1 [.int .i64 ts[k].K, .int .i64 ts[k].N, .slice ao1 len1 cap1] rfl (World.news_of_block (cs := #[.int .i64 ts[k].K, .int .i64 ts[k].N, .slice ao1 len1 cap1]) (t := 24) (fr := (0, 0)) (heap_alloc_new w1 _)) (by simp [Value.oneCell'])
    (by omega) (by unfold maxLen; omega) (by omega) (by simp; omega) _ rfl
  refine ⟨g, cap, w2, hrun, ?_, ?_⟩
  · have hxx : xs = xs0 := by
      rcases hown.2 with ⟨hv, hn⟩ | ⟨g1, cap1', cur1, hv, _, hh, _, _, _, ht⟩
      · have q1 := hown.1
        have q2 := hown0.1
        rw [hn] at q1 q2
        simp at q1 q2
        rw [q1, q2]
      · rcases hown0.2 with ⟨hv2, _⟩ | ⟨g2, cap2, cur2, hv2, _, hh2, _, _, _, ht2⟩
        · rw [hv] at hv2; cases hv2
        · rw [hv] at hv2
          cases hv2
          rw [hX.block g1 (Array.getElem?_eq_some_iff.1 hh2).1, hh2] at hh
          cases hh
          rw [← ht, ← ht2]
    subst hxx
    exact ap_next h hk hX hbase (ho.keep (fun q _ hq => Below.heap_alloc _ _ _ hq) (Nat.le_refl _) (by simp)) hown0 hown2 hgrow hat
  · exact (hX.mono hbase).grown hgrow (by simp; omega) (fun q hq => (ap_block h1 hq).1)


end Go.Proofs.Ythmmapahobkhnaa

/-
  What the model's 'l1Ty' comes to: some tree, not too great, in new memory; the cursor is moved on.
-/
namespace Go.Proofs.Ythmmapahobkhnaa
open Go.RowKit
set_option linter.unusedVariables false
set_option linter.unusedSimpArgs false

theorem ap_more {base : Nat} {w : World} {d : Nat} {v : Value} {k : Nat} {us : List Tr} (h : ApRel base w d v k us) (hk : k = us.length) (t : Tr) : ApRel base w d v k (us ++ [t]) := by
  obtain ⟨xs, hown, bss, hbl, hnd, hrng, hE⟩ := h.own
  refine ⟨xs, hown, bss, hbl, hnd, hrng, fun i hi hi' => ?_⟩
  have hiu : i < us.length := by omega
  obtain ⟨ao, len, cap, c0, c1, c2, hh⟩ := hE i hi hiu
  have e : (us ++ [t])[i] = us[i] := by simp [List.getElem_append_left, hiu]
  rw [e]
  exact ⟨ao, len, cap, c0, c1, c2, hh⟩

end Go.Proofs.Ythmmapahobkhnaa

/-
  What the program's 'parseTyAt' comes to.
-/
namespace Go.Proofs.Ythmmapahobkhnaa
open Go.RowKit
set_option linter.unusedVariables false
set_option linter.unusedSimpArgs false

def SaidPt (lv : Nat) : Prop := ∀ (L B : Nat) (ao : Option Addr) (len cap a : Nat) (T : List (List UInt8)) (w : World), B ≤ w.heap.size → Stx L B w ao len T → len ≤ 1048577 → a ≤ len →
    Calls Try.prog 55 #[.slice ao len cap, .int .i64 a, .int .i64 lv] w fun e w' => ∃ K N ao2 len2 cap2 nx, e = .returned (.tuple #[.agg #[.int .i64 K, .int .i64 N, .slice ao2 len2 cap2], .int .i64 nx, .bool (prs lv (T.drop a)).isSome]) ∧ Below w.heap.size w w' ∧
      ∀ t u, prs lv (T.drop a) = some (t, u) → K = t.K ∧ N = t.N ∧ nx = a + u ∧ OwR w.heap.size w'.heap.size w' lv ao2 len2 t.A

structure PtRel (w wr : World) (r d : Nat) (K N : Int) (v : Value) (us : List Tr) : Prop where
  bel : Below w.heap.size w wr
  res : wr.heap[w.heap.size]? = some (.cells #[.int .i64 0, .int .i64 0, .slice none 0 0] 24 (0, 0))
  out : wr.heap[r]? = some (.cells #[.int .i64 K, .int .i64 N, v] 24 (0, 0))
  ap : ApRel (r + 1) wr d v us.length us

theorem pt_next {w wr w2 : World} {r d : Nat} {K N : Int} {v : Value} {us : List Tr} (h : PtRel w wr r d K N v us) (hr : w.heap.size < r) (hl : us.length ≤ 1000000) (hb : Below wr.heap.size wr w2) (K3 N3 : Int) (ao3 : Option Addr) (len3 cap3 : Nat) (ts3 : List Tr) (ho : OwR wr.heap.size w2.heap.size w2 d ao3 len3 ts3) :
    ∃ g cap w3, (Builtin.append_ #[22, 22] 22 #[v, .slice (some ⟨w2.heap.size + 1, 0, none⟩) 1 1]).run Try.prog ((w2.alloc (.cells #[.int .i64 K3, .int .i64 N3, .slice ao3 len3 cap3] 24)).alloc (.cells #[.int .i64 K3, .int .i64 N3, .slice ao3 len3 cap3] 24)) = .ok (.slice (some ⟨g, 0, none⟩) (us.length + 1) cap) w3 ∧
      w3.cell? ⟨r, 2, none⟩ = some v ∧ w3.frozen? ⟨r, 2, none⟩ = false ∧
      PtRel w (w3.setCell ⟨r, 2, none⟩ (.slice (some ⟨g, 0, none⟩) (us.length + 1) cap)) r d K N (.slice (some ⟨g, 0, none⟩) (us.length + 1) cap) (us ++ [⟨K3, N3, ts3⟩]) := by
  have hrl : r < wr.heap.size := (Array.getElem?_eq_some_iff.1 h.out).1
  have hap := ap_more h.ap rfl ⟨K3, N3, ts3⟩
  have e : (us ++ [(⟨K3, N3, ts3⟩ : Tr)])[us.length]'(by simp) = ⟨K3, N3, ts3⟩ := by simp
  have hA : Below w2.heap.size w2 (w2.alloc (.cells #[.int .i64 K3, .int .i64 N3, .slice ao3 len3 cap3] 24)) := (Below.refl _ _).alloc (Nat.le_refl _) _
  have hrun := ap_run (w1 := w2.alloc (.cells #[.int .i64 K3, .int .i64 N3, .slice ao3 len3 cap3] 24)) (ao1 := ao3) (len1 := len3) (cap1 := cap3) hap (by simp) (by simp; omega) (hb.trans (hA.mono hb.size)) (by omega) (by rw [e]; exact ho.keep (fun q _ hq => hA.block q hq) (Nat.le_refl _) (by simp))
  rw [e] at hrun
  simp only [World.size_alloc] at hrun
  obtain ⟨g, cap, w3, hrun, hap2, hbe⟩ := hrun
  have hz := h.bel.size
  have o3 := (hbe.block r (by omega)).trans h.out
  refine ⟨g, cap, w3, hrun, (box_cells o3).2.2, row_free o3 2, ⟨(h.bel.trans (hbe.mono (by omega))).setCell (p := ⟨r, 2, none⟩) (show w.heap.size ≤ r by omega) _, ?_, ?_, ?_⟩⟩
  · rw [row_other _ _ _ (by omega)]
    exact (hbe.block _ (by omega)).trans h.res
  · rw [row_set o3]; rfl
  · have e2 : (us ++ [(⟨K3, N3, ts3⟩ : Tr)]).length = us.length + 1 := by simp
    rw [e2]
    exact ap_set hap2 (by omega) _

set_option maxRecDepth 100000 in
set_option maxHeartbeats 4000000 in
theorem pt_step (lv : Nat) (hlv : lv ≤ 6) (IH : SaidPt lv) : SaidPt (lv + 1) := by
  intro L B ao len cap a T w hB hT hl ha
  have hX : Below w.heap.size w (w.alloc (.cells #[.int .i64 0, .int .i64 0, .slice none 0 0] 24)) := (Below.refl _ _).alloc (Nat.le_refl _) _
  have HLT : Hid (len = T.length) := hT.1
  have hlv0 : (((lv + 1 : Nat) : Int) == 0) = false := by rw [beq_eq_false_iff_ne]; omega
  have hlv1 : ((lv : Int) + 1 == 0) = false := by rw [beq_eq_false_iff_ne]; omega
  by_cases hae : a = len
  · have hbe : ((a : Int) == (len : Int)) = true := by simp [hae]
    have HN : Hid (prs (lv + 1) (T.drop a) = none) := by
      show _ = _
      rw [List.drop_eq_nil_of_le (by have := HLT.out; omega)]
      rfl
    clear hae
    go_enter Try.func55, Try.ntmps55
    go_wp2_with fail
    refine bodyPost_ret (v := .tuple #[.agg #[.int .i64 0, .int .i64 0, .slice none 0 0], .int .i64 0, .bool false]) (by simp [results, Try.results55, go_sem]) rfl ?_
    exact ⟨0, 0, none, 0, 0, 0, by rw [HN.out]; rfl, hX, fun t u h => by rw [HN.out] at h; cases h⟩
  have hbe : ((a : Int) == (len : Int)) = false := by rw [beq_eq_false_iff_ne]; omega
  have hal : a < len := by omega
  have haT : a < T.length := by have := HLT.out; omega
  obtain ⟨b, o, rfl, hLb, hbB, hc⟩ := hT.2 a haT
  have HD : Hid (T.drop a = T[a] :: T.drop (a + 1)) := List.drop_eq_getElem_cons haT
  have hbl : b < w.heap.size := by omega
  clear hae
  unfold tk at hc
  go_enter Try.func55, Try.ntmps55
  go_wp2_with fail
  refine (tyOfToken_any T[a] _).mono ?_
  rintro e w1 ⟨rfl, hb1⟩
  have hz1 := hb1.size
  simp only [World.size_alloc] at hz1
  have hbw1 : Below w.heap.size w w1 := hX.trans (hb1.mono (by simp))
  have hr1 : w1.heap[w.heap.size]? = some (.cells #[.int .i64 0, .int .i64 0, .slice none 0 0] 24 (0, 0)) := (hb1.block _ (by simp)).trans (heap_new rfl)
  obtain ⟨r0, r1, r2⟩ := box_cells hr1
  have r3 := row_free hr1
  have hlt1 : w.heap.size < w1.heap.size := by omega
  cases htk : tokTy T[a] with
  | none =>
    have HN : Hid (prs (lv + 1) (T.drop a) = none) := by show _ = _; rw [HD.out, prs, htk]
    clear htk
    simp only [Option.getD_none, Option.isSome_none]
    have z : ∀ o : Obj, ((set3 w1 w.heap.size 0 (.int .i64 0) (.int .i64 0) (.slice none 0 0)).alloc o).heap[w.heap.size]? = some (.cells #[.int .i64 0, .int .i64 0, .slice none 0 0] 24 (0, 0)) := fun o => (Below.heap_alloc _ _ _ (by rw [set3_size]; omega)).trans (by rw [set3_row hr1]; rfl)
    have z0 : ∀ o : Obj, ((((w1.setCell ⟨w.heap.size, 0, none⟩ (.int .i64 0)).setCell ⟨w.heap.size, 1, none⟩ (.int .i64 0)).setCell ⟨w.heap.size, 2, none⟩ (.slice none 0 0)).alloc o).cell? ⟨w.heap.size, 0, none⟩ = some (.int .i64 0) := fun o => (box_cells (z o)).1
    have z1 : ∀ o : Obj, ((((w1.setCell ⟨w.heap.size, 0, none⟩ (.int .i64 0)).setCell ⟨w.heap.size, 1, none⟩ (.int .i64 0)).setCell ⟨w.heap.size, 2, none⟩ (.slice none 0 0)).alloc o).cell? ⟨w.heap.size, 1, none⟩ = some (.int .i64 0) := fun o => (box_cells (z o)).2.1
    have z2 : ∀ o : Obj, ((((w1.setCell ⟨w.heap.size, 0, none⟩ (.int .i64 0)).setCell ⟨w.heap.size, 1, none⟩ (.int .i64 0)).setCell ⟨w.heap.size, 2, none⟩ (.slice none 0 0)).alloc o).cell? ⟨w.heap.size, 2, none⟩ = some (.slice none 0 0) := fun o => (box_cells (z o)).2.2
    go_wp2_with fail
    refine bodyPost_ret (v := .tuple #[.agg #[.int .i64 0, .int .i64 0, .slice none 0 0], .int .i64 0, .bool false]) (by simp [results, Try.results55, go_sem, z0, z1, z2]) rfl ?_
    refine ⟨0, 0, none, 0, 0, 0, by rw [HN.out]; rfl, ?_, fun t u h => by rw [HN.out] at h; cases h⟩
    exact (set3_below hbw1 (Nat.le_refl _)).alloc (by rw [set3_size]; omega) _
  | some kn =>
    obtain ⟨k, n⟩ := kn
    have hpk := tok_parts htk
    obtain ⟨m, hmk⟩ : ∃ m : Nat, parts k = m := ⟨(parts k).toNat, by omega⟩
    have hm2 : m ≤ 2 := by omega
    have HPC : Hid (prs (lv + 1) (T.drop a) = (prsN (prs lv) m (T.drop (a + 1))).map fun p => (⟨k, n, p.1⟩, p.2 + 1)) := by
      show _ = _
      rw [HD.out, prs_cons htk, hmk]; rfl
    have HMK : Hid (parts k = m) := hmk
    clear htk hmk hpk
    simp only [Option.getD_some, Option.isSome_some]
    have hA1 : Below w1.heap.size w1 (w1.alloc (.cells #[.int .i64 k, .int .i64 n, .slice none 0 0] 24)) := (Below.refl _ _).alloc (Nat.le_refl _) _
    have hP0 : PtRel w (w1.alloc (.cells #[.int .i64 k, .int .i64 n, .slice none 0 0] 24)) w1.heap.size lv k n (.slice none 0 0) [] := ⟨hbw1.alloc (by omega) _, (hA1.block _ (by omega)).trans hr1, heap_new rfl, ap_nil _ _ _ _⟩
    clear r0 r1 r2 r3 hr1
    go_wp2_with fail
    refine (tyParts_any k _).mono ?_
    rintro e w2 ⟨rfl, rfl⟩
    rw [HMK.out]
    go_wp2_with fail
    go_loopw [1, 39] (fun x y wr => ∃ (j used : Nat) (v : Value) (us : List Tr), x = .int .i64 ((a + 1 + used : Nat) : Int) ∧ y = .int .i64 j ∧ us.length = j ∧ j ≤ m ∧ a + 1 + used ≤ len ∧ PtRel w wr w1.heap.size lv k n v us ∧ Hid (Half (prs lv) m j (T.drop (a + 1)) us used)) (fun _ y _ => m - (intOf y).toNat)
    case atStart => exact ⟨0, 0, _, [], by simp, rfl, rfl, by omega, by omega, hP0, half_start _ _ _⟩
    case round =>
      obtain ⟨j, used, v, us, rfl, rfl, hul, hjm, hau, hI, HH⟩ := hrel
      obtain ⟨ao', cap', rfl⟩ := ap_form hI.ap
      have HUL : Hid (us.length = j) := hul
      have hzI := hI.bel.size
      have hrl : w1.heap.size < wr.heap.size := (Array.getElem?_eq_some_iff.1 hI.out).1
      by_cases hlt : j < m
      · have hTr := hT.below hI.bel hB
        have HDD : Hid (T.drop (a + 1 + used) = (T.drop (a + 1)).drop used) := by show _ = _; rw [List.drop_drop]
        have e1 : ((lv : Int) + 1 - 1) = lv := by omega
        clear hul
        go_wp2_with fail
        refine (IH L B (some ⟨b, o, none⟩) len cap (a + 1 + used) T wr (by omega) hTr hl hau).mono ?_
        rintro e w2 ⟨K3, N3, ao3, len3, cap3, nx, rfl, hb2, hres⟩
        have hz2 := hb2.size
        have hres2 := (hb2.block w.heap.size (by omega)).trans hI.res
        obtain ⟨r0, r1, r2⟩ := box_cells hres2
        have r3 := row_free hres2
        have hout2 := (hb2.block w1.heap.size (by omega)).trans hI.out
        obtain ⟨f0, f1, f2⟩ := box_cells hout2
        have hl2 : w.heap.size < w2.heap.size := by omega
        have hl3 : w1.heap.size < w2.heap.size := by omega
        have hbw2 : Below w.heap.size w w2 := hI.bel.trans (hb2.mono (by omega))
        cases hpr : prs lv (T.drop (a + 1 + used)) with
        | none =>
          have HN : Hid (prs (lv + 1) (T.drop a) = none) := by show _ = _; rw [HPC.out, half_none HH.out hlt (by rw [← HDD.out]; exact hpr)]; rfl
          clear hpr hres
          simp only [Option.isSome_none]
          have z : ∀ o : Obj, ((set3 w2 w.heap.size 0 (.int .i64 0) (.int .i64 0) (.slice none 0 0)).alloc o).heap[w.heap.size]? = some (.cells #[.int .i64 0, .int .i64 0, .slice none 0 0] 24 (0, 0)) := fun o => (Below.heap_alloc _ _ _ (by rw [set3_size]; omega)).trans (by rw [set3_row hres2]; rfl)
          have z0 : ∀ o : Obj, ((((w2.setCell ⟨w.heap.size, 0, none⟩ (.int .i64 0)).setCell ⟨w.heap.size, 1, none⟩ (.int .i64 0)).setCell ⟨w.heap.size, 2, none⟩ (.slice none 0 0)).alloc o).cell? ⟨w.heap.size, 0, none⟩ = some (.int .i64 0) := fun o => (box_cells (z o)).1
          have z1 : ∀ o : Obj, ((((w2.setCell ⟨w.heap.size, 0, none⟩ (.int .i64 0)).setCell ⟨w.heap.size, 1, none⟩ (.int .i64 0)).setCell ⟨w.heap.size, 2, none⟩ (.slice none 0 0)).alloc o).cell? ⟨w.heap.size, 1, none⟩ = some (.int .i64 0) := fun o => (box_cells (z o)).2.1
          have z2 : ∀ o : Obj, ((((w2.setCell ⟨w.heap.size, 0, none⟩ (.int .i64 0)).setCell ⟨w.heap.size, 1, none⟩ (.int .i64 0)).setCell ⟨w.heap.size, 2, none⟩ (.slice none 0 0)).alloc o).cell? ⟨w.heap.size, 2, none⟩ = some (.slice none 0 0) := fun o => (box_cells (z o)).2.2
          go_wp2_with fail
          refine bodyPost_ret (v := .tuple #[.agg #[.int .i64 0, .int .i64 0, .slice none 0 0], .int .i64 0, .bool false]) (by simp [results, Try.results55, go_sem, z0, z1, z2]) rfl ?_
          refine ⟨0, 0, none, 0, 0, 0, by rw [HN.out]; rfl, ?_, fun t u h => by rw [HN.out] at h; cases h⟩
          exact (set3_below hbw2 (Nat.le_refl _)).alloc (by rw [set3_size]; omega) _
        | some tu =>
          obtain ⟨t3, u3⟩ := tu
          obtain ⟨rfl, rfl, rfl, ho3⟩ := hres t3 u3 hpr
          have hle3 := prs_le _ _ _ _ hpr
          rw [List.length_drop] at hle3
          have HHN : Hid (Half (prs lv) m (j + 1) (T.drop (a + 1)) (us ++ [⟨t3.K, t3.N, t3.A⟩]) (used + u3)) := by
            have := half_next HH.out hlt (t := t3) (u := u3) (by rw [← HDD.out]; exact hpr)
            rw [tr_eta]; exact this
          obtain ⟨g, cap4, w3, hrun, q2, q3, hN⟩ := pt_next hI (by omega) (by have := HUL.out; omega) hb2 t3.K t3.N ao3 len3 cap3 t3.A ho3
          have HR : Hid (_ = _) := hrun
          have HLN : Hid ((us ++ [(⟨t3.K, t3.N, t3.A⟩ : Tr)]).length = j + 1) := by show _ = _; simp; exact HUL.out
          have HAU : Hid (a + 1 + (used + u3) ≤ len) := by show _ ≤ _; have := HLT.out; omega
          clear hpr hres hrun hle3 r0 r1 r2 r3
          simp only [Option.isSome_some]
          go_wp2_with (at_builtin; refine list_run HR.out (by rfl) _ _ (by rfl) (by rfl) (by rfl) (by rfl) ?_)
          go_roundw
          case rel => exact ⟨j + 1, used + u3, _, _, by go_num, by go_num, HLN.out, by omega, HAU.out, hN, HHN⟩
          case measure => simp [intOf]; omega
      · have HPR : Hid (prs (lv + 1) (T.drop a) = some (⟨k, n, us⟩, used + 1)) := by show _ = _; rw [HPC.out, half_done HH.out (by omega)]; rfl
        obtain ⟨f0, f1, f2⟩ := box_cells hI.out
        obtain ⟨r0, r1, r2⟩ := box_cells hI.res
        have r3 := row_free hI.res
        obtain ⟨ao5, cap5, e5, ho5⟩ := ap_done hI.ap rfl (by omega)
        cases e5
        clear hul
        go_wp2_with fail
        refine bodyPost_ret (v := .tuple #[.agg #[.int .i64 k, .int .i64 n, .slice ao' us.length cap'], .int .i64 ((a + 1 + used : Nat) : Int), .bool true]) (by simp [results, Try.results55, go_sem, r0, r1, r2]) rfl ?_
        refine ⟨k, n, ao', us.length, cap', _, by rw [HPR.out]; rfl, set3_below hI.bel (Nat.le_refl _), fun t u h => ?_⟩
        rw [HPR.out] at h
        cases h
        refine ⟨rfl, rfl, by omega, ?_⟩
        exact ho5.keep (fun q hq _ => set3_other _ (by omega)) (by omega) (by simp)

theorem pt_zero : SaidPt 0 := by
  intro L B ao len cap a T w hB hT hl ha
  have hX : Below w.heap.size w (w.alloc (.cells #[.int .i64 0, .int .i64 0, .slice none 0 0] 24)) := (Below.refl _ _).alloc (Nat.le_refl _) _
  go_enter Try.func55, Try.ntmps55
  go_wp2_with fail
  refine bodyPost_ret (v := .tuple #[.agg #[.int .i64 0, .int .i64 0, .slice none 0 0], .int .i64 0, .bool false]) (by simp [results, Try.results55, go_sem]) rfl ?_
  exact ⟨0, 0, none, 0, 0, 0, rfl, hX, fun t u h => by simp [prs] at h⟩

theorem pt_any : ∀ lv, lv ≤ 7 → SaidPt lv := by
  intro lv
  induction lv with
  | zero => intro _; exact pt_zero
  | succ lv ih => intro h; exact pt_step lv (by omega) (ih (by omega))

end Go.Proofs.Ythmmapahobkhnaa
