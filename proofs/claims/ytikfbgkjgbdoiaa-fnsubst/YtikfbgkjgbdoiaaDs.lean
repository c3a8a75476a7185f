/-
  What the model's 'DrawSubstTy' comes to: some type and some types.
-/
import Derived.Test.YtikfbgkjgbdoiaaTsL
namespace Go.Proofs.Ytikfbgkjgbdoiaa
open Go.RowKit
set_option linter.unusedVariables false
set_option linter.unusedSimpArgs false

theorem Bts.below {w w' : World} {cao : Option Addr} {clen : Nat} (h : Bts w cao clen) (hb : Below w.heap.size w w') : Bts w' cao clen := by
  intro j hj
  obtain ⟨b, o, x, e, hbw, hx, r⟩ := h j hj
  have := hb.size
  exact ⟨b, o, x, e, by omega, (World.cell?_of_block (hb.block b hbw)).trans hx, r⟩

theorem below_drw {w wr w1 : World} {p : Nat} {cao : Option Addr} {clen ccap : Nat} (hb : Below w.heap.size w wr) (hD : Drw wr w1 p cao clen ccap) (hp : w.heap.size ≤ p) : Below w.heap.size w w1 :=
  ⟨hD.grown.os.trans hb.os, hD.grown.tape.trans hb.tape, hD.grown.output.trans hb.output, Nat.le_trans hb.size hD.grown.size, fun i hi => (hD.grown.block i (Nat.lt_of_lt_of_le hi hb.size) (by simp; omega)).trans (hb.block i hi)⟩

/-- What the drawing of types has in memory, behind the first one. -/
structure DsRel (w2 wr : World) (p : Nat) (cao : Option Addr) (clen ccap : Nat) (K N : Int) (s v : Value) (us : List Tr) : Prop where
  drw : Drw w2 wr p cao clen ccap
  tb : wr.heap[w2.heap.size]? = some (.cells #[.int .i64 K, .int .i64 N, s] 32 (0, 0))
  ts : TsRel (w2.heap.size + 1) wr 10 v us
  cnt : ∀ u ∈ us, cntS u.A ≤ 261

theorem ds_size {w2 wr : World} {p : Nat} {cao : Option Addr} {clen ccap : Nat} {K N : Int} {s v : Value} {us : List Tr} (h : DsRel w2 wr p cao clen ccap K N s v us) : w2.heap.size + 1 ≤ wr.heap.size := by
  have := (Array.getElem?_eq_some_iff.1 h.tb).1
  omega

theorem ds_start {w2 w6 : World} {p : Nat} {cao : Option Addr} {clen ccap : Nat} {K N : Int} {s : Value} (hc : Cur w2 p cao clen ccap)
    (hD : Drw (((w2.alloc (.cells #[.int .i64 K, .int .i64 N, s] 32)).alloc (.cells #[] 32)).alloc (.cells #[.int .i64 2, .int .i64 2, .int .i64 1, .int .i64 0, .int .i64 3] 3)) w6 p cao clen ccap) :
    DsRel w2 w6 p cao clen ccap K N s (.slice (some ⟨w2.heap.size + 1, 0, none⟩) 0 0) [] := by
  have hp := hc.lt
  have hA : Below w2.heap.size w2 (((w2.alloc (.cells #[.int .i64 K, .int .i64 N, s] 32)).alloc (.cells #[] 32)).alloc (.cells #[.int .i64 2, .int .i64 2, .int .i64 1, .int .i64 0, .int .i64 3] 3)) := (((Below.refl _ _).alloc (Nat.le_refl _) _).alloc (by simp) _).alloc (by simp; omega) _
  have h0 : (((w2.alloc (.cells #[.int .i64 K, .int .i64 N, s] 32)).alloc (.cells #[] 32)).alloc (.cells #[.int .i64 2, .int .i64 2, .int .i64 1, .int .i64 0, .int .i64 3] 3)).heap[w2.heap.size]? = some (.cells #[.int .i64 K, .int .i64 N, s] 32 (0, 0)) := by
    rw [Below.heap_alloc _ _ _ (by simp; omega), Below.heap_alloc _ _ _ (by simp)]; exact heap_new rfl
  have h1 : (((w2.alloc (.cells #[.int .i64 K, .int .i64 N, s] 32)).alloc (.cells #[] 32)).alloc (.cells #[.int .i64 2, .int .i64 2, .int .i64 1, .int .i64 0, .int .i64 3] 3)).heap[w2.heap.size + 1]? = some (.cells #[] 32 (0, 0)) := by
    rw [Below.heap_alloc _ _ _ (by simp)]; exact heap_new (by simp)
  refine ⟨⟨grown_trans' (grown_below _ hA) hD.grown, hD.cur⟩, (hD.grown.block _ (by simp; omega) (by simp; omega)).trans h0, ⟨[], ⟨rfl, Or.inr ⟨w2.heap.size + 1, 0, #[], rfl, Nat.le_refl _, (hD.grown.block _ (by simp) (by simp; omega)).trans h1, by simp, by unfold maxLen; simp, by simp, by simp⟩⟩, fun i hi => by simp at hi⟩, fun u hu => by simp at hu⟩

theorem ds_push {w2 wr w1 : World} {p : Nat} {cao : Option Addr} {clen ccap : Nat} {K N : Int} {s v : Value} {us : List Tr} (h : DsRel w2 wr p cao clen ccap K N s v us) (hp : p < w2.heap.size) (hl : us.length ≤ 1000000) (hD : Drw wr w1 p cao clen ccap) (K3 N3 : Int) (ao3 : Option Addr) (len3 cap3 : Nat) (ts3 : List Tr) (hs : Hs wr.heap.size w1.heap.size w1 10 ao3 len3 ts3) (hc : cntS ts3 ≤ 261) :
    ∃ g cap' w3, (Builtin.append_ #[30, 30] 30 #[v, .slice (some ⟨w1.heap.size, 0, none⟩) 1 1]).run Try.prog (w1.alloc (.cells #[.int .i64 K3, .int .i64 N3, .slice ao3 len3 cap3] 32)) = .ok (.slice (some ⟨g, 0, none⟩) (us.length + 1) cap') w3 ∧
      DsRel w2 w3 p cao clen ccap K N s (.slice (some ⟨g, 0, none⟩) (us.length + 1) cap') (us ++ [⟨K3, N3, ts3⟩]) := by
  have hz := ds_size h
  obtain ⟨g, cap', w3, hrun, hT, hlo⟩ := ts_push h.ts (Sm.grown hD.grown (by omega)) hz hl K3 N3 ao3 len3 cap3 ts3 hs
  have hDw := h.drw.trans hD
  refine ⟨g, cap', w3, hrun, ⟨⟨⟨hlo.os.trans hDw.grown.os, hlo.tape.trans hDw.grown.tape, hlo.output.trans hDw.grown.output, Nat.le_trans hDw.grown.size hlo.size, fun q hq hne => (hlo.block q (by omega)).trans (hDw.grown.block q hq hne)⟩, hDw.cur.keep fun q hq => hlo.block q (by omega)⟩, ?_, hT, fun u hu => ?_⟩⟩
  · exact (hlo.block _ (by omega)).trans ((hD.grown.block _ (by omega) (by simp; omega)).trans h.tb)
  · rw [List.mem_append] at hu
    rcases hu with hu | hu
    · exact h.cnt u hu
    · simp at hu; rw [hu]; exact hc

set_option maxRecDepth 100000 in
set_option maxHeartbeats 4000000 in
theorem drawSubst_any (cao : Option Addr) (clen ccap : Nat) (w : World) (hb : Bts w cao clen) (hl : clen ≤ 1048576) :
    Calls Try.prog 29 #[.slice cao clen ccap] w fun e w' => ∃ K N ao len cap ts sao slen scap us, e = .returned (.tuple #[.agg #[.int .i64 K, .int .i64 N, .slice ao len cap], .slice sao slen scap]) ∧ Below w.heap.size w w' ∧
      Hs w.heap.size w'.heap.size w' 11 ao len ts ∧ Hs w.heap.size w'.heap.size w' 11 sao slen us ∧ cntS ts ≤ 261 ∧ us.length ≤ 3 ∧ ∀ u ∈ us, cntS u.A ≤ 261 := by
  have hX : Below w.heap.size w (w.alloc (.cells #[.int .i64 0, .int .i64 0, .slice none 0 0] 32)) := (Below.refl _ _).alloc (Nat.le_refl _) _
  go_enter Try.func29, Try.ntmps29
  go_wp2_with fail
  refine (l1New_any cao clen ccap _ (hb.below hX) hl).mono ?_
  rintro e w1 ⟨p, rfl, hb1, hpw, hc1⟩
  simp only [World.size_alloc] at hpw
  have hz1 := hb1.size
  simp only [World.size_alloc] at hz1
  have hr1 : w1.heap[w.heap.size]? = some (.cells #[.int .i64 0, .int .i64 0, .slice none 0 0] 32 (0, 0)) := (hb1.block _ (by simp)).trans (heap_new rfl)
  have hbw1 : Below w.heap.size w w1 := hX.trans (hb1.mono (by simp))
  go_wp2_with fail
  refine (l1Any_any p cao clen ccap _ hc1).mono ?_
  rintro e w2 ⟨K, N, ao, len, cap, ts, rfl, hD2, hs2, hcn2⟩
  have hp1 := hc1.lt
  have hz2 := hD2.grown.size
  have hr2 := (hD2.grown.block w.heap.size (by omega) (by simp; omega)).trans hr1
  have hbw2 : Below w.heap.size w w2 := below_drw hbw1 hD2 (by omega)
  have hA : Below w2.heap.size w2 (((w2.alloc (.cells #[.int .i64 K, .int .i64 N, .slice ao len cap] 32)).alloc (.cells #[] 32)).alloc (.cells #[.int .i64 2, .int .i64 2, .int .i64 1, .int .i64 0, .int .i64 3] 3)) := (((Below.refl _ _).alloc (Nat.le_refl _) _).alloc (by simp) _).alloc (by simp; omega) _
  have HCN : Hid (cntS ts ≤ 261) := hcn2
  clear hcn2 hb1
  go_wp2_with fail
  refine (l1Int_any p cao clen ccap (w2.heap.size + 1 + 1) 5 5 [2, 2, 1, 0, 3] _ (hD2.cur.below hA) (by exact heap_new (by simp)) (by omega) rfl (by omega) (by omega)).mono ?_
  rintro e w6 ⟨x, rfl, hx, hD6⟩
  have hS := ds_start hD2.cur hD6
  obtain ⟨j0, hj0, hj3⟩ : ∃ j0 : Nat, x = j0 ∧ j0 ≤ 3 := by
    simp at hx
    rcases hx with rfl | rfl | rfl | rfl
    · exact ⟨2, rfl, by omega⟩
    · exact ⟨1, rfl, by omega⟩
    · exact ⟨0, rfl, by omega⟩
    · exact ⟨3, rfl, by omega⟩
  subst hj0
  clear hx hD6 hA
  go_wp2_with fail
  go_loopw [6, 7] (fun sv i wr => ∃ (v : Value) (us : List Tr) (j : Nat), sv = v ∧ i = .int .i64 j ∧ us.length + j ≤ 3 ∧ DsRel w2 wr p cao clen ccap K N (.slice ao len cap) v us) (fun _ i _ => (intOf i).toNat)
  case atStart => exact ⟨_, [], j0, rfl, rfl, by simpa using hj3, hS⟩
  case round =>
    obtain ⟨v, us, j, rfl, rfl, hj, hI⟩ := hrel
    obtain ⟨ao', cap', rfl⟩ := ts_form hI.ts
    by_cases hlt : 0 < j
    · go_wp2_with fail
      refine (l1Any_any p cao clen ccap _ hI.drw.cur).mono ?_
      rintro e w3 ⟨K3, N3, ao3, len3, cap3, ts3, rfl, hD3, hs3, hcn3⟩
      obtain ⟨g, cap4, w4, hrun, hN⟩ := ds_push hI (by omega) (by omega) hD3 K3 N3 ao3 len3 cap3 ts3 hs3 hcn3
      have HR : Hid (_ = _) := hrun
      have HLN : Hid ((us ++ [(⟨K3, N3, ts3⟩ : Tr)]).length + (j - 1) ≤ 3) := by show _ ≤ _; simp; omega
      clear hrun
      go_wp2_with (at_builtin; refine list_run HR.out (by rfl) _ _ (by rfl) (by rfl) (by rfl) (by rfl) ?_)
      go_roundw
      case rel => exact ⟨_, _, j - 1, rfl, by go_num, HLN.out, hN⟩
      case measure => simp [intOf]; omega
    · obtain ⟨ao5, cap5, e5, hsU⟩ := ts_done hI.ts (by omega)
      cases e5
      obtain ⟨f0, f1, f2⟩ := box_cells hI.tb
      have hrr := (hI.drw.grown.block w.heap.size (by omega) (by simp; omega)).trans hr2
      obtain ⟨q0, q1, q2⟩ := box_cells hrr
      have q3 := row_free hrr
      have hsT := hs2.drw hI.drw (by omega) (Nat.le_refl _)
      have hbwr : Below w.heap.size w wr := below_drw hbw2 hI.drw (by omega)
      have hzz := ds_size hI
      go_wp2_with fail
      refine bodyPost_ret (v := .tuple #[.agg #[.int .i64 K, .int .i64 N, .slice ao len cap], .slice ao' us.length cap']) (by simp [results, Try.results29, go_sem, q0, q1, q2]) rfl ?_
      refine ⟨K, N, ao, len, cap, ts, ao', us.length, cap', us, rfl, set3_below hbwr (Nat.le_refl _), ?_, ?_, HCN.out, by omega, hI.cnt⟩
      · exact (hsT.keep (fun q hq _ => set3_other _ (by omega)) (by omega) (by simp; omega)).deeper (by omega)
      · exact hsU.keep (fun q hq _ => set3_other _ (by omega)) (by omega) (by simp)

end Go.Proofs.Ytikfbgkjgbdoiaa
