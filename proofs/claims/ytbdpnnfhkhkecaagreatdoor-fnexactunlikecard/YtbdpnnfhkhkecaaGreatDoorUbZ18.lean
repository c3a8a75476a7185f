/-
  'copyTerm' of the program: the same term in memory of its own.
-/
import Derived.Test.YtbdpnnfhkhkecaaGreatDoorUbApM
import Derived.Test.YtbdpnnfhkhkecaaGreatDoorUbOw
import Derived.Deep.RegionHeld3
import Derived.Test.YtbdpnnfhkhkecaaGreatDoorUbZ15
import Derived.Test.YtbdpnnfhkhkecaaGreatDoorUbZ6
import Derived.Test.YtbdpnnfhkhkecaaGreatDoorUbZ8
import Derived.Deep.RegionLaw
import Derived.Sort.AtCall
import Derived.LoopN
namespace Go.Proofs.YtbdpnnfhkhkecaaGreatDoor
open Go.RowKit
set_option linter.unusedVariables false
set_option linter.unusedSimpArgs false

theorem OwR.one {L B L' B' : Nat} {w w' : World} {d d' : Nat} {ao : Option Addr} {len : Nat} {ts : List Tr} (h : OwR L B w d ao len ts) (hd : d ≤ d') (hb : ∀ k, L ≤ k → k < B → w'.heap[k]? = w.heap[k]?) (hL : L' ≤ L) (hB : B ≤ B') : OwR L' B' w' d' ao len ts := (h.deeper hd).keep hb hL hB

theorem pos_d {L B : Nat} {w : World} {D d : Nat} {ao : Option Addr} {len : Nat} {ts : List Tm} (h : Hm L B w D d ao len ts) {j : Nat} (hj : j < ts.length) : d - 1 < d := by
  cases d with
  | zero => obtain ⟨_, rfl⟩ := h; simp at hj
  | succ d => omega

/-- The row behind the field A, whole: it owns its memory. -/
theorem apm_whole {L B base : Nat} {w wr : World} {D D' d : Nat} {ao : Option Addr} {len : Nat} {v : Value} {ts : List Tm} (h : ApRelM base wr D' (d - 1) v len ts) (hm : Hm L B w D d ao len ts) : ∃ a c, v = .slice a len c ∧ OwMR base wr.heap.size wr D' d a len ts := by
  obtain ⟨h1, h2⟩ := hm.len
  obtain ⟨a, c, e, ho⟩ := apm_done h h1 h2
  refine ⟨a, c, e, ?_⟩
  cases d with
  | zero =>
    obtain ⟨h3, h4⟩ := hm
    subst h3
    subst h4
    exact OwMR.nil _ _ _ _ _ _
  | succ d => exact ho

end Go.Proofs.YtbdpnnfhkhkecaaGreatDoor

/-
  What the program's 'mapTys' comes to: a new row, each element what the function that was handed in makes of the old one; and 'copyTy'.
-/
namespace Go.Proofs.YtbdpnnfhkhkecaaGreatDoor
open Go.RowKit
set_option linter.unusedVariables false
set_option linter.unusedSimpArgs false

theorem Tryz.infoTy3 : (Tryz.prog.info? 31).map (fun i => (i.zero, i.size, i.bytes)) = some (some (.agg #[.int .i64 0, .int .i64 0, .slice none 0 0]), 3, 40) := by kernel_rfl

theorem make_ty (len : Nat) (hl : len ≤ 1048576) : ∃ C : Array Value, C.size = len * 3 ∧ ∀ w : World, (Instr.makeSlice 29 (.int .i64 (len : Int)) (.int .i64 (len : Int))).run Tryz.prog w = .ok (.slice (some ⟨w.heap.size, 0, none⟩) len len) (w.alloc (.cells C 31)) := by
  obtain ⟨i0, hi, hz0, hz1, hz2⟩ := info_parts Tryz.infoTy3
  refine ⟨madeCells (Value.cells (.agg #[.int .i64 0, .int .i64 0, .slice none 0 0])) (len * 3), size_madeCells _ _, fun w => ?_⟩
  have := run_make (P := Tryz.prog) (w := w) 29 31 i0 _ Tryz.underlying29 hi hz0 .i64 .i64 (len : Int) (len : Int) (by omega) (by omega) (by rw [hz2]; omega) (by omega)
  rw [hz1] at this
  simpa using this

theorem Hs.up {L B : Nat} {w : World} {d : Nat} {ao : Option Addr} {len : Nat} {ts : List Tr} (h : Hs L B w 0 ao len ts) : Hs L B w (d + 1) ao len ts := by
  obtain ⟨rfl, rfl⟩ := h
  exact ⟨rfl, by omega, fun i hi => by simp at hi⟩

/-- The row of a struct that was made for a result, told anew behind three stores. -/
theorem res_cells {w : World} {g : Nat} {cs : Array Value} {t : TypeId} {a b c : Value} (h : w.heap[g]? = some (.cells cs t (0, 0))) (hc : cs.size = 3) :
    (set3 w g 0 a b c).cell? ⟨g, 0, none⟩ = some a ∧ (set3 w g 0 a b c).cell? ⟨g, 1, none⟩ = some b ∧ (set3 w g 0 a b c).cell? ⟨g, 2, none⟩ = some c := by
  have := set3_cells (o := 0) (a := a) (b := b) (c := c) h (by omega)
  simpa using this

theorem OwR.len0 {L B : Nat} {w : World} {d : Nat} {ao : Option Addr} {len : Nat} (h : OwR L B w d ao len []) : len = 0 := by
  obtain ⟨bs, h1, _⟩ := h
  cases d with
  | zero => exact h1.1
  | succ d =>
    rcases h1 with h1 | ⟨_, _, _, _, hl, _⟩
    · exact h1.1
    · simpa using hl

end Go.Proofs.YtbdpnnfhkhkecaaGreatDoor

/-
  What the program's 'mapTys' comes to: a new row, each element what the function that was handed in makes of the old one; and 'copyTy'.
-/
namespace Go.Proofs.YtbdpnnfhkhkecaaGreatDoor
open Go.RowKit
set_option linter.unusedVariables false
set_option linter.unusedSimpArgs false

/-- What the function that is handed in does at each element, in whatever world that has come of w. -/
def MapCall0 (w : World) (L B d d' : Nat) (ts R : List Tr) : Prop := ∀ i (hi : i < ts.length) (hr : i < R.length) (ao1 : Option Addr) (len1 cap1 : Nat) (w' : World), Below w.heap.size w w' → Hs L B w' d ao1 len1 ts[i].A →
    Calls Tryz.prog 92 #[.agg #[.int .i64 ts[i].K, .int .i64 ts[i].N, .slice ao1 len1 cap1]] w' fun e w'' => ∃ ao2 len2 cap2, e = .returned (.agg #[.int .i64 R[i].K, .int .i64 R[i].N, .slice ao2 len2 cap2]) ∧ Below w'.heap.size w' w'' ∧ OwR w'.heap.size w''.heap.size w'' d' ao2 len2 R[i].A

set_option maxHeartbeats 800000 in
theorem mapTys0_any (L B d d' : Nat) (ao : Option Addr) (len cap : Nat) (ts R : List Tr) (w : World) (hB : B ≤ w.heap.size) (hs : Hs L B w (d + 1) ao len ts) (hl : len ≤ 1048576) (hR : R.length = ts.length) (hcall : MapCall0 w L B d d' ts R) :
    Calls Tryz.prog 93 #[.slice ao len cap, .func (Fn.func 92) #[] #[]] w fun e w' => ∃ ao2 cap2, e = .returned (.slice ao2 len cap2) ∧ Below w.heap.size w w' ∧ OwR w.heap.size w'.heap.size w' (d' + 1) ao2 len R := by
  have HL : Hid (len = ts.length) := hs.1
  have HR : Hid (R.length = ts.length) := hR
  clear hR
  by_cases h0 : len = 0
  · have hb0 : ((len : Int) == 0) = true := by simp [h0]
    have H0 : Hid (len = 0) := h0
    clear h0
    go_enter Tryz.func93, Tryz.ntmps93
    go_wp2_with fail
    go_ret
    have e0 := H0.out
    have eR : R = [] := List.length_eq_zero_iff.1 (by rw [HR.out, ← HL.out]; exact e0)
    subst eR
    subst e0
    exact ⟨none, 0, rfl, Below.refl _ _, OwR.nil _ _ _ _ _⟩
  have hb0 : ((len : Int) == 0) = false := by simp [h0]
  clear h0
  obtain ⟨C, hC, hmk⟩ := make_ty len hl
  go_enter Tryz.func93, Tryz.ntmps93
  go_wp2_with fail
  clear hb0 hmk
  go_loopw [16] (fun i wr => ∃ k : Nat, k ≤ len ∧ i = .int .i64 k ∧ RowRel w wr d' len k R) (fun i _ => len - (intOf i).toNat)
  case atStart => exact ⟨0, by omega, rfl, rr_start hC⟩
  case round =>
    obtain ⟨k, hk, rfl, hR⟩ := hrel
    by_cases hlt : k < len
    · have hlt' : k < ts.length := by have := HL.out; omega
      have hltR : k < R.length := by have := HR.out; omega
      have hbel := hR.bel
      have hsz := hbel.size
      obtain ⟨b, o, rfl, _, hbB, ao1, len1, cap1, c0, c1, c2, hs1⟩ := hs.2.2 k hlt'
      have e0 := (bcell hbel (by omega) _).trans c0
      have e1 := (bcell hbel (by omega) _).trans c1
      have e2 := (bcell hbel (by omega) _).trans c2
      have hba : Below wr.heap.size wr (wr.alloc (.cells #[.int .i64 ts[k].K, .int .i64 ts[k].N, .slice ao1 len1 cap1] 31)) := (Below.refl _ _).alloc (Nat.le_refl _) _
      have hs2 := (hs1.below hbel hB).below hba (by omega)
      go_wp2_with fail
      refine (hcall k hlt' hltR ao1 len1 cap1 _ (hbel.trans (hba.mono hsz)) hs2).mono ?_
      rintro e w1 ⟨ao2, len2, cap2, rfl, hb1, hs3⟩
      have hb1' : Below wr.heap.size wr w1 := hba.trans (hb1.mono (by simp))
      have hN := rr_next (cap1 := cap2) hR hlt hltR hb1' (hs3.keep (fun _ _ _ => rfl) (by simp) (Nat.le_refl _))
      obtain ⟨cs, hrow, hcsz⟩ := rr_row hR hb1'
      have f0 := row_cell hrow (k * 3)
      have f1 := row_cell hrow (k * 3 + 1)
      have f2 := row_cell hrow (k * 3 + 2)
      rw [Array.getElem?_eq_getElem (by omega)] at f0 f1 f2
      have r0 := row_free hrow (k * 3)
      have r1 := row_free hrow (k * 3 + 1)
      have r2 := row_free hrow (k * 3 + 2)
      clear hrow hs3 hR e0 e1 e2
      go_wp2_with fail
      go_roundw
      case rel => exact ⟨k + 1, by omega, by go_num, hN⟩
      case measure => simp [intOf]; omega
    · go_wp2_with fail
      go_ret
      obtain rfl : k = len := by omega
      exact ⟨_, _, rfl, hR.bel, rr_done hR (by rw [HR.out]; exact HL.out) (by omega)⟩

def SaidCp (d : Nat) : Prop := ∀ (L B : Nat) (k n : Int) (ao : Option Addr) (len cap : Nat) (ts : List Tr) (w : World), B ≤ w.heap.size → Hs L B w d ao len ts → cntS ts ≤ 1048576 →
    Calls Tryz.prog 92 #[.agg #[.int .i64 k, .int .i64 n, .slice ao len cap]] w fun e w' => ∃ ao2 len2 cap2, e = .returned (.agg #[.int .i64 k, .int .i64 n, .slice ao2 len2 cap2]) ∧ Below w.heap.size w w' ∧ OwR w.heap.size w'.heap.size w' d ao2 len2 ts

set_option maxHeartbeats 800000 in
theorem copy_of (d d1 : Nat) (hd : d1 = d + 1) (L B : Nat) (k n : Int) (ao : Option Addr) (len cap : Nat) (ts : List Tr) (w : World) (hB : B ≤ w.heap.size) (hs : Hs L B w d1 ao len ts) (hcnt : cntS ts ≤ 1048576)
    (hcall : ∀ w0 : World, Below w.heap.size w w0 → MapCall0 w0 L B d d ts ts) :
    Calls Tryz.prog 92 #[.agg #[.int .i64 k, .int .i64 n, .slice ao len cap]] w fun e w' => ∃ ao2 len2 cap2, e = .returned (.agg #[.int .i64 k, .int .i64 n, .slice ao2 len2 cap2]) ∧ Below w.heap.size w w' ∧ OwR w.heap.size w'.heap.size w' d1 ao2 len2 ts := by
  subst hd
  have hl : len ≤ 1048576 := by have := hs.1; have := cntS_eq ts; omega
  obtain ⟨X, hX⟩ : ∃ X, X = ((w.alloc (.cells #[.int .i64 k, .int .i64 n, .slice ao len cap] 31)).alloc (.cells #[.int .i64 0, .int .i64 0, .slice none 0 0] 31)) := ⟨_, rfl⟩
  have hXs : X.heap.size = w.heap.size + 2 := by rw [hX]; simp
  have hXb : Below w.heap.size w X := by rw [hX]; exact ((Below.refl _ _).alloc (Nat.le_refl _) _).alloc (by simp) _
  have hX0 : X.heap[w.heap.size]? = some (.cells #[.int .i64 k, .int .i64 n, .slice ao len cap] 31 (0, 0)) := by rw [hX, Below.heap_alloc _ _ _ (by simp)]; exact heap_new rfl
  have hX1 : X.heap[w.heap.size + 1]? = some (.cells #[.int .i64 0, .int .i64 0, .slice none 0 0] 31 (0, 0)) := by rw [hX]; exact heap_new (by simp)
  have hs1 := (hs.below hXb hB).drew
  have HX : Hid (X = _) := hX
  have HC : Hid (MapCall0 X.drew L B d d ts ts) := hcall _ hXb.drew
  clear hX hcall
  obtain ⟨p0, p1, p2⟩ := box_cells hX0
  go_enter Tryz.func92, Tryz.ntmps92
  go_wp2_with fail
  rw [← HX.out]
  go_region_held3 (fun w' => w'.cell? ⟨w.heap.size, 0, none⟩ = some (.int .i64 k) ∧ w'.cell? ⟨w.heap.size, 1, none⟩ = some (.int .i64 n) ∧ w'.cell? ⟨w.heap.size, 2, none⟩ = some (.slice ao len cap)) (first | (refine ⟨?_, ?_, ?_⟩; exact p0; exact p1; exact p2) | (refine ⟨?_, ?_, ?_⟩; exact z0; exact z1; exact z2) | (refine ⟨?_, ?_, ?_⟩ <;> simp [World.cell?_setCell_other, z0, z1, z2])) ((go_at_call 93; refine (mapTys0_any L B d d _ _ _ ts ts _ ?_ hs1 hl rfl HC.out).mono ?_; (show B ≤ X.heap.size; omega); rintro e w1 ⟨ao2, cap2, rfl, hb1, hs2⟩; have z0 := (bcell hb1 (show w.heap.size < X.heap.size by omega) 0).trans p0; have z1 := (bcell hb1 (show w.heap.size < X.heap.size by omega) 1).trans p1; have z2 := (bcell hb1 (show w.heap.size < X.heap.size by omega) 2).trans p2; obtain ⟨y0, y1, y2⟩ := box_cells ((hb1.block (w.heap.size + 1) (show w.heap.size + 1 < X.heap.size by omega)).trans hX1); have y3 := row_free ((hb1.block (w.heap.size + 1) (show w.heap.size + 1 < X.heap.size by omega)).trans hX1)))
  all_goals
    have hbw : Below w.heap.size w w1 := hXb.drew.trans (hb1.mono (show w.heap.size ≤ X.heap.size by omega))
    go_wp2_with fail
    refine bodyPost_ret (v := .agg #[.int .i64 k, .int .i64 n, .slice ao2 len cap2]) (by simp [results, Tryz.results92, go_sem, y0, y1, y2]) rfl ⟨ao2, len, cap2, rfl, ?_, ?_⟩
    · exact set3_below hbw (by omega)
    · refine hs2.keep (fun j hj _ => ?_) (show w.heap.size ≤ X.heap.size by omega) (by simp)
      have hj' : X.heap.size ≤ j := hj
      rw [row_other _ _ _ (by omega), row_other _ _ _ (by omega), row_other _ _ _ (by omega)]

theorem copy_any : ∀ d, SaidCp d := by
  intro d
  induction d with
  | zero =>
    intro L B k n ao len cap ts w hB hs hcnt
    have hts := hs.2
    subst hts
    refine (copy_of 0 1 rfl L B k n ao len cap [] w hB hs.up hcnt (fun w0 _ i hi => by simp at hi)).mono ?_
    rintro e w' ⟨ao2, len2, cap2, he, hb, ho⟩
    have h0 := ho.len0
    subst h0
    exact ⟨ao2, 0, cap2, he, hb, OwR.nil _ _ _ _ _⟩
  | succ d ih =>
    intro L B k n ao len cap ts w hB hs hcnt
    refine copy_of d (d + 1) rfl L B k n ao len cap ts w hB hs hcnt (fun w0 hb0 i hi hr ao1 len1 cap1 w' hb' hs' => ?_)
    have hc := cntS_get ts i hi
    exact ih L B _ _ _ _ _ _ _ (by have := hb0.size; have := hb'.size; omega) hs' (by omega)

end Go.Proofs.YtbdpnnfhkhkecaaGreatDoor

/-
  Free names in the model: 'l2Has', 'l2Binds'.
-/
namespace Go.Proofs.YtbdpnnfhkhkecaaGreatDoor
open Go.RowKit
set_option linter.unusedVariables false
set_option linter.unusedSimpArgs false

set_option maxRecDepth 100000 in
set_option maxHeartbeats 1000000 in
theorem l2Has_any {base : Nat} (v : Value) (P : List (List UInt8)) (s : ByteArray) (w : World) (h : Toks base w v P) (hl : P.length ≤ 100000) :
    Calls Tryz.prog 54 #[v, .string s] w fun e w' => e = .returned (.bool (decide (bs s ∈ P))) ∧ w' = w := by
  obtain ⟨ao, cap, rfl⟩ := toks_form h
  go_enter Tryz.func54, Tryz.ntmps54
  go_wp2_with fail
  go_loopw [5] (fun i wr => ∃ j : Nat, j ≤ P.length ∧ i = .int .i64 j ∧ wr = w ∧ Hid (∀ q (hq : q < P.length), q < j → P[q] ≠ bs s)) (fun i _ => P.length - (intOf i).toNat)
  case atStart => exact ⟨0, by omega, rfl, rfl, fun q hq hj => by omega⟩
  case round =>
    obtain ⟨j, hj, rfl, rfl, HN⟩ := hrel
    by_cases hlt : j < P.length
    · obtain ⟨g, cap', e, hg, hgw, hc⟩ := toks_at h j hlt
      injection e with e1 e2 e3
      subst e1
      subst e3
      rw [Nat.zero_add] at hc
      by_cases he : P[j] = bs s
      · have HE : Hid (decide (bs s ∈ P) = true) := by show _ = _; simp; rw [← he]; exact List.getElem_mem hlt
        rw [he, tk_bs] at hc
        clear he
        go_wp2_with fail
        go_ret
        exact ⟨ret_bool HE.out.symm, rfl⟩
      · have HN2 : Hid (∀ q (hq : q < P.length), q < j + 1 → P[q] ≠ bs s) := fun q hq hj2 => by
          by_cases e : q = j
          · subst e; exact he
          · exact HN.out q hq (by omega)
        obtain ⟨z, hz⟩ : ∃ z : ByteArray, tk P[j] = .string z := ⟨_, rfl⟩
        have hzs : ¬ z = s := fun e => he (by
          have : (⟨P[j].toArray⟩ : ByteArray) = z := by simpa [tk] using hz
          rw [e] at this
          rw [← this]; simp [bs])
        have hzl : ¬ z.toList = s.toList := fun e => hzs (ByteArray.ext (by rw [ByteArray.toList_eq, ByteArray.toList_eq] at e; exact Array.toList_inj.1 e))
        have hzb : (z.toList == s.toList) = false := by rw [beq_eq_false_iff_ne]; exact hzl
        rw [hz] at hc
        clear he hz hzl hzs
        go_wp2_with fail
        go_roundw
        case rel => exact ⟨j + 1, by omega, by go_num, by first | rfl | trivial, HN2⟩
        case measure => simp [intOf]; omega
    · have HE : Hid (decide (bs s ∈ P) = false) := by
        show _ = _
        rw [decide_eq_false_iff_not]
        intro hm
        obtain ⟨q, hq, e⟩ := List.getElem_of_mem hm
        exact HN.out q hq (by omega) e
      go_wp2_with fail
      go_ret
      exact ⟨ret_bool HE.out.symm, rfl⟩

end Go.Proofs.YtbdpnnfhkhkecaaGreatDoor

/-
  Free names in the model: 'l2Binds'.
-/
namespace Go.Proofs.YtbdpnnfhkhkecaaGreatDoor
open Go.RowKit
set_option linter.unusedVariables false
set_option linter.unusedSimpArgs false

/-- A slice literal of names: a block of its own. -/
def LitE (w w' : World) (e : Ending) (N : List (List UInt8)) : Prop := ∃ g, e = .returned (.slice (some ⟨g, 0, none⟩) N.length N.length) ∧ Below w.heap.size w w' ∧ w.heap.size ≤ g ∧ w'.heap[g]? = some (.cells (N.map tk).toArray 9 (0, 0))

theorem lit_0 (w : World) (o : Obj) : LitE w ((w.alloc o).alloc (.cells #[] 9)) (.returned (.slice (some ⟨w.heap.size + 1, 0, none⟩) 0 0)) [] :=
  ⟨_, rfl, ((Below.refl _ _).alloc (Nat.le_refl _) _).alloc (by simp) _, by omega, heap_new (by simp)⟩
theorem lit_1 (w : World) (o : Obj) (s : ByteArray) : LitE w ((w.alloc o).alloc (.cells #[.string s] 9)) (.returned (.slice (some ⟨w.heap.size + 1, 0, none⟩) 1 1)) [bs s] :=
  ⟨_, rfl, ((Below.refl _ _).alloc (Nat.le_refl _) _).alloc (by simp) _, by omega, by rw [heap_new (by simp)]; simp [tk_bs]⟩
theorem lit_2 (w : World) (o : Obj) (s z : ByteArray) : LitE w ((w.alloc o).alloc (.cells #[.string s, .string z] 9)) (.returned (.slice (some ⟨w.heap.size + 1, 0, none⟩) 2 2)) [bs s, bs z] :=
  ⟨_, rfl, ((Below.refl _ _).alloc (Nat.le_refl _) _).alloc (by simp) _, by omega, by rw [heap_new (by simp)]; simp [tk_bs]⟩

end Go.Proofs.YtbdpnnfhkhkecaaGreatDoor

/-
  Free names in the model: 'l2Free'.
-/
namespace Go.Proofs.YtbdpnnfhkhkecaaGreatDoor
open Go.RowKit
set_option linter.unusedVariables false
set_option linter.unusedSimpArgs false


theorem freeF_snoc (f : Tm → List (List UInt8) → List (List UInt8) → List (List UInt8)) (k : Int) (s z : List UInt8) (x : Tm) (Bd : List (List UInt8)) : ∀ (xs : List Tm) (i : Nat) (Fr : List (List UInt8)), freeF f k s z i (xs ++ [x]) Bd Fr = f x (Bd ++ bindsW k s z (i + xs.length)) (freeF f k s z i xs Bd Fr) := by
  intro xs
  induction xs with
  | nil => intro i Fr; rfl
  | cons y xs ih =>
    intro i Fr
    show freeF f k s z (i + 1) (xs ++ [x]) Bd _ = _
    rw [ih]
    have e : i + 1 + xs.length = i + (y :: xs).length := by simp; omega
    rw [e]
    rfl

theorem app_none {base : Nat} {w : World} {v : Value} {P : List (List UInt8)} (h : Toks base w v P) (xo : Option Addr) (c : Nat) : (Builtin.append_ #[51, 51] 51 #[v, .slice xo 0 c]).run Tryz.prog w = .ok v w := by
  obtain ⟨i0, hi, hz0, hz1, hz2⟩ := info_parts Tryz.infoStr
  rcases h.2 with ⟨rfl, hn⟩ | ⟨g, cap, cur, rfl, _, _, hnc, _⟩
  · cases xo <;> simp [Builtin.append_, run_underlying Tryz.underlying51, sizeOf, typeInfo, hi, Builtin.lenOf, Builtin.firstCells, loadCells, loadCellsFrom]
  · cases xo <;> simp [Builtin.append_, run_underlying Tryz.underlying51, sizeOf, typeInfo, hi, Builtin.lenOf, Builtin.firstCells, hnc, storeCells, loadCells, loadCellsFrom]

/-- A row behind a row: whatever is appended lies in a row of names, or is none. -/
theorem toks_join {base : Nat} {wr : World} {v : Value} {P : List (List UInt8)} (h : Toks base wr v P) (hb : base ≤ wr.heap.size) (N : List (List UInt8)) (hl : P.length + N.length ≤ 1048577) (xo : Option Addr) (c : Nat)
    (hs : 0 < N.length → ∃ sb, xo = some ⟨sb, 0, none⟩ ∧ ∀ j u, (N.map tk)[j]? = some u → wr.cell? ⟨sb, 0 + j, none⟩ = some u) :
    ∃ v' w2, (Builtin.append_ #[51, 51] 51 #[v, .slice xo N.length c]).run Tryz.prog wr = .ok v' w2 ∧ Toks base w2 v' (P ++ N) ∧ wr.grownBy w2 v.ownBlock ∧ (∀ k, v'.ownBlock = some k → v.ownBlock = some k ∨ k = wr.heap.size) := by
  by_cases hN : 0 < N.length
  · obtain ⟨sb, rfl, hc⟩ := hs hN
    obtain ⟨g, cap, w2, hrun, hT, hg, hat, _⟩ := toks_grow h hb N hN hl sb c hc
    refine ⟨_, w2, hrun, by rw [← List.length_append]  at hT; simpa using hT, hg, fun k hk => ?_⟩
    have e : g = k := by simpa [Value.ownBlock] using hk
    subst e
    exact hat
  · have e : N = [] := List.length_eq_zero_iff.1 (by omega)
    subst e
    exact ⟨v, wr, app_none h xo c, by simpa using h, ⟨rfl, rfl, rfl, Nat.le_refl _, fun _ _ _ => rfl⟩, fun k hk => Or.inl hk⟩

theorem toks_src {base : Nat} {w : World} {ao : Option Addr} {cap : Nat} {P : List (List UInt8)} (h : Toks base w (.slice ao P.length cap) P) (hp : 0 < P.length) : ∃ sb, ao = some ⟨sb, 0, none⟩ ∧ ∀ j u, (P.map tk)[j]? = some u → w.cell? ⟨sb, 0 + j, none⟩ = some u := by
  obtain ⟨g, cp, e, _, _, _⟩ := toks_at h 0 hp
  injection e with e1 e2 e3
  subst e1
  refine ⟨g, rfl, fun j u hu => ?_⟩
  have hj : j < P.length := by have := (List.getElem?_eq_some_iff.1 hu).1; simpa using this
  obtain ⟨g', cp', e', _, _, hc⟩ := toks_at h j hj
  injection e' with e1 e2 e3
  injection e1 with e1
  injection e1 with e1
  subst e1
  rw [hc]
  have : (P.map tk)[j]? = some (tk P[j]) := by simp [hj]
  rw [← this, hu]

/-- The row has grown, and nothing else has changed. -/
theorem ko_grown {vo : Value} {w W w2 : World} {g n cap : Nat} (hW : Below w.heap.size w W) (hg : W.grownBy w2 vo.ownBlock) (hat : vo.ownBlock = some g ∨ g = W.heap.size) : Ko vo w (.slice (some ⟨g, 0, none⟩) n cap) w2 := by
  have hz := hW.size
  refine ⟨hg.os.trans hW.os, hg.tape.trans hW.tape, hg.output.trans hW.output, Nat.le_trans hW.size hg.size, fun k hk hne => (hg.block k (by omega) (fun e => hne e.symm)).trans (hW.block k hk), fun k hk => ?_⟩
  have e : g = k := by simpa [Value.ownBlock] using hk
  subst e
  rcases hat with e | e
  · exact Or.inl e
  · exact Or.inr (by omega)

end Go.Proofs.YtbdpnnfhkhkecaaGreatDoor
