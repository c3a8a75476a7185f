/-
  What the model's 'l1Text' comes to: the text of a type that is right.
-/
import Derived.Test.YtjikcckggifinaaDoorTtZ33
import Derived.Test.YtjikcckggifinaaDoorTtZ9
import Derived.Laws.IdiomStrings
namespace Go.Proofs.YtjikcckggifinaaDoor
open Go.RowKit
set_option linter.unusedVariables false
set_option linter.unusedSimpArgs false

def SaidLT (l : Nat) : Prop := ∀ (d L B : Nat) (k n : Int) (ao : Option Addr) (len cap : Nat) (ts : List Tr) (m : Nat) (w : World), B ≤ w.heap.size → Hs L B w d ao len ts → nodesW l ⟨k, n, ts⟩ = some m → m ≤ 1000000 →
    Calls Tryd.prog 28 #[.agg #[.int .i64 k, .int .i64 n, .slice ao len cap]] w fun e w' => e = .returned (.string ⟨(textW l ⟨k, n, ts⟩).toArray⟩) ∧ Below w.heap.size w w'

theorem lt_zero : SaidLT 0 := by
  intro d L B k n ao len cap ts m w hB hs hm hm6
  simp [nodesW] at hm

theorem kn_cases' {k n : Int} {len : Nat} (h : nodeOk k n len = true) : k = 1 ∨ k = 2 ∨ (k = 3 ∧ n = 0) ∨ (k = 3 ∧ n = 1) ∨ k = 4 ∨ k = 5 ∨ k = 6 := by
  obtain ⟨h1, h2⟩ := nodeOk_parts h
  have hp : parts k ≠ -1 := by omega
  unfold parts at hp
  unfold in01 at h2
  simp only [decide_eq_true_eq] at h2
  (repeat' split at hp) <;> omega

theorem conv_one (w : World) (g : Nat) (b : UInt8) (x : Int) (hx : x = (b.toNat : Int)) (hg : g = w.heap.size) : (convert 62 9 (.slice (some ⟨g, 0, none⟩) 1 1)).run Tryd.prog (w.alloc (.cells #[.int .u8 x] 5)) = .ok (.string ⟨#[b]⟩) (w.alloc (.cells #[.int .u8 x] 5)) := by
  refine run_convert_bytes_back _ _ _ _ ⟨g, 0, none⟩ 1 [b] Tryd.underlying62 Tryd.underlying5 Tryd.underlying9 ?_
  intro j hj
  have hj0 : j = 0 := by simpa using hj
  subst hj0
  show (w.alloc _).cell? ⟨g, 0, none⟩ = _
  rw [row_cell (heap_new hg), hx]
  rfl

theorem str_three (a b : List UInt8) : (⟨a.toArray⟩ : ByteArray) ++ ⟨#[32]⟩ ++ ⟨b.toArray⟩ = ⟨(a ++ 32 :: b).toArray⟩ := by
  rw [show (⟨#[32]⟩ : ByteArray) = ⟨[32].toArray⟩ from rfl, str_add, str_add, List.append_assoc]
  rfl

set_option maxRecDepth 100000 in
set_option maxHeartbeats 2000000 in
theorem lt_succ (l : Nat) (IH : SaidLT l) : SaidLT (l + 1) := by
  intro d L B k n ao len cap ts m w hB hs hm hm6
  have hl := hs.len.2
  have HL : Hid (len = ts.length) := hs.len.1
  obtain ⟨hok, hparts⟩ := nodesW_inv hm
  have HN : Hid (∀ j (hj : j < ts.length), ∃ a, nodesW l ts[j] = some a ∧ a ≤ 1000000) := fun j hj => by obtain ⟨a, ha⟩ := hparts j hj; exact ⟨a, ha, Nat.le_trans (part_le hm j hj ha) hm6⟩
  have HX : Hid (∀ j (hj : j < ts.length), (textTo l k n ts j).length + 1 + (textW l ts[j]).length ≤ 3000000) := fun j hj => Nat.le_trans (textTo_len hm j hj) (by omega)
  obtain ⟨Y, hY⟩ : ∃ Y, Y = ((w.alloc (.cells #[.int .i64 k, .int .i64 n, .slice ao len cap] 32)).alloc (.cells #[.string ⟨#[]⟩, .string ⟨#[105]⟩, .string ⟨#[98]⟩, .string ⟨#[118]⟩, .string ⟨#[102]⟩, .string ⟨#[112]⟩, .string ⟨#[108]⟩] 9)) := ⟨_, rfl⟩
  have hYs : Y.heap.size = w.heap.size + 1 + 1 := by rw [hY]; simp
  have hYb : Below w.heap.size w Y := by rw [hY]; exact ((Below.refl _ _).alloc (Nat.le_refl _) _).alloc (by simp) _
  have hYc : Y.heap[w.heap.size]? = some (.cells #[.int .i64 k, .int .i64 n, .slice ao len cap] 32 (0, 0)) := by rw [hY, Below.heap_alloc _ _ _ (by simp)]; exact heap_new rfl
  have HY : Hid (Y = _) := hY
  have HK := kn_cases' hok
  clear hY hparts hok hm
  rcases HK with rfl | rfl | ⟨rfl, rfl⟩ | ⟨rfl, rfl⟩ | rfl | rfl | rfl
  · have hZb : Below w.heap.size w Y := hYb
    have hZc : (Y : World).heap[w.heap.size]? = some (.cells #[.int .i64 1, .int .i64 n, .slice ao len cap] 32 (0, 0)) := hYc
    have hZs : w.heap.size < (Y : World).heap.size := by omega
    have HV := HY
    generalize Y = Z at *
    go_enter Tryd.func28, Tryd.ntmps28
    go_wp2_with fail
    rw [← HV.out]
    go_loopw [3, 4] (fun v i wr => ∃ (j : Nat), j ≤ len ∧ i = .int .i64 j ∧ v = .string ⟨(textTo l 1 n ts j).toArray⟩ ∧ Below Z.heap.size Z wr) (fun _ i _ => len - (intOf i).toNat)
    case atStart => exact ⟨0, by omega, rfl, by rw [textTo_zero]; rfl, Below.refl _ _⟩
    case round =>
      obtain ⟨j, hj, rfl, rfl, hbr⟩ := hrel
      have hszr := hbr.size
      obtain ⟨x0, x1, x2⟩ := box_cells ((hbr.block w.heap.size (by omega)).trans hZc)
      have hbw : Below w.heap.size w wr := hZb.trans (hbr.mono (by omega))
      by_cases hlt : j < len
      · have hlt' : j < ts.length := by have := HL.out; omega
        obtain ⟨b, o, rfl, _, hbB, ao1, len1, cap1, c0, c1, c2, hs1⟩ := hs.get j hlt'
        have e0 := (bcell hbw (by omega) _).trans c0
        have e1 := (bcell hbw (by omega) _).trans c1
        have e2 := (bcell hbw (by omega) _).trans c2
        have hs2 := hs1.below hbw hB
        obtain ⟨a, ha, ha6⟩ := HN.out j hlt'
        have hx1 := HX.out j hlt'
        have HA : Hid (nodesW l ⟨ts[j].K, ts[j].N, ts[j].A⟩ = some a) := by show _ = _; rw [tr_eta]; exact ha
        have HS : Hid (textTo l 1 n ts (j + 1) = textTo l 1 n ts j ++ 32 :: textW l ts[j]) := textTo_succ l 1 n ts j hlt'
        clear ha c0 c1 c2
        go_wp2_with fail
        refine (IH _ _ _ _ _ _ _ _ _ _ _ (by omega) hs2 HA.out ha6).mono ?_
        rintro e w2 ⟨rfl, hb2⟩
        rw [tr_eta]
        have hbr2 : Below Z.heap.size Z w2 := hbr.trans (hb2.mono (by omega))
        clear x0 x1 x2 e0 e1 e2
        go_wp2_with fail
        go_roundw
        case rel => exact ⟨j + 1, by omega, by go_num, by rw [HS.out, ← str_three], hbr2⟩
        case measure => simp [intOf]; omega
      · have HE : Hid (textTo l 1 n ts j = textW (l + 1) ⟨1, n, ts⟩) := textTo_all l _ _ ts j (by have := HL.out; omega)
        clear x0 x1
        go_wp2_with fail
        go_ret
        exact ⟨by rw [← HE.out]; rfl, hbw⟩
  · have hZb : Below w.heap.size w Y := hYb
    have hZc : (Y : World).heap[w.heap.size]? = some (.cells #[.int .i64 2, .int .i64 n, .slice ao len cap] 32 (0, 0)) := hYc
    have hZs : w.heap.size < (Y : World).heap.size := by omega
    have HV := HY
    generalize Y = Z at *
    go_enter Tryd.func28, Tryd.ntmps28
    go_wp2_with fail
    rw [← HV.out]
    go_loopw [3, 4] (fun v i wr => ∃ (j : Nat), j ≤ len ∧ i = .int .i64 j ∧ v = .string ⟨(textTo l 2 n ts j).toArray⟩ ∧ Below Z.heap.size Z wr) (fun _ i _ => len - (intOf i).toNat)
    case atStart => exact ⟨0, by omega, rfl, by rw [textTo_zero]; rfl, Below.refl _ _⟩
    case round =>
      obtain ⟨j, hj, rfl, rfl, hbr⟩ := hrel
      have hszr := hbr.size
      obtain ⟨x0, x1, x2⟩ := box_cells ((hbr.block w.heap.size (by omega)).trans hZc)
      have hbw : Below w.heap.size w wr := hZb.trans (hbr.mono (by omega))
      by_cases hlt : j < len
      · have hlt' : j < ts.length := by have := HL.out; omega
        obtain ⟨b, o, rfl, _, hbB, ao1, len1, cap1, c0, c1, c2, hs1⟩ := hs.get j hlt'
        have e0 := (bcell hbw (by omega) _).trans c0
        have e1 := (bcell hbw (by omega) _).trans c1
        have e2 := (bcell hbw (by omega) _).trans c2
        have hs2 := hs1.below hbw hB
        obtain ⟨a, ha, ha6⟩ := HN.out j hlt'
        have hx1 := HX.out j hlt'
        have HA : Hid (nodesW l ⟨ts[j].K, ts[j].N, ts[j].A⟩ = some a) := by show _ = _; rw [tr_eta]; exact ha
        have HS : Hid (textTo l 2 n ts (j + 1) = textTo l 2 n ts j ++ 32 :: textW l ts[j]) := textTo_succ l 2 n ts j hlt'
        clear ha c0 c1 c2
        go_wp2_with fail
        refine (IH _ _ _ _ _ _ _ _ _ _ _ (by omega) hs2 HA.out ha6).mono ?_
        rintro e w2 ⟨rfl, hb2⟩
        rw [tr_eta]
        have hbr2 : Below Z.heap.size Z w2 := hbr.trans (hb2.mono (by omega))
        clear x0 x1 x2 e0 e1 e2
        go_wp2_with fail
        go_roundw
        case rel => exact ⟨j + 1, by omega, by go_num, by rw [HS.out, ← str_three], hbr2⟩
        case measure => simp [intOf]; omega
      · have HE : Hid (textTo l 2 n ts j = textW (l + 1) ⟨2, n, ts⟩) := textTo_all l _ _ ts j (by have := HL.out; omega)
        clear x0 x1
        go_wp2_with fail
        go_ret
        exact ⟨by rw [← HE.out]; rfl, hbw⟩
  · have hZb : Below w.heap.size w (Y.alloc (.cells #[.int .u8 48] 5)) := (hYb.alloc (by omega) _)
    have hZc : ((Y.alloc (.cells #[.int .u8 48] 5)) : World).heap[w.heap.size]? = some (.cells #[.int .i64 3, .int .i64 0, .slice ao len cap] 32 (0, 0)) := by rw [Below.heap_alloc _ _ _ (by omega)]; exact hYc
    have hZs : w.heap.size < ((Y.alloc (.cells #[.int .u8 48] 5)) : World).heap.size := by simp; omega
    have HV : Hid (((Y.alloc (.cells #[.int .u8 48] 5)) : World) = ((w.alloc (.cells #[.int .i64 3, .int .i64 0, .slice ao len cap] 32)).alloc (.cells #[.string ⟨#[]⟩, .string ⟨#[105]⟩, .string ⟨#[98]⟩, .string ⟨#[118]⟩, .string ⟨#[102]⟩, .string ⟨#[112]⟩, .string ⟨#[108]⟩] 9)).alloc (.cells #[.int .u8 48] 5)) := by show _ = _; rw [HY.out]
    have hcv := conv_one ((w.alloc (.cells #[.int .i64 3, .int .i64 0, .slice ao len cap] 32)).alloc (.cells #[.string ⟨#[]⟩, .string ⟨#[105]⟩, .string ⟨#[98]⟩, .string ⟨#[118]⟩, .string ⟨#[102]⟩, .string ⟨#[112]⟩, .string ⟨#[108]⟩] 9)) (w.heap.size + 1 + 1) 48 48 rfl (by simp)
    generalize (Y.alloc (.cells #[.int .u8 48] 5)) = Z at *
    go_enter Tryd.func28, Tryd.ntmps28
    go_wp2_with fail
    rw [← HV.out]
    go_loopw [3, 4] (fun v i wr => ∃ (j : Nat), j ≤ len ∧ i = .int .i64 j ∧ v = .string ⟨(textTo l 3 0 ts j).toArray⟩ ∧ Below Z.heap.size Z wr) (fun _ i _ => len - (intOf i).toNat)
    case atStart => exact ⟨0, by omega, rfl, by rw [textTo_zero]; rfl, Below.refl _ _⟩
    case round =>
      obtain ⟨j, hj, rfl, rfl, hbr⟩ := hrel
      have hszr := hbr.size
      obtain ⟨x0, x1, x2⟩ := box_cells ((hbr.block w.heap.size (by omega)).trans hZc)
      have hbw : Below w.heap.size w wr := hZb.trans (hbr.mono (by omega))
      by_cases hlt : j < len
      · have hlt' : j < ts.length := by have := HL.out; omega
        obtain ⟨b, o, rfl, _, hbB, ao1, len1, cap1, c0, c1, c2, hs1⟩ := hs.get j hlt'
        have e0 := (bcell hbw (by omega) _).trans c0
        have e1 := (bcell hbw (by omega) _).trans c1
        have e2 := (bcell hbw (by omega) _).trans c2
        have hs2 := hs1.below hbw hB
        obtain ⟨a, ha, ha6⟩ := HN.out j hlt'
        have hx1 := HX.out j hlt'
        have HA : Hid (nodesW l ⟨ts[j].K, ts[j].N, ts[j].A⟩ = some a) := by show _ = _; rw [tr_eta]; exact ha
        have HS : Hid (textTo l 3 0 ts (j + 1) = textTo l 3 0 ts j ++ 32 :: textW l ts[j]) := textTo_succ l 3 0 ts j hlt'
        clear ha c0 c1 c2
        go_wp2_with fail
        refine (IH _ _ _ _ _ _ _ _ _ _ _ (by omega) hs2 HA.out ha6).mono ?_
        rintro e w2 ⟨rfl, hb2⟩
        rw [tr_eta]
        have hbr2 : Below Z.heap.size Z w2 := hbr.trans (hb2.mono (by omega))
        clear x0 x1 x2 e0 e1 e2
        go_wp2_with fail
        go_roundw
        case rel => exact ⟨j + 1, by omega, by go_num, by rw [HS.out, ← str_three], hbr2⟩
        case measure => simp [intOf]; omega
      · have HE : Hid (textTo l 3 0 ts j = textW (l + 1) ⟨3, 0, ts⟩) := textTo_all l _ _ ts j (by have := HL.out; omega)
        clear x0 x1
        go_wp2_with fail
        go_ret
        exact ⟨by rw [← HE.out]; rfl, hbw⟩
  · have hZb : Below w.heap.size w (Y.alloc (.cells #[.int .u8 49] 5)) := (hYb.alloc (by omega) _)
    have hZc : ((Y.alloc (.cells #[.int .u8 49] 5)) : World).heap[w.heap.size]? = some (.cells #[.int .i64 3, .int .i64 1, .slice ao len cap] 32 (0, 0)) := by rw [Below.heap_alloc _ _ _ (by omega)]; exact hYc
    have hZs : w.heap.size < ((Y.alloc (.cells #[.int .u8 49] 5)) : World).heap.size := by simp; omega
    have HV : Hid (((Y.alloc (.cells #[.int .u8 49] 5)) : World) = ((w.alloc (.cells #[.int .i64 3, .int .i64 1, .slice ao len cap] 32)).alloc (.cells #[.string ⟨#[]⟩, .string ⟨#[105]⟩, .string ⟨#[98]⟩, .string ⟨#[118]⟩, .string ⟨#[102]⟩, .string ⟨#[112]⟩, .string ⟨#[108]⟩] 9)).alloc (.cells #[.int .u8 49] 5)) := by show _ = _; rw [HY.out]
    have hcv := conv_one ((w.alloc (.cells #[.int .i64 3, .int .i64 1, .slice ao len cap] 32)).alloc (.cells #[.string ⟨#[]⟩, .string ⟨#[105]⟩, .string ⟨#[98]⟩, .string ⟨#[118]⟩, .string ⟨#[102]⟩, .string ⟨#[112]⟩, .string ⟨#[108]⟩] 9)) (w.heap.size + 1 + 1) 49 49 rfl (by simp)
    generalize (Y.alloc (.cells #[.int .u8 49] 5)) = Z at *
    go_enter Tryd.func28, Tryd.ntmps28
    go_wp2_with fail
    rw [← HV.out]
    go_loopw [3, 4] (fun v i wr => ∃ (j : Nat), j ≤ len ∧ i = .int .i64 j ∧ v = .string ⟨(textTo l 3 1 ts j).toArray⟩ ∧ Below Z.heap.size Z wr) (fun _ i _ => len - (intOf i).toNat)
    case atStart => exact ⟨0, by omega, rfl, by rw [textTo_zero]; rfl, Below.refl _ _⟩
    case round =>
      obtain ⟨j, hj, rfl, rfl, hbr⟩ := hrel
      have hszr := hbr.size
      obtain ⟨x0, x1, x2⟩ := box_cells ((hbr.block w.heap.size (by omega)).trans hZc)
      have hbw : Below w.heap.size w wr := hZb.trans (hbr.mono (by omega))
      by_cases hlt : j < len
      · have hlt' : j < ts.length := by have := HL.out; omega
        obtain ⟨b, o, rfl, _, hbB, ao1, len1, cap1, c0, c1, c2, hs1⟩ := hs.get j hlt'
        have e0 := (bcell hbw (by omega) _).trans c0
        have e1 := (bcell hbw (by omega) _).trans c1
        have e2 := (bcell hbw (by omega) _).trans c2
        have hs2 := hs1.below hbw hB
        obtain ⟨a, ha, ha6⟩ := HN.out j hlt'
        have hx1 := HX.out j hlt'
        have HA : Hid (nodesW l ⟨ts[j].K, ts[j].N, ts[j].A⟩ = some a) := by show _ = _; rw [tr_eta]; exact ha
        have HS : Hid (textTo l 3 1 ts (j + 1) = textTo l 3 1 ts j ++ 32 :: textW l ts[j]) := textTo_succ l 3 1 ts j hlt'
        clear ha c0 c1 c2
        go_wp2_with fail
        refine (IH _ _ _ _ _ _ _ _ _ _ _ (by omega) hs2 HA.out ha6).mono ?_
        rintro e w2 ⟨rfl, hb2⟩
        rw [tr_eta]
        have hbr2 : Below Z.heap.size Z w2 := hbr.trans (hb2.mono (by omega))
        clear x0 x1 x2 e0 e1 e2
        go_wp2_with fail
        go_roundw
        case rel => exact ⟨j + 1, by omega, by go_num, by rw [HS.out, ← str_three], hbr2⟩
        case measure => simp [intOf]; omega
      · have HE : Hid (textTo l 3 1 ts j = textW (l + 1) ⟨3, 1, ts⟩) := textTo_all l _ _ ts j (by have := HL.out; omega)
        clear x0 x1
        go_wp2_with fail
        go_ret
        exact ⟨by rw [← HE.out]; rfl, hbw⟩
  · have hZb : Below w.heap.size w Y := hYb
    have hZc : (Y : World).heap[w.heap.size]? = some (.cells #[.int .i64 4, .int .i64 n, .slice ao len cap] 32 (0, 0)) := hYc
    have hZs : w.heap.size < (Y : World).heap.size := by omega
    have HV := HY
    generalize Y = Z at *
    go_enter Tryd.func28, Tryd.ntmps28
    go_wp2_with fail
    rw [← HV.out]
    go_loopw [3, 4] (fun v i wr => ∃ (j : Nat), j ≤ len ∧ i = .int .i64 j ∧ v = .string ⟨(textTo l 4 n ts j).toArray⟩ ∧ Below Z.heap.size Z wr) (fun _ i _ => len - (intOf i).toNat)
    case atStart => exact ⟨0, by omega, rfl, by rw [textTo_zero]; rfl, Below.refl _ _⟩
    case round =>
      obtain ⟨j, hj, rfl, rfl, hbr⟩ := hrel
      have hszr := hbr.size
      obtain ⟨x0, x1, x2⟩ := box_cells ((hbr.block w.heap.size (by omega)).trans hZc)
      have hbw : Below w.heap.size w wr := hZb.trans (hbr.mono (by omega))
      by_cases hlt : j < len
      · have hlt' : j < ts.length := by have := HL.out; omega
        obtain ⟨b, o, rfl, _, hbB, ao1, len1, cap1, c0, c1, c2, hs1⟩ := hs.get j hlt'
        have e0 := (bcell hbw (by omega) _).trans c0
        have e1 := (bcell hbw (by omega) _).trans c1
        have e2 := (bcell hbw (by omega) _).trans c2
        have hs2 := hs1.below hbw hB
        obtain ⟨a, ha, ha6⟩ := HN.out j hlt'
        have hx1 := HX.out j hlt'
        have HA : Hid (nodesW l ⟨ts[j].K, ts[j].N, ts[j].A⟩ = some a) := by show _ = _; rw [tr_eta]; exact ha
        have HS : Hid (textTo l 4 n ts (j + 1) = textTo l 4 n ts j ++ 32 :: textW l ts[j]) := textTo_succ l 4 n ts j hlt'
        clear ha c0 c1 c2
        go_wp2_with fail
        refine (IH _ _ _ _ _ _ _ _ _ _ _ (by omega) hs2 HA.out ha6).mono ?_
        rintro e w2 ⟨rfl, hb2⟩
        rw [tr_eta]
        have hbr2 : Below Z.heap.size Z w2 := hbr.trans (hb2.mono (by omega))
        clear x0 x1 x2 e0 e1 e2
        go_wp2_with fail
        go_roundw
        case rel => exact ⟨j + 1, by omega, by go_num, by rw [HS.out, ← str_three], hbr2⟩
        case measure => simp [intOf]; omega
      · have HE : Hid (textTo l 4 n ts j = textW (l + 1) ⟨4, n, ts⟩) := textTo_all l _ _ ts j (by have := HL.out; omega)
        clear x0 x1
        go_wp2_with fail
        go_ret
        exact ⟨by rw [← HE.out]; rfl, hbw⟩
  · have hZb : Below w.heap.size w Y := hYb
    have hZc : (Y : World).heap[w.heap.size]? = some (.cells #[.int .i64 5, .int .i64 n, .slice ao len cap] 32 (0, 0)) := hYc
    have hZs : w.heap.size < (Y : World).heap.size := by omega
    have HV := HY
    generalize Y = Z at *
    go_enter Tryd.func28, Tryd.ntmps28
    go_wp2_with fail
    rw [← HV.out]
    go_loopw [3, 4] (fun v i wr => ∃ (j : Nat), j ≤ len ∧ i = .int .i64 j ∧ v = .string ⟨(textTo l 5 n ts j).toArray⟩ ∧ Below Z.heap.size Z wr) (fun _ i _ => len - (intOf i).toNat)
    case atStart => exact ⟨0, by omega, rfl, by rw [textTo_zero]; rfl, Below.refl _ _⟩
    case round =>
      obtain ⟨j, hj, rfl, rfl, hbr⟩ := hrel
      have hszr := hbr.size
      obtain ⟨x0, x1, x2⟩ := box_cells ((hbr.block w.heap.size (by omega)).trans hZc)
      have hbw : Below w.heap.size w wr := hZb.trans (hbr.mono (by omega))
      by_cases hlt : j < len
      · have hlt' : j < ts.length := by have := HL.out; omega
        obtain ⟨b, o, rfl, _, hbB, ao1, len1, cap1, c0, c1, c2, hs1⟩ := hs.get j hlt'
        have e0 := (bcell hbw (by omega) _).trans c0
        have e1 := (bcell hbw (by omega) _).trans c1
        have e2 := (bcell hbw (by omega) _).trans c2
        have hs2 := hs1.below hbw hB
        obtain ⟨a, ha, ha6⟩ := HN.out j hlt'
        have hx1 := HX.out j hlt'
        have HA : Hid (nodesW l ⟨ts[j].K, ts[j].N, ts[j].A⟩ = some a) := by show _ = _; rw [tr_eta]; exact ha
        have HS : Hid (textTo l 5 n ts (j + 1) = textTo l 5 n ts j ++ 32 :: textW l ts[j]) := textTo_succ l 5 n ts j hlt'
        clear ha c0 c1 c2
        go_wp2_with fail
        refine (IH _ _ _ _ _ _ _ _ _ _ _ (by omega) hs2 HA.out ha6).mono ?_
        rintro e w2 ⟨rfl, hb2⟩
        rw [tr_eta]
        have hbr2 : Below Z.heap.size Z w2 := hbr.trans (hb2.mono (by omega))
        clear x0 x1 x2 e0 e1 e2
        go_wp2_with fail
        go_roundw
        case rel => exact ⟨j + 1, by omega, by go_num, by rw [HS.out, ← str_three], hbr2⟩
        case measure => simp [intOf]; omega
      · have HE : Hid (textTo l 5 n ts j = textW (l + 1) ⟨5, n, ts⟩) := textTo_all l _ _ ts j (by have := HL.out; omega)
        clear x0 x1
        go_wp2_with fail
        go_ret
        exact ⟨by rw [← HE.out]; rfl, hbw⟩
  · have hZb : Below w.heap.size w Y := hYb
    have hZc : (Y : World).heap[w.heap.size]? = some (.cells #[.int .i64 6, .int .i64 n, .slice ao len cap] 32 (0, 0)) := hYc
    have hZs : w.heap.size < (Y : World).heap.size := by omega
    have HV := HY
    generalize Y = Z at *
    go_enter Tryd.func28, Tryd.ntmps28
    go_wp2_with fail
    rw [← HV.out]
    go_loopw [3, 4] (fun v i wr => ∃ (j : Nat), j ≤ len ∧ i = .int .i64 j ∧ v = .string ⟨(textTo l 6 n ts j).toArray⟩ ∧ Below Z.heap.size Z wr) (fun _ i _ => len - (intOf i).toNat)
    case atStart => exact ⟨0, by omega, rfl, by rw [textTo_zero]; rfl, Below.refl _ _⟩
    case round =>
      obtain ⟨j, hj, rfl, rfl, hbr⟩ := hrel
      have hszr := hbr.size
      obtain ⟨x0, x1, x2⟩ := box_cells ((hbr.block w.heap.size (by omega)).trans hZc)
      have hbw : Below w.heap.size w wr := hZb.trans (hbr.mono (by omega))
      by_cases hlt : j < len
      · have hlt' : j < ts.length := by have := HL.out; omega
        obtain ⟨b, o, rfl, _, hbB, ao1, len1, cap1, c0, c1, c2, hs1⟩ := hs.get j hlt'
        have e0 := (bcell hbw (by omega) _).trans c0
        have e1 := (bcell hbw (by omega) _).trans c1
        have e2 := (bcell hbw (by omega) _).trans c2
        have hs2 := hs1.below hbw hB
        obtain ⟨a, ha, ha6⟩ := HN.out j hlt'
        have hx1 := HX.out j hlt'
        have HA : Hid (nodesW l ⟨ts[j].K, ts[j].N, ts[j].A⟩ = some a) := by show _ = _; rw [tr_eta]; exact ha
        have HS : Hid (textTo l 6 n ts (j + 1) = textTo l 6 n ts j ++ 32 :: textW l ts[j]) := textTo_succ l 6 n ts j hlt'
        clear ha c0 c1 c2
        go_wp2_with fail
        refine (IH _ _ _ _ _ _ _ _ _ _ _ (by omega) hs2 HA.out ha6).mono ?_
        rintro e w2 ⟨rfl, hb2⟩
        rw [tr_eta]
        have hbr2 : Below Z.heap.size Z w2 := hbr.trans (hb2.mono (by omega))
        clear x0 x1 x2 e0 e1 e2
        go_wp2_with fail
        go_roundw
        case rel => exact ⟨j + 1, by omega, by go_num, by rw [HS.out, ← str_three], hbr2⟩
        case measure => simp [intOf]; omega
      · have HE : Hid (textTo l 6 n ts j = textW (l + 1) ⟨6, n, ts⟩) := textTo_all l _ _ ts j (by have := HL.out; omega)
        clear x0 x1
        go_wp2_with fail
        go_ret
        exact ⟨by rw [← HE.out]; rfl, hbw⟩

theorem lt_any (l : Nat) : SaidLT l := by
  induction l with
  | zero => exact lt_zero
  | succ l ih => exact lt_succ l ih

end Go.Proofs.YtjikcckggifinaaDoor
