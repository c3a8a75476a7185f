/-
  'l1Look' where the node itself is right: its parts in a loop; then the model's 'TyOk' and 'TyNodes'.
-/
import Derived.Test.YtgckmnchlkgakaaLmaLk
namespace Go.Proofs.Ytgckmnchlkgakaa
open Go.RowKit
set_option linter.unusedVariables false
set_option linter.unusedSimpArgs false

theorem nodesL_part (f : Tr → Option Nat) (l : List Tr) (k : Nat) (h : k < l.length) (m a s : Nat) (hm : nodesL f (l.take k) = some m) (ha : f l[k] = some a) (hs : nodesL f l = some s) : m + a ≤ s := by
  have h1 := nodesL_take f l k h m hm
  rw [ha] at h1
  have e := congrArg (nodesL f) (List.take_append_drop (k + 1) l)
  rw [nodesL_append, h1, hs] at e
  simp only [Option.map_some] at e
  cases hd : nodesL f (l.drop (k + 1)) with
  | none => simp [hd] at e
  | some x => simp [hd] at e; omega

theorem lookOk_some {l c m : Nat} {t : Tr} (h : nodesW l t = some m) : lookOk l c t = decide (c + m ≤ 60) := by simp [lookOk, h]

/-- What the loop over a node's parts keeps. -/
structure LkRel (w wr : World) (l p c j len cap : Nat) (k n : Int) (ao : Option Addr) (m : Nat) (ts : List Tr) : Prop where
  grown : w.grownBy wr (some p)
  box : wr.heap[w.heap.size]? = some (.cells #[.int .i64 k, .int .i64 n, .slice ao len cap] 33 (0, 0))
  cell : wr.heap[p]? = some (.cells #[.int .i64 ((c : Int) + 1 + m)] 3 (0, 0))
  nodes : nodesL (nodesW l) (ts.take j) = some m

set_option maxHeartbeats 1000000 in
theorem lk_yes (l : Nat) (IH : SaidLk l) (d L B p c : Nat) (k n : Int) (ao : Option Addr) (len cap : Nat) (ts : List Tr) (w : World) (hBp : B ≤ p) (hp : p < w.heap.size) (hcell : w.heap[p]? = some (.cells #[.int .i64 c] 3 (0, 0))) (hc : c + 1 ≤ 60) (hl6 : l < 6) (hs : Hs L B w d ao len ts)
    (hyes : nodeOk k n len = true) :
    Calls Try.prog 96 #[.agg #[.int .i64 k, .int .i64 n, .slice ao len cap], .int .i64 ((l : Int) + 1), .pointer (some ⟨p, 0, none⟩)] w fun e w' =>
      e = .returned (.bool (lookOk (l + 1) c ⟨k, n, ts⟩)) ∧ w.grownBy w' (some p) ∧ ∃ c' : Int, w'.heap[p]? = some (.cells #[.int .i64 c'] 3 (0, 0)) ∧ (∀ m, nodesW (l + 1) ⟨k, n, ts⟩ = some m → c + m ≤ 60 → c' = c + m) := by
  have HO : Hid (nodesW (l + 1) ⟨k, n, ts⟩ = (nodesL (nodesW l) ts).map (1 + ·)) := by show _ = _; simp only [nodesW]; rw [← hs.len.1, hyes]; rfl
  have HL : Hid (len = ts.length) := hs.len.1
  have hll := hs.len.2
  have f := row_cell hcell 0
  have r := row_free hcell 0
  simp at f
  have hpn : ¬ w.heap.size = p := by omega
  have hp0 := parts_bd k
  have HW := lk_world hcell hp (.int .i64 ((c : Int) + 1)) #[.int .i64 k, .int .i64 n, .slice ao len cap] 33
  have HWW : Hid (∀ nq, _) := HW
  clear HW hcell
  have hl0 : (((l : Int) + 1) == 0) = false := by simp; omega
  have h60 : decide (60 < (c : Int) + 1) = false := by simp; omega
  have hlen2 := nodeOk_len hyes
  obtain ⟨hlen, hkn⟩ := nodeOk_parts hyes
  have hb : ((len : Int) != parts k) = false := by simp [hlen]
  clear hlen hyes
  have HD : ∃ (b1 b2 : Bool), (k == 3) = b1 ∧ (k != 3) = !b1 ∧ (b1 = true → in01 n = true) ∧ (b1 = false → (n != 0) = b2) ∧ b2 = false := by
    rcases hkn with ⟨hk, hin⟩ | ⟨hk, hn⟩
    · exact ⟨true, false, by simp [hk], by simp [hk], fun _ => hin, by simp, rfl⟩
    · exact ⟨false, false, by simp [hk], by simp [hk], by simp, fun _ => by simp [hn], rfl⟩
  clear hkn
  obtain ⟨b1, b2, hk3, hkn, hin, hn, rfl⟩ := HD
  cases b1
  case' false => (replace hn := hn rfl; clear hin; simp only [Bool.not_false] at hkn)
  case' true => (replace hin := hin rfl; clear hn; simp only [Bool.not_true] at hkn)
  all_goals
    go_enter Try.func96, Try.ntmps96
    go_wp2_with fail
    go_quiet ((first | (go_at_call 101; exact Calls.quiet_of_same (l1Args_any _ _)) | (go_at_call 50; exact Calls.quiet_of_same (l1In_any _ _))))
    go_wp2_with fail
    clear hk3 hkn hb f r h60 hl0
    try clear hin
    try clear hn
    go_loopw [7] (fun i wr => ∃ j m : Nat, j ≤ len ∧ i = .int .i64 j ∧ c + 1 + m ≤ 60 ∧ LkRel w wr l p c j len cap k n ao m ts) (fun i _ => len - (intOf i).toNat)
    case atStart => exact ⟨0, 0, by omega, rfl, by omega, ⟨(HWW.out nq).1, (HWW.out nq).2.2, by have := (HWW.out nq).2.1; simpa using this, rfl⟩⟩
    case round =>
      obtain ⟨j, m, hj, rfl, hm, hR⟩ := hrel
      have hg := hR.grown
      have hsz := hg.size
      have x2 := row_cell hR.box 2
      simp at x2
      by_cases hlt : j < len
      · have hlt' : j < ts.length := by have := HL.out; omega
        obtain ⟨b, o, rfl, _, hbB, ao1, len1, cap1, c0, c1, c2, hs1⟩ := hs.get j hlt'
        have e0 := (gcell hg (by omega) (by omega) _).trans c0
        have e1 := (gcell hg (by omega) (by omega) _).trans c1
        have e2 := (gcell hg (by omega) (by omega) _).trans c2
        have hs2 := hs1.grown hg hBp hp
        have hcl := hR.cell
        have hcl' : wr.heap[p]? = some (.cells #[.int .i64 ((c + 1 + m : Nat) : Int)] 3 (0, 0)) := by rw [hcl]; simp
        have HF : Hid (_ = _) := nodesL_take (nodesW l) ts j hlt' m hR.nodes
        clear hcl
        go_wp2_with fail
        refine (IH _ _ _ _ _ _ _ _ _ _ _ _ hBp (by omega) hcl' (by omega) hs2).mono ?_
        rintro e w2 ⟨rfl, hg2, c', hc2, hc3⟩
        have hg3 := grown_trans hg hg2
        have hbox2 : w2.heap[w.heap.size]? = _ := (hg2.block _ (by have := (Array.getElem?_eq_some_iff.1 hR.box).1; exact this) (by simp; omega)).trans hR.box
        cases hv : lookOk l (c + 1 + m) ⟨ts[j].K, ts[j].N, ts[j].A⟩ with
        | false =>
          clear hc3 hcl'
          go_wp2_with fail
          go_ret
          have hno : lookOk (l + 1) c ⟨k, n, ts⟩ = false := by
            rw [tr_eta] at hv
            unfold lookOk
            rw [HO.out]
            cases hnl : nodesL (nodesW l) ts with
            | none => rfl
            | some s =>
              cases hf : nodesW l ts[j] with
              | none => rw [nodesL_none _ _ j hlt' hf] at hnl; cases hnl
              | some a =>
                have h1 := nodesL_part _ _ j hlt' m a s hR.nodes hf hnl
                rw [lookOk_some hf] at hv
                simp at hv ⊢
                omega
          exact ⟨ret_bool hno.symm, hg3, _, hc2, fun m hm hle => (lookOk_no hno m hm hle).elim⟩
        | true =>
          have hN : ∃ a, nodesW l ts[j] = some a ∧ c + 1 + m + a ≤ 60 ∧ c' = ((c + 1 + m : Nat) : Int) + a := by
            have hv' := hv
            rw [tr_eta] at hv'
            cases hf : nodesW l ts[j] with
            | none => simp [lookOk, hf] at hv'
            | some a =>
              rw [lookOk_some hf] at hv'
              have hle : c + 1 + m + a ≤ 60 := by simpa using hv'
              exact ⟨a, rfl, hle, hc3 a (by rw [tr_eta]; exact hf) hle⟩
          obtain ⟨a, hfa, hle, hce⟩ := hN
          have hT : nodesL (nodesW l) (ts.take (j + 1)) = some (m + a) := by rw [HF.out, hfa]; rfl
          have hR2 : LkRel w w2 l p c (j + 1) len cap k n (some ⟨b, o, none⟩) (m + a) ts := ⟨hg3, hbox2, by rw [hc2, hce]; simp; omega, hT⟩
          clear hc3 hce hT hfa hcl' hc2 hbox2 x2 hR
          go_wp2_with fail
          go_roundw
          case rel => exact ⟨j + 1, m + a, by omega, by go_num, by omega, hR2⟩
          case measure => simp [intOf]; omega
      · have hNn : nodesL (nodesW l) ts = some m := by have h1 := HL.out; have h2 := hR.nodes; rw [List.take_of_length_le (by omega)] at h2; exact h2
        have HN : Hid (nodesL (nodesW l) ts = some m) := hNn
        clear hNn
        have hcl : Hid (_ = _) := hR.cell
        go_wp2_with fail
        go_ret
        have hw : nodesW (l + 1) ⟨k, n, ts⟩ = some (1 + m) := by rw [HO.out, HN.out]; rfl
        refine ⟨ret_bool (by rw [lookOk_some hw]; simp; omega), hg, _, hcl.out, fun m' hm' _ => ?_⟩
        rw [hw] at hm'
        cases hm'
        omega

theorem lk_any : ∀ l, l ≤ 6 → SaidLk l := by
  intro l
  induction l with
  | zero => intro _; exact lk_zero
  | succ l ih =>
    intro h d L B p c k n ao len cap ts w hBp hp hcell hc hs
    have e : ((l + 1 : Nat) : Int) = (l : Int) + 1 := by omega
    rw [e]
    by_cases hno : 60 < c + 1 ∨ nodeOk k n len = false
    · exact lk_no l d L B p c k n ao len cap ts w hBp hp hcell hc (by omega) hs hno
    · exact lk_yes l (ih (by omega)) d L B p c k n ao len cap ts w hBp hp hcell (by omega) (by omega) hs (by simpa using fun h => hno (Or.inr h))

end Go.Proofs.Ytgckmnchlkgakaa
