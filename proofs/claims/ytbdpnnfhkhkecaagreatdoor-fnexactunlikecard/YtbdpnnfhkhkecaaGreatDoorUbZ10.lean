/-
  'l1Look' where the node itself is right: its parts in a loop; then the model's 'TyOk' and 'TyNodes'.
-/
import Derived.Test.YtbdpnnfhkhkecaaGreatDoorUbLk
import Derived.Lib.Join
namespace Go.Proofs.YtbdpnnfhkhkecaaGreatDoor
open Go.RowKit
set_option linter.unusedVariables false
set_option linter.unusedSimpArgs false

theorem nodesL_part (f : Tr → Option Nat) (l : List Tr) (k : Nat) (h : k < l.length) (m a s : Nat) (hm : nodesL f (l.take k) = some m) (ha : f l[k] = some a) (hs : nodesL f l = some s) : m + a ≤ s := by
  have h1 := nodesL_take f l k h m hm
  rw [ha] at h1
  have e := congrArg (nodesL f) (List.take_append_drop (k + 1) l)
  rw [nodesL_append, h1, hs] at e
  simp only [Option.map_some] at e
  cases hd : nodesL f (l.drop (k + 1)) with
  | none => simp [hd] at e
  | some x => simp [hd] at e; omega

theorem lookOk_some {l c m : Nat} {t : Tr} (h : nodesW l t = some m) : lookOk l c t = decide (c + m ≤ 60) := by simp [lookOk, h]

/-- What the loop over a node's parts keeps. -/
structure LkRel (w wr : World) (l p c j len cap : Nat) (k n : Int) (ao : Option Addr) (m : Nat) (ts : List Tr) : Prop where
  grown : w.grownBy wr (some p)
  box : wr.heap[w.heap.size]? = some (.cells #[.int .i64 k, .int .i64 n, .slice ao len cap] 31 (0, 0))
  cell : wr.heap[p]? = some (.cells #[.int .i64 ((c : Int) + 1 + m)] 3 (0, 0))
  nodes : nodesL (nodesW l) (ts.take j) = some m

set_option maxHeartbeats 1000000 in
theorem lk_yes (l : Nat) (IH : SaidLk l) (d L B p c : Nat) (k n : Int) (ao : Option Addr) (len cap : Nat) (ts : List Tr) (w : World) (hBp : B ≤ p) (hp : p < w.heap.size) (hcell : w.heap[p]? = some (.cells #[.int .i64 c] 3 (0, 0))) (hc : c + 1 ≤ 60) (hl6 : l < 6) (hs : Hs L B w d ao len ts)
    (hyes : nodeOk k n len = true) :
    Calls Tryz.prog 140 #[.agg #[.int .i64 k, .int .i64 n, .slice ao len cap], .int .i64 ((l : Int) + 1), .pointer (some ⟨p, 0, none⟩)] w fun e w' =>
      e = .returned (.bool (lookOk (l + 1) c ⟨k, n, ts⟩)) ∧ w.grownBy w' (some p) ∧ ∃ c' : Int, w'.heap[p]? = some (.cells #[.int .i64 c'] 3 (0, 0)) ∧ (∀ m, nodesW (l + 1) ⟨k, n, ts⟩ = some m → c + m ≤ 60 → c' = c + m) := by
  have HO : Hid (nodesW (l + 1) ⟨k, n, ts⟩ = (nodesL (nodesW l) ts).map (1 + ·)) := by show _ = _; simp only [nodesW]; rw [← hs.len.1, hyes]; rfl
  have HL : Hid (len = ts.length) := hs.len.1
  have hll := hs.len.2
  have f := row_cell hcell 0
  have r := row_free hcell 0
  simp at f
  have hpn : ¬ w.heap.size = p := by omega
  have hp0 := parts_bd k
  have HW := lk_world hcell hp (.int .i64 ((c : Int) + 1)) #[.int .i64 k, .int .i64 n, .slice ao len cap] 31
  have HWW : Hid (∀ nq, _) := HW
  clear HW hcell
  have hl0 : (((l : Int) + 1) == 0) = false := by simp; omega
  have h60 : decide (60 < (c : Int) + 1) = false := by simp; omega
  have hlen2 := nodeOk_len hyes
  obtain ⟨hlen, hkn⟩ := nodeOk_parts hyes
  have hb : ((len : Int) != parts k) = false := by simp [hlen]
  clear hlen hyes
  have HD : ∃ (b1 b2 : Bool), (k == 3) = b1 ∧ (k != 3) = !b1 ∧ (b1 = true → in01 n = true) ∧ (b1 = false → (n != 0) = b2) ∧ b2 = false := by
    rcases hkn with ⟨hk, hin⟩ | ⟨hk, hn⟩
    · exact ⟨true, false, by simp [hk], by simp [hk], fun _ => hin, by simp, rfl⟩
    · exact ⟨false, false, by simp [hk], by simp [hk], by simp, fun _ => by simp [hn], rfl⟩
  clear hkn
  obtain ⟨b1, b2, hk3, hkn, hin, hn, rfl⟩ := HD
  cases b1
  case' false => (replace hn := hn rfl; clear hin; simp only [Bool.not_false] at hkn)
  case' true => (replace hin := hin rfl; clear hn; simp only [Bool.not_true] at hkn)
  all_goals
    go_enter Tryz.func140, Tryz.ntmps140
    go_wp2_with fail
    go_quiet ((first | (go_at_call 136; exact Calls.quiet_of_same (l1Args_any _ _)) | (go_at_call 139; exact Calls.quiet_of_same (l1In_any _ _))))
    go_wp2_with fail
    clear hk3 hkn hb f r h60 hl0
    try clear hin
    try clear hn
    go_loopw [7] (fun i wr => ∃ j m : Nat, j ≤ len ∧ i = .int .i64 j ∧ c + 1 + m ≤ 60 ∧ LkRel w wr l p c j len cap k n ao m ts) (fun i _ => len - (intOf i).toNat)
    case atStart => exact ⟨0, 0, by omega, rfl, by omega, ⟨(HWW.out nq).1, (HWW.out nq).2.2, by have := (HWW.out nq).2.1; simpa using this, rfl⟩⟩
    case round =>
      obtain ⟨j, m, hj, rfl, hm, hR⟩ := hrel
      have hg := hR.grown
      have hsz := hg.size
      have x2 := row_cell hR.box 2
      simp at x2
      by_cases hlt : j < len
      · have hlt' : j < ts.length := by have := HL.out; omega
        obtain ⟨b, o, rfl, _, hbB, ao1, len1, cap1, c0, c1, c2, hs1⟩ := hs.get j hlt'
        have e0 := (gcell hg (by omega) (by omega) _).trans c0
        have e1 := (gcell hg (by omega) (by omega) _).trans c1
        have e2 := (gcell hg (by omega) (by omega) _).trans c2
        have hs2 := hs1.grown hg hBp hp
        have hcl := hR.cell
        have hcl' : wr.heap[p]? = some (.cells #[.int .i64 ((c + 1 + m : Nat) : Int)] 3 (0, 0)) := by rw [hcl]; simp
        have HF : Hid (_ = _) := nodesL_take (nodesW l) ts j hlt' m hR.nodes
        clear hcl
        go_wp2_with fail
        refine (IH _ _ _ _ _ _ _ _ _ _ _ _ hBp (by omega) hcl' (by omega) hs2).mono ?_
        rintro e w2 ⟨rfl, hg2, c', hc2, hc3⟩
        have hg3 := grown_trans hg hg2
        have hbox2 : w2.heap[w.heap.size]? = _ := (hg2.block _ (by have := (Array.getElem?_eq_some_iff.1 hR.box).1; exact this) (by simp; omega)).trans hR.box
        cases hv : lookOk l (c + 1 + m) ⟨ts[j].K, ts[j].N, ts[j].A⟩ with
        | false =>
          clear hc3 hcl'
          go_wp2_with fail
          go_ret
          have hno : lookOk (l + 1) c ⟨k, n, ts⟩ = false := by
            rw [tr_eta] at hv
            unfold lookOk
            rw [HO.out]
            cases hnl : nodesL (nodesW l) ts with
            | none => rfl
            | some s =>
              cases hf : nodesW l ts[j] with
              | none => rw [nodesL_none _ _ j hlt' hf] at hnl; cases hnl
              | some a =>
                have h1 := nodesL_part _ _ j hlt' m a s hR.nodes hf hnl
                rw [lookOk_some hf] at hv
                simp at hv ⊢
                omega
          exact ⟨ret_bool hno.symm, hg3, _, hc2, fun m hm hle => (lookOk_no hno m hm hle).elim⟩
        | true =>
          have hN : ∃ a, nodesW l ts[j] = some a ∧ c + 1 + m + a ≤ 60 ∧ c' = ((c + 1 + m : Nat) : Int) + a := by
            have hv' := hv
            rw [tr_eta] at hv'
            cases hf : nodesW l ts[j] with
            | none => simp [lookOk, hf] at hv'
            | some a =>
              rw [lookOk_some hf] at hv'
              have hle : c + 1 + m + a ≤ 60 := by simpa using hv'
              exact ⟨a, rfl, hle, hc3 a (by rw [tr_eta]; exact hf) hle⟩
          obtain ⟨a, hfa, hle, hce⟩ := hN
          have hT : nodesL (nodesW l) (ts.take (j + 1)) = some (m + a) := by rw [HF.out, hfa]; rfl
          have hR2 : LkRel w w2 l p c (j + 1) len cap k n (some ⟨b, o, none⟩) (m + a) ts := ⟨hg3, hbox2, by rw [hc2, hce]; simp; omega, hT⟩
          clear hc3 hce hT hfa hcl' hc2 hbox2 x2 hR
          go_wp2_with fail
          go_roundw
          case rel => exact ⟨j + 1, m + a, by omega, by go_num, by omega, hR2⟩
          case measure => simp [intOf]; omega
      · have hNn : nodesL (nodesW l) ts = some m := by have h1 := HL.out; have h2 := hR.nodes; rw [List.take_of_length_le (by omega)] at h2; exact h2
        have HN : Hid (nodesL (nodesW l) ts = some m) := hNn
        clear hNn
        have hcl : Hid (_ = _) := hR.cell
        go_wp2_with fail
        go_ret
        have hw : nodesW (l + 1) ⟨k, n, ts⟩ = some (1 + m) := by rw [HO.out, HN.out]; rfl
        refine ⟨ret_bool (by rw [lookOk_some hw]; simp; omega), hg, _, hcl.out, fun m' hm' _ => ?_⟩
        rw [hw] at hm'
        cases hm'
        omega

theorem lk_any : ∀ l, l ≤ 6 → SaidLk l := by
  intro l
  induction l with
  | zero => intro _; exact lk_zero
  | succ l ih =>
    intro h d L B p c k n ao len cap ts w hBp hp hcell hc hs
    have e : ((l + 1 : Nat) : Int) = (l : Int) + 1 := by omega
    rw [e]
    by_cases hno : 60 < c + 1 ∨ nodeOk k n len = false
    · exact lk_no l d L B p c k n ao len cap ts w hBp hp hcell hc (by omega) hs hno
    · exact lk_yes l (ih (by omega)) d L B p c k n ao len cap ts w hBp hp hcell (by omega) (by omega) hs (by simpa using fun h => hno (Or.inr h))

end Go.Proofs.YtbdpnnfhkhkecaaGreatDoor

/-
  What the model's 'TyOk' comes to: the same as the program's.
-/
namespace Go.Proofs.YtbdpnnfhkhkecaaGreatDoor
open Go.RowKit
set_option linter.unusedVariables false
set_option linter.unusedSimpArgs false

theorem look_ok (t : Tr) : lookOk 6 0 t = okT t := by
  unfold lookOk okT nodesT
  cases h : nodesW 6 t with
  | none => simp
  | some m =>
    have := nodesW_pos _ _ _ h
    by_cases h6 : m ≤ 60 <;> simp [h6]
    omega

set_option maxHeartbeats 400000 in
theorem sTyOk_any (d L B : Nat) (k n : Int) (ao : Option Addr) (len cap : Nat) (ts : List Tr) (w : World) (hB : B ≤ w.heap.size) (hs : Hs L B w d ao len ts) :
    Calls Tryz.prog 113 #[.agg #[.int .i64 k, .int .i64 n, .slice ao len cap]] w fun e w' => e = .returned (.bool (okT ⟨k, n, ts⟩)) ∧ Below w.heap.size w w' := by
  obtain ⟨X, hX⟩ : ∃ X, X = ((w.alloc (.cells #[.int .i64 k, .int .i64 n, .slice ao len cap] 31)).alloc (.cells #[.int .i64 0] 3)) := ⟨_, rfl⟩
  have hXs : X.heap.size = w.heap.size + 2 := by rw [hX]; simp
  have hXb : Below w.heap.size w X := by rw [hX]; exact ((Below.refl _ _).alloc (Nat.le_refl _) _).alloc (by simp) _
  have hX1 : X.heap[w.heap.size + 1]? = some (.cells #[.int .i64 ((0 : Nat) : Int)] 3 (0, 0)) := by rw [hX]; exact heap_new (by simp)
  have hs1 := hs.below hXb hB
  have HX : Hid (X = _) := hX
  have HX1 : Hid (_ = _) := hX1
  clear hX hX1
  go_enter Tryz.func113, Tryz.ntmps113
  go_wp2_with fail
  rw [← HX.out]
  refine (lk_any 6 (by omega) _ _ _ _ _ _ _ _ _ _ _ _ (by omega) (by omega) HX1.out (by omega) hs1).mono ?_
  rintro e w1 ⟨rfl, hg, _⟩
  rw [look_ok]
  have hb2 : Below w.heap.size w w1 := hXb.grown hg (by omega) (by simp)
  go_wp2_with fail
  go_ret
  exact ⟨rfl, hb2⟩

end Go.Proofs.YtbdpnnfhkhkecaaGreatDoor

/-
  What 'varsWithin', 'VarsOf', 'Ground' of the program, and 'l1Vars', 'VarsOf', 'Ground' of the model come to.
-/
namespace Go.Proofs.YtbdpnnfhkhkecaaGreatDoor
open Go.RowKit
set_option linter.unusedVariables false
set_option linter.unusedSimpArgs false

/-- What it means that a tree is right down to l levels, for its root and its parts. -/
theorem nodesW_inv {l : Nat} {k n : Int} {ts : List Tr} {m : Nat} (h : nodesW (l + 1) ⟨k, n, ts⟩ = some m) : nodeOk k n ts.length = true ∧ ∀ j (hj : j < ts.length), ∃ a, nodesW l ts[j] = some a := by
  simp only [nodesW] at h
  split at h
  · rename_i hok
    refine ⟨hok, fun j hj => ?_⟩
    cases hf : nodesW l ts[j] with
    | some a => exact ⟨a, rfl⟩
    | none => rw [nodesL_none _ _ j hj hf] at h; simp at h
  · simp at h

end Go.Proofs.YtbdpnnfhkhkecaaGreatDoor

/-
  The tokens and the text of a type, in plain words: no walk, no statement.
-/
namespace Go.Proofs.YtbdpnnfhkhkecaaGreatDoor
open Go.RowKit
set_option linter.unusedVariables false
set_option linter.unusedSimpArgs false

/-- The one token of a node. -/
def tokOf (k n : Int) : List UInt8 := if k = 1 then [105] else if k = 2 then [98] else if k = 3 then (if n = 0 then [118, 48] else [118, 49]) else if k = 4 then [102] else if k = 5 then [112] else [108]

/-- The tokens of a type, from the front. -/
def toksW : Nat → Tr → List (List UInt8)
  | 0, _ => []
  | l + 1, ⟨k, n, ts⟩ => tokOf k n :: (ts.map (toksW l)).flatten

/-- Its text. -/
def textW : Nat → Tr → List UInt8
  | 0, _ => []
  | l + 1, ⟨k, n, ts⟩ => tokOf k n ++ (ts.map fun t => 32 :: textW l t).flatten

def toksTo (l : Nat) (k n : Int) (ts : List Tr) (j : Nat) : List (List UInt8) := tokOf k n :: ((ts.take j).map (toksW l)).flatten
def textTo (l : Nat) (k n : Int) (ts : List Tr) (j : Nat) : List UInt8 := tokOf k n ++ ((ts.take j).map fun t => 32 :: textW l t).flatten

theorem toksTo_zero (l : Nat) (k n : Int) (ts : List Tr) : toksTo l k n ts 0 = [tokOf k n] := by simp [toksTo]
theorem toksTo_succ (l : Nat) (k n : Int) (ts : List Tr) (j : Nat) (h : j < ts.length) : toksTo l k n ts (j + 1) = toksTo l k n ts j ++ toksW l ts[j] := by
  unfold toksTo; rw [List.take_succ_eq_append_getElem h, List.map_append, List.flatten_append]; simp only [List.map_cons, List.map_nil, List.flatten_cons, List.flatten_nil, List.append_nil, List.cons_append]
theorem toksTo_all (l : Nat) (k n : Int) (ts : List Tr) (j : Nat) (h : ts.length ≤ j) : toksTo l k n ts j = toksW (l + 1) ⟨k, n, ts⟩ := by
  unfold toksTo; rw [List.take_of_length_le h]; rfl
theorem textTo_zero (l : Nat) (k n : Int) (ts : List Tr) : textTo l k n ts 0 = tokOf k n := by simp [textTo]
theorem textTo_succ (l : Nat) (k n : Int) (ts : List Tr) (j : Nat) (h : j < ts.length) : textTo l k n ts (j + 1) = textTo l k n ts j ++ 32 :: textW l ts[j] := by
  unfold textTo; rw [List.take_succ_eq_append_getElem h, List.map_append, List.flatten_append]; simp only [List.map_cons, List.map_nil, List.flatten_cons, List.flatten_nil, List.append_nil, List.append_assoc]
theorem textTo_all (l : Nat) (k n : Int) (ts : List Tr) (j : Nat) (h : ts.length ≤ j) : textTo l k n ts j = textW (l + 1) ⟨k, n, ts⟩ := by
  unfold textTo; rw [List.take_of_length_le h]; rfl

theorem toks_tail : ∀ (l : Nat) (t : Tr) (m : Nat), nodesW l t = some m → Lib.joinTail [32] (toksW l t) = 32 :: textW l t := by
  intro l
  induction l with
  | zero => intro t m h; simp [nodesW] at h
  | succ l ih =>
    intro t m h
    obtain ⟨k, n, ts⟩ := t
    obtain ⟨_, hp⟩ := nodesW_inv h
    have hs : ∀ x ∈ ts, Lib.joinTail [32] (toksW l x) = 32 :: textW l x := by
      intro x hx
      obtain ⟨j, hj, rfl⟩ := List.mem_iff_getElem.1 hx
      obtain ⟨a, ha⟩ := hp j hj
      exact ih _ a ha
    have hj : ∀ ys : List Tr, (∀ x ∈ ys, Lib.joinTail [32] (toksW l x) = 32 :: textW l x) → Lib.joinTail [32] (ys.map (toksW l)).flatten = (ys.map fun t => 32 :: textW l t).flatten := by
      intro ys
      induction ys with
      | nil => intro _; rfl
      | cons y ys ihy =>
        intro hy
        have h1 := hy y (by simp)
        have h2 := ihy fun x hx => hy x (by simp [hx])
        unfold Lib.joinTail at h1 h2 ⊢
        simp only [List.map_cons, List.flatten_cons, List.map_append, List.flatten_append]
        rw [h1, h2]
    show Lib.joinTail [32] (tokOf k n :: (ts.map (toksW l)).flatten) = 32 :: (tokOf k n ++ (ts.map fun t => 32 :: textW l t).flatten)
    have h3 := hj ts hs
    unfold Lib.joinTail at h3 ⊢
    rw [List.map_cons, List.flatten_cons, h3]
    rfl

theorem toks_joinT (l : Nat) (t : Tr) (m : Nat) (h : nodesW l t = some m) : Lib.join (toksW l t) [32] = textW l t := by
  have ht := toks_tail l t m h
  cases l with
  | zero => simp [nodesW] at h
  | succ l =>
    obtain ⟨k, n, ts⟩ := t
    have e : toksW (l + 1) ⟨k, n, ts⟩ = tokOf k n :: (ts.map (toksW l)).flatten := rfl
    rw [e] at ht ⊢
    rw [Lib.join_cons]
    unfold Lib.joinTail at ht ⊢
    rw [List.map_cons, List.flatten_cons] at ht
    have := List.cons.inj ht
    exact this.2

/-- As many tokens as nodes, each of two bytes at most. -/
theorem toks_len : ∀ (l : Nat) (t : Tr) (m : Nat), nodesW l t = some m → (toksW l t).length = m := by
  intro l
  induction l with
  | zero => intro t m h; simp [nodesW] at h
  | succ l ih =>
    intro t m h
    obtain ⟨k, n, ts⟩ := t
    have hn : ∀ (ys : List Tr) (s : Nat), nodesL (nodesW l) ys = some s → ((ys.map (toksW l)).flatten).length = s := by
      intro ys
      induction ys with
      | nil => intro s h; simp [nodesL] at h; simp [← h]
      | cons y ys ihy =>
        intro s h
        simp only [nodesL] at h
        cases hy : nodesW l y with
        | none => simp [hy] at h
        | some a =>
          cases hz : nodesL (nodesW l) ys with
          | none => simp [hy, hz] at h
          | some b =>
            simp [hy, hz] at h
            simp only [List.map_cons, List.flatten_cons, List.length_append]
            rw [ih y a hy, ihy b hz]
            exact h
    obtain ⟨hk, _⟩ := nodesW_inv h
    simp only [nodesW, hk] at h
    cases hz : nodesL (nodesW l) ts with
    | none => simp [hz] at h
    | some b =>
      simp [hz] at h
      have := hn ts b hz
      simp only [toksW, List.length_cons]
      omega

theorem tokOf_len (k n : Int) : (tokOf k n).length ≤ 2 := by unfold tokOf; (repeat' split) <;> simp

theorem toksW_each : ∀ (l : Nat) (t : Tr), ∀ x ∈ toksW l t, x.length ≤ 2 := by
  intro l
  induction l with
  | zero => intro t x hx; simp [toksW] at hx
  | succ l ih =>
    intro t x hx
    obtain ⟨k, n, ts⟩ := t
    simp only [toksW, List.mem_cons, List.mem_flatten, List.mem_map] at hx
    rcases hx with rfl | ⟨_, ⟨y, _, rfl⟩, hx⟩
    · exact tokOf_len k n
    · exact ih y x hx

theorem textW_len (l : Nat) (t : Tr) (m : Nat) (h : nodesW l t = some m) : (textW l t).length ≤ 3 * m := by
  have h1 := toks_tail l t m h
  have h2 := congrArg List.length h1
  rw [Lib.joinTail_length] at h2
  have h3 := toks_len l t m h
  have h4 : ∀ ys : List (List UInt8), (∀ x ∈ ys, x.length ≤ 2) → Lib.lens ys ≤ 2 * ys.length := by
    intro ys
    induction ys with
    | nil => intro _; simp [Lib.lens]
    | cons y ys ih =>
      intro hy
      have a := hy y (by simp)
      have b := ih fun x hx => hy x (by simp [hx])
      simp only [Lib.lens, List.map_cons, List.sum_cons, List.length_cons] at b ⊢
      omega
  have h5 := h4 _ (toksW_each l t)
  simp only [List.length_cons, List.length_nil] at h2
  omega

/-- Where a piece of P's length and the type's nodes are: the tokens of some parts are no more. -/
theorem toksTo_len {l : Nat} {k n : Int} {ts : List Tr} {m : Nat} (h : nodesW (l + 1) ⟨k, n, ts⟩ = some m) (j : Nat) (hj : j < ts.length) : (toksTo l k n ts j).length + (toksW l ts[j]).length ≤ m := by
  have h1 := toks_len _ _ _ h
  have e := congrArg List.length (toksTo_succ l k n ts j hj)
  rw [List.length_append] at e
  have e2 : (toksTo l k n ts (j + 1)).length ≤ (toksW (l + 1) ⟨k, n, ts⟩).length := by
    show (tokOf k n :: ((ts.take (j + 1)).map (toksW l)).flatten).length ≤ (tokOf k n :: (ts.map (toksW l)).flatten).length
    have := congrArg (fun x => ((x.map (toksW l)).flatten).length) (List.take_append_drop (j + 1) ts)
    simp only [List.map_append, List.flatten_append, List.length_append] at this
    simp only [List.length_cons]
    omega
  omega

theorem part_le {l : Nat} {k n : Int} {ts : List Tr} {m a : Nat} (h : nodesW (l + 1) ⟨k, n, ts⟩ = some m) (j : Nat) (hj : j < ts.length) (ha : nodesW l ts[j] = some a) : a ≤ m := by
  have h1 := toksTo_len h j hj
  have h2 := toks_len _ _ _ ha
  omega

theorem textTo_len {l : Nat} {k n : Int} {ts : List Tr} {m : Nat} (h : nodesW (l + 1) ⟨k, n, ts⟩ = some m) (j : Nat) (hj : j < ts.length) : (textTo l k n ts j).length + 1 + (textW l ts[j]).length ≤ 3 * m := by
  have h1 := textW_len _ _ _ h
  have e := congrArg List.length (textTo_succ l k n ts j hj)
  rw [List.length_append, List.length_cons] at e
  have e2 : (textTo l k n ts (j + 1)).length ≤ (textW (l + 1) ⟨k, n, ts⟩).length := by
    show (tokOf k n ++ ((ts.take (j + 1)).map fun t => 32 :: textW l t).flatten).length ≤ (tokOf k n ++ (ts.map fun t => 32 :: textW l t).flatten).length
    have := congrArg (fun x => ((x.map fun t => 32 :: textW l t).flatten).length) (List.take_append_drop (j + 1) ts)
    simp only [List.map_append, List.flatten_append, List.length_append] at this
    simp only [List.length_append]
    omega
  omega

def txT (t : Tr) : List UInt8 := if okT t = true then textW 6 t else []

theorem okT_le {t : Tr} (h : okT t = true) : ∃ m, nodesW 6 t = some m ∧ m ≤ 60 := by
  cases hm : nodesW 6 t with
  | none => simp [okT, nodesT, hm] at h
  | some m =>
    refine ⟨m, rfl, ?_⟩
    by_cases h6 : m ≤ 60
    · exact h6
    · simp [okT, nodesT, hm, h6] at h

end Go.Proofs.YtbdpnnfhkhkecaaGreatDoor
