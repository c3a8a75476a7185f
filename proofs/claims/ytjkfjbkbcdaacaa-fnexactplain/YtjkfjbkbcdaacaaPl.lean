/-
  'Plain': the program's and the model's.
-/
import Derived.Test.YtjkfjbkbcdaacaaDot
import Derived.Test.YtjkfjbkbcdaacaaLkM
namespace Go.Proofs.Ytjkfjbkbcdaacaa
open Go.RowKit Go.PlainAid
set_option linter.unusedVariables false
set_option linter.unusedSimpArgs false

def plW : Tm → Bool
  | ⟨_, _, s, z, _, _, a⟩ => !hasDot s && !hasDot z && (a.attach.all fun ⟨x, _⟩ => plW x)
theorem plW_eq (t : Tm) : plW t = (!hasDot t.S && !hasDot t.Z && t.A.all plW) := by
  cases t; rw [plW]; simp
def plS : Tm → Bool
  | ⟨_, _, s, z, _, _, a⟩ => (s.toList.isEmpty || nameP true s) && (z.toList.isEmpty || nameP true z) && (a.attach.all fun ⟨x, _⟩ => plS x)
theorem plS_eq (t : Tm) : plS t = ((t.S.toList.isEmpty || nameP true t.S) && (t.Z.toList.isEmpty || nameP true t.Z) && t.A.all plS) := by
  cases t; rw [plS]; simp

theorem nodesG_each {f : Tm → Option Nat} {l : List Tm} {m : Nat} (h : nodesG f l = some m) : ∀ x ∈ l, ∃ a, f x = some a := by
  intro x hx
  obtain ⟨i, hi, rfl⟩ := List.getElem_of_mem hx
  cases hf : f l[i] with
  | none => rw [nodesG_none f l i hi hf] at h; cases h
  | some a => exact ⟨a, rfl⟩

theorem names_split {n : Int} {s z : ByteArray} (h : namesB n s z = true) : (isNil s = true ∨ nameW s = true) ∧ (isNil z = true ∨ nameW z = true) := by
  unfold namesB at h
  split at h
  · simp only [Bool.and_eq_true] at h; exact ⟨Or.inl h.1, Or.inl h.2⟩
  · split at h
    · simp only [Bool.and_eq_true] at h; exact ⟨Or.inr h.1, Or.inl h.2⟩
    · simp only [Bool.and_eq_true] at h; exact ⟨Or.inr h.1.1, Or.inr h.1.2⟩

theorem pl_same : ∀ (l : Nat) (t : Tm) (m : Nat), nodesM l t = some m → plW t = plS t := by
  intro l
  induction l with
  | zero => intro t m h; simp [nodesM] at h
  | succ l ih =>
    intro t m h
    simp only [nodesM] at h
    split at h
    · rename_i hn
      cases h1 : nodesG (nodesM l) t.A with
      | none => simp [h1] at h
      | some s =>
        have hns : namesB (shN t.K) t.S t.Z = true := by
          unfold nodeM at hn
          simp only [Bool.and_eq_true] at hn
          exact hn.1.2
        obtain ⟨h2, h3⟩ := names_split hns
        have h4 : t.A.all plW = t.A.all plS := by
          rw [Bool.eq_iff_iff, List.all_eq_true, List.all_eq_true]
          constructor
          · intro hh x hx
            obtain ⟨a, ha⟩ := nodesG_each h1 x hx
            rw [← ih x a ha]; exact hh x hx
          · intro hh x hx
            obtain ⟨a, ha⟩ := nodesG_each h1 x hx
            rw [ih x a ha]; exact hh x hx
        rw [plW_eq, plS_eq, dot_name h2, dot_name h3, h4]
    · simp at h

def plM (t : Tm) : Bool := okM t && plW t
theorem plM_spec (t : Tm) : plM t = (okM t && plS t) := by
  unfold plM
  cases h : okM t
  · rfl
  · unfold okM at h
    cases hn : nodesM 24 t with
    | none => rw [hn] at h; cases h
    | some m => rw [pl_same 24 t m hn]

theorem allM_take {l : List Tm} {f : Tm → Bool} {k : Nat} (h : k < l.length) : (l.take (k + 1)).all f = ((l.take k).all f && f l[k]) := by
  rw [List.take_succ_eq_append_getElem h]; simp only [List.all_append, List.all_cons, List.all_nil, Bool.and_true]
theorem allM_not {l : List Tm} {f : Tm → Bool} {k : Nat} (h : k < l.length) (hf : f l[k] = false) : l.all f = false := by
  rw [Bool.eq_false_iff]; intro h1
  have := List.all_eq_true.1 h1 l[k] (List.getElem_mem h)
  rw [hf] at this; cases this

def SaidPl (d : Nat) : Prop := ∀ (D L B : Nat) (t : Tm) (a1 : Option Addr) (l1 c1 : Nat) (a2 : Option Addr) (l2 c2 : Nat) (a3 : Option Addr) (l3 c3 : Nat) (w : World), B ≤ w.heap.size → Fm L B w D d t a1 l1 a2 l2 a3 l3 →
    Calls Try.prog 53 #[.agg #[.int .i64 t.K, .int .i64 t.N, .string t.S, .string t.Z, .int .i64 t.T.K, .int .i64 t.T.N, .slice a1 l1 c1, .slice a2 l2 c2, .slice a3 l3 c3]] w fun e w' => e = .returned (.bool (plW t)) ∧ Below w.heap.size w w'
def SaidPs (d : Nat) : Prop := ∀ (D L B : Nat) (t : Tm) (a1 : Option Addr) (l1 c1 : Nat) (a2 : Option Addr) (l2 c2 : Nat) (a3 : Option Addr) (l3 c3 : Nat) (w : World), B ≤ w.heap.size → Fm L B w D d t a1 l1 a2 l2 a3 l3 →
    Calls Try.prog 52 #[.agg #[.int .i64 t.K, .int .i64 t.N, .string t.S, .string t.Z, .int .i64 t.T.K, .int .i64 t.T.N, .slice a1 l1 c1, .slice a2 l2 c2, .slice a3 l3 c3]] w fun e w' => e = .returned (.bool (plS t)) ∧ Below w.heap.size w w'

theorem Hm.pos {L B : Nat} {w : World} {D d : Nat} {ao : Option Addr} {len : Nat} {ts : List Tm} (h : Hm L B w D d ao len ts) {j : Nat} (hj : j < ts.length) : d - 1 < d := by
  cases d with
  | zero => obtain ⟨_, rfl⟩ := h; simp at hj
  | succ d => omega

set_option maxHeartbeats 800000 in
theorem pl_step (d : Nat) (IH : ∀ e, e < d → SaidPl e) : SaidPl d := by
  intro D L B t a1 l1 c1 a2 l2 c2 a3 l3 c3 w hB hf
  have hl := hf.m.len.2
  have HL : Hid (l3 = t.A.length) := hf.m.len.1
  have hbel : Below w.heap.size w (w.alloc (.cells #[.int .i64 t.K, .int .i64 t.N, .string t.S, .string t.Z, .int .i64 t.T.K, .int .i64 t.T.N, .slice a1 l1 c1, .slice a2 l2 c2, .slice a3 l3 c3] 29)) := (Below.refl _ _).alloc (Nat.le_refl _) _
  have HE : Hid (plW t = (!hasDot t.S && !hasDot t.Z && t.A.all plW)) := plW_eq t
  cases hS : hasDot t.S
  case true =>
    rw [hS] at HE
    have HS : Hid (hasDot t.S = true) := hS
    clear hS
    go_enter Try.func53, Try.ntmps53
    go_wp2_with fail
    refine (contains_any _ _).mono ?_
    rintro e w1 ⟨rfl, rfl⟩
    rw [HS.out]
    go_wp2_with fail
    go_ret
    exact ⟨ret_bool (by rw [HE.out]; rfl), hbel⟩
  rw [hS] at HE
  have HS : Hid (hasDot t.S = false) := hS
  clear hS
  cases hZ : hasDot t.Z
  case true =>
    rw [hZ] at HE
    have HZ : Hid (hasDot t.Z = true) := hZ
    clear hZ
    go_enter Try.func53, Try.ntmps53
    go_wp2_with fail
    refine (contains_any _ _).mono ?_
    rintro e w1 ⟨rfl, rfl⟩
    rw [HS.out]
    go_wp2_with fail
    refine (contains_any _ _).mono ?_
    rintro e w1 ⟨rfl, rfl⟩
    rw [HZ.out]
    go_wp2_with fail
    go_ret
    exact ⟨ret_bool (by rw [HE.out]; rfl), hbel⟩
  rw [hZ] at HE
  have HZ : Hid (hasDot t.Z = false) := hZ
  clear hZ
  obtain ⟨X, hX⟩ : ∃ X, X = w.alloc (.cells #[.int .i64 t.K, .int .i64 t.N, .string t.S, .string t.Z, .int .i64 t.T.K, .int .i64 t.T.N, .slice a1 l1 c1, .slice a2 l2 c2, .slice a3 l3 c3] 29) := ⟨_, rfl⟩
  have hXs : X.heap.size = w.heap.size + 1 := by rw [hX]; simp
  rw [← hX] at hbel
  have hX0 : X.heap[w.heap.size]? = some (.cells #[.int .i64 t.K, .int .i64 t.N, .string t.S, .string t.Z, .int .i64 t.T.K, .int .i64 t.T.N, .slice a1 l1 c1, .slice a2 l2 c2, .slice a3 l3 c3] 29 (0, 0)) := by rw [hX]; exact heap_new rfl
  obtain ⟨f0, f1, f2, f3, f4, f5, f6, f7, f8⟩ := Nine.box hX0
  simp only [Nat.zero_add] at f1 f2 f3 f4 f5 f6 f7 f8
  have HX : Hid (X = _) := hX
  clear hX
  go_enter Try.func53, Try.ntmps53
  go_wp2_with fail
  rw [← HX.out]
  refine (contains_any _ _).mono ?_
  rintro e w1 ⟨rfl, hw1⟩
  rw [HS.out, hw1]
  clear hw1 w1
  go_wp2_with fail
  refine (contains_any _ _).mono ?_
  rintro e w1 ⟨rfl, hw1⟩
  rw [HZ.out, hw1]
  clear hw1 w1
  go_wp2_with fail
  go_loopw [16] (fun i wr => ∃ j : Nat, j ≤ l3 ∧ i = .int .i64 j ∧ Hid ((t.A.take j).all plW = true) ∧ Below X.heap.size X wr) (fun i _ => l3 - (intOf i).toNat)
  case atStart => exact ⟨0, by omega, rfl, rfl, Below.refl _ _⟩
  case round =>
    obtain ⟨j, hj, rfl, HA, hbr⟩ := hrel
    have hszr := hbr.size
    by_cases hlt : j < l3
    · have hlt' : j < t.A.length := by have := HL.out; omega
      obtain ⟨b, o, rfl, _, hbB, b1, m1, d1, b2, m2, d2, b3, m3, d3, h9, hf1⟩ := hf.m.get j hlt'
      have hbw : Below w.heap.size w wr := hbel.trans (hbr.mono (by omega))
      obtain ⟨e0, e1, e2, e3, e4, e5, e6, e7, e8⟩ := h9.below hbw (by omega)
      have hba : Below w.heap.size w (wr.alloc (.cells #[.int .i64 t.A[j].K, .int .i64 t.A[j].N, .string t.A[j].S, .string t.A[j].Z, .int .i64 t.A[j].T.K, .int .i64 t.A[j].T.N, .slice b1 m1 d1, .slice b2 m2 d2, .slice b3 m3 d3] 29)) := hbw.alloc (by omega) _
      have hf2 := Fm.below hba hB hf1
      have HT : Hid ((t.A.take (j + 1)).all plW = ((t.A.take j).all plW && plW t.A[j])) := allM_take hlt'
      have HF : Hid (plW t.A[j] = false → t.A.all plW = false) := fun h => allM_not hlt' h
      cases hok : plW t.A[j]
      · have HP : Hid (plW t.A[j] = false) := hok
        replace HF : Hid (_ = _) := HF.out hok
        clear hok
        go_wp2_with fail
        refine (IH (d - 1) (hf.m.pos hlt') D L B t.A[j] _ _ _ _ _ _ _ _ _ _ (by simp; omega) hf2).mono ?_
        rintro e w2 ⟨rfl, hb2⟩
        rw [HP.out]
        go_wp2_with fail
        go_ret
        exact ⟨ret_bool (by rw [HE.out, HF.out]; rfl), hba.trans (hb2.mono (by simp; omega))⟩
      · have HP : Hid (plW t.A[j] = true) := hok
        rw [hok] at HT
        clear hok
        go_wp2_with fail
        refine (IH (d - 1) (hf.m.pos hlt') D L B t.A[j] _ _ _ _ _ _ _ _ _ _ (by simp; omega) hf2).mono ?_
        rintro e w2 ⟨rfl, hb2⟩
        rw [HP.out]
        have hbr2 : Below X.heap.size X w2 := (hbr.alloc (by omega) _).trans (hb2.mono (by simp; omega))
        go_wp2_with fail
        go_roundw
        case rel => exact ⟨j + 1, by omega, by go_num, (by show _ = _; rw [HT.out, HA.out]; rfl), hbr2⟩
        case measure => simp [intOf]; omega
    · have HK : Hid (t.A.all plW = true) := by have h1 := HL.out; have h2 := HA.out; rw [List.take_of_length_le (by omega)] at h2; exact h2
      go_wp2_with fail
      go_ret
      exact ⟨ret_bool (by rw [HE.out, HK.out]; rfl), hbel.trans (hbr.mono (by omega))⟩

theorem pl_any : ∀ d, SaidPl d := by
  intro d
  induction d using Nat.strongRecOn with
  | ind d ih => exact pl_step d ih

set_option maxHeartbeats 800000 in
theorem ps_step (d : Nat) (IH : ∀ e, e < d → SaidPs e) : SaidPs d := by
  intro D L B t a1 l1 c1 a2 l2 c2 a3 l3 c3 w hB hf
  have hl := hf.m.len.2
  have hsz := hf.s
  have hzz := hf.z
  have HL : Hid (l3 = t.A.length) := hf.m.len.1
  have hbel : Below w.heap.size w (w.alloc (.cells #[.int .i64 t.K, .int .i64 t.N, .string t.S, .string t.Z, .int .i64 t.T.K, .int .i64 t.T.N, .slice a1 l1 c1, .slice a2 l2 c2, .slice a3 l3 c3] 29)) := (Below.refl _ _).alloc (Nat.le_refl _) _
  have HE : Hid (plS t = ((t.S.toList.isEmpty || nameP true t.S) && (t.Z.toList.isEmpty || nameP true t.Z) && t.A.all plS)) := plS_eq t
  obtain ⟨X, hX⟩ : ∃ X, X = w.alloc (.cells #[.int .i64 t.K, .int .i64 t.N, .string t.S, .string t.Z, .int .i64 t.T.K, .int .i64 t.T.N, .slice a1 l1 c1, .slice a2 l2 c2, .slice a3 l3 c3] 29) := ⟨_, rfl⟩
  have hXs : X.heap.size = w.heap.size + 1 := by rw [hX]; simp
  rw [← hX] at hbel
  have hX0 : X.heap[w.heap.size]? = some (.cells #[.int .i64 t.K, .int .i64 t.N, .string t.S, .string t.Z, .int .i64 t.T.K, .int .i64 t.T.N, .slice a1 l1 c1, .slice a2 l2 c2, .slice a3 l3 c3] 29 (0, 0)) := by rw [hX]; exact heap_new rfl
  have htl : w.heap.size < X.heap.size := by omega
  obtain ⟨f0, f1, f2, f3, f4, f5, f6, f7, f8⟩ := Nine.box hX0
  simp only [Nat.zero_add] at f1 f2 f3 f4 f5 f6 f7 f8
  have HX : Hid (X = _) := hX
  clear hX
  -- the four Bools that the first test asks for
  have HD : Hid (∃ bS bZ : Bool, (t.S.toList.isEmpty || nameP true t.S) = bS ∧ (t.Z.toList.isEmpty || nameP true t.Z) = bZ) := ⟨_, _, rfl, rfl⟩
  cases hS : t.S.toList.isEmpty
  all_goals cases hS2 : nameP true t.S
  all_goals cases hZ : t.Z.toList.isEmpty
  all_goals cases hZ2 : nameP true t.Z
  all_goals
    have HS2 : Hid (nameP true t.S = _) := hS2
    have HZ2 : Hid (nameP true t.Z = _) := hZ2
    rw [hS, hS2, hZ, hZ2] at HE
    clear HD hS2 hZ2
    go_enter Try.func52, Try.ntmps52
    go_wp2_with (go_at_call 86; refine (l2Name_any true _ _ (by first | exact hsz | exact hzz)).mono ?_; rintro e w1 ⟨rfl, hw1⟩; rw [hw1]; clear hw1 w1; first | rw [HS2.out] | rw [HZ2.out])
    first
      | (go_ret
         rw [← HX.out]
         exact ⟨ret_bool (by rw [HE.out]; rfl), hbel⟩)
      | (rw [← HX.out]
         go_loopw [3] (fun i wr => ∃ j : Nat, j ≤ l3 ∧ i = .int .i64 j ∧ Hid ((t.A.take j).all plS = true) ∧ Below X.heap.size X wr) (fun i _ => l3 - (intOf i).toNat)
         case atStart => exact ⟨0, by omega, rfl, rfl, Below.refl _ _⟩
         case round =>
           obtain ⟨j, hj, rfl, HA, hbr⟩ := hrel
           have hszr := hbr.size
           have g8 := (bcell hbr htl 8).trans f8
           by_cases hlt : j < l3
           · have hlt' : j < t.A.length := by have := HL.out; omega
             obtain ⟨b, o, rfl, _, hbB, b1, m1, d1, b2, m2, d2, b3, m3, d3, h9, hf1⟩ := hf.m.get j hlt'
             have hbw : Below w.heap.size w wr := hbel.trans (hbr.mono (by omega))
             obtain ⟨e0, e1, e2, e3, e4, e5, e6, e7, e8⟩ := h9.below hbw (by omega)
             have hf2 := Fm.below hbw hB hf1
             have HT : Hid ((t.A.take (j + 1)).all plS = ((t.A.take j).all plS && plS t.A[j])) := allM_take hlt'
             have HF : Hid (plS t.A[j] = false → t.A.all plS = false) := fun h => allM_not hlt' h
             cases hok : plS t.A[j]
             · have HP : Hid (plS t.A[j] = false) := hok
               replace HF : Hid (_ = _) := HF.out hok
               clear hok
               go_wp2_with fail
               refine (IH (d - 1) (hf.m.pos hlt') D L B t.A[j] _ _ _ _ _ _ _ _ _ _ (by omega) hf2).mono ?_
               rintro e w2 ⟨rfl, hb2⟩
               rw [HP.out]
               go_wp2_with fail
               go_ret
               exact ⟨ret_bool (by rw [HE.out, HF.out]; rfl), hbw.trans (hb2.mono (by omega))⟩
             · have HP : Hid (plS t.A[j] = true) := hok
               rw [hok] at HT
               clear hok
               go_wp2_with fail
               refine (IH (d - 1) (hf.m.pos hlt') D L B t.A[j] _ _ _ _ _ _ _ _ _ _ (by omega) hf2).mono ?_
               rintro e w2 ⟨rfl, hb2⟩
               rw [HP.out]
               have hbr2 : Below X.heap.size X w2 := hbr.trans (hb2.mono (by omega))
               go_wp2_with fail
               go_roundw
               case rel => exact ⟨j + 1, by omega, by go_num, (by show _ = _; rw [HT.out, HA.out]; rfl), hbr2⟩
               case measure => simp [intOf]; omega
           · have HK : Hid (t.A.all plS = true) := by have h1 := HL.out; have h2 := HA.out; rw [List.take_of_length_le (by omega)] at h2; exact h2
             go_wp2_with fail
             go_ret
             exact ⟨ret_bool (by rw [HE.out, HK.out]; rfl), hbel.trans (hbr.mono (by omega))⟩)

theorem ps_any : ∀ d, SaidPs d := by
  intro d
  induction d using Nat.strongRecOn with
  | ind d ih => exact ps_step d ih

set_option maxHeartbeats 400000 in
theorem plain_any (D d L B : Nat) (t : Tm) (a1 : Option Addr) (l1 c1 : Nat) (a2 : Option Addr) (l2 c2 : Nat) (a3 : Option Addr) (l3 c3 : Nat) (w : World) (hB : B ≤ w.heap.size) (hf : Fm L B w D d t a1 l1 a2 l2 a3 l3) :
    Calls Try.prog 23 #[.agg #[.int .i64 t.K, .int .i64 t.N, .string t.S, .string t.Z, .int .i64 t.T.K, .int .i64 t.T.N, .slice a1 l1 c1, .slice a2 l2 c2, .slice a3 l3 c3]] w fun e w' => e = .returned (.bool (plM t)) ∧ Below w.heap.size w w' := by
  have hbel : Below w.heap.size w (w.alloc (.cells #[.int .i64 t.K, .int .i64 t.N, .string t.S, .string t.Z, .int .i64 t.T.K, .int .i64 t.T.N, .slice a1 l1 c1, .slice a2 l2 c2, .slice a3 l3 c3] 29)) := (Below.refl _ _).alloc (Nat.le_refl _) _
  have hf1 := Fm.below hbel hB hf
  cases hq : okM t
  all_goals
    have HQ : Hid (okM t = _) := hq
    have HP : Hid (plM t = (okM t && plW t)) := rfl
    rw [hq] at HP
    clear hq
    go_enter Try.func23, Try.ntmps23
    go_wp2_with fail
    refine (termOk_any D d L B t _ _ _ _ _ _ _ _ _ _ (by simp; omega) hf1).mono ?_
    rintro e w1 ⟨rfl, hb1⟩
    rw [HQ.out]
    have hbw : Below w.heap.size w w1 := hbel.trans (hb1.mono (by simp))
    have hz1 := hb1.size
    simp only [World.size_alloc] at hz1
    obtain ⟨f0, f1, f2, f3, f4, f5, f6, f7, f8⟩ := Nine.box ((hb1.block w.heap.size (by simp)).trans (heap_new rfl))
    go_wp2_with fail
    first
      | (go_ret
         exact ⟨ret_bool (by rw [HP.out]; rfl), hbw⟩)
      | (refine (pl_any d D L B t _ _ _ _ _ _ _ _ _ _ (by omega) (Fm.below hbw hB hf)).mono ?_
         rintro e w2 ⟨rfl, hb2⟩
         go_wp2_with fail
         go_ret
         exact ⟨ret_bool (by rw [HP.out]; rfl), hbw.trans (hb2.mono (by omega))⟩)

set_option maxHeartbeats 400000 in
theorem sPlain_any (D d L B : Nat) (t : Tm) (a1 : Option Addr) (l1 c1 : Nat) (a2 : Option Addr) (l2 c2 : Nat) (a3 : Option Addr) (l3 c3 : Nat) (w : World) (hB : B ≤ w.heap.size) (hf : Fm L B w D d t a1 l1 a2 l2 a3 l3) :
    Calls Try.prog 22 #[.agg #[.int .i64 t.K, .int .i64 t.N, .string t.S, .string t.Z, .int .i64 t.T.K, .int .i64 t.T.N, .slice a1 l1 c1, .slice a2 l2 c2, .slice a3 l3 c3]] w fun e w' => e = .returned (.bool (plM t)) ∧ Below w.heap.size w w' := by
  have hbel : Below w.heap.size w (w.alloc (.cells #[.int .i64 t.K, .int .i64 t.N, .string t.S, .string t.Z, .int .i64 t.T.K, .int .i64 t.T.N, .slice a1 l1 c1, .slice a2 l2 c2, .slice a3 l3 c3] 29)) := (Below.refl _ _).alloc (Nat.le_refl _) _
  have hf1 := Fm.below hbel hB hf
  cases hq : okM t
  all_goals
    have HQ : Hid (okM t = _) := hq
    have HP : Hid (plM t = (okM t && plS t)) := plM_spec t
    rw [hq] at HP
    clear hq
    go_enter Try.func22, Try.ntmps22
    go_wp2_with fail
    refine (sTermOk_any D d L B t _ _ _ _ _ _ _ _ _ _ (by simp; omega) hf1).mono ?_
    rintro e w1 ⟨rfl, hb1⟩
    rw [HQ.out]
    have hbw : Below w.heap.size w w1 := hbel.trans (hb1.mono (by simp))
    have hz1 := hb1.size
    simp only [World.size_alloc] at hz1
    obtain ⟨f0, f1, f2, f3, f4, f5, f6, f7, f8⟩ := Nine.box ((hb1.block w.heap.size (by simp)).trans (heap_new rfl))
    go_wp2_with fail
    first
      | (go_ret
         exact ⟨ret_bool (by rw [HP.out]; rfl), hbw⟩)
      | (refine (ps_any d D L B t _ _ _ _ _ _ _ _ _ _ (by omega) (Fm.below hbw hB hf)).mono ?_
         rintro e w2 ⟨rfl, hb2⟩
         go_wp2_with fail
         go_ret
         exact ⟨ret_bool (by rw [HP.out]; rfl), hbw.trans (hb2.mono (by omega))⟩)

end Go.Proofs.Ytjkfjbkbcdaacaa
