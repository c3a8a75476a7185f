/-
  The uses of a name: rows of them; the library's 'slices.Contains' at a slice of names.
-/
import Derived.Test.YtbdmdgghhefmcaaPfoZ6
import Derived.Test.YtbdmdgghhefmcaaPfoLk
import Derived.Test.YtbdmdgghhefmcaaPfoOwM
import Derived.Lib.SlicesS
namespace Go.Proofs.Ytbdmdgghhefmcaa
open Go.RowKit
set_option linter.unusedVariables false
set_option linter.unusedSimpArgs false

theorem contains_nsl {w : World} {ao : Option Addr} {n : Nat} (c : Nat) {P : List (List UInt8)} (h : Nsl w ao n P) (hl : P.length ≤ 1048576) (s : ByteArray) :
    Calls Try.prog 42 #[.slice ao n c, .string s] w fun e w' => e = .returned (.bool (decide (bs s ∈ P))) ∧ w' = w := by
  obtain ⟨hn, hc⟩ := h
  subst hn
  by_cases h0 : P.length = 0
  · have hP : P = [] := List.length_eq_zero_iff.1 h0
    subst hP
    exact (Try.slices_Contains_string_empty ao c s w).mono fun e w' ⟨h1, h2⟩ => ⟨by rw [h1]; simp, h2⟩
  · obtain ⟨g, rfl, _, _⟩ := hc 0 (by omega)
    refine (Try.slices_Contains_string g 0 P.length c (P.map fun l => (⟨l.toArray⟩ : ByteArray)) s w (by simp) (by omega) ?_).mono fun e w' ⟨h1, h2⟩ => ⟨?_, h2⟩
    · intro j hj
      have hj' : j < P.length := by simpa using hj
      obtain ⟨b, e, _, hcc⟩ := hc j hj'
      cases e
      rw [hcc]
      simp [tk, hj']
    · rw [h1]
      congr 2
      rw [List.take_of_length_le (by simp), Bool.eq_iff_iff, Lib.containsS_iff, decide_eq_true_eq, List.mem_map]
      constructor
      · rintro ⟨l, hl, e⟩
        have : bs s = l := by rw [← e]; simp [bs]
        rw [this]; exact hl
      · intro hm
        exact ⟨bs s, hm, mk_bs s⟩

theorem binds_nmI (k : Int) (s z : List UInt8) (i : Nat) : nmI k s z (i : Int) = bindsW k s z i := by
  unfold nmI bindsW
  have h1 : ((i : Int) = 1) ↔ i = 1 := by omega
  have h2 : ((i : Int) = 2) ↔ i = 2 := by omega
  simp only [h1, h2]
theorem bindsW_len (k : Int) (s z : List UInt8) (i : Nat) : (bindsW k s z i).length ≤ 2 := by
  unfold bindsW
  split
  · simp
  · split <;> simp

def sumU (f : Nat → Nat) : Nat → Nat
  | 0 => 0
  | n + 1 => sumU f n + f n

/-- How often a name is used where it is free. -/
def usesN (s : List UInt8) : Nat → Tm → Nat
  | 0, _ => 0
  | l + 1, t => if t.K = 3 ∧ bs t.S = s then 1 else sumU (fun i => if h : i < t.A.length then (if s ∈ bindsW t.K (bs t.S) (bs t.Z) i then 0 else usesN s l t.A[i]) else 0) t.A.length

def partU (s : List UInt8) (l : Nat) (t : Tm) (i : Nat) : Nat := if h : i < t.A.length then (if s ∈ bindsW t.K (bs t.S) (bs t.Z) i then 0 else usesN s l t.A[i]) else 0
theorem usesN_var {s : List UInt8} {l : Nat} {t : Tm} (h : t.K = 3 ∧ bs t.S = s) : usesN s (l + 1) t = 1 := by unfold usesN; rw [if_pos h]
theorem usesN_not {s : List UInt8} {l : Nat} {t : Tm} (h : ¬ (t.K = 3 ∧ bs t.S = s)) : usesN s (l + 1) t = sumU (partU s l t) t.A.length := by unfold usesN; rw [if_neg h]; rfl
theorem partU_in {s : List UInt8} {l : Nat} {t : Tm} {i : Nat} (hi : i < t.A.length) (h : s ∈ bindsW t.K (bs t.S) (bs t.Z) i) : partU s l t i = 0 := by unfold partU; rw [dif_pos hi, if_pos h]
theorem partU_out {s : List UInt8} {l : Nat} {t : Tm} {i : Nat} (hi : i < t.A.length) (h : ¬ s ∈ bindsW t.K (bs t.S) (bs t.Z) i) : partU s l t i = usesN s l t.A[i] := by unfold partU; rw [dif_pos hi, if_neg h]

/-- No more uses than nodes. -/
theorem sumU_nodes {s : List UInt8} {l : Nat} {t : Tm} (IH : ∀ (x : Tm) (m : Nat), nodesM l x = some m → usesN s l x ≤ m) : ∀ (n : Nat), n ≤ t.A.length → ∀ b, nodesG (nodesM l) (t.A.take n) = some b → sumU (partU s l t) n ≤ b := by
  intro n
  induction n with
  | zero => intro _ b _; exact Nat.zero_le _
  | succ n ih =>
    intro hn b hb
    have hn' : n < t.A.length := by omega
    cases h0 : nodesG (nodesM l) (t.A.take n) with
    | none =>
      exfalso
      rw [List.take_succ_eq_append_getElem hn', nodesG_append, h0] at hb
      simp at hb
    | some b0 =>
      rw [nodesG_take _ _ _ hn' b0 h0] at hb
      cases hx : nodesM l t.A[n] with
      | none => rw [hx] at hb; simp at hb
      | some x =>
        rw [hx] at hb
        simp at hb
        have h1 := ih (by omega) b0 h0
        have h2 := IH _ x hx
        show sumU (partU s l t) n + partU s l t n ≤ b
        by_cases hm : s ∈ bindsW t.K (bs t.S) (bs t.Z) n
        · rw [partU_in hn' hm]; omega
        · rw [partU_out hn' hm]; omega
theorem usesN_nodes (s : List UInt8) : ∀ (l : Nat) (t : Tm) (m : Nat), nodesM l t = some m → usesN s l t ≤ m := by
  intro l
  induction l with
  | zero => intro t m h; simp [nodesM] at h
  | succ l ih =>
    intro t m h
    rw [nodesM] at h
    split at h
    · obtain ⟨b, hb, hm⟩ := Option.map_eq_some_iff.1 h
      by_cases hv : t.K = 3 ∧ bs t.S = s
      · rw [usesN_var hv]; omega
      · rw [usesN_not hv]
        have := sumU_nodes ih t.A.length (Nat.le_refl _) b (by rw [List.take_of_length_le (Nat.le_refl _)]; exact hb)
        omega
    · simp at h
theorem sumU_le (f : Nat → Nat) (n k : Nat) : sumU f n ≤ sumU f (n + k) := by
  induction k with
  | zero => exact Nat.le_refl _
  | succ k ih => exact Nat.le_trans ih (Nat.le_add_right _ _)

/-- A use: where it stands, and the names that are bound there. -/
abbrev Use := Addr × Option Addr × Nat × Nat
def useV (u : Use) : List Value := [.pointer (some u.1), .slice u.2.1 u.2.2.1 u.2.2.2]
theorem Try.infoUse : (Try.prog.info? 70).map (fun i => (i.zero, i.size, i.bytes)) = some (some (.agg #[.pointer none, .slice none 0 0]), 2, 32) := by kernel_rfl
/-- A row of uses of one's own. -/
def Uss (base : Nat) (w : World) (v : Value) (us : List Use) : Prop := w.ownsRow base 70 2 v us.length (us.flatMap useV)

theorem flat_len (us : List Use) : (us.flatMap useV).length = us.length * 2 := by
  induction us with
  | nil => rfl
  | cons u us ih => simp [List.flatMap_cons, ih, useV]; omega
theorem uss_own {base : Nat} {w : World} {v : Value} {us : List Use} (h : Uss base w v us) {g : Nat} (hg : v.ownBlock = some g) : base ≤ g ∧ g < w.heap.size := by
  rcases h.2 with ⟨rfl, _⟩ | ⟨g', cap, cur, rfl, hb, hh, _⟩
  · cases hg
  · have e : g' = g := by simpa [Value.ownBlock] using hg
    subst e
    exact ⟨hb, (Array.getElem?_eq_some_iff.1 hh).1⟩
theorem uss_nil (base : Nat) (w : World) : Uss base w (.slice none 0 0) [] := ⟨rfl, Or.inl ⟨rfl, rfl⟩⟩
theorem uss_form {base : Nat} {w : World} {v : Value} {us : List Use} (h : Uss base w v us) : ∃ ao cap, v = .slice ao us.length cap := by
  rcases h.2 with ⟨rfl, hn⟩ | ⟨g, cap, cur, rfl, _⟩
  · exact ⟨none, 0, by rw [hn]⟩
  · exact ⟨_, cap, rfl⟩
theorem uss_keep {base : Nat} {w w' : World} {v : Value} {us : List Use} (h : Uss base w v us) (hk : ∀ g, v.ownBlock = some g → w'.heap[g]? = w.heap[g]?) : Uss base w' v us := by
  refine ⟨h.1, ?_⟩
  rcases h.2 with h' | ⟨g, cap, cur, rfl, hb, hh, r⟩
  · exact Or.inl h'
  · exact Or.inr ⟨g, cap, cur, rfl, hb, (hk g rfl).trans hh, r⟩
theorem uss_below {base : Nat} {w w' : World} {v : Value} {us : List Use} (h : Uss base w v us) (hb : Below w.heap.size w w') : Uss base w' v us :=
  uss_keep h fun g hg => hb.block g (uss_own h hg).2
theorem uss_one {base : Nat} {w : World} {g : Nat} {u : Use} (h : w.heap[g]? = some (.cells #[.pointer (some u.1), .slice u.2.1 u.2.2.1 u.2.2.2] 70 (0, 0))) (hb : base ≤ g) : Uss base w (.slice (some ⟨g, 0, none⟩) 1 1) [u] :=
  ⟨by simp [useV], Or.inr ⟨g, 1, _, rfl, hb, h, by simp, by unfold maxLen; omega, by simp, by simp [useV]⟩⟩

/-- A row of uses behind another one. -/
theorem uss_app {base base' : Nat} {w : World} {v v2 : Value} {us us2 : List Use} (h : Uss base w v us) (hb : base ≤ w.heap.size) (h2 : Uss base' w v2 us2) (hl : us.length + us2.length ≤ 1048577) :
    ∃ ao cap w2, (Builtin.append_ #[50, 50] 50 #[v, v2]).run Try.prog w = .ok (.slice ao (us.length + us2.length) cap) w2 ∧ Uss base w2 (.slice ao (us.length + us2.length) cap) (us ++ us2) ∧ w.grownBy w2 v.ownBlock := by
  obtain ⟨i0, hi, hz0, hz1, hz2⟩ := info_parts Try.infoUse
  by_cases hn : us2 = []
  · subst hn
    have hv : ∃ a2 cap, v = .slice a2 us.length cap ∧ us.length ≤ cap := by
      rcases h.2 with ⟨rfl, hn⟩ | ⟨g, cap, cur, rfl, hg, hh, h1, h2, h3, h4⟩
      · exact ⟨none, 0, by rw [hn], by omega⟩
      · exact ⟨_, cap, rfl, h1⟩
    obtain ⟨a2, cap, rfl, hcap⟩ := hv
    obtain ⟨ao, c, rfl⟩ := uss_form h2
    refine ⟨a2, cap, w, ?_, by rw [List.append_nil]; exact h, ⟨rfl, rfl, rfl, Nat.le_refl _, fun _ _ _ => rfl⟩⟩
    show (Builtin.append_ #[50, 50] 50 #[.slice a2 us.length cap, .slice ao 0 c]).run Try.prog w = .ok (.slice a2 us.length cap) w
    refine run_append_nothing (P := Try.prog) w 50 50 50 70 i0 Try.underlying50 hi a2 us.length cap hcap _ ?_
    cases ao with
    | none => exact Src.ofNil _ Try.underlying50 c
    | some a => exact Src.ofSlice _ Try.underlying50 a 0 c [] (by simp) (by simp) (by simp)
  · have hn0 : 0 < us2.length := List.length_pos_iff.2 hn
    rcases h2.2 with ⟨rfl, hz⟩ | ⟨g2, cap2, cur, rfl, hg2, hh2, k1, k2, k3, k4⟩
    · omega
    have hfl := flat_len us2
    obtain ⟨g, cap, w2, hrun, hown2, hgrow, hat, hlt⟩ := run_append_lies (P := Try.prog) w 50 50 base 70 i0 _ 2 32 Try.underlying50 hi hz0 hz1 hz2 rfl (by omega) v us.length _ h
      ⟨g2, 0, none⟩ us2.length cap2 (us2.flatMap useV) (by rw [hfl]) (fun j u hu => by
        have ea : (⟨g2, 0, none⟩ : Addr).add j = ⟨g2, 0 + j, none⟩ := (by unfold Addr.add; split <;> simp_all)
        rw [ea, Nat.zero_add, row_cell hh2]
        have hj : j < (us2.flatMap useV).length := by
          rcases Nat.lt_or_ge j (us2.flatMap useV).length with h | h
          · exact h
          · rw [List.getElem?_eq_none h] at hu; simp at hu
        rw [← k4, List.getElem?_take, if_pos (by rw [hfl] at hj; omega)] at hu
        rw [← Array.getElem?_toList]
        exact hu) (by
        intro u hu
        obtain ⟨x, _, hx⟩ := List.mem_flatMap.1 hu
        simp only [useV, List.mem_cons, List.not_mem_nil, or_false] at hx
        rcases hx with rfl | rfl <;> rfl)
      hn0 (by unfold maxLen; omega) (by omega) hb _ rfl
    refine ⟨_, cap, w2, hrun, ?_, hgrow⟩
    unfold Uss
    rw [List.length_append, List.flatMap_append]
    exact hown2

end Go.Proofs.Ytbdmdgghhefmcaa
