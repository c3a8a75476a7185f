/-
  The program's reader of terms at every depth; the program's 'ParseTerm'.
-/
import Derived.Test.YthmmapahobkhnaaPmZ34
import Derived.Test.YthmmapahobkhnaaPmZ35
import Derived.Test.YthmmapahobkhnaaPmZ2
import Derived.Test.YthmmapahobkhnaaPmPmL
namespace Go.Proofs.Ythmmapahobkhnaa
open Go.RowKit Go.PlainAid
set_option linter.unusedVariables false
set_option linter.unusedSimpArgs false

set_option maxRecDepth 100000 in
set_option maxHeartbeats 1500000 in
theorem term_zero : SaidTr 0 := by
  intro p ao len cap a L B bad T w hT h
  have hp := h.lt
  obtain ⟨X, hX⟩ : ∃ X, X = w.alloc (.cells #[.int .i64 0, .int .i64 0, .string ⟨#[]⟩, .string ⟨#[]⟩, .int .i64 0, .int .i64 0, .slice none 0 0, .slice none 0 0, .slice none 0 0] 27) := ⟨_, rfl⟩
  have hXb : Below w.heap.size w X := by rw [hX]; exact (Below.refl _ _).alloc (Nat.le_refl _) _
  have hXs : X.heap.size = w.heap.size + 1 := by rw [hX]; simp
  have hXr : X.heap[w.heap.size]? = some (.cells #[.int .i64 0, .int .i64 0, .string ⟨#[]⟩, .string ⟨#[]⟩, .int .i64 0, .int .i64 0, .slice none 0 0, .slice none 0 0, .slice none 0 0] 27 (0, 0)) := by rw [hX]; exact heap_new rfl
  have hRX := h.below hXb
  have HX : Hid (X = _) := hX
  clear hX
  go_enter Try.func14, Try.ntmps14
  go_wp2_with fail
  rw [← HX.out]
  refine (token_any p ao len cap a L B bad T _ hT hRX).mono ?_
  rintro e w1 ⟨x, a1, b1, rfl, hg1, hR1, hO1, hx⟩
  have hz1 := hg1.size
  have hr1 := (hg1.block w.heap.size (by omega) (by simp; omega)).trans hXr
  have hgw1 : w.grownBy w1 (some p) := gr_trans (gr_below hXb) hg1
  have HKW : Hid (∀ w : World, Calls Try.prog 37 #[.string ⟨x.toArray⟩] w fun e w' => e = .returned (.int .i64 (kindW x)) ∧ w' = w) := fun w => kindOfWord_any x w
  show _
  unfold tk
  go_wp2_with fail
  refine (HKW.out _).mono ?_
  rintro e wk ⟨rfl, rfl⟩
  go_wp2_with fail
  refine (shapeOf_any (kindW x) _).mono ?_
  rintro e w2 ⟨rfl, hb2⟩
  have hz2 := hb2.size
  have hR2 := hR1.below hb2
  have hr2 := (hb2.block w.heap.size (by omega)).trans hr1
  have hgw2 : w.grownBy w2 (some p) := gr_trans hgw1 (gr_below hb2)
  cases hkk : kOk (kindW x)
  all_goals
    have hA : ∀ o, Below w2.heap.size w2 (w2.alloc o) := fun o => (Below.refl _ _).alloc (Nat.le_refl _) _
    obtain ⟨S, hS⟩ : ∃ S, S = w2.alloc (.cells #[.int .i64 (shN (kindW x)), .int .i64 (shL (kindW x)), .int .i64 (shM (kindW x)), .bool (shT (kindW x)), .int .i64 (shS (kindW x)), .int .i64 (shP (kindW x))] 65) := ⟨_, rfl⟩
    have hRS : Rdm L B S p ao len cap a1 b1 T := by rw [hS]; exact hR2.below (hA _)
    have hrS := (show Below w2.heap.size w2 S by rw [hS]; exact hA _).block w.heap.size (by omega) |>.trans hr2
    have hgS : w.grownBy S (some p) := by rw [hS]; exact gr_trans hgw2 (gr_below (hA _))
    have hzS : w2.heap.size ≤ S.heap.size := by rw [hS]; simp
    have HS : Hid (S = _) := hS
    have HO : Hid (RdO (termR (0)) T a bad zTr a1 true) := rdo_fail
    obtain ⟨f0, f1, f2⟩ := box_cells hRS.row
    have f3 := row_free hRS.row
    have hYr : (S.setCell ⟨p, 2, none⟩ (.bool true)).heap[w.heap.size]? = _ := (row_other _ _ _ (by omega)).trans hrS
    obtain ⟨r0, r1, r2, r3, r4, r5, r6, r7, r8⟩ := Nine.box hYr
    have rf := row_free hYr
    have HF : Hid (∀ e, e = Ending.returned (.agg #[.int .i64 0, .int .i64 0, .string ⟨#[]⟩, .string ⟨#[]⟩, .int .i64 0, .int .i64 0, .slice none 0 0, .slice none 0 0, .slice none 0 0]) → TmRd (0) L B w (set9 (S.setCell ⟨p, 2, none⟩ (.bool true)) w.heap.size 0 (.int .i64 0) (.int .i64 0) (.string ⟨#[]⟩) (.string ⟨#[]⟩) (.int .i64 0) (.int .i64 0) (.slice none 0 0) (.slice none 0 0) (.slice none 0 0)) e p ao len cap T a bad) := fun e he =>
      tmrd_zero he (gr_set9 (gr_set hgS) (Nat.le_refl _)) ((hRS.setB true).keep (fun q hq => set9_other _ (by have := hRS.lo; omega)) (set9_other _ (by omega))) HO.out
    clear hS hYr hA
    go_upto_region 3 with fail
    rw [← HS.out]
    go_wp2_with fail
    refine bodyPost_ret (v := .agg #[.int .i64 0, .int .i64 0, .string ⟨#[]⟩, .string ⟨#[]⟩, .int .i64 0, .int .i64 0, .slice none 0 0, .slice none 0 0, .slice none 0 0]) (by simp [results, Try.results14, go_sem, r0, r1, r2, r3, r4, r5, r6, r7, r8]) rfl ?_
    exact HF.out _ rfl

theorem term_any : ∀ lv, lv ≤ 25 → SaidTr lv := by
  intro lv
  induction lv with
  | zero => intro _; exact term_zero
  | succ lv ih => intro h; exact term_step lv (by omega) (ih (by omega))

end Go.Proofs.Ythmmapahobkhnaa

/-
  The tokens of a right term: none is empty, none has a blank; texts and tokens. No walk, no statement.
-/
namespace Go.Proofs.Ythmmapahobkhnaa
open Go.RowKit Go.PlainAid
set_option linter.unusedVariables false
set_option linter.unusedSimpArgs false

/-- A token. -/
def Wd (x : List UInt8) : Prop := x ≠ [] ∧ ∀ b ∈ x, b ≠ 32

theorem dec_wd (u : Nat) : Wd (Lib.decDigits u) := by
  refine ⟨dec_ne u, fun b hb e => ?_⟩
  have := List.all_eq_true.1 (dec_all u) b hb
  subst e
  revert this
  decide
theorem itoa_wd (n : Int) : Wd (Lib.itoa n) := by
  unfold Lib.itoa
  split
  · refine ⟨by simp, fun b hb => ?_⟩
    rcases List.mem_cons.1 hb with rfl | hb
    · decide
    · exact (dec_wd _).2 b hb
  · exact dec_wd _
theorem bt_sb2 (s : ByteArray) (k : Nat) (h : k < (sb s).length) : bt s k = ((sb s)[k].toNat : Int) := by
  have hk : k < s.size := by rw [sb_len] at h; exact h
  unfold bt
  rw [dif_pos hk]
  simp only [sb, Array.getElem_toList]
  rfl
theorem name_wd {s : ByteArray} (h : nameW s = true) : Wd (sb s) := by
  have hs := nameW_sz h
  have hl := sb_len s
  simp only [nameW, Bool.and_eq_true, decide_eq_true_eq] at h
  refine ⟨fun e => by rw [e] at hl; simp at hl; omega, fun b hb e => ?_⟩
  obtain ⟨k, hk, rfl⟩ := List.mem_iff_getElem.1 hb
  have h1 := allB_get h.2 k (by omega)
  rw [bt_sb2 s k hk, e] at h1
  revert h1
  decide
theorem tokOf_wd (k n : Int) : Wd (tokOf k n) := by
  refine ⟨?_, tokOf_plain k n⟩
  unfold tokOf
  (repeat' split) <;> simp
theorem toksW_wd : ∀ (l : Nat) (t : Tr), ∀ x ∈ toksW l t, Wd x := by
  intro l
  induction l with
  | zero => intro t x hx; simp [toksW] at hx
  | succ l ih =>
    intro t x hx
    obtain ⟨k, n, ts⟩ := t
    simp only [toksW, List.mem_cons, List.mem_flatten, List.mem_map] at hx
    rcases hx with rfl | ⟨_, ⟨y, _, rfl⟩, hx⟩
    · exact tokOf_wd k n
    · exact ih y x hx
theorem sign_wd (n : Int) : Wd (signM n) := by
  unfold signM Wd
  (repeat' split) <;> simp
theorem word_wd (k n : Int) (h1 : 1 ≤ k) (h2 : k ≤ 17) : Wd (wordN k n) := by
  rcases kinds h1 h2 with rfl | rfl | rfl | rfl | rfl | rfl | rfl | rfl | rfl | rfl | rfl | rfl | rfl | rfl | rfl | rfl | rfl
  all_goals first | (unfold Wd wordN wordM; simp; done) | (unfold wordN; rw [if_pos rfl]; unfold Wd; split <;> simp)

theorem mem_if {c : Prop} [Decidable c] {P : List (List UInt8)} {x : List UInt8} (h : x ∈ (if c then P else [])) : c ∧ x ∈ P := by
  by_cases hc : c
  · rw [if_pos hc] at h; exact ⟨hc, h⟩
  · rw [if_neg hc] at h; cases h

theorem head_wd {t : Tm} (h : nodeM t = true) : ∀ x ∈ headM t.K t.N t.S t.Z t.T t.Ts, Wd x := by
  have hn := NodeIs.of h
  have hnm := hn.nm
  intro x hx
  rw [headM_eq hn.k1 hn.k17] at hx
  rcases List.mem_cons.1 hx with rfl | hx
  · exact word_wd _ _ hn.k1 hn.k17
  unfold tailM at hx
  rcases List.mem_append.1 hx with hx | hx
  · obtain ⟨hc, hx⟩ := mem_if hx
    rw [List.mem_singleton.1 hx]
    apply name_wd
    unfold namesB at hnm
    rw [if_neg (by omega)] at hnm
    split at hnm
    · simp only [Bool.and_eq_true] at hnm; exact hnm.1
    · simp only [Bool.and_eq_true] at hnm; exact hnm.1.1
  rcases List.mem_append.1 hx with hx | hx
  · obtain ⟨hc, hx⟩ := mem_if hx
    rw [List.mem_singleton.1 hx]
    apply name_wd
    unfold namesB at hnm
    rw [if_neg (by omega), if_neg (by omega)] at hnm
    simp only [Bool.and_eq_true] at hnm
    exact hnm.1.2
  rcases List.mem_append.1 hx with hx | hx
  · unfold numT at hx
    split at hx
    · rw [List.mem_singleton.1 hx]; exact itoa_wd _
    · split at hx
      · rw [List.mem_singleton.1 hx]; exact sign_wd _
      · cases hx
  rcases List.mem_append.1 hx with hx | hx
  · obtain ⟨_, hx⟩ := mem_if hx
    exact toksW_wd _ _ x hx
  rcases List.mem_append.1 hx with hx | hx
  · obtain ⟨_, hx⟩ := mem_if hx
    rcases List.mem_cons.1 hx with rfl | hx
    · exact itoa_wd _
    · obtain ⟨l, hl, hx⟩ := List.mem_flatten.1 hx
      obtain ⟨y, _, rfl⟩ := List.mem_map.1 hl
      exact toksW_wd _ _ x hx
  · cases hx

theorem toksM_wd : ∀ (l : Nat) (t : Tm) (m : Nat), nodesM l t = some m → ∀ x ∈ toksM l t, Wd x := by
  intro l
  induction l with
  | zero => intro t m h; simp [nodesM] at h
  | succ l ih =>
    intro t m h x hx
    obtain ⟨hn, b, hb, _⟩ := nodesM_inv2 h
    have hx : x ∈ headM t.K t.N t.S t.Z t.T t.Ts ++ (t.A.map (toksM l)).flatten := hx
    rcases List.mem_append.1 hx with hx | hx
    · exact head_wd (nodesM_node h) x hx
    · obtain ⟨y, hy, hx⟩ := List.mem_flatten.1 hx
      obtain ⟨z, hz, rfl⟩ := List.mem_map.1 hy
      obtain ⟨mz, hmz⟩ := nodesG_all hb z hz
      exact ih z mz hmz x hx

theorem parM_good {T : List (List UInt8)} {t : Tm} (h : parM T = some t) : goodT 18450 T = true := by
  obtain ⟨rfl, hok⟩ := parM_some h
  obtain ⟨m, hm, h6⟩ := okM_le hok
  unfold goodT
  rw [Bool.and_eq_true, decide_eq_true_eq, List.all_eq_true]
  refine ⟨by have := toksM_len 24 t m hm; omega, fun x hx => ?_⟩
  have := (toksM_wd 24 t m hm x hx).1
  cases x with
  | nil => exact (this rfl).elim
  | cons b x => rfl
theorem parM_bad {T : List (List UInt8)} (h : goodT 18450 T = false) : parM T = none := by
  cases hp : parM T with
  | none => rfl
  | some t => rw [parM_good hp] at h; cases h

/-- A text is that of a right term if its tokens are. -/
theorem parM_text (s : List UInt8) (t : Tm) : parM (spl s) = some t ↔ (okM t = true ∧ txM t = s) := by
  constructor
  · intro h
    obtain ⟨h1, h2⟩ := parM_some h
    refine ⟨h2, ?_⟩
    unfold txM
    rw [if_pos h2, ← h1, join_spl]
  · rintro ⟨h1, h2⟩
    obtain ⟨m, hm, _⟩ := okM_le h1
    unfold txM at h2
    rw [if_pos h1] at h2
    rw [← h2, spl_join _ (toksM_ne 23 t) fun x hx => (toksM_wd 24 t m hm x hx).2]
    exact parM_of h1

theorem spl_each (s : List UInt8) : ∀ x ∈ spl s, x.length ≤ s.length := by
  have key : ∀ (s cur : List UInt8), ∀ x ∈ splAcc cur s, x.length ≤ cur.length + s.length := by
    intro s
    induction s with
    | nil => intro cur x hx; simp [splAcc] at hx; rw [hx]; simp
    | cons b s ih =>
      intro cur x hx
      rw [splAcc] at hx
      split at hx
      · rcases List.mem_cons.1 hx with rfl | hx
        · simp
        · have := ih [] x hx
          simp only [List.length_cons, List.length_nil] at *
          omega
      · have := ih (cur ++ [b]) x hx
        simp only [List.length_append, List.length_cons, List.length_nil] at *
        omega
  intro x hx
  have := key s [] x hx
  simpa using this

end Go.Proofs.Ythmmapahobkhnaa
