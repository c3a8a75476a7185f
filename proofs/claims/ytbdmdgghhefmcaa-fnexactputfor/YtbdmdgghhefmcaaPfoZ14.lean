/-
  A region that draws its order, walked in one way where its calls make new memory alone.
-/
import Derived.Test.YtbdmdgghhefmcaaPfoZ1
import Derived.Deep.QuietTactic
import Derived.BigQuiet
import Derived.Test.YtbdmdgghhefmcaaPfoZ5
import Derived.Test.YtbdmdgghhefmcaaPfoZ3
import Derived.Deep.RegionWith
import Derived.Deep.RegionHeld3
import Derived.Test.YtbdmdgghhefmcaaPfoZ6
import Derived.Test.YtbdmdgghhefmcaaPfoOw
import Derived.Lib.SlicesS
namespace Go.Proofs.Ytbdmdgghhefmcaa
open Go.RowKit
set_option linter.unusedVariables false
set_option linter.unusedSimpArgs false

theorem wp_region_below {P : Program} {id : Nat} {Q : Exit → Act → World → Prop} {a : Act} {X : World} {l : List Oper} (hm : P.follows .mixedOrders = true) (hB : Region.lexB .any l.toArray = true)
    (h : wpQuiet P l.toArray (fun w' => Below X.heap.size X w') (fun a' => ∀ w', Below X.heap.size X w' → Q .normal a' w') l a) : (Code.region id l.toArray true).wp P Q a X :=
  wp_region_quiet (C := fun w' => Below X.heap.size X w') hm hB ((Below.refl _ _).drew) (by simpa using h)

end Go.Proofs.Ytbdmdgghhefmcaa

/-
  Terms as forms: the value that 'formOf' answers of a term that is right; no memory is in it but that of its types.
-/
namespace Go.Proofs.Ytbdmdgghhefmcaa
open Go.RowKit
set_option linter.unusedVariables false
set_option linter.unusedSimpArgs false

/-- The form of a term, its parts' forms being ps. -/
def fval (nd k n : Int) (s z : ByteArray) (tk tn : Int) (v1 v2 : Value) (p0 p1 p2 : Value) : Value :=
  if k = 1 then .iface 123 (.agg #[.int .i64 n])
  else if k = 2 then .iface 124 (.agg #[.int .i64 n])
  else if k = 3 then .iface 96 (.agg #[.string s, v2])
  else if k = 4 then .iface 99 (.agg #[.int .i64 nd, .string s, .int .i64 tk, .int .i64 tn, v1, p0])
  else if k = 5 then .iface 126 (.agg #[.int .i64 nd, p0, p1])
  else if k = 6 then .iface 102 (.agg #[.string s, .int .i64 n, p0, p1])
  else if k = 7 then .iface 104 (.agg #[.string s, .int .i64 n, .int .i64 tk, .int .i64 tn, v1, p0, p1])
  else if k = 8 then .iface 128 (.agg #[p0, p1, p2])
  else if k = 9 then .iface 130 (.agg #[p0, p1])
  else if k = 10 then .iface 132 (.agg #[p0])
  else if k = 11 then .iface 133 (.agg #[p0])
  else if k = 12 then .iface 135 (.agg #[.int .i64 tk, .int .i64 tn, v1])
  else if k = 13 then .iface 137 (.agg #[p0, p1])
  else if k = 14 then .iface 106 (.agg #[.string s, .string z, p0, p1, p2])
  else if k = 15 then .iface 139 (.agg #[.int .i64 n, p0, p1])
  else if k = 16 then .iface 141 (.agg #[.int .i64 tk, .int .i64 tn, v1, p0])
  else .iface 108 (.agg #[.string s, p0, p1])

/-- v is the form of t. -/
def Fv (L B : Nat) (w : World) (D : Nat) : Nat → Tm → Value → Prop
  | 0, _, _ => False
  | l + 1, t, v => ∃ (nd : Int) (a1 : Option Addr) (l1 c1 : Nat) (a2 : Option Addr) (l2 c2 : Nat) (p : Nat → Value), Hs L B w D a1 l1 t.T.A ∧ Hs L B w D a2 l2 t.Ts ∧ (∀ i (h : i < t.A.length), Fv L B w D l t.A[i] (p i)) ∧ v = fval nd t.K t.N t.S t.Z t.T.K t.T.N (.slice a1 l1 c1) (.slice a2 l2 c2) (p 0) (p 1) (p 2)

theorem Fv.iface {L B : Nat} {w : World} {D l : Nat} {t : Tm} {v : Value} (h : Fv L B w D l t v) : ∃ τ u, v = .iface τ u := by
  cases l with
  | zero => exact h.elim
  | succ l =>
    obtain ⟨nd, a1, l1, c1, a2, l2, c2, p, _, _, _, hx⟩ := h
    rw [hx]
    unfold fval
    by_cases h1 : t.K = 1
    · rw [if_pos h1]; exact ⟨_, _, rfl⟩
    rw [if_neg h1]
    by_cases h2 : t.K = 2
    · rw [if_pos h2]; exact ⟨_, _, rfl⟩
    rw [if_neg h2]
    by_cases h3 : t.K = 3
    · rw [if_pos h3]; exact ⟨_, _, rfl⟩
    rw [if_neg h3]
    by_cases h4 : t.K = 4
    · rw [if_pos h4]; exact ⟨_, _, rfl⟩
    rw [if_neg h4]
    by_cases h5 : t.K = 5
    · rw [if_pos h5]; exact ⟨_, _, rfl⟩
    rw [if_neg h5]
    by_cases h6 : t.K = 6
    · rw [if_pos h6]; exact ⟨_, _, rfl⟩
    rw [if_neg h6]
    by_cases h7 : t.K = 7
    · rw [if_pos h7]; exact ⟨_, _, rfl⟩
    rw [if_neg h7]
    by_cases h8 : t.K = 8
    · rw [if_pos h8]; exact ⟨_, _, rfl⟩
    rw [if_neg h8]
    by_cases h9 : t.K = 9
    · rw [if_pos h9]; exact ⟨_, _, rfl⟩
    rw [if_neg h9]
    by_cases h10 : t.K = 10
    · rw [if_pos h10]; exact ⟨_, _, rfl⟩
    rw [if_neg h10]
    by_cases h11 : t.K = 11
    · rw [if_pos h11]; exact ⟨_, _, rfl⟩
    rw [if_neg h11]
    by_cases h12 : t.K = 12
    · rw [if_pos h12]; exact ⟨_, _, rfl⟩
    rw [if_neg h12]
    by_cases h13 : t.K = 13
    · rw [if_pos h13]; exact ⟨_, _, rfl⟩
    rw [if_neg h13]
    by_cases h14 : t.K = 14
    · rw [if_pos h14]; exact ⟨_, _, rfl⟩
    rw [if_neg h14]
    by_cases h15 : t.K = 15
    · rw [if_pos h15]; exact ⟨_, _, rfl⟩
    rw [if_neg h15]
    by_cases h16 : t.K = 16
    · rw [if_pos h16]; exact ⟨_, _, rfl⟩
    rw [if_neg h16]
    exact ⟨_, _, rfl⟩

/-- From w to w' nothing has changed but what lies at p, and there is c. -/
structure Nx (p : Nat) (w w' : World) (c : Int) : Prop where
  kf : Kf (fun k => k = p) w (fun k => k = p) w'
  is : w'.heap[p]? = some (.cells #[.int .i64 c] 3 (0, 0))

theorem Nx.trans {p : Nat} {w w' w'' : World} {c c' : Int} (h : Nx p w w' c) (k : Nx p w' w'' c') : Nx p w w'' c' := ⟨h.kf.trans k.kf, k.is⟩
theorem Nx.lt {p : Nat} {w w' : World} {c : Int} (h : Nx p w w' c) : p < w'.heap.size := (Array.getElem?_eq_some_iff.1 h.is).1
theorem Nx.fm {p : Nat} {w w' : World} {c : Int} {L B D d : Nat} {t : Tm} {a1 a2 a3 : Option Addr} {l1 l2 l3 : Nat} (h : Nx p w w' c) (hB : B ≤ p) (hw : B ≤ w.heap.size) (hf : Fm L B w D d t a1 l1 a2 l2 a3 l3) : Fm L B w' D d t a1 l1 a2 l2 a3 l3 :=
  Fm.keep (fun k _ hk => h.kf.block k (by omega) (by omega)) (Nat.le_refl _) (Nat.le_refl _) hf

theorem Nx.drew {p : Nat} {w w' : World} {c : Int} (h : Nx p w w' c) : Nx p w w'.drew c := ⟨h.kf.trans (Kf.of_below ((Below.refl _ w').drew)), h.is⟩
end Go.Proofs.Ytbdmdgghhefmcaa

/-
  Free names: what 'meet' and 'gatherBound' come to; the two rows of names that lie in memory.
-/
namespace Go.Proofs.Ytbdmdgghhefmcaa
open Go.RowKit
set_option linter.unusedVariables false
set_option linter.unusedSimpArgs false

/-- The two rows of names, the bound ones and the free ones, behind the struct in block p. -/
structure FnSt (p : Nat) (w : World) (vb vf : Value) (Bd Fr : List (List UInt8)) : Prop where
  box : w.heap[p]? = some (.cells #[vb, vf] 83 (0, 0))
  bound : Toks (p + 1) w vb Bd
  free : Toks (p + 1) w vf Fr
  apart : ∀ g, vb.ownBlock = some g → vf.ownBlock ≠ some g

theorem FnSt.lt {p : Nat} {w : World} {vb vf : Value} {Bd Fr : List (List UInt8)} (h : FnSt p w vb vf Bd Fr) : p < w.heap.size := (Array.getElem?_eq_some_iff.1 h.box).1

theorem contains_toks {base : Nat} {w : World} {v : Value} {P : List (List UInt8)} (h : Toks base w v P) (hl : P.length ≤ 1048576) (s : ByteArray) :
    Calls Try.prog 42 #[v, .string s] w fun e w' => e = .returned (.bool (decide (bs s ∈ P))) ∧ w' = w := by
  rcases h.2 with ⟨rfl, hn⟩ | ⟨g, cap, cur, rfl, hg, hh, h1, h2, h3, h4⟩
  · have hP : P = [] := List.length_eq_zero_iff.1 hn
    subst hP
    exact (Try.slices_Contains_string_empty none 0 s w).mono fun e w' ⟨h1, h2⟩ => ⟨by rw [h1]; simp, h2⟩
  · refine (Try.slices_Contains_string g 0 P.length cap (P.map fun l => (⟨l.toArray⟩ : ByteArray)) s w (by simp) (by omega) ?_).mono fun e w' ⟨h1, h2⟩ => ⟨?_, h2⟩
    · intro j hj
      have hj' : j < P.length := by simpa using hj
      have e : (List.map tk P)[j]? = some (tk P[j]) := by simp [hj']
      rw [← h4, List.getElem?_take] at e
      rw [if_pos (by omega)] at e
      rw [Nat.zero_add, row_cell hh, ← Array.getElem?_toList, e]
      simp [tk, hj']
    · rw [h1]
      congr 2
      rw [List.take_of_length_le (by simp), Bool.eq_iff_iff, Lib.containsS_iff, decide_eq_true_eq, List.mem_map]
      constructor
      · rintro ⟨l, hl, e⟩
        have : bs s = l := by rw [← e]; simp [bs]
        rw [this]; exact hl
      · intro hm
        exact ⟨bs s, hm, mk_bs s⟩

/-- From w to w' no block has changed but p and those that the two rows own. -/
structure Kp (p : Nat) (vb vf : Value) (w : World) (vb' vf' : Value) (w' : World) : Prop where
  os : w'.os = w.os
  tape : w'.tape = w.tape
  output : w'.output = w.output
  size : w.heap.size ≤ w'.heap.size
  block : ∀ k, k < w.heap.size → k ≠ p → vb.ownBlock ≠ some k → vf.ownBlock ≠ some k → w'.heap[k]? = w.heap[k]?
  own : ∀ k, (vb'.ownBlock = some k ∨ vf'.ownBlock = some k) → (vb.ownBlock = some k ∨ vf.ownBlock = some k ∨ w.heap.size ≤ k)

theorem Kp.trans {p : Nat} {vb vf vb' vf' vb'' vf'' : Value} {w w' w'' : World} (h : Kp p vb vf w vb' vf' w') (k : Kp p vb' vf' w' vb'' vf'' w'') : Kp p vb vf w vb'' vf'' w'' := by
  refine ⟨k.os.trans h.os, k.tape.trans h.tape, k.output.trans h.output, Nat.le_trans h.size k.size, fun i hi hp h1 h2 => ?_, fun i hi => ?_⟩
  · have h3 : ∀ v : Value, (vb'.ownBlock = some i ∨ vf'.ownBlock = some i) → False := fun _ e => by
      rcases h.own i e with e | e | e
      · exact h1 e
      · exact h2 e
      · omega
    exact (k.block i (Nat.lt_of_lt_of_le hi h.size) hp (fun e => h3 vb (Or.inl e)) (fun e => h3 vb (Or.inr e))).trans (h.block i hi hp h1 h2)
  · rcases k.own i hi with e | e | e
    · exact h.own i (Or.inl e)
    · exact h.own i (Or.inr e)
    · exact Or.inr (Or.inr (Nat.le_trans h.size e))

theorem Kp.of_below {p : Nat} {vb vf : Value} {w w' : World} (h : Below w.heap.size w w') : Kp p vb vf w vb vf w' :=
  ⟨h.os, h.tape, h.output, h.size, fun k hk _ _ _ => h.block k hk, fun k hk => by rcases hk with e | e <;> simp [e]⟩
theorem Kp.refl {p : Nat} {vb vf : Value} {w : World} : Kp p vb vf w vb vf w := Kp.of_below (Below.refl _ _)

theorem Kp.below {p : Nat} {vb vf vb' vf' : Value} {w w' : World} {Bd Fr : List (List UInt8)} (h : Kp p vb vf w vb' vf' w') (hs : FnSt p w vb vf Bd Fr) : Below p w w' := by
  have hp := hs.lt
  refine ⟨h.os, h.tape, h.output, h.size, fun k hk => h.block k (by omega) (by omega) (fun e => ?_) (fun e => ?_)⟩
  · have := (toks_own hs.bound e).1; omega
  · have := (toks_own hs.free e).1; omega

theorem FnSt.below {p : Nat} {vb vf : Value} {w w' : World} {Bd Fr : List (List UInt8)} (h : FnSt p w vb vf Bd Fr) (hb : Below w.heap.size w w') : FnSt p w' vb vf Bd Fr :=
  ⟨(hb.block p h.lt).trans h.box, toks_keep h.bound fun g hg => hb.block g (toks_own h.bound hg).2, toks_keep h.free fun g hg => hb.block g (toks_own h.free hg).2, h.apart⟩

/-- A row has grown, and its new slice is stored: the struct's rows are as told. -/
theorem st_free {p : Nat} {w W w2 : World} {vb vf : Value} {Bd Fr Q : List (List UInt8)} (h : FnSt p w vb vf Bd Fr) (hW : Below w.heap.size w W) {g cap n : Nat}
    (hT : Toks (p + 1) w2 (.slice (some ⟨g, 0, none⟩) n cap) Q) (hg : W.grownBy w2 vf.ownBlock) (hat : vf.ownBlock = some g ∨ g = W.heap.size) :
    Kp p vb vf w vb (.slice (some ⟨g, 0, none⟩) n cap) (w2.setCell ⟨p, 1, none⟩ (.slice (some ⟨g, 0, none⟩) n cap)) ∧ FnSt p (w2.setCell ⟨p, 1, none⟩ (.slice (some ⟨g, 0, none⟩) n cap)) vb (.slice (some ⟨g, 0, none⟩) n cap) Bd Q := by
  have hp := h.lt
  have hz := hW.size
  have hown : ∀ k, vf.ownBlock = some k → p < k := fun k e => by have := (toks_own h.free e).1; omega
  have hblk : ∀ k, k < w.heap.size → vf.ownBlock ≠ some k → w2.heap[k]? = w.heap[k]? := fun k hk hne => (hg.block k (by omega) (fun e => hne e.symm)).trans (hW.block k hk)
  have hpb := (hblk p hp (fun e => by have := hown p e; omega)).trans h.box
  have hgp : p < g := by
    rcases hat with e | e
    · exact hown g e
    · omega
  refine ⟨⟨?_, ?_, ?_, ?_, fun k hk hkp h1 h2 => ?_, fun k hk => ?_⟩, ⟨?_, ?_, ?_, ?_⟩⟩
  · exact hg.os.trans hW.os
  · exact hg.tape.trans hW.tape
  · exact hg.output.trans hW.output
  · have := hg.size
    rw [World.size_setCell]
    omega
  · rw [row_other _ _ _ hkp]
    exact hblk k hk h2
  · rcases hk with e | e
    · exact Or.inl e
    · have e : g = k := by simpa [Value.ownBlock] using e
      subst e
      rcases hat with e | e
      · exact Or.inr (Or.inl e)
      · exact Or.inr (Or.inr (by omega))
  · rw [row_set hpb]; rfl
  · refine toks_keep h.bound fun k hk => ?_
    have h1 := toks_own h.bound hk
    rw [row_other _ _ _ (by omega)]
    exact hblk k h1.2 (h.apart k hk)
  · refine toks_keep hT fun k hk => ?_
    have e : g = k := by simpa [Value.ownBlock] using hk
    rw [row_other _ _ _ (by omega)]
  · intro k hk e
    have e : g = k := by simpa [Value.ownBlock] using e
    subst e
    rcases hat with e | e
    · exact h.apart g hk e
    · have := (toks_own h.bound hk).2
      omega

set_option maxRecDepth 100000 in
set_option maxHeartbeats 1000000 in
theorem meet_any (p : Nat) (s : ByteArray) (w : World) (vb vf : Value) (Bd Fr : List (List UInt8)) (h : FnSt p w vb vf Bd Fr) (h1 : Bd.length ≤ 100000) (h2 : Fr.length ≤ 100000) :
    Calls Try.prog 64 #[.pointer (some ⟨p, 0, none⟩), .string s] w fun e w' => ∃ vb' vf', e = .returned (.tuple #[]) ∧ Kp p vb vf w vb' vf' w' ∧ FnSt p w' vb' vf' Bd (meetW Bd Fr (bs s)) := by
  have hp := h.lt
  obtain ⟨c0, c1⟩ := two_cells h.box
  have c2 := row_free h.box
  obtain ⟨ab, cb, rfl⟩ := toks_form h.bound
  obtain ⟨af, cf, rfl⟩ := toks_form h.free
  have K1 := contains_toks h.bound (by omega) s
  have K2 := contains_toks h.free (by omega) s
  by_cases hb : bs s ∈ Bd
  · have hbd : decide (bs s ∈ Bd) = true := by simp [hb]
    have HM : Hid (meetW Bd Fr (bs s) = Fr) := by show _ = _; simp [meetW, hb]
    rw [hbd] at K1
    clear hb hbd
    go_enter Try.func64, Try.ntmps64
    go_wp2_with fail
    refine K1.mono ?_
    rintro e w1 ⟨rfl, rfl⟩
    go_wp2_with fail
    refine bodyPost_end (v := .tuple #[]) (by simp [results, Try.results64, go_sem]) rfl ?_
    exact ⟨_, _, rfl, Kp.refl, by rw [HM.out]; exact h⟩
  · have hbd : decide (bs s ∈ Bd) = false := by simp [hb]
    rw [hbd] at K1
    by_cases hf : bs s ∈ Fr
    · have hfd : decide (bs s ∈ Fr) = true := by simp [hf]
      have HM : Hid (meetW Bd Fr (bs s) = Fr) := by show _ = _; simp [meetW, hf]
      rw [hfd] at K2
      clear hb hbd hf hfd
      go_enter Try.func64, Try.ntmps64
      go_wp2_with fail
      refine K1.mono ?_
      rintro e w1 ⟨rfl, rfl⟩
      go_wp2_with fail
      refine K2.mono ?_
      rintro e w2 ⟨rfl, rfl⟩
      go_wp2_with fail
      refine bodyPost_end (v := .tuple #[]) (by simp [results, Try.results64, go_sem]) rfl ?_
      exact ⟨_, _, rfl, Kp.refl, by rw [HM.out]; exact h⟩
    · have hfd : decide (bs s ∈ Fr) = false := by simp [hf]
      have HM : Hid (meetW Bd Fr (bs s) = Fr ++ [bs s]) := by show _ = _; simp [meetW, hb, hf]
      rw [hfd] at K2
      clear hb hbd hf hfd
      have hW : Below w.heap.size w (w.alloc (.cells #[.string s] 9)) := (Below.refl _ _).alloc (Nat.le_refl _) _
      have hT := toks_keep (w' := w.alloc (.cells #[.string s] 9)) h.free fun g hg => hW.block g (toks_own h.free hg).2
      obtain ⟨g, cap, w2, hrun, hT2, hgr, hat, hlt⟩ := toks_grow hT (by simp; omega) [bs s] (by simp) (by simp; omega) w.heap.size 1 (by
        intro j u hu
        have hj : j = 0 := by
          have := (List.getElem?_eq_some_iff.1 hu).1
          simpa using this
        subst hj
        have e : tk (bs s) = u := by simpa using hu
        rw [← e, tk_bs, row_cell (heap_new rfl)]
        rfl)
      obtain ⟨hB, hS⟩ := st_free h hW hT2 hgr hat
      have HR : Hid ((Builtin.append_ #[57, 57] 57 #[.slice af Fr.length cf, .slice (some ⟨w.heap.size, 0, none⟩) 1 1]).run Try.prog (w.alloc (.cells #[.string s] 9)) = .ok (.slice (some ⟨g, 0, none⟩) (Fr.length + 1) cap) w2) := hrun
      have hown : ∀ k, Value.ownBlock (.slice af Fr.length cf) = some k → p < k := fun k e => by have := (toks_own h.free e).1; omega
      have hz2 := hgr.size
      have hbx2 : w2.heap[p]? = some (.cells #[.slice ab Bd.length cb, .slice af Fr.length cf] 83 (0, 0)) := (hgr.block p (by simp; omega) (fun e => by have := hown p e.symm; omega)).trans ((hW.block p hp).trans h.box)
      obtain ⟨d0, d1⟩ := two_cells hbx2
      have d2 := row_free hbx2
      clear hrun hgr hat hT hT2 hbx2 hown
      go_enter Try.func64, Try.ntmps64
      go_wp2_with fail
      refine K1.mono ?_
      rintro e w1 ⟨rfl, rfl⟩
      go_wp2_with fail
      refine K2.mono ?_
      rintro e w3 ⟨rfl, rfl⟩
      go_wp2_with (at_builtin; refine list_run HR.out (by rfl) _ _ (by rfl) (by rfl) (by rfl) (by rfl) ?_)
      refine bodyPost_end (v := .tuple #[]) (by simp [results, Try.results64, go_sem]) rfl ?_
      exact ⟨_, _, rfl, hB, by rw [HM.out]; exact hS⟩

end Go.Proofs.Ytbdmdgghhefmcaa
