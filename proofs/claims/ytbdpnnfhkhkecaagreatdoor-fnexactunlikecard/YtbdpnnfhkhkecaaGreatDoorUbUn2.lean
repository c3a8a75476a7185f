/-
  'renamed' of the program. (Written by mkun2.py.)
-/
import Derived.Test.YtbdpnnfhkhkecaaGreatDoorUbZ14
import Derived.Test.YtbdpnnfhkhkecaaGreatDoorUbApM
import Derived.Test.YtbdpnnfhkhkecaaGreatDoorUbZ18
import Derived.Test.YtbdpnnfhkhkecaaGreatDoorUbZ19
import Derived.Deep.Cut
import Derived.Deep.CutRange
import Derived.Deep.RegionLaw
namespace Go.Proofs.YtbdpnnfhkhkecaaGreatDoor
open Go.RowKit
set_option linter.unusedVariables false
set_option linter.unusedSimpArgs false

/-- Below h nothing has changed but what lies at p, and there is c. -/
structure Nh (p h : Nat) (w w' : World) (c : Int) : Prop where
  os : w'.os = w.os
  tape : w'.tape = w.tape
  output : w'.output = w.output
  size : w.heap.size ≤ w'.heap.size
  block : ∀ k, k < h → k ≠ p → w'.heap[k]? = w.heap[k]?
  is : w'.heap[p]? = some (.cells #[.int .i64 c] 3 (0, 0))

theorem Nx.nh {p h : Nat} {w w' : World} {c : Int} (hN : Nx p w w' c) (hh : h ≤ w.heap.size) : Nh p h w w' c :=
  ⟨hN.kf.os, hN.kf.tape, hN.kf.output, hN.kf.size, fun k hk hne => hN.kf.block k (by omega) hne, hN.is⟩
theorem Nh.nx {p : Nat} {w w' : World} {c : Int} (hN : Nh p w.heap.size w w' c) : Nx p w w' c :=
  ⟨⟨hN.os, hN.tape, hN.output, hN.size, fun k hk hne => hN.block k hk hne, fun k hk => Or.inl hk⟩, hN.is⟩
theorem Nh.below {p h h' : Nat} {w w' w'' : World} {c : Int} (hN : Nh p h w w' c) (hb : Below h' w' w'') (hh : h ≤ h') (hp : p < h') : Nh p h w w'' c :=
  ⟨hb.os.trans hN.os, hb.tape.trans hN.tape, hb.output.trans hN.output, Nat.le_trans hN.size hb.size, fun k hk hne => (hb.block k (by omega)).trans (hN.block k hk hne), (hb.block p hp).trans hN.is⟩
theorem Nh.trans {p h h' : Nat} {w w' w'' : World} {c c' : Int} (hN : Nh p h w w' c) (hM : Nh p h' w' w'' c') (hh : h ≤ h') : Nh p h w w'' c' :=
  ⟨hM.os.trans hN.os, hM.tape.trans hN.tape, hM.output.trans hN.output, Nat.le_trans hN.size hM.size, fun k hk hne => (hM.block k (by omega) hne).trans (hN.block k hk hne), hM.is⟩
theorem Nh.set {p h : Nat} {w w' : World} {c : Int} (hN : Nh p h w w' c) {g : Nat} (hg : h ≤ g) (hp : p ≠ g) (o : Nat) (v : Value) : Nh p h w (w'.setCell ⟨g, o, none⟩ v) c :=
  ⟨hN.os, hN.tape, hN.output, by rw [World.size_setCell]; exact hN.size, fun k hk hne => (row_other _ _ _ (by omega)).trans (hN.block k hk hne), (row_other _ _ _ hp).trans hN.is⟩
theorem Nh.of_below {p h : Nat} {w w' : World} {c : Int} (hb : Below h w w') (hp : p < h) (h0 : w.heap[p]? = some (.cells #[.int .i64 c] 3 (0, 0))) : Nh p h w w' c :=
  ⟨hb.os, hb.tape, hb.output, hb.size, fun k hk _ => hb.block k hk, (hb.block p hp).trans h0⟩
theorem Nh.fm {p h : Nat} {w w' : World} {c : Int} {L B D d : Nat} {t : Tm} {a1 a2 a3 : Option Addr} {l1 l2 l3 : Nat} (hN : Nh p h w w' c) (hB : B ≤ p) (hh : B ≤ h) (hf : Fm L B w D d t a1 l1 a2 l2 a3 l3) : Fm L B w' D d t a1 l1 a2 l2 a3 l3 :=
  Fm.keep (fun k _ hk => hN.block k (by omega) (by omega)) (Nat.le_refl _) (Nat.le_refl _) hf
theorem Nh.tab {p h B : Nat} {w w' : World} {c : Int} (hN : Nh p h w w' c) (hB : B ≤ p) (hh : B ≤ h) (hT : TabB B w) : TabB B w' :=
  hT.below ⟨hN.os, hN.tape, hN.output, hN.size, fun k hk => hN.block k (by omega) (by omega)⟩
theorem Nh.sc {p h : Nat} {w w' : World} {c : Int} (hN : Nh p h w w' c) (hh : w.heap.size ≤ h) {E : Env} {v : Value} (hs : Sc p w E v) : Sc p w' E v := hs.keep fun k hk hne => hN.block k (by omega) hne

/-- One term more appended, the counter having gone on meanwhile. -/
theorem apm_run2 {base p : Nat} {wr w1 : World} {D d : Nat} {v : Value} {k : Nat} {ts : List Tm} {c0 c : Int} (h : ApRelM base wr D d v k ts) (hk : k < ts.length) (hk2 : k ≤ 1048576) (hp : wr.heap[p]? = some (.cells #[.int .i64 c0] 3 (0, 0))) (hpb : p < base) (hN : Nx p wr w1 c) (hbase : base ≤ wr.heap.size) {a1 : Option Addr} {l1 c1 : Nat} {a2 : Option Addr} {l2 c2 : Nat} {a3 : Option Addr} {l3 c3 : Nat}
    (ho : FmO wr.heap.size w1.heap.size w1 D d ts[k] a1 l1 a2 l2 a3 l3) :
    ∃ g cap w2, (Builtin.append_ #[32, 32] 32 #[v, .slice (some ⟨w1.heap.size, 0, none⟩) 1 1]).run Tryz.prog (w1.alloc (.cells #[.int .i64 ts[k].K, .int .i64 ts[k].N, .string ts[k].S, .string ts[k].Z, .int .i64 ts[k].T.K, .int .i64 ts[k].T.N, .slice a1 l1 c1, .slice a2 l2 c2, .slice a3 l3 c3] 34)) = .ok (.slice (some ⟨g, 0, none⟩) (k + 1) cap) w2 ∧
      ApRelM base w2 D d (.slice (some ⟨g, 0, none⟩) (k + 1) cap) (k + 1) ts ∧ Nh p base wr w2 c := by
  obtain ⟨X, hX⟩ : ∃ X, X = wr.setCell ⟨p, 0, none⟩ (.int .i64 c) := ⟨_, rfl⟩
  have hXs : X.heap.size = wr.heap.size := by rw [hX]; simp
  have hXp : X.heap[p]? = some (.cells #[.int .i64 c] 3 (0, 0)) := by rw [hX, row_set hp]; rfl
  have hXo : ∀ i, i ≠ p → X.heap[i]? = wr.heap[i]? := fun i hi => by rw [hX]; exact row_other _ _ _ hi
  have hXw : X.os = wr.os ∧ X.tape = wr.tape ∧ X.output = wr.output := by rw [hX]; exact ⟨rfl, rfl, rfl⟩
  have hb : Below X.heap.size X w1 := ⟨hN.kf.os.trans hXw.1.symm, hN.kf.tape.trans hXw.2.1.symm, hN.kf.output.trans hXw.2.2.symm, by have := hN.kf.size; omega, fun i hi => by
    by_cases e : i = p
    · rw [e, hXp]; exact hN.is
    · rw [hXo i e]; exact hN.kf.block i (by omega) e⟩
  have hA : ApRelM base X D d v k ts := by rw [hX]; exact apm_set h hpb _
  obtain ⟨g, cap, w2, hrun, hap, hbe⟩ := apm_run (c1 := c1) (c2 := c2) (c3 := c3) hA hk hk2 hb (by omega) (by rw [hXs]; exact ho)
  exact ⟨g, cap, w2, hrun, hap, ⟨hbe.os.trans hXw.1, hbe.tape.trans hXw.2.1, hbe.output.trans hXw.2.2, by have := hbe.size; omega, fun i hi hne => (hbe.block i hi).trans (hXo i hne), (hbe.block p hpb).trans hXp⟩⟩

theorem apm_whole2 {base : Nat} {wr : World} {D' d : Nat} {len : Nat} {v : Value} {ts : List Tm} (h : ApRelM base wr D' (d - 1) v len ts) (h1 : len = ts.length) (h2 : len ≤ 9223372036854775807) (hd : 0 < len → 0 < d) : ∃ a c, v = .slice a len c ∧ OwMR base wr.heap.size wr D' d a len ts := by
  obtain ⟨a, c, e, ho⟩ := apm_done h h1 h2
  refine ⟨a, c, e, ?_⟩
  cases d with
  | zero =>
    have h3 : len = 0 := by
      rcases Nat.eq_zero_or_pos len with h | h
      · exact h
      · exact absurd (hd h) (by omega)
    subst h3
    have h4 : ts = [] := List.length_eq_zero_iff.1 h1.symm
    subst h4
    exact OwMR.nil _ _ _ _ _ _
  | succ d => exact ho

/-- Names behind names, the k first of a row. -/
def ba (l : List UInt8) : ByteArray := ⟨l.toArray⟩
theorem ba_bs (s : ByteArray) : ba (bs s) = s := by cases s; simp [ba, bs]
def pushE (A B : List (List UInt8)) (E : Env) : Nat → Env
  | 0 => E
  | k + 1 => match A[k]?, B[k]? with
    | some x, some y => (ba x, ba y) :: pushE A B E k
    | _, _ => pushE A B E k
theorem pushE_succ {A B : List (List UInt8)} {E : Env} {k : Nat} (h1 : k < A.length) (h2 : k < B.length) : pushE A B E (k + 1) = (ba A[k], ba B[k]) :: pushE A B E k := by
  simp only [pushE, List.getElem?_eq_getElem h1, List.getElem?_eq_getElem h2]
theorem nmI_len (k : Int) (s z s' z' : List UInt8) (i : Int) : (nmI k s z i).length = (nmI k s' z' i).length := by
  unfold nmI
  (repeat' split) <;> rfl
theorem nmI_le (k : Int) (s z : List UInt8) (i : Int) : (nmI k s z i).length ≤ 2 := by
  unfold nmI
  (repeat' split) <;> simp
theorem pushE_all (k : Int) (s z s' z' : ByteArray) (i : Nat) (E : Env) : pushE (nmI k (bs s) (bs z) i) (nmI k (bs s') (bs z') i) E (nmI k (bs s) (bs z) i).length = bindE k s z s' z' i E := by
  unfold nmI bindE
  by_cases c1 : k = 4 ∨ k = 7 ∨ (k = 6 ∧ i = 1) ∨ (k = 17 ∧ i = 1)
  · have c1' : k = 4 ∨ k = 7 ∨ (k = 6 ∧ (i : Int) = 1) ∨ (k = 17 ∧ (i : Int) = 1) := by omega
    simp only [if_pos c1, if_pos c1']; simp [pushE, ba_bs]
  · have c1' : ¬ (k = 4 ∨ k = 7 ∨ (k = 6 ∧ (i : Int) = 1) ∨ (k = 17 ∧ (i : Int) = 1)) := by omega
    simp only [if_neg c1, if_neg c1']
    by_cases c2 : k = 14 ∧ i = 2
    · have c2' : k = 14 ∧ (i : Int) = 2 := by omega
      simp only [if_pos c2, if_pos c2']; simp [pushE, ba_bs]
    · have c2' : ¬ (k = 14 ∧ (i : Int) = 2) := by omega
      simp only [if_neg c2, if_neg c2']; simp [pushE]

/-- Which names a right term has. -/
theorem names_3 {t : Tm} (hn : nodeM t = true) (h3 : t.K ≠ 3) : (ownN t.K = 0 ∧ t.S.toList.isEmpty = true ∧ t.Z.toList.isEmpty = true) ∨ (ownN t.K = 1 ∧ t.S.toList.isEmpty = false ∧ t.Z.toList.isEmpty = true) ∨ (ownN t.K = 2 ∧ t.S.toList.isEmpty = false ∧ t.Z.toList.isEmpty = false) := by
  simp only [nodeM, Bool.and_eq_true, decide_eq_true_eq] at hn
  have hb := hn.1.2
  have hs : ∀ s : ByteArray, nameW s = true → s.toList.isEmpty = false := fun s h => by
    have h1 := (nameW_sz h).1
    have h2 := isNil_size s
    unfold isNil at h2
    rw [h2, decide_eq_false_iff_not]
    omega
  have e : shN t.K = ownN t.K := by
    unfold shN ownN
    by_cases c : t.K = 4 ∨ t.K = 6 ∨ t.K = 7 ∨ t.K = 17
    · rw [if_pos (by omega), if_pos c]; rfl
    · rw [if_neg (by omega), if_neg c]
      split <;> rfl
  rw [e] at hb
  have hle := ownN_le t.K
  unfold namesB at hb
  rcases (show ownN t.K = 0 ∨ ownN t.K = 1 ∨ ownN t.K = 2 by omega) with h | h | h
  · rw [h, if_pos (by rfl)] at hb
    simp only [Bool.and_eq_true] at hb
    exact Or.inl ⟨h, hb.1, hb.2⟩
  · rw [h, if_neg (by decide), if_pos (by rfl)] at hb
    simp only [Bool.and_eq_true] at hb
    exact Or.inr (Or.inl ⟨h, hs _ hb.1, hb.2⟩)
  · rw [h, if_neg (by decide), if_neg (by decide)] at hb
    simp only [Bool.and_eq_true] at hb
    exact Or.inr (Or.inr ⟨h, hs _ hb.1.1, hs _ hb.1.2⟩)

/-- What 'renamed' answers. -/
def SaidRn (l : Nat) : Prop := ∀ (D d L B p : Nat) (t : Tm) (a1 : Option Addr) (l1 c1 : Nat) (a2 : Option Addr) (l2 c2 : Nat) (a3 : Option Addr) (l3 c3 : Nat) (m : Nat) (c : Int) (E : Env) (vs : Value) (w : World), B ≤ p → Fm L B w D d t a1 l1 a2 l2 a3 l3 → nodesM l t = some m → cntM t ≤ 1048576 → w.heap[p]? = some (.cells #[.int .i64 c] 3 (0, 0)) → 0 ≤ c → c + 2 * m ≤ 1000 → Sc p w E vs → clE l t E → EnvOk E → TabB B w →
    Calls Tryz.prog 30 #[.agg #[.int .i64 t.K, .int .i64 t.N, .string t.S, .string t.Z, .int .i64 t.T.K, .int .i64 t.T.N, .slice a1 l1 c1, .slice a2 l2 c2, .slice a3 l3 c3], .func (Fn.func 66) #[] #[.pointer (some ⟨p, 0, none⟩)], vs] w fun e w' => ∃ b1 m1 e1 b2 e2 b3 e3, e = .returned (.agg #[.int .i64 (renW l t c E).1.K, .int .i64 (renW l t c E).1.N, .string (renW l t c E).1.S, .string (renW l t c E).1.Z, .int .i64 (renW l t c E).1.T.K, .int .i64 (renW l t c E).1.T.N, .slice b1 m1 e1, .slice b2 l2 e2, .slice b3 l3 e3]) ∧ Nx p w w' (renW l t c E).2 ∧ FmO w.heap.size w'.heap.size w' (D + 1) d (renW l t c E).1 b1 m1 b2 l2 b3 l3

set_option maxRecDepth 100000 in
set_option maxHeartbeats 4000000 in
theorem rn_succ (l : Nat) (IH : SaidRn l) : SaidRn (l + 1) := by
  intro D d L B p t a1 l1 c1 a2 l2 c2 a3 l3 c3 m c E vs w hBp hf hm hc hp h0 hcm hSc hcl hE hT
  have hpw := (Array.getElem?_eq_some_iff.1 hp).1
  obtain ⟨hn, hparts⟩ := nodesM_inv hm
  obtain ⟨hl3, hl3m⟩ := hf.m.len
  have HL : Hid (l3 = t.A.length) := hl3
  have hml := allW_len _ t m hm
  have hm0 : 0 < m := by rw [← hml, allW_eq]; simp
  have hce := cntM_eq t
  have hc3 : l3 ≤ 1048576 := by have := cntMS_eq t.A; omega
  have HCA : Hid (cntMS t.A ≤ 1048576) := by show _ ≤ _; omega
  obtain ⟨vsa, rfl⟩ := hSc.ptr
  obtain ⟨X, hX⟩ : ∃ X, X = ((w.alloc (.cells #[.int .i64 t.K, .int .i64 t.N, .string t.S, .string t.Z, .int .i64 t.T.K, .int .i64 t.T.N, .slice a1 l1 c1, .slice a2 l2 c2, .slice a3 l3 c3] 34)).alloc (.cells #[.int .i64 0, .int .i64 0, .string ⟨#[]⟩, .string ⟨#[]⟩, .int .i64 0, .int .i64 0, .slice none 0 0, .slice none 0 0, .slice none 0 0] 34)) := ⟨_, rfl⟩
  have hXs : X.heap.size = w.heap.size + 2 := by rw [hX]; simp
  have hXb : Below w.heap.size w X := by rw [hX]; exact ((Below.refl _ _).alloc (Nat.le_refl _) _).alloc (by simp) _
  have hX0 : X.heap[w.heap.size]? = some (.cells #[.int .i64 t.K, .int .i64 t.N, .string t.S, .string t.Z, .int .i64 t.T.K, .int .i64 t.T.N, .slice a1 l1 c1, .slice a2 l2 c2, .slice a3 l3 c3] 34 (0, 0)) := by rw [hX, Below.heap_alloc _ _ _ (by simp)]; exact heap_new rfl
  have hX1 : X.heap[w.heap.size + 1]? = some (.cells #[.int .i64 0, .int .i64 0, .string ⟨#[]⟩, .string ⟨#[]⟩, .int .i64 0, .int .i64 0, .slice none 0 0, .slice none 0 0, .slice none 0 0] 34 (0, 0)) := by rw [hX]; exact heap_new (by simp)
  have hfX := Fm.below hXb (by omega) hf
  have HX : Hid (X = _) := hX
  have HXS : Hid (X.heap.size = w.heap.size + 2) := hXs
  clear hX hce hl3
  go_enter Tryz.func30, Tryz.ntmps30
  go_wp2_with fail
  rw [← HX.out]
  refine (copyHead_any D d L B t _ _ _ _ _ _ _ _ _ X (by omega) hfX hc).mono ?_
  rintro e w1 ⟨b1, m1, e1, b2, e2, M, rfl, hb1, hM1, hM2, ho1, ho2⟩
  have hz1 := hb1.size
  have hbw1 : Below w.heap.size w w1 := hXb.trans (hb1.mono (by omega))
  have x0 := (hb1.block w.heap.size (by omega)).trans hX0
  have x1 := (hb1.block (w.heap.size + 1) (by omega)).trans hX1
  obtain ⟨h, hh⟩ : ∃ h, h = w1.heap.size := ⟨_, rfl⟩
  have hhz : w.heap.size + 2 ≤ h := by omega
  have hph : p < h := by omega
  obtain ⟨W, hW⟩ : ∃ W, W = w1.alloc (.cells #[.int .i64 t.K, .int .i64 t.N, .string t.S, .string t.Z, .int .i64 t.T.K, .int .i64 t.T.N, .slice b1 m1 e1, .slice b2 l2 e2, .slice none 0 0] 34) := ⟨_, rfl⟩
  have hWb : Below w1.heap.size w1 W := by rw [hW]; exact (Below.refl _ _).alloc (Nat.le_refl _) _
  have hW0 : W.heap[h]? = some (.cells #[.int .i64 t.K, .int .i64 t.N, .string t.S, .string t.Z, .int .i64 t.T.K, .int .i64 t.T.N, .slice b1 m1 e1, .slice b2 l2 e2, .slice none 0 0] 34 (0, 0)) := by rw [hW]; exact heap_new hh
  have hWs : W.heap.size = h + 1 := by rw [hW, hh]; simp
  have HW : Hid (W = _) := hW
  have HH : Hid (h = w1.heap.size) := hh
  have xw0 := (hWb.block w.heap.size (by omega)).trans x0
  have xw1 := (hWb.block (w.heap.size + 1) (by omega)).trans x1
  have hWh : Below h w1 W := by rw [hh]; exact hWb
  have hp1 : w1.heap[p]? = some (.cells #[.int .i64 c] 3 (0, 0)) := (hbw1.block p hpw).trans hp
  have hpW : W.heap[p]? = some (.cells #[.int .i64 c] 3 (0, 0)) := (hWh.block p hph).trans hp1
  have hNW : Nh p h w1 W c := Nh.of_below hWh hph hp1
  have hbwW : Below w.heap.size w W := hbw1.trans (hWb.mono (by omega))
  have hScW : Sc p W E (.pointer vsa) := hSc.below hbwW
  have HO : Hid (OwR X.heap.size M w1 (D + 1) b1 m1 t.T.A ∧ OwR M w1.heap.size w1 (D + 1) b2 l2 t.Ts ∧ X.heap.size ≤ M ∧ M ≤ w1.heap.size) := ⟨ho1, ho2, hM1, hM2⟩
  obtain ⟨f0, f1, f2, f3, f4, f5, f6, f7, f8⟩ := Nine.box x0
  have hltx : w.heap.size < w1.heap.size := by omega
  have hlty : w.heap.size + 1 < w1.heap.size := by omega
  have hnI : NodeIs t := NodeIs.of hn
  have hnm := hnI.names
  clear hW hh ho1 ho2 hX0 hX1 hfX
  by_cases hK : t.K = 3
  · have hA0 : t.A.length = 0 := by
      have := (nodeM_kinds hn).2.2
      rw [hK] at this
      have h2 : shP 3 = 0 := rfl
      omega
    have HRW : Hid (renW (l + 1) t c E = (⟨t.K, t.N, fnd E t.S, t.Z, t.T, t.Ts, t.A⟩, c)) := by show _ = _; simp [renW, hK]
    have hfs := fnd_size hE (s := t.S) (by omega)
    have KF := find_any p E t.S (.pointer vsa) W hScW (hcl.1 hK)
    obtain ⟨F, hF⟩ : ∃ F, fnd E t.S = F := ⟨_, rfl⟩
    rw [hF] at KF HRW hfs
    have bK : (t.K == 3) = true := by simp [hK]
    have HK3 : Hid (t.K = 3) := hK
    clear hF hK
    go_wp2_with fail
    rw [← HW.out, ← HH.out]
    refine KF.mono ?_
    rintro e W2 ⟨rfl, hWW⟩
    obtain rfl : W = W2 := hWW.symm
    clear f0 f1 f2 f3 f4 f5 f6 f7 f8
    obtain ⟨q0, q1, q2, q3, q4, q5, q6, q7, q8⟩ := Nine.box hW0
    have qf := row_free hW0
    obtain ⟨p0, p1, p2, p3, p4, p5, p6, p7, p8⟩ := Nine.box xw1
    have pf := row_free xw1
    have hne : w.heap.size + 1 ≠ h := by omega
    go_wp2_with fail
    obtain ⟨V, hV⟩ : ∃ V, V = W.setCell ⟨h, 2, none⟩ (.string F) := ⟨_, rfl⟩
    have hVs : V.heap.size = W.heap.size := by rw [hV]; simp
    have hVo : ∀ k, k ≠ h → V.heap[k]? = W.heap[k]? := fun k hk => by rw [hV]; exact row_other _ _ _ hk
    have hVN : Nh p h w1 V c := by rw [hV]; exact hNW.set (Nat.le_refl _) (by omega) _ _
    obtain ⟨Y, hYe⟩ : ∃ Y, Y = set9 V (w.heap.size + 1) 0 (.int .i64 t.K) (.int .i64 t.N) (.string F) (.string t.Z) (.int .i64 t.T.K) (.int .i64 t.T.N) (.slice b1 m1 e1) (.slice b2 l2 e2) (.slice none 0 0) := ⟨_, rfl⟩
    have hYs : Y.heap.size = W.heap.size := by rw [hYe, set9_size, hVs]
    have hYo : ∀ k, k ≠ w.heap.size + 1 → Y.heap[k]? = V.heap[k]? := fun k hk => by rw [hYe]; exact set9_other k hk
    have hVb : Below w.heap.size w V := by rw [hV]; exact hbwW.setCell (p := ⟨h, 2, none⟩) (show w.heap.size ≤ h by omega) _
    have hYb : Below w.heap.size w Y := by rw [hYe]; exact set9_below hVb (by omega)
    have hYN : Nx p w Y c := ⟨Kf.of_below hYb, by rw [hYo p (by omega)]; exact hVN.is⟩
    have hfin : ∃ b1' m1' e1' b2' e2' b3' e3', Ending.returned (.agg #[.int .i64 t.K, .int .i64 t.N, .string F, .string t.Z, .int .i64 t.T.K, .int .i64 t.T.N, .slice b1 m1 e1, .slice b2 l2 e2, .slice none 0 0]) = .returned (.agg #[.int .i64 t.K, .int .i64 t.N, .string F, .string t.Z, .int .i64 t.T.K, .int .i64 t.T.N, .slice b1' m1' e1', .slice b2' l2 e2', .slice b3' l3 e3']) ∧ Nx p w Y c ∧ FmO w.heap.size Y.heap.size Y (D + 1) d ⟨t.K, t.N, F, t.Z, t.T, t.Ts, t.A⟩ b1' m1' b2' l2 b3' l3 := by
      obtain ⟨o1, o2, oM1, oM2⟩ := HO.out
      have hh := HH.out
      have hXs := HXS.out
      have hl0 : l3 = 0 := by have := HL.out; omega
      have hA : t.A = [] := List.length_eq_zero_iff.1 hA0
      subst hl0
      refine ⟨b1, m1, e1, b2, e2, none, 0, rfl, hYN, FmO.mk (L := w.heap.size) (M1 := M) (M2 := w1.heap.size) (by show F.size ≤ _; omega) hf.z ?_ ?_ (by rw [hA]; exact OwMR.nil _ _ _ _ _ _) (by omega) (by omega) (by omega)⟩
      · exact o1.keep (fun k hk1 hk2 => by rw [hYo k (by omega), hVo k (by omega)]; exact hWh.block k (by omega)) (by omega) (Nat.le_refl _)
      · exact o2.keep (fun k hk1 hk2 => by rw [hYo k (by omega), hVo k (by omega)]; exact hWh.block k (by omega)) (Nat.le_refl _) (Nat.le_refl _)
    rw [hYe, hV] at hfin
    refine bodyPost_ret (v := .agg #[.int .i64 t.K, .int .i64 t.N, .string F, .string t.Z, .int .i64 t.T.K, .int .i64 t.T.N, .slice b1 m1 e1, .slice b2 l2 e2, .slice none 0 0]) (by simp [results, Tryz.results30, go_sem, p0, p1, p2, p3, p4, p5, p6, p7, p8, q0, q1, q2, q3, q4, q5, q6, q7, q8]) rfl ?_
    rw [HRW.out]
    exact hfin
  · have bK : (t.K == 3) = false := by simp [hK]
    have hnames := names_3 hn hK
    have HRW : Hid (renW (l + 1) t c E = (⟨t.K, t.N, newS t.K t.S c, newZ t.K t.Z c, t.T, t.Ts, (renA (renW l) t c E t.A.length).1⟩, (renA (renW l) t c E t.A.length).2)) := by show _ = _; simp [renW, hK]
    have HCL : Hid (∀ i (h : i < t.A.length) (s' z' : ByteArray), clE l t.A[i] (bindE t.K t.S t.Z s' z' i E)) := hcl.2
    have hs' : (newS t.K t.S c).size ≤ 22 := by
      unfold newS
      split
      · exact nm_size _ (by omega) (by omega)
      · omega
    have hz' : (newZ t.K t.Z c).size ≤ 22 := by
      unfold newZ
      split
      · exact nm_size _ (by omega) (by omega)
      · omega
    have hTW : TabB B W := hT.below (hbwW.mono (by omega))
    obtain ⟨S', hS'⟩ : ∃ S', newS t.K t.S c = S' := ⟨_, rfl⟩
    obtain ⟨Z', hZ'⟩ : ∃ Z', newZ t.K t.Z c = Z' := ⟨_, rfl⟩
    have HSZ : Hid (newS t.K t.S c = S' ∧ newZ t.K t.Z c = Z') := ⟨hS', hZ'⟩
    rw [hS'] at hs'
    rw [hZ'] at hz'
    have hne0 : w.heap.size ≠ h := by omega
    have hle2 := ownN_le t.K
    obtain ⟨C1, H1, H2, hC1, hC1'⟩ : ∃ C1 : Int, Hid ((t.S.toList.isEmpty = true ∧ S' = t.S ∧ C1 = c) ∨ (t.S.toList.isEmpty = false ∧ S' = nm (c + 1) ∧ C1 = c + 1)) ∧ Hid ((t.Z.toList.isEmpty = true ∧ Z' = t.Z ∧ c + ownN t.K = C1) ∨ (t.Z.toList.isEmpty = false ∧ Z' = nm (C1 + 1) ∧ c + ownN t.K = C1 + 1)) ∧ 0 ≤ C1 ∧ C1 ≤ 1000 := by
      rcases hnames with ⟨ho, g1, g2⟩ | ⟨ho, g1, g2⟩ | ⟨ho, g1, g2⟩
      · exact ⟨c, Or.inl ⟨g1, by rw [← hS']; simp [newS, ho], rfl⟩, Or.inl ⟨g2, by rw [← hZ']; simp [newZ, ho], by rw [ho]; simp⟩, by omega, by omega⟩
      · exact ⟨c + 1, Or.inr ⟨g1, by rw [← hS']; simp [newS, ho], rfl⟩, Or.inl ⟨g2, by rw [← hZ']; simp [newZ, ho], by rw [ho]; simp⟩, by omega, by omega⟩
      · exact ⟨c + 1, Or.inr ⟨g1, by rw [← hS']; simp [newS, ho], rfl⟩, Or.inr ⟨g2, by rw [← hZ', show c + 1 + 1 = c + 2 by omega]; simp [newZ, ho], by rw [ho]; show c + 2 = _; omega⟩, by omega, by omega⟩
    obtain ⟨C2, hC2⟩ : ∃ C2 : Int, c + ownN t.K = C2 := ⟨_, rfl⟩
    have HC2 : Hid (c + ownN t.K = C2) := hC2
    rw [hC2] at H2
    clear hK hS' hZ' hnames hC2
    go_upto_if 27 with fail
    rw [← HW.out, ← HH.out]
    clear f0 f1 f2 f3 f4 f5 f6 f7 f8
    go_cut [27] from 25 to 36 (fun _ wx => wx.heap[h]? = some (.cells #[.int .i64 t.K, .int .i64 t.N, .string S', .string t.Z, .int .i64 t.T.K, .int .i64 t.T.N, .slice b1 m1 e1, .slice b2 l2 e2, .slice none 0 0] 34 (0, 0)) ∧ Nh p h w1 wx C1)
    case first =>
      obtain ⟨q0, q1, q2, q3, q4, q5, q6, q7, q8⟩ := Nine.box xw0
      have g2 := row_cell hW0 2
      have gf := row_free hW0
      rcases H1.out with ⟨e1', eS, eC⟩ | ⟨e1', eS, eC⟩
      · have HS : Hid (S' = t.S ∧ C1 = c) := ⟨eS, eC⟩
        have e2' : (!t.S.toList.isEmpty) = false := by rw [e1']; rfl
        clear eS eC e1'
        rw [e2']
        clear e2'
        go_wp2_with fail
        go_meet
        refine ⟨by rw [HS.out.1]; exact hW0, ?_⟩
        rw [HS.out.2]
        exact hNW
      · have HS : Hid (S' = nm (c + 1) ∧ C1 = c + 1) := ⟨eS, eC⟩
        have e2' : (!t.S.toList.isEmpty) = true := by rw [e1']; rfl
        clear eS eC e1'
        rw [e2']
        clear e2'
        go_wp2_with fail
        refine (next_any B p c W hBp hpW h0 (by omega) hTW).mono ?_
        rintro e w2 ⟨rfl, hN2⟩
        have r2 : w2.heap[h]? = _ := (hN2.kf.block h (by omega) (by omega)).trans hW0
        clear q0 q1 q2 q3 q4 q5 q6 q7 q8 g2 gf
        have g2 := row_cell r2 2
        have gf := row_free r2
        go_wp2_with fail
        go_meet
        refine ⟨?_, ?_⟩
        · rw [row_set r2, HS.out.1]; rfl
        · rw [HS.out.2]
          exact (hNW.trans (hN2.nh (h := h) (by omega)) (Nat.le_refl _)).set (Nat.le_refl _) (by omega) _ _
    case rest =>
    obtain ⟨hV0, hNV⟩ := hcut
    have hzV := hNV.size
    have xv0 := (hNV.block w.heap.size (by omega) (by omega)).trans x0
    have xv1 := (hNV.block (w.heap.size + 1) (by omega) (by omega)).trans x1
    have hV0l := (Array.getElem?_eq_some_iff.1 hV0).1
    obtain ⟨f0, f1, f2, f3, f4, f5, f6, f7, f8⟩ := Nine.box xv0
    go_upto_if 33 with fail
    clear f0 f1 f2 f3 f4 f5 f6 f7 f8
    go_cut [33] from 25 to 36 (fun _ wx => wx.heap[h]? = some (.cells #[.int .i64 t.K, .int .i64 t.N, .string S', .string Z', .int .i64 t.T.K, .int .i64 t.T.N, .slice b1 m1 e1, .slice b2 l2 e2, .slice none 0 0] 34 (0, 0)) ∧ Nh p h w1 wx C2)
    case first =>
      obtain ⟨q0, q1, q2, q3, q4, q5, q6, q7, q8⟩ := Nine.box xv0
      have g3 := row_cell hV0 3
      have gf := row_free hV0
      rcases H2.out with ⟨e1', eS, eC⟩ | ⟨e1', eS, eC⟩
      · have HS : Hid (Z' = t.Z ∧ C2 = C1) := ⟨eS, eC⟩
        have e2' : (!t.Z.toList.isEmpty) = false := by rw [e1']; rfl
        clear eS eC e1'
        rw [e2']
        clear e2'
        go_wp2_with fail
        go_meet
        refine ⟨by rw [HS.out.1]; exact hV0, ?_⟩
        rw [HS.out.2]
        exact hNV
      · have HS : Hid (Z' = nm (C1 + 1) ∧ C2 = C1 + 1) := ⟨eS, eC⟩
        have hTV : TabB B wc := hNV.tab hBp (by omega) (hT.below (hbw1.mono (by omega)))
        have e2' : (!t.Z.toList.isEmpty) = true := by rw [e1']; rfl
        clear eS eC e1'
        rw [e2']
        clear e2'
        go_wp2_with fail
        refine (next_any B p C1 wc hBp hNV.is hC1 (by omega) hTV).mono ?_
        rintro e w2 ⟨rfl, hN2⟩
        have r2 : w2.heap[h]? = _ := (hN2.kf.block h (by omega) (by omega)).trans hV0
        clear q0 q1 q2 q3 q4 q5 q6 q7 q8 g3 gf
        have g3 := row_cell r2 3
        have gf := row_free r2
        go_wp2_with fail
        go_meet
        refine ⟨?_, ?_⟩
        · rw [row_set r2, HS.out.1]; rfl
        · rw [HS.out.2]
          exact (hNV.trans (hN2.nh (h := h) (by omega)) (Nat.le_refl _)).set (Nat.le_refl _) (by omega) _ _
    case rest =>
    obtain ⟨hU0, hNU⟩ := hcut
    have hzU := hNU.size
    have xu0 := (hNU.block w.heap.size (by omega) (by omega)).trans x0
    obtain ⟨f0, f1, f2, f3, f4, f5, f6, f7, f8⟩ := Nine.box xu0
    have hU0l := (Array.getElem?_eq_some_iff.1 hU0).1
    obtain ⟨RA, hRA⟩ : ∃ RA, (renA (renW l) t c E t.A.length).1 = RA := ⟨_, rfl⟩
    obtain ⟨CC, hCC⟩ : ∃ CC : Nat → Int, (fun j => (renA (renW l) t c E j).2) = CC := ⟨_, rfl⟩
    have HRA : Hid ((renA (renW l) t c E t.A.length).1 = RA ∧ RA.length = t.A.length) := ⟨hRA, by rw [← hRA]; exact renP_len _ _ _ _ _ (Nat.le_refl _)⟩
    have HC0 : Hid (CC 0 = C2) := by show _ = _; rw [← hCC, ← HC2.out]; rfl
    have HCE : Hid ((renA (renW l) t c E t.A.length).2 = CC t.A.length) := by show _ = _; rw [← hCC]
    have HSTEP : Hid (∀ j (hj : j < t.A.length), ∃ R, RA[j]? = some R ∧ renW l t.A[j] (CC j) (bindE t.K t.S t.Z S' Z' j E) = (R, CC (j + 1)) ∧ 0 ≤ CC j ∧ ∃ a, nodesM l t.A[j] = some a ∧ CC j + 2 * a ≤ 1000) := fun j hj => by
      obtain ⟨a, ha⟩ := hparts j hj
      have hg := renP_get (renW l) (fun i => bindE t.K t.S t.Z (newS t.K t.S c) (newZ t.K t.Z c) i E) t.A (c + ownN t.K) j hj t.A.length hj (Nat.le_refl _)
      have hs2 := renP_succ (renW l) (fun i => bindE t.K t.S t.Z (newS t.K t.S c) (newZ t.K t.Z c) i E) t.A (c + ownN t.K) j hj
      rw [HSZ.out.1, HSZ.out.2] at hg hs2
      have e1 : CC j = (renP (renW l) (fun i => bindE t.K t.S t.Z S' Z' i E) t.A (c + ownN t.K) j).2 := by rw [← hCC, ← HSZ.out.1, ← HSZ.out.2]; rfl
      have e2 : CC (j + 1) = (renP (renW l) (fun i => bindE t.K t.S t.Z S' Z' i E) t.A (c + ownN t.K) (j + 1)).2 := by rw [← hCC, ← HSZ.out.1, ← HSZ.out.2]; rfl
      have e3 : RA = (renP (renW l) (fun i => bindE t.K t.S t.Z S' Z' i E) t.A (c + ownN t.K) t.A.length).1 := by rw [← hRA, ← HSZ.out.1, ← HSZ.out.2]; rfl
      have hbd := renA_cnt l t c E j (by omega)
      have hb2 := preW_len hm j hj ha
      have e4 : (renA (renW l) t c E j).2 = CC j := by rw [← hCC]
      rw [e4] at hbd
      refine ⟨(renW l t.A[j] (CC j) (bindE t.K t.S t.Z S' Z' j E)).1, ?_, ?_, by omega, a, ha, by omega⟩
      · rw [e3, hg, e1]
      · rw [e2, hs2, e1]
    have HU : Hid (wc.heap[w.heap.size]? = _) := xu0
    clear hRA hCC hV0 hNV xv0 xv1 hV0l hNW hW0 xw0 xw1 hScW hpW hTW hbwW hWh hWb hWs
    have hApU : ApRelM (h + 1) wc (D + 1) (d - 1) (.slice none 0 0) 0 RA := apm_nil _ _ _ _ _
    go_wp2_with fail
    clear f0 f1 f2 f3 f4 f5 f6 f7 f8
    go_loopw [40] (fun i wr => ∃ (j : Nat) (aj : Option Addr) (cj : Nat), j ≤ l3 ∧ i = .int .i64 j ∧ wr.heap[h]? = some (.cells #[.int .i64 t.K, .int .i64 t.N, .string S', .string Z', .int .i64 t.T.K, .int .i64 t.T.N, .slice b1 m1 e1, .slice b2 l2 e2, .slice aj j cj] 34 (0, 0)) ∧ ApRelM (h + 1) wr (D + 1) (d - 1) (.slice aj j cj) j RA ∧ Nh p h w1 wr (CC j)) (fun i _ => l3 - (intOf i).toNat)
    case atStart => exact ⟨0, none, 0, by omega, rfl, hU0, hApU, by rw [HC0.out]; exact hNU⟩
    case round =>
      obtain ⟨j, aj, cj, hj, rfl, hrow, hap, hNr⟩ := hrel
      have hhr := (Array.getElem?_eq_some_iff.1 hrow).1
      have hzr := hNr.size
      by_cases hlt : j < l3
      · have hlt' : j < t.A.length := by have := HL.out; omega
        obtain ⟨vr, hvr⟩ : ∃ v, v = wr := ⟨_, rfl⟩
        subst hvr
        obtain ⟨RJ, hRJ, hstep, hcj0, a, ha, hca⟩ := HSTEP.out j hlt'
        have hRl : j < RA.length := by rw [HRA.out.2]; exact hlt'
        have hRJ2 : RA[j] = RJ := by rw [List.getElem?_eq_getElem hRl] at hRJ; exact Option.some.inj hRJ
        have hw1r : ∀ k, k < B → vr.heap[k]? = w.heap[k]? := fun k hk => (hNr.block k (by omega) (by omega)).trans (hbw1.block k (by omega))
        have HK2 : Hid (∀ w5, Calls Tryz.prog 64 #[.agg #[.int .i64 t.K, .int .i64 t.N, .string t.S, .string t.Z, .int .i64 t.T.K, .int .i64 t.T.N, .slice a1 l1 c1, .slice a2 l2 c2, .slice a3 l3 c3], .int .i64 j] w5 fun e w' => NmE w5 w' e (nmI t.K (bs t.S) (bs t.Z) j)) := fun w5 => namesIn_any t a1 l1 c1 a2 l2 c2 a3 l3 c3 j w5
        obtain ⟨b, o, rfl, _, hbB, q1, n1, k1, q2, n2, k2, q3, n3, k3, h9, hf1⟩ := hf.m.get j hlt'
        obtain ⟨e0, e1', e2', e3, e4, e5, e6, e7, e8⟩ := h9.world (hw1r b hbB)
        obtain ⟨P, hP⟩ : ∃ P, P = vr.alloc (.cells #[.int .i64 t.A[j].K, .int .i64 t.A[j].N, .string t.A[j].S, .string t.A[j].Z, .int .i64 t.A[j].T.K, .int .i64 t.A[j].T.N, .slice q1 n1 k1, .slice q2 n2 k2, .slice q3 n3 k3] 34) := ⟨_, rfl⟩
        have hPb : Below vr.heap.size vr P := by rw [hP]; exact (Below.refl _ _).alloc (Nat.le_refl _) _
        have hPs : P.heap.size = vr.heap.size + 1 := by rw [hP]; simp
        have hP0 : P.heap[vr.heap.size]? = some (.cells #[.int .i64 t.A[j].K, .int .i64 t.A[j].N, .string t.A[j].S, .string t.A[j].Z, .int .i64 t.A[j].T.K, .int .i64 t.A[j].T.N, .slice q1 n1 k1, .slice q2 n2 k2, .slice q3 n3 k3] 34 (0, 0)) := by rw [hP]; exact heap_new rfl
        have hPh := (hPb.block h hhr).trans hrow
        have xP0 := (hPb.block w.heap.size (by omega)).trans ((hNr.block w.heap.size (by omega) (by omega)).trans x0)
        obtain ⟨y0, y1, y2, y3, y4, y5, y6, y7, y8⟩ := Nine.box hrow
        have K1 : Calls Tryz.prog 64 #[.agg #[.int .i64 t.K, .int .i64 t.N, .string S', .string Z', .int .i64 t.T.K, .int .i64 t.T.N, .slice b1 m1 e1, .slice b2 l2 e2, .slice aj j cj], .int .i64 j] P fun e w' => NmE P w' e (nmI t.K (bs S') (bs Z') j) := namesIn_any ⟨t.K, t.N, S', Z', t.T, [], []⟩ b1 m1 e1 b2 l2 e2 aj j cj j P
        have HPU : Hid (∀ E, pushE (nmI t.K (bs t.S) (bs t.Z) j) (nmI t.K (bs S') (bs Z') j) E (nmI t.K (bs t.S) (bs t.Z) j).length = bindE t.K t.S t.Z S' Z' j E) := fun E => pushE_all _ _ _ _ _ _ _
        have hnl := nmI_len t.K (bs t.S) (bs t.Z) (bs S') (bs Z') j
        have hnle := nmI_le t.K (bs t.S) (bs t.Z) j
        obtain ⟨N1, hN1⟩ : ∃ N1, nmI t.K (bs S') (bs Z') j = N1 := ⟨_, rfl⟩
        obtain ⟨N2, hN2⟩ : ∃ N2, nmI t.K (bs t.S) (bs t.Z) j = N2 := ⟨_, rfl⟩
        rw [hN1] at K1 HPU hnl
        rw [hN2] at HPU hnl hnle HK2
        obtain ⟨nn, hnn⟩ : ∃ nn, N2.length = nn := ⟨_, rfl⟩
        have HNN : Hid (N2.length = nn ∧ N1.length = nn) := ⟨hnn, by rw [← hnl]; exact hnn⟩
        have hnn2 : nn ≤ 2 := by omega
        have HP : Hid (P = _) := hP
        have HPS : Hid (P.heap.size = vr.heap.size + 1) := hPs
        clear hP hN1 hN2 hnl hnle hnn h9 hPs
        go_wp2_with fail
        rw [← HP.out]
        clear e0 e1' e2' e3 e4 e5 e6 e7 e8
        refine K1.mono ?_
        rintro e w5 ⟨xo1, cx1, rfl, hb5, hr1⟩
        rw [HNN.out.2] at hr1 ⊢
        have hz5 := hb5.size
        have x50 := (hb5.block w.heap.size (by have := HPS.out; omega)).trans xP0
        obtain ⟨f0, f1, f2, f3, f4, f5, f6, f7, f8⟩ := Nine.box x50
        clear y0 y1 y2 y3 y4 y5 y6 y7 y8
        go_wp2_with fail
        refine (HK2.out w5).mono ?_
        rintro e w6 ⟨xo2, cx2, rfl, hb6, hr2⟩
        rw [HNN.out.1] at hr2 ⊢
        have hz6 := hb6.size
        clear f0 f1 f2 f3 f4 f5 f6 f7 f8
        have HPB : Hid (Below P.heap.size P w6) := hb5.trans (hb6.mono hz5)
        have hScP : Sc p w6 E (.pointer vsa) := (((hSc.below hbw1).keep (fun k hk hne => hNr.block k (by have := HH.out; omega) hne)).below hPb).below HPB.out
        have HR1 : Hid (0 < nn → ∃ sb, xo1 = some ⟨sb, 0, none⟩ ∧ P.heap.size ≤ sb ∧ w5.heap[sb]? = some (.cells (N1.map tk).toArray 9 (0, 0))) := hr1
        have HR2 : Hid (0 < nn → ∃ sb, xo2 = some ⟨sb, 0, none⟩ ∧ w5.heap.size ≤ sb ∧ w6.heap[sb]? = some (.cells (N2.map tk).toArray 9 (0, 0))) := hr2
        clear hr1 hr2
        go_wp2_with fail
        go_loopw [10, 53] (fun v k wr => ∃ (i : Nat) (a' : Option Addr), i ≤ nn ∧ k = .int .i64 i ∧ v = .pointer a' ∧ Below w6.heap.size w6 wr ∧ Sc p wr (pushE N2 N1 E i) (.pointer a')) (fun _ k _ => nn - (intOf k).toNat)
        case atStart => exact ⟨0, vsa, by omega, rfl, rfl, Below.refl _ _, hScP⟩
        case round =>
          obtain ⟨i, a', hi, rfl, rfl, hbq, hScq⟩ := hrel
          have hzq := hbq.size
          by_cases hin : i < nn
          · obtain ⟨sb1, rfl, hsb1, hrow1⟩ := HR1.out (by omega)
            obtain ⟨sb2, rfl, hsb2, hrow2⟩ := HR2.out (by omega)
            have l1' : i < N1.length := by rw [HNN.out.2]; exact hin
            have l2' : i < N2.length := by rw [HNN.out.1]; exact hin
            have z1 : wr.cell? ⟨sb1, i, none⟩ = some (.string (ba N1[i])) := by
              rw [row_cell ((hbq.block sb1 (by have := (Array.getElem?_eq_some_iff.1 hrow1).1; omega)).trans ((hb6.block sb1 (Array.getElem?_eq_some_iff.1 hrow1).1).trans hrow1)) i]
              simp [l1', tk, ba]
            have z2 : wr.cell? ⟨sb2, i, none⟩ = some (.string (ba N2[i])) := by
              rw [row_cell ((hbq.block sb2 (Array.getElem?_eq_some_iff.1 hrow2).1).trans hrow2) i]
              simp [l2', tk, ba]
            have HPS2 : Hid (pushE N2 N1 E (i + 1) = (ba N2[i], ba N1[i]) :: pushE N2 N1 E i) := pushE_succ l2' l1'
            obtain ⟨A1, hA1⟩ : ∃ A1, ba N1[i] = A1 := ⟨_, rfl⟩
            obtain ⟨A2, hA2⟩ : ∃ A2, ba N2[i] = A2 := ⟨_, rfl⟩
            rw [hA1] at z1 HPS2
            rw [hA2] at z2 HPS2
            have hix : (i : Int) < (nn : Int) := by omega
            have HBQ : Hid (Below w6.heap.size w6 wr) := hbq
            have hpq : p < wr.heap.size := by have := HPS.out; omega
            clear hA1 hA2 l1' l2' hrow1 hrow2 hsb1 hsb2 hbq
            go_wp2_with fail
            refine (with_any p _ A2 A1 _ wr hScq hpq).mono ?_
            rintro e w7 ⟨a2, rfl, hb7, hSc7⟩
            have hb7w : Below w6.heap.size w6 w7 := HBQ.out.trans (hb7.mono hzq)
            rw [← HPS2.out] at hSc7
            go_wp2_with fail
            go_roundw
            case rel => exact ⟨i + 1, a2, by omega, by go_num, rfl, hb7w, hSc7⟩
            case measure => simp [intOf]; omega
          · have hie : i = nn := by omega
            have hPsz := HPS.out
            have hPw : Below P.heap.size P wr := HPB.out.trans (hbq.mono HPB.out.size)
            have hzPw := hPw.size
            have hScB : Sc p wr (bindE t.K t.S t.Z S' Z' j E) (.pointer a') := by
              have g1 := HPU.out E
              rw [HNN.out.1, ← hie] at g1
              rw [← g1]
              exact hScq
            have hQh : wr.heap[h]? = _ := (hPw.block h (by omega)).trans hPh
            have hQ0 : wr.heap[vr.heap.size]? = _ := (hPw.block vr.heap.size (by omega)).trans hP0
            have hNQ : Nh p h w1 wr (CC j) := (hNr.below hPb (by omega) (by omega)).below hPw (by omega) (by omega)
            have hNQd : Nh p h w1 wr.drew (CC j) := hNQ.below ((Below.refl wr.heap.size wr).drew) (by omega) (by omega)
            have hapQ : ApRelM (h + 1) wr.drew (D + 1) (d - 1) (.slice aj j cj) j RA := apm_below (apm_below hap hPb) hPw.drew
            have hfQ : Fm L B wr.drew D (d - 1) t.A[j] q1 n1 q2 n2 q3 n3 := Fm.keep (fun k _ hk => (hNQd.block k (by omega) (by omega)).trans (hbw1.block k (by omega))) (Nat.le_refl _) (Nat.le_refl _) hf1
            have hcj : cntM t.A[j] ≤ 1048576 := by have := cntMS_get t.A j hlt'; have := HCA.out; omega
            have hScd : Sc p wr.drew (bindE t.K t.S t.Z S' Z' j E) (.pointer a') := hScB.below ((Below.refl wr.heap.size wr).drew)
            have hTd : TabB B wr.drew := hNQd.tab hBp (by omega) (hT.below (hbw1.mono (by omega)))
            have IHj := IH D (d - 1) L B p t.A[j] q1 n1 k1 q2 n2 k2 q3 n3 k3 a (CC j) (bindE t.K t.S t.Z S' Z' j E) (.pointer a') wr.drew hBp hfQ ha hcj hNQd.is hcj0 hca hScd (HCL.out j hlt' S' Z') (bindE_ok hE hs' hz') hTd
            rw [hstep] at IHj
            dsimp only at IHj
            have APR : Hid (∀ (w2 : World) (r1 : Option Addr) (s1 u1 : Nat) (r2 : Option Addr) (s2 u2 : Nat) (r3 : Option Addr) (s3 u3 : Nat), Nx p wr.drew w2 (CC (j + 1)) → FmO wr.drew.heap.size w2.heap.size w2 (D + 1) (d - 1) RJ r1 s1 r2 s2 r3 s3 →
                ∃ g cp w3, (Builtin.append_ #[32, 32] 32 #[.slice aj j cj, .slice (some ⟨w2.heap.size, 0, none⟩) 1 1]).run Tryz.prog (w2.alloc (.cells #[.int .i64 RJ.K, .int .i64 RJ.N, .string RJ.S, .string RJ.Z, .int .i64 RJ.T.K, .int .i64 RJ.T.N, .slice r1 s1 u1, .slice r2 s2 u2, .slice r3 s3 u3] 34)) = .ok (.slice (some ⟨g, 0, none⟩) (j + 1) cp) w3 ∧
                  w3.cell? ⟨h, 8, none⟩ = some (.slice aj j cj) ∧ w3.frozen? ⟨h, 8, none⟩ = false ∧
                  (w3.setCell ⟨h, 8, none⟩ (.slice (some ⟨g, 0, none⟩) (j + 1) cp)).heap[h]? = some (.cells #[.int .i64 t.K, .int .i64 t.N, .string S', .string Z', .int .i64 t.T.K, .int .i64 t.T.N, .slice b1 m1 e1, .slice b2 l2 e2, .slice (some ⟨g, 0, none⟩) (j + 1) cp] 34 (0, 0)) ∧
                  ApRelM (h + 1) (w3.setCell ⟨h, 8, none⟩ (.slice (some ⟨g, 0, none⟩) (j + 1) cp)) (D + 1) (d - 1) (.slice (some ⟨g, 0, none⟩) (j + 1) cp) (j + 1) RA ∧ Nh p h w1 (w3.setCell ⟨h, 8, none⟩ (.slice (some ⟨g, 0, none⟩) (j + 1) cp)) (CC (j + 1))) := by
              intro w2 r1 s1 u1 r2 s2 u2 r3 s3 u3 hN2 ho2
              obtain ⟨g, cp, w3, hrun, hap3, hN3⟩ := apm_run2 (c1 := u1) (c2 := u2) (c3 := u3) hapQ hRl (by omega) hNQd.is (by omega) hN2 (show h + 1 ≤ wr.heap.size by omega) (by rw [hRJ2]; exact ho2)
              rw [hRJ2] at hrun
              have hq : w3.heap[h]? = _ := (hN3.block h (by omega) (by omega)).trans hQh
              refine ⟨g, cp, w3, hrun, row_cell hq 8, row_free hq 8, ?_, apm_set hap3 (by omega) _, (hNQd.trans hN3 (by omega)).set (Nat.le_refl _) (by omega) _ _⟩
              rw [row_set hq]
              rfl
            have y8 : wr.cell? ⟨h, 8, none⟩ = some (.slice aj j cj) := row_cell hQh 8
            obtain ⟨g0, g1, g2, g3, g4, g5, g6, g7, g8⟩ := Nine.box hQ0
            have hhP : h < wr.heap.size := by omega
            have hrP : vr.heap.size < wr.heap.size := by omega
            have hph2 : h ≠ p := by omega
            have HQH : Hid (wr.heap[h]? = _) := hQh
            have hge : ¬ (i : Int) < (nn : Int) := by omega
            clear hie hPsz hPw hScB hQh hQ0 hNQ hNQd hapQ hfQ hScd hTd hScq hbq hrow hap hNr hstep hRJ hRJ2 hPh hP0 hf1 hScP
            go_wp2_with fail
            go_region_law (first | (refine step_run hrun (by rfl) _ _ (by rfl) (by rfl) (by rfl) (by rfl) ?_) | (go_simp; go_at_call 30; refine IHj.mono ?_; rintro e w2 ⟨r1, s1, u1, r2, u2, r3, u3, rfl, hN2, ho2⟩; have hz2 : h < w2.heap.size := Nat.lt_of_lt_of_le hhP hN2.kf.size; have v8 : w2.cell? ⟨h, 8, none⟩ = some (.slice aj j cj) := (World.cell?_of_block (hN2.kf.block h hhP hph2)).trans y8; have v9 : (w2.alloc (.cells #[.int .i64 RJ.K, .int .i64 RJ.N, .string RJ.S, .string RJ.Z, .int .i64 RJ.T.K, .int .i64 RJ.T.N, .slice r1 s1 u1, .slice r2 n2 u2, .slice r3 n3 u3] 34)).cell? ⟨h, 8, none⟩ = some (.slice aj j cj) := (World.cell?_of_block (Below.heap_alloc _ _ _ hz2)).trans v8; obtain ⟨g, cp, w3, hrun, hc8, hf8, hrow3, hap3, hbr3⟩ := APR.out w2 r1 s1 u1 r2 n2 u2 r3 n3 u3 hN2 ho2))
            all_goals
              clear g0 g1 g2 g3 g4 g5 g6 g7 g8 y8 v8 v9 hrun hc8 hf8
              go_wp2_with fail
              go_roundw
              case rel => exact ⟨j + 1, _, _, by omega, by go_num, hrow3, hap3, hbr3⟩
              case measure => simp [intOf]; omega
      · have HJ : Hid (j = l3) := by show _ = _; omega
        have xr := (hNr.block (w.heap.size + 1) (by omega) (by omega)).trans x1
        obtain ⟨p0, p1, p2, p3, p4, p5, p6, p7, p8⟩ := Nine.box xr
        have pf := row_free xr
        obtain ⟨q0, q1, q2, q3, q4, q5, q6, q7, q8⟩ := Nine.box hrow
        go_wp2_with fail
        obtain ⟨Y, hYe⟩ : ∃ Y, Y = set9 wr (w.heap.size + 1) 0 (.int .i64 t.K) (.int .i64 t.N) (.string S') (.string Z') (.int .i64 t.T.K) (.int .i64 t.T.N) (.slice b1 m1 e1) (.slice b2 l2 e2) (.slice aj j cj) := ⟨_, rfl⟩
        have hYs : Y.heap.size = wr.heap.size := by rw [hYe]; exact set9_size _ _ _ _ _ _ _ _ _ _ _ _
        have hYo : ∀ k, k ≠ w.heap.size + 1 → Y.heap[k]? = wr.heap[k]? := fun k hk => by rw [hYe]; exact set9_other k hk
        have hYb : Below w.heap.size wr Y := by rw [hYe]; exact set9_below (Below.refl _ _) (by omega)
        have hrb : Nh p w.heap.size w wr (CC j) := ⟨hNr.os.trans hbw1.os, hNr.tape.trans hbw1.tape, hNr.output.trans hbw1.output, by have := hbw1.size; omega, fun k hk hne => (hNr.block k (by omega) hne).trans (hbw1.block k hk), hNr.is⟩
        have hYN : Nx p w Y (CC j) := (hrb.below hYb (Nat.le_refl _) hpw).nx
        have hfin : ∃ b1' m1' e1' b2' e2' b3' e3', Ending.returned (.agg #[.int .i64 t.K, .int .i64 t.N, .string S', .string Z', .int .i64 t.T.K, .int .i64 t.T.N, .slice b1 m1 e1, .slice b2 l2 e2, .slice aj j cj]) = .returned (.agg #[.int .i64 t.K, .int .i64 t.N, .string S', .string Z', .int .i64 t.T.K, .int .i64 t.T.N, .slice b1' m1' e1', .slice b2' l2 e2', .slice b3' l3 e3']) ∧ Nx p w Y (CC t.A.length) ∧ FmO w.heap.size Y.heap.size Y (D + 1) d ⟨t.K, t.N, S', Z', t.T, t.Ts, RA⟩ b1' m1' b2' l2 b3' l3 := by
          have hjl := HJ.out
          subst hjl
          obtain ⟨o1, o2, oM1, oM2⟩ := HO.out
          have hh := HH.out
          have hjt : j = t.A.length := HL.out
          obtain ⟨a', c', ev, hoA⟩ := apm_whole2 hap (by rw [HRA.out.2]; exact hjt) (by omega) (fun h0 => by have := pos_d hf.m (j := 0) (by omega); omega)
          injection ev with ev1 _ ev3
          subst ev1
          subst ev3
          have hXs := HXS.out
          refine ⟨b1, m1, e1, b2, e2, aj, cj, rfl, by rw [← hjt]; exact hYN, FmO.mk (L := w.heap.size) (M1 := M) (M2 := w1.heap.size) (by show S'.size ≤ _; omega) (by show Z'.size ≤ _; omega) ?_ ?_ ?_ (by omega) (by omega) (by omega)⟩
          · exact o1.keep (fun k hk1 hk2 => (hYo k (by omega)).trans (hNr.block k (by omega) (by omega))) (by omega) (Nat.le_refl _)
          · exact o2.keep (fun k hk1 hk2 => (hYo k (by omega)).trans (hNr.block k (by omega) (by omega))) (Nat.le_refl _) (Nat.le_refl _)
          · exact hoA.keep (fun k hk1 hk2 => hYo k (by omega)) (by omega) (by omega)
        rw [hYe] at hfin
        refine bodyPost_ret (v := .agg #[.int .i64 t.K, .int .i64 t.N, .string S', .string Z', .int .i64 t.T.K, .int .i64 t.T.N, .slice b1 m1 e1, .slice b2 l2 e2, .slice aj j cj]) (by simp [results, Tryz.results30, go_sem, p0, p1, p2, p3, p4, p5, p6, p7, p8]) rfl ?_
        rw [HRW.out, HSZ.out.1, HSZ.out.2, HRA.out.1, HCE.out]
        exact hfin


end Go.Proofs.YtbdpnnfhkhkecaaGreatDoor
