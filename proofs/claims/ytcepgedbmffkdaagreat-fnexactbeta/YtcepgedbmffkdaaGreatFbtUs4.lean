/-
  What the program's 'usesIn' comes to: where each use stands, and what is bound there.
-/
import Derived.Test.YtcepgedbmffkdaaGreatFbtZ6
import Derived.Test.YtcepgedbmffkdaaGreatFbtZ7
import Derived.Deep.RegionLaw
import Derived.Deep.Cut
import Derived.Deep.CutRange
namespace Go.Proofs.YtcepgedbmffkdaaGreat
open Go.RowKit
set_option linter.unusedVariables false
set_option linter.unusedSimpArgs false

/-- Where a name is used where it is free: the way to each use, and what is bound on it. -/
abbrev Way9 := List Nat × List (List UInt8)
def catU (f : Nat → List Way9) : Nat → List Way9
  | 0 => []
  | n + 1 => catU f n ++ f n
def usesP (s : List UInt8) : Nat → Tm → List Way9
  | 0, _ => []
  | l + 1, t => if t.K = 3 ∧ bs t.S = s then [([], [])] else catU (fun i => if h : i < t.A.length then (if s ∈ bindsW t.K (bs t.S) (bs t.Z) i then [] else (usesP s l t.A[i]).map fun q => (i :: q.1, bindsW t.K (bs t.S) (bs t.Z) i ++ q.2)) else []) t.A.length
def partP (s : List UInt8) (l : Nat) (t : Tm) (i : Nat) : List Way9 := if h : i < t.A.length then (if s ∈ bindsW t.K (bs t.S) (bs t.Z) i then [] else (usesP s l t.A[i]).map fun q => (i :: q.1, bindsW t.K (bs t.S) (bs t.Z) i ++ q.2)) else []
theorem usesP_var {s : List UInt8} {l : Nat} {t : Tm} (h : t.K = 3 ∧ bs t.S = s) : usesP s (l + 1) t = [([], [])] := by unfold usesP; rw [if_pos h]
theorem usesP_not {s : List UInt8} {l : Nat} {t : Tm} (h : ¬ (t.K = 3 ∧ bs t.S = s)) : usesP s (l + 1) t = catU (partP s l t) t.A.length := by unfold usesP; rw [if_neg h]; rfl
theorem partP_in {s : List UInt8} {l : Nat} {t : Tm} {i : Nat} (hi : i < t.A.length) (h : s ∈ bindsW t.K (bs t.S) (bs t.Z) i) : partP s l t i = [] := by unfold partP; rw [dif_pos hi, if_pos h]
theorem partP_out {s : List UInt8} {l : Nat} {t : Tm} {i : Nat} (hi : i < t.A.length) (h : ¬ s ∈ bindsW t.K (bs t.S) (bs t.Z) i) : partP s l t i = (usesP s l t.A[i]).map fun q => (i :: q.1, bindsW t.K (bs t.S) (bs t.Z) i ++ q.2) := by unfold partP; rw [dif_pos hi, if_neg h]
theorem catU_len {s : List UInt8} {l : Nat} {t : Tm} (IH : ∀ x, (usesP s l x).length = usesN s l x) : ∀ n, n ≤ t.A.length → (catU (partP s l t) n).length = sumU (partU s l t) n := by
  intro n
  induction n with
  | zero => intro _; rfl
  | succ n ih =>
    intro hn
    have hn' : n < t.A.length := by omega
    show (catU (partP s l t) n ++ partP s l t n).length = sumU (partU s l t) n + partU s l t n
    rw [List.length_append, ih (by omega)]
    by_cases hm : s ∈ bindsW t.K (bs t.S) (bs t.Z) n
    · rw [partP_in hn' hm, partU_in hn' hm]; rfl
    · rw [partP_out hn' hm, partU_out hn' hm, List.length_map, IH]
theorem usesP_len (s : List UInt8) : ∀ (l : Nat) (t : Tm), (usesP s l t).length = usesN s l t := by
  intro l
  induction l with
  | zero => intro t; rfl
  | succ l ih =>
    intro t
    by_cases hv : t.K = 3 ∧ bs t.S = s
    · rw [usesP_var hv, usesN_var hv]; rfl
    · rw [usesP_not hv, usesN_not hv]
      exact catU_len ih _ (Nat.le_refl _)

/-- Where a part lies, the way to it in blocks below M. -/
def AtB (w : World) (M : Nat) : Nat → Nat → List Nat → Nat → Nat → Prop
  | b, o, [], b', o' => b' = b ∧ o' = o
  | b, o, i :: p, b', o' => b < M ∧ ∃ g og l c, w.cell? ⟨b, o + 8, none⟩ = some (.slice (some ⟨g, og, none⟩) l c) ∧ AtB w M g (og + i * 9) p b' o'
theorem AtB.at {w : World} {M : Nat} : ∀ {p : List Nat} {b o b' o' : Nat}, AtB w M b o p b' o' → AtP w b o p b' o' := by
  intro p
  induction p with
  | nil => intro b o b' o' h; exact ⟨h.1, h.2⟩
  | cons i p ih =>
    intro b o b' o' h
    obtain ⟨_, g, og, l, c, hc, h2⟩ := h
    exact ⟨g, og, l, c, hc, ih h2⟩
theorem AtB.keep {w w' : World} {M : Nat} (hk : ∀ k, k < M → w'.heap[k]? = w.heap[k]?) : ∀ {p : List Nat} {b o b' o' : Nat}, AtB w M b o p b' o' → AtB w' M b o p b' o' := by
  intro p
  induction p with
  | nil => intro b o b' o' h; exact ⟨h.1, h.2⟩
  | cons i p ih =>
    intro b o b' o' h
    obtain ⟨hb, g, og, l, c, hc, h2⟩ := h
    exact ⟨hb, g, og, l, c, (World.cell?_of_block (hk b hb)).trans hc, ih h2⟩

/-- One use in memory. -/
def UseAt (w : World) (M b o : Nat) (P : List (List UInt8)) (u : Use) (q : Way9) : Prop := ∃ bk ok, u.1 = ⟨bk, ok, none⟩ ∧ AtB w M b o q.1 bk ok ∧ Nsl w u.2.1 u.2.2.1 (P ++ q.2)
def UsR (w : World) (M b o : Nat) (P : List (List UInt8)) : List Use → List Way9 → Prop
  | [], [] => True
  | u :: us, q :: qs => UseAt w M b o P u q ∧ UsR w M b o P us qs
  | _, _ => False
theorem UsR.len {w : World} {M b o : Nat} {P : List (List UInt8)} : ∀ {us : List Use} {qs : List Way9}, UsR w M b o P us qs → us.length = qs.length
  | [], [], _ => rfl
  | _ :: us, _ :: qs, h => by simp only [List.length_cons]; rw [UsR.len h.2]
theorem UsR.app {w : World} {M b o : Nat} {P : List (List UInt8)} : ∀ {us us2 : List Use} {qs qs2 : List Way9}, UsR w M b o P us qs → UsR w M b o P us2 qs2 → UsR w M b o P (us ++ us2) (qs ++ qs2)
  | [], _, [], _, _, h2 => h2
  | _ :: us, _, _ :: qs, _, h, h2 => ⟨h.1, UsR.app h.2 h2⟩
theorem UsR.below {w w' : World} {M b o : Nat} {P : List (List UInt8)} (hb : Below w.heap.size w w') (hM : M ≤ w.heap.size) : ∀ {us : List Use} {qs : List Way9}, UsR w M b o P us qs → UsR w' M b o P us qs
  | [], [], _ => trivial
  | _ :: us, _ :: qs, h => by
    obtain ⟨⟨bk, ok, e, h1, h2⟩, h3⟩ := h
    exact ⟨⟨bk, ok, e, h1.keep fun k hk => hb.block k (by omega), h2.below hb⟩, UsR.below hb hM h3⟩
theorem UsR.part {w : World} {M b o g og l c i : Nat} {P N : List (List UInt8)} (hbM : b < M) (hc : w.cell? ⟨b, o + 8, none⟩ = some (.slice (some ⟨g, og, none⟩) l c)) : ∀ {us : List Use} {qs : List Way9}, UsR w M g (og + i * 9) (P ++ N) us qs → UsR w M b o P us (qs.map fun q => (i :: q.1, N ++ q.2))
  | [], [], _ => trivial
  | _ :: us, _ :: qs, h => by
    obtain ⟨⟨bk, ok, e, h1, h2⟩, h3⟩ := h
    refine ⟨⟨bk, ok, e, ⟨hbM, g, og, l, c, hc, h1⟩, ?_⟩, UsR.part hbM hc h3⟩
    rw [List.append_assoc] at h2
    exact h2
/-- A row of uses that is appended to does not touch what the uses are. -/
theorem UsR.step {w w' : World} {M b o : Nat} {P : List (List UInt8)} {own : Option Nat} (hk : ∀ k, k < w.heap.size → own ≠ some k → w'.heap[k]? = w.heap[k]?) (hM : M ≤ w.heap.size) (hown : ∀ g, own = some g → M ≤ g ∧ ∃ cs, w.heap[g]? = some (.cells cs 173 (0, 0))) : ∀ {us : List Use} {qs : List Way9}, UsR w M b o P us qs → UsR w' M b o P us qs
  | [], [], _ => trivial
  | _ :: us, _ :: qs, h => by
    obtain ⟨⟨bk, ok, e, h1, h2⟩, h3⟩ := h
    refine ⟨⟨bk, ok, e, h1.keep fun k hk' => hk k (by omega) (fun e => by have := (hown k e).1; omega), h2.1, fun j hj => ?_⟩, UsR.step hk hM hown h3⟩
    obtain ⟨b2, e2, ⟨cs, hh⟩, hc⟩ := h2.2 j hj
    have hl := (Array.getElem?_eq_some_iff.1 hh).1
    have hne : own ≠ some b2 := fun e => by
      obtain ⟨_, cs2, hh2⟩ := hown b2 e
      rw [hh] at hh2
      injection hh2 with hh2
      injection hh2 with _ ht _
      exact absurd ht (by decide)
    exact ⟨b2, e2, ⟨cs, (hk b2 hl hne).trans hh⟩, (World.cell?_of_block (hk b2 hl hne)).trans hc⟩

theorem uss_type {base : Nat} {w : World} {v : Value} {us : List Use} (h : Uss base w v us) {g : Nat} (hg : v.ownBlock = some g) : ∃ cs, w.heap[g]? = some (.cells cs 173 (0, 0)) := by
  rcases h.2 with ⟨rfl, _⟩ | ⟨g', cap, cur, rfl, hb, hh, _⟩
  · cases hg
  · have e : g' = g := by simpa [Value.ownBlock] using hg
    subst e
    exact ⟨cur, hh⟩

def UpE (w w' : World) (M b o : Nat) (P : List (List UInt8)) (e : Ending) (qs : List Way9) : Prop := ∃ v us, e = .returned v ∧ UsR w' M b o P us qs ∧ Uss w.heap.size w' v us ∧ Below w.heap.size w w'
def SaidUp (l : Nat) : Prop := ∀ (D d L B : Nat) (t : Tm) (a1 : Option Addr) (l1 c1 : Nat) (a2 : Option Addr) (l2 c2 : Nat) (a3 : Option Addr) (l3 c3 : Nat) (b o m M : Nat) (s : ByteArray) (P : List (List UInt8)) (pao : Option Addr) (pn pc : Nat) (w : World), B ≤ M → b < M → M ≤ w.heap.size →
    Nine w b o t.K t.N t.S t.Z t.T.K t.T.N (.slice a1 l1 c1) (.slice a2 l2 c2) (.slice a3 l3 c3) → Fm L B w D d t a1 l1 a2 l2 a3 l3 → nodesM l t = some m → m ≤ 1000 → Nsl w pao pn P → pn + 2 * l ≤ 1000 →
    Calls Tryz.prog 76 #[.pointer (some ⟨b, o, none⟩), .string s, .slice pao pn pc] w fun e w' => UpE w w' M b o P e (usesP (bs s) l t)

set_option maxRecDepth 100000 in
set_option maxHeartbeats 4000000 in
theorem up_step (l : Nat) (IH : SaidUp l) : SaidUp (l + 1) := by
  intro D d L B t a1 l1 c1 a2 l2 c2 a3 l3 c3 b o m M s P pao pn pc w hBM hbM hMw h9 hf hm hm1 hP hpl
  have hB : B ≤ w.heap.size := by omega
  have hbw : b < w.heap.size := by omega
  have hHM : Hid (nodesM (l + 1) t = some m) := hm
  obtain ⟨hnd, hparts⟩ := nodesM_inv hm
  have HU := usesN_nodes (bs s) (l + 1) t m hm
  rw [← usesP_len] at HU
  have HL : Hid (l3 = t.A.length) := hf.m.len.1
  have hl3 := hf.m.len.2
  have hstr : (t.S.toList == s.toList) = decide (bs t.S = bs s) := by
    rw [Bool.eq_iff_iff, beq_iff_eq, decide_eq_true_eq]
    rw [ByteArray.toList_eq, ByteArray.toList_eq]
    exact Iff.rfl
  have h9w := h9
  have HPN : Hid (∀ W, Below w.heap.size w W → Nsl W pao pn P) := fun W hW => hP.below hW
  obtain ⟨x0, x1, x2, x3, x4, x5, x6, x7, x8⟩ := h9
  by_cases hv : t.K = 3 ∧ bs t.S = bs s
  · have HE : Hid (usesP (bs s) (l + 1) t = [([], [])]) := usesP_var hv
    have hq : (t.S.toList == s.toList) = true := by rw [hstr]; simpa using hv.2
    have hK := hv.1
    rw [HE.out]
    clear hv hstr HU hm
    rw [hK] at x0
    go_enter Tryz.func76, Tryz.ntmps76
    go_wp2_with fail
    go_ret
    exact ⟨_, [(⟨b, o, none⟩, pao, pn, pc)], rfl, ⟨⟨b, o, rfl, ⟨rfl, rfl⟩, by rw [List.append_nil]; exact HPN.out _ ((Below.refl _ _).alloc (Nat.le_refl _) _)⟩, trivial⟩, uss_one (heap_new rfl) (Nat.le_refl _), (Below.refl _ _).alloc (Nat.le_refl _) _⟩
  · have HE : Hid (usesP (bs s) (l + 1) t = catU (partP (bs s) l t) t.A.length) := usesP_not hv
    rw [HE.out]
    rw [HE.out] at HU
    have hcase : (¬ t.K = 3) ∨ (t.K = 3 ∧ (t.S.toList == s.toList) = false) := by
      by_cases h3 : t.K = 3
      · exact Or.inr ⟨h3, by rw [hstr]; simp; exact fun h => hv ⟨h3, h⟩⟩
      · exact Or.inl h3
    clear hv hstr hm
    rcases hcase with h3 | ⟨h3, hq⟩
    all_goals
      go_enter Tryz.func76, Tryz.ntmps76
      go_upto_region 3 with fail
      clear h3
      go_wp2_with fail
      go_loopw [7, 32] (fun v i wr => ∃ (j mm : Nat) (us : List Use) (ao : Option Addr) (cp : Nat), j ≤ l3 ∧ i = .int .i64 j ∧ v = .slice ao mm cp ∧ Hid (us.length = mm) ∧ Hid (UsR wr M b o P us (catU (partP (bs s) l t) j)) ∧ Uss w.heap.size wr (.slice ao mm cp) us ∧ Below w.heap.size w wr) (fun _ i _ => l3 - (intOf i).toNat)
      case atStart => exact ⟨0, 0, [], none, 0, by omega, rfl, rfl, rfl, trivial, uss_nil _ _, Below.refl _ _⟩
      case round =>
        obtain ⟨j, mm, us, ao, cp, hj, rfl, rfl, hus, hmm, hU, hbr⟩ := hrel
        have hzr := hbr.size
        by_cases hlt : j < l3
        · have hlt' : j < t.A.length := by have := HL.out; omega
          obtain ⟨g, og, rfl, _, hgB, q1, n1, k1, q2, n2, k2, q3, n3, k3, y9, hf1⟩ := hf.m.get j hlt'
          obtain ⟨z0, z1, z2, z3, z4, z5, z6, z7, z8⟩ := h9w.below hbr hbw
          have hji : (0 : Int) ≤ (j : Int) := by omega
          have hjl : (j : Int) < (l3 : Int) := by omega
          have hN0 := binds_nmI t.K (bs t.S) (bs t.Z) j
          have KN := namesIn_any t a1 l1 c1 a2 l2 c2 (some ⟨g, og, none⟩) l3 c3 (j : Int) wr
          obtain ⟨N, hN⟩ : ∃ N, bindsW t.K (bs t.S) (bs t.Z) j = N := ⟨_, rfl⟩
          rw [hN0, hN] at KN
          have hNl : N.length ≤ 2 := by rw [← hN]; exact bindsW_len _ _ _ _
          have HN : Hid (bindsW t.K (bs t.S) (bs t.Z) j = N) := hN
          obtain ⟨nn, hnn⟩ : ∃ nn, N.length = nn := ⟨_, rfl⟩
          clear hN hN0
          go_wp2_with fail
          refine KN.mono ?_
          rintro e w3 ⟨xo, xc, rfl, hb3, hx⟩
          rw [hnn]
          have hz3 := hb3.size
          have hNs : Nsl w3 xo nn N := by
            rw [← hnn]
            exact Nsl.of_nm fun h => by obtain ⟨sb, e1, _, e2⟩ := hx h; exact ⟨sb, e1, e2⟩
          have hb3w : Below w.heap.size w w3 := hbr.trans (hb3.mono hzr)
          have hU3 := uss_below hU hb3
          clear hx KN
          go_wp2_with fail
          refine (contains_nsl xc hNs (by omega) s).mono ?_
          rintro e w4 ⟨rfl, hw⟩
          subst hw
          by_cases hmem : bs s ∈ N
          · have HT : decide (bs s ∈ N) = true := by simpa using hmem
            have HM2 : Hid (UsR w4 M b o P us (catU (partP (bs s) l t) (j + 1))) := by
              show UsR w4 M b o P us (catU (partP (bs s) l t) j ++ partP (bs s) l t j)
              rw [partP_in hlt' (by rw [HN.out]; exact hmem), List.append_nil]
              exact hmm.out.below hb3 (by omega)
            rw [HT]
            clear hmem
            go_wp2_with fail
            go_roundw
            case rel => exact ⟨j + 1, mm, us, ao, cp, by omega, by go_num, rfl, hus, HM2, hU3, hb3w⟩
            case measure => simp [intOf]; omega
          · have HT : decide (bs s ∈ N) = false := by simpa using hmem
            rw [HT]
            obtain ⟨mj, hmj⟩ := (nodesM_get hHM.out).2 j hlt'
            have hpp : partP (bs s) l t j = (usesP (bs s) l t.A[j]).map fun q => (j :: q.1, N ++ q.2) := by
              rw [← HN.out]
              exact partP_out hlt' (by rw [HN.out]; exact hmem)
            have hcat : catU (partP (bs s) l t) (j + 1) = catU (partP (bs s) l t) j ++ (usesP (bs s) l t.A[j]).map fun q => (j :: q.1, N ++ q.2) := by
              show catU (partP (bs s) l t) j ++ partP (bs s) l t j = _
              rw [hpp]
            have hsum : (catU (partP (bs s) l t) (j + 1)).length ≤ m := by
              have h1 := sumU_le (partU (bs s) l t) (j + 1) (t.A.length - (j + 1))
              rw [show j + 1 + (t.A.length - (j + 1)) = t.A.length by omega] at h1
              have h2 := catU_len (usesP_len (bs s) l) (t := t) (j + 1) (by omega)
              have h3 := catU_len (usesP_len (bs s) l) (t := t) t.A.length (Nat.le_refl _)
              omega
            have hmmL := hmm.out.len
            have hb9 : mm + (usesP (bs s) l t.A[j]).length ≤ 1000 := by
              rw [hcat, List.length_append, List.length_map] at hsum
              have := hus.out
              omega
            obtain ⟨u9, hu9⟩ : ∃ u9, usesP (bs s) l t.A[j] = u9 := ⟨_, rfl⟩
            rw [hu9] at hb9 hcat
            have HCAT : Hid (catU (partP (bs s) l t) (j + 1) = catU (partP (bs s) l t) j ++ u9.map fun q => (j :: q.1, N ++ q.2)) := hcat
            have hP3 : Nsl w4 pao pn P := hP.below hb3w
            have hgl : g < w4.heap.size := by omega
            have y3 := (y9.below hbr (by omega)).below hb3 (by omega)
            obtain ⟨z30, z31, z32, z33, z34, z35, z36, z37, z38⟩ := (h9w.below hb3w hbw)
            have hf3 := Fm.below hb3w hB hf1
            obtain ⟨Q, hQ⟩ : ∃ Q, Q = (w4.alloc (.cells #[.slice pao pn pc, .slice xo nn xc] 60)).drew := ⟨_, rfl⟩
            have hQb : Below w4.heap.size w4 Q := by rw [hQ]; exact ((Below.refl _ _).alloc (Nat.le_refl _) _).drew
            have hQs : Q.heap.size = w4.heap.size + 1 := by rw [hQ]; simp
            have hQ0 : Q.heap[w4.heap.size]? = some (.cells #[.slice pao pn pc, .slice xo nn xc] 60 (0, 0)) := by rw [hQ]; exact heap_new rfl
            have HQ : Hid (Q = _) := hQ
            have KC := concat_names w4.heap.size pao pn pc xo nn xc P N Q (by omega) (row_cell hQ0 0) (row_cell hQ0 1) (hP3.below hQb) (hNs.below hQb) (by omega)
            have KI : Hid (∀ (W : World) (bo : Option Addr) (bn bc : Nat), Below Q.heap.size Q W → Nsl W bo bn (P ++ N) → Calls Tryz.prog 76 #[.pointer (some ⟨g, og + j * 9, none⟩), .string s, .slice bo bn bc] W fun e w' => UpE W w' M g (og + j * 9) (P ++ N) e u9) := fun W bo bn bc hW hNP => by
              have := IH D (d - 1) L B t.A[j] q1 n1 k1 q2 n2 k2 q3 n3 k3 g (og + j * 9) mj M s (P ++ N) bo bn bc W hBM (by omega) (by have := hW.size; omega) (y3.below (hQb.trans (hW.mono (by omega))) hgl) (Fm.below (hQb.trans (hW.mono (by omega))) (by omega) hf3) hmj.1 (by omega) hNP (by have h1 := hNP.1; rw [List.length_append] at h1; have h2 := hP.1; omega)
              rw [hu9] at this
              exact this
            have hbw4 : b < w4.heap.size := by omega
            have HB9 : Hid (mm + u9.length ≤ 1000) := hb9
            obtain ⟨PN, hPN⟩ : ∃ PN, P ++ N = PN := ⟨_, rfl⟩
            have HPT : Hid (∀ (W : World) (us6 : List Use), Below Q.heap.size Q W → UsR W M g (og + j * 9) PN us6 u9 → UsR W M b o P (us ++ us6) (catU (partP (bs s) l t) (j + 1))) := fun W us6 hW h6 => by
              rw [HCAT.out]
              have hWw : Below wr.heap.size wr W := hb3.trans ((hQb.trans (hW.mono (by omega))).mono hz3)
              refine (hmm.out.below hWw (by omega)).app ?_
              rw [← hPN] at h6
              exact UsR.part hbM ((bcell (hQb.trans (hW.mono (by omega))) (by omega) _).trans z38) h6
            rw [hPN] at KC KI
            clear hPN
            have HU4 : Hid (∀ W, Below Q.heap.size Q W → Uss w.heap.size W (.slice ao mm cp) us ∧ W.cell? ⟨b, o + 8, none⟩ = some (.slice (some ⟨g, og, none⟩) l3 c3) ∧ Below w.heap.size w W) := fun W hW => ⟨uss_below hU3 (hQb.trans (hW.mono (by omega))), (bcell (hQb.trans (hW.mono (by omega))) (by omega) _).trans z38, hb3w.trans ((hQb.trans (hW.mono (by omega))).mono (by omega))⟩
            clear hu9 hcat hpp hb9 hmmL hQ hmem hsum hQ0 hQb hP3 hNs z0 z1 z2 z3 z4 z5 z6 z7 z8 y9 y3 hf1 hf3 hU hU3 hmj
            go_wp2_with fail
            go_region_law (first
              | (refine step_run hrun (by rfl) _ _ (by rfl) (by rfl) (by rfl) (by rfl) ?_)
              | (go_simp; go_at_call 103; (try rw [← HQ.out]); refine KC.mono ?_; rintro e w5 ⟨v5, rfl, ht5, hb5⟩; obtain ⟨bo, bc, rfl⟩ := toks_form ht5; have hz5 := hb5.size; have KI5 := KI.out w5 bo _ bc hb5 (Nsl.of_toks ht5); have z58 := (HU4.out w5 hb5).2.1)
              | (go_simp; go_at_call 76; refine KI5.mono ?_; rintro e w6 ⟨v6, us6, rfl, hl6, hU6, hb6⟩; have hb56 : Below Q.heap.size Q w6 := hb5.trans (hb6.mono hz5); have z68 := (HU4.out w6 hb56).2.1; obtain ⟨ao7, cp7, w7, hrun, hU7, hg7⟩ := uss_app (HU4.out w6 hb56).1 (HU4.out w6 hb56).2.2.size hU6 (by have := hus.out; have := HB9.out; have := hl6.len; omega); have hl6l := hl6.len; rw [hus.out, hl6l] at hrun hU7; have hR6 := HPT.out w6 us6 hb56 hl6; have hbw6 := (HU4.out w6 hb56).2.2; have ho6 := fun g hg => uss_own (HU4.out w6 hb56).1 (g := g) hg))
            all_goals
              have hbw7 : Below w.heap.size w w7 := ⟨hg7.os.trans hbw6.os, hg7.tape.trans hbw6.tape, hg7.output.trans hbw6.output, Nat.le_trans hbw6.size hg7.size, fun q hq => (hg7.block q (by have := hbw6.size; omega) (fun e => by have := (ho6 q e.symm).1; omega)).trans (hbw6.block q hq)⟩
              have HL7 : Hid ((us ++ us6).length = mm + u9.length) := by show _ = _; rw [List.length_append, hus.out, hl6l]
              have HS7 : Hid (UsR w7 M b o P (us ++ us6) (catU (partP (bs s) l t) (j + 1))) := hR6.step (own := (Value.slice ao mm cp).ownBlock) (fun k hk hne => hg7.block k hk (fun e => hne e.symm)) (by have := hbw6.size; omega) (fun g' hg' => ⟨by have := (ho6 g' hg').1; omega, uss_type (HU4.out w6 hb56).1 hg'⟩)
              clear hrun hg7 ho6 hbw6 hl6 hl6l hR6
              go_wp2_with fail
              go_roundw
              case rel => exact ⟨j + 1, _, us ++ us6, ao7, cp7, by omega, by go_num, rfl, HL7, HS7, hU7, hbw7⟩
              case measure => simp [intOf]; omega
        · have hjl : j = t.A.length := by have := HL.out; omega
          have HR : Hid (UsR wr M b o P us (catU (partP (bs s) l t) t.A.length)) := by show UsR wr M b o P us _; rw [← hjl]; exact hmm.out
          clear hjl
          go_wp2_with fail
          go_ret
          exact ⟨_, us, rfl, HR.out, hU, hbr⟩

theorem up_any : ∀ l, SaidUp l := by
  intro l
  induction l with
  | zero =>
    intro D d L B t a1 l1 c1 a2 l2 c2 a3 l3 c3 b o m M s P pao pn pc w _ _ _ _ _ hm
    simp [nodesM] at hm
  | succ l ih => exact up_step l ih

end Go.Proofs.YtcepgedbmffkdaaGreat
