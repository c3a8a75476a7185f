/-
  'parts' of a 'shower': the parts of a list, given what 'word' does.
-/
import Derived.Test.YtapamdjoipofmaaDoorFcdBy5
namespace Go.Proofs.YtapamdjoipofmaaDoor
open Go.RowKit
set_option linter.unusedVariables false
set_option linter.unusedSimpArgs false

/-- What 'word' comes to with this much fuel of the plain text. -/
def SaidW (S B : Nat) (ao : Option Addr) (len cap : Nat) (l : List Wrd) (f : Nat) : Prop :=
  ∀ (n : Nat) (x : Wrd) (T : List UInt8) (w : World), n < f → rgt (heads l) x = true → Shw w S ao len cap (n : Int) T → Ws 0 S w ao len l → TabB B w → T.length + 32 * n + 2 ≤ 900000 →
    Calls Tryd.prog 23 #[.pointer (some ⟨S, 0, none⟩), vW x] w fun e w' => e = .returned (.tuple #[]) ∧ Sg S w w' ∧ Shw w' S ao len cap ((shw l f n x).2 : Int) (T ++ (shw l f n x).1)

theorem shr_stop {l : List Wrd} {r : Wrd} (h : goesOn l r = false) (f n : Nat) : shr l f n r = ([], n) := by
  unfold goesOn at h
  rw [decide_eq_false_iff_not] at h
  cases f with
  | zero => simp [shr]
  | succ f => unfold shr; rw [if_neg h]
theorem shr_zero {l : List Wrd} {r : Wrd} (h : goesOn l r = true) (f : Nat) : shr l (f + 1) 0 r = ([44, 46], 0) := by
  unfold goesOn at h
  rw [decide_eq_true_eq] at h
  unfold shr
  rw [if_pos h]
theorem shr_succ {l : List Wrd} {r : Wrd} (h : goesOn l r = true) (f n : Nat) : shr l (f + 1) (n + 1) r = ([44] ++ (shw l f n (l.getD (r.N.toNat + 1) wz)).1 ++ (shr l f (shw l f n (l.getD (r.N.toNat + 1) wz)).2 (l.getD (r.N.toNat + 2) wz)).1, (shr l f (shw l f n (l.getD (r.N.toNat + 1) wz)).2 (l.getD (r.N.toNat + 2) wz)).2) := by
  unfold goesOn at h
  rw [decide_eq_true_eq] at h
  rw [shr, if_pos h]

/-- How many looks are left, as the world has it. -/
def leftOf (S : Nat) (w : World) : Nat := match w.cell? ⟨S, 1, none⟩ with
  | some v => (intOf v).toNat
  | none => 0
theorem Shw.left {w : World} {S : Nat} {ao : Option Addr} {len cap n : Nat} {T : List UInt8} (h : Shw w S ao len cap (n : Int) T) : leftOf S w = n := by
  obtain ⟨p, v, hb, _⟩ := h.at_
  obtain ⟨_, c1, _, _⟩ := cells4b hb
  unfold leftOf
  rw [c1]
  simp [intOf]

/-- The state of the loop in 'parts'. -/
structure PtS (S B b o len cap : Nat) (l : List Wrd) (f : Nat) (w wr : World) (v : Value) (r : Wrd) (f' n' : Nat) (T' TF : List UInt8) (nF : Nat) : Prop where
  val : goesOn l r = true → v = .slice (some ⟨b, o + r.N.toNat * 2, none⟩) 3 3
  rg : rgt (heads l) r = true
  lt : n' < f'
  le : f' ≤ f
  len_ : T'.length + 32 * n' + 8 ≤ 900000
  txt : T' ++ (shr l f' n' r).1 = TF
  num : (shr l f' n' r).2 = nF
  shw_ : Shw wr S (some ⟨b, o, none⟩) len cap (n' : Int) T'
  sg : Sg S w wr

set_option maxRecDepth 100000 in
set_option maxHeartbeats 2000000 in
theorem parts_any {s : Int} {S B b o len cap : Nat} {l : List Wrd} (hok : okH s l = true) (hcap : len ≤ cap) (hl : len ≤ 1048576) (hBS : B ≤ S) (f : Nat) (IH : ∀ f', f' ≤ f → SaidW S B (some ⟨b, o, none⟩) len cap l f') (a n : Nat) (ha : (a, 2) ∈ allO l) (hnf : n < f) (T : List UInt8) (w : World)
    (h : Shw w S (some ⟨b, o, none⟩) len cap (n : Int) T) (hs : Ws 0 S w (some ⟨b, o, none⟩) len l) (hT : TabB B w) (hTl : T.length + 32 * n + 10 ≤ 900000) :
    Calls Tryd.prog 52 #[.pointer (some ⟨S, 0, none⟩), .slice (some ⟨b, o + a * 2, none⟩) 3 3] w fun e w' => e = .returned (.tuple #[]) ∧ Sg S w w' ∧
      Shw w' S (some ⟨b, o, none⟩) len cap ((shr l f (shw l f n (l.getD (a + 1) wz)).2 (l.getD (a + 2) wz)).2 : Int) (T ++ (shw l f n (l.getD (a + 1) wz)).1 ++ (shr l f (shw l f n (l.getD (a + 1) wz)).2 (l.getD (a + 2) wz)).1) := by
  have hbd := vis_bound (vis_all l).1 _ ha
  have hle := endO_le l
  simp only at hbd
  obtain ⟨_, c0, c1⟩ := obj_two hs a 1 (by omega)
  have hr1 : rgt (heads l) (l.getD (a + 1) wz) = true := fld_rgt hok ha 0 (by omega)
  have hr2 : rgt (heads l) (l.getD (a + 2) wz) = true := fld_rgt hok ha 1 (by omega)
  have hwle := (shw_le l f).1 n (l.getD (a + 1) wz)
  have hwln := (shw_len hok f).1 n (l.getD (a + 1) wz) hr1
  have KW := IH f (Nat.le_refl _) n (l.getD (a + 1) wz) T w hnf hr1 h hs hT (by omega)
  generalize hF1 : l.getD (a + 1) wz = F1 at *
  generalize hF2 : l.getD (a + 2) wz = F2 at *
  have HF2 : Hid (l.getD (a + 2) wz = F2) := hF2
  generalize hX1 : shw l f n F1 = X1 at *
  have HIH : Hid (∀ f', f' ≤ f → SaidW S B (some ⟨b, o, none⟩) len cap l f') := IH
  have HBD : Hid (a + 2 < endO l ∧ endO l ≤ l.length) := ⟨hbd.2.1, hle⟩
  clear hF1 hF2 hX1 IH hbd hle hr1
  obtain ⟨TF, hTF⟩ : ∃ TF, TF = T ++ X1.1 ++ (shr l f X1.2 F2).1 := ⟨_, rfl⟩
  obtain ⟨nF, hnF⟩ : ∃ nF, nF = (shr l f X1.2 F2).2 := ⟨_, rfl⟩
  rw [← hTF, ← hnF]
  have HTF : Hid (TF = _) := hTF
  have HNF : Hid (nF = _) := hnF
  clear hTF hnF
  unfold vW at KW
  go_enter Tryd.func52, Tryd.ntmps52
  go_wp2_with fail
  refine KW.mono ?_
  rintro e w1 ⟨rfl, hg1, hS1⟩
  clear KW c0 c1
  have hs1 := hs.sg hg1
  go_wp2_with fail
  refine (others_any hok a ha hS1 hs1 hcap hl).mono ?_
  rintro e w2 ⟨⟨v, rfl, hv⟩, hb2⟩
  rw [HF2.out] at hv ⊢
  have hS2 := hS1.below hb2
  have hg2 := hg1.trans (Sg.below hb2 (Nat.le_of_lt hS1.lt))
  have hP0 : PtS S B b o len cap l f w w2 v F2 f X1.2 (T ++ X1.1) TF nF := ⟨hv, hr2, by omega, Nat.le_refl _, by rw [List.length_append]; omega, HTF.out.symm, HNF.out.symm, hS2, hg2⟩
  clear HTF HNF hv hS2 hg2 hS1 hg1 hb2 hs1 hwle hwln hr2
  generalize F2 = r0 at *
  clear HF2
  go_wp2_with fail
  go_loopw [4, 5] (fun v4 v5 wr => ∃ (v : Value) (r : Wrd) (f' n' : Nat) (T' : List UInt8), v4 = v ∧ v5 = .bool (goesOn l r) ∧ PtS S B b o len cap l f w wr v r f' n' T' TF nF) (fun _ _ wr => leftOf S wr)
  case atStart => exact ⟨v, r0, f, X1.2, T ++ X1.1, rfl, rfl, hP0⟩
  case round =>
    clear hP0
    obtain ⟨v, r, f', n', T', rfl, rfl, hP⟩ := hrel
    have hleft := hP.shw_.left
    cases hgo : goesOn l r with
    | false =>
      have he := shr_stop hgo f' n'
      have h1 := hP.txt
      have h2 := hP.num
      rw [he] at h1 h2
      simp only [List.append_nil] at h1
      subst h1
      simp only at h2
      subst h2
      have hsgF := hP.sg
      have hshF := hP.shw_
      clear hP he
      go_wp2_with fail
      go_end0
      exact ⟨rfl, hsgF, hshF⟩
    | true =>
      have hv := hP.val hgo
      subst hv
      obtain ⟨g, hg⟩ : ∃ g, f' = g + 1 := ⟨f' - 1, by have := hP.lt; omega⟩
      subst hg
      have hr4 : r.K = 4 ∧ (l.getD r.N.toNat wz).K = 6 := by unfold goesOn at hgo; rw [decide_eq_true_eq] at hgo; exact hgo
      obtain ⟨a', c', hN, hm, hac, hob, hcn, hkk, hc2⟩ := rg4 hok hP.rg hr4.1
      have eN : r.N.toNat = a' := by omega
      have hc2' := hc2 (by rw [← eN]; omega)
      subst hc2'
      have hlen := hP.len_
      have hsg := hP.sg
      have hlt := hP.lt
      have hle' := hP.le
      have EN : Hid (r.N.toNat = a') := eN
      rw [eN]
      clear eN
      cases n' with
      | zero =>
        have he := shr_zero hgo g
        have h1 := hP.txt
        have h2 := hP.num
        rw [he] at h1 h2
        simp only at h2
        subst h2
        subst h1
        have hsh := hP.shw_
        clear hP he
        go_wp2_with fail
        refine (writeByte_any 44 44 (by rfl) hsh (by omega)).mono ?_
        rintro e w3 ⟨⟨rr, rfl⟩, hg3, hS3⟩
        go_wp2_with fail
        refine (looks_none hS3 (by simp; omega)).mono ?_
        rintro e w4 ⟨rfl, hg4, hS4⟩
        have hsgF := (hsg.trans hg3).trans hg4
        have hshF : Shw w4 S (some ⟨b, o, none⟩) len cap ((0 : Nat) : Int) (T' ++ [44, 46]) := by rw [List.append_assoc] at hS4; exact hS4
        go_wp2_with fail
        refine bodyPost_ret (v := .tuple #[]) (by simp [results, Tryd.results52, go_sem]) rfl ⟨rfl, hsgF, hshF⟩
      | succ k =>
        have he := shr_succ hgo g k
        rw [EN.out] at he
        have h1 := hP.txt
        have h2 := hP.num
        rw [he] at h1 h2
        simp only at h1 h2
        have hsh := hP.shw_
        have hr1 : rgt (heads l) (l.getD (a' + 1) wz) = true := fld_rgt hok hm 0 (by omega)
        have hr2 : rgt (heads l) (l.getD (a' + 2) wz) = true := fld_rgt hok hm 1 (by omega)
        have hwle := (shw_le l g).1 k (l.getD (a' + 1) wz)
        have hwln := (shw_len hok g).1 k (l.getD (a' + 1) wz) hr1
        have HW := HIH.out g (by omega)
        have HOT := @others_any s
        clear hP he
        go_wp2_with fail
        refine (writeByte_any 44 44 (by rfl) hsh (by omega)).mono ?_
        rintro e w3 ⟨⟨rr, rfl⟩, hg3, hS3⟩
        go_wp2_with fail
        refine (looks_some hS3 (by omega)).mono ?_
        rintro e w4 ⟨rfl, hg4, hS4⟩
        have hsg4 := (hsg.trans hg3).trans hg4
        have hs4 := hs.sg hsg4
        have hT4 : TabB B w4 := hT.below (hsg4.bel.mono hBS)
        obtain ⟨_, c0, c1⟩ := obj_two hs4 a' 1 (by omega)
        have KW := HW k (l.getD (a' + 1) wz) (T' ++ [44]) w4 (by omega) hr1 hS4 hs4 hT4 (by simp; omega)
        generalize hF1 : l.getD (a' + 1) wz = F1 at *
        generalize hX2 : shw l g k F1 = X2 at *
        clear hF1 hX2 HW hS3 hg3 hg4 hsh
        unfold vW at KW
        go_wp2_with fail
        refine KW.mono ?_
        rintro e w5 ⟨rfl, hg5, hS5⟩
        clear KW c0 c1
        have hsg5 := hsg4.trans hg5
        have hs5 := hs.sg hsg5
        go_wp2_with fail
        refine (others_any hok a' hm hS5 hs5 hcap hl).mono ?_
        rintro e w6 ⟨⟨v6, rfl, hv6⟩, hb6⟩
        have hS6 := hS5.below hb6
        have hsg6 := hsg5.trans (Sg.below hb6 (Nat.le_of_lt hS5.lt))
        have hl6 := hS6.left
        have hP6 : PtS S B b o len cap l f w w6 v6 (l.getD (a' + 2) wz) g X2.2 (T' ++ [44] ++ X2.1) TF nF := ⟨hv6, hr2, by omega, by omega, by simp only [List.length_append, List.length_cons, List.length_nil]; omega, by rw [← h1]; simp only [List.append_assoc], h2, hS6, hsg6⟩
        clear hv6 hS6 hsg6 hS5 hsg5 hs5 hb6 hs4 hT4 hS4
        generalize l.getD (a' + 2) wz = r6 at *
        go_wp2_with fail
        go_roundw
        case rel => exact ⟨v6, r6, g, X2.2, _, rfl, rfl, hP6⟩
        case measure => rw [hl6, hleft]; omega

end Go.Proofs.YtapamdjoipofmaaDoor
