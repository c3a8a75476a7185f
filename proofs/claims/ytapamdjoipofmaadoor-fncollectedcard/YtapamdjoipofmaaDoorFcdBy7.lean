/-
  'object' and 'word' of a 'shower'.
-/
import Derived.Test.YtapamdjoipofmaaDoorFcdBy6
namespace Go.Proofs.YtapamdjoipofmaaDoor
open Go.RowKit
set_option linter.unusedVariables false
set_option linter.unusedSimpArgs false

theorem shw_rec {l : List Wrd} {x : Wrd} (h4 : x.K = 4) (h : (l.getD x.N.toNat wz).K = 7) (f n : Nat) : shw l (f + 1) (n + 1) x = ([102, 110], n) := by
  rw [shw, if_neg (by omega), if_neg (by omega), if_neg (by omega), if_pos h]
theorem shw_pair {l : List Wrd} {x : Wrd} (h4 : x.K = 4) (h : (l.getD x.N.toNat wz).K = 5) (f n : Nat) : shw l (f + 1) (n + 1) x = ([40] ++ (shw l f n (l.getD (x.N.toNat + 1) wz)).1 ++ [44] ++ (shw l f (shw l f n (l.getD (x.N.toNat + 1) wz)).2 (l.getD (x.N.toNat + 2) wz)).1 ++ [41], (shw l f (shw l f n (l.getD (x.N.toNat + 1) wz)).2 (l.getD (x.N.toNat + 2) wz)).2) := by
  rw [shw, if_neg (by omega), if_neg (by omega), if_neg (by omega), if_neg (by omega), if_pos h]
theorem shw_cons {l : List Wrd} {x : Wrd} (h4 : x.K = 4) (h : (l.getD x.N.toNat wz).K = 6) (f n : Nat) : shw l (f + 1) (n + 1) x = ([91] ++ (shw l f n (l.getD (x.N.toNat + 1) wz)).1 ++ (shr l f (shw l f n (l.getD (x.N.toNat + 1) wz)).2 (l.getD (x.N.toNat + 2) wz)).1 ++ [93], (shr l f (shw l f n (l.getD (x.N.toNat + 1) wz)).2 (l.getD (x.N.toNat + 2) wz)).2) := by
  rw [shw, if_neg (by omega), if_neg (by omega), if_neg (by omega), if_neg (by omega), if_neg (by omega)]

set_option maxRecDepth 100000 in
set_option maxHeartbeats 2000000 in
theorem object_any {s : Int} {S B b o len cap : Nat} {l : List Wrd} (hok : okH s l = true) (hcap : len ≤ cap) (hl : len ≤ 1048576) (hBS : B ≤ S) (f : Nat) (IH : ∀ f', f' ≤ f → SaidW S B (some ⟨b, o, none⟩) len cap l f') (x : Wrd) (hx : rgt (heads l) x = true) (hx4 : x.K = 4) (n : Nat) (hnf : n < f) (T : List UInt8) (w : World)
    (h : Shw w S (some ⟨b, o, none⟩) len cap (n : Int) T) (hs : Ws 0 S w (some ⟨b, o, none⟩) len l) (hT : TabB B w) (hTl : T.length + 32 * n + 20 ≤ 900000) :
    Calls Tryd.prog 42 #[.pointer (some ⟨S, 0, none⟩), vW x] w fun e w' => e = .returned (.tuple #[]) ∧ Sg S w w' ∧ Shw w' S (some ⟨b, o, none⟩) len cap ((shw l (f + 1) (n + 1) x).2 : Int) (T ++ (shw l (f + 1) (n + 1) x).1) := by
  obtain ⟨a, c, hN, hm, hac, hob, hcn, hkk, hc2⟩ := rg4 hok hx hx4
  have eN : x.N.toNat = a := by omega
  have hSlt := h.lt
  have hA : Below w.heap.size w (w.alloc (.cells #[.int .i64 x.K, .int .i64 x.N] 34)) := (Below.refl _ _).alloc (Nat.le_refl _) _
  have hSA := h.below hA
  have hsA : Ws 0 S (w.alloc (.cells #[.int .i64 x.K, .int .i64 x.N] 34)) (some ⟨b, o, none⟩) len l := hs.below hA (by omega)
  have hgA : Sg S w (w.alloc (.cells #[.int .i64 x.K, .int .i64 x.N] 34)) := Sg.below hA (by omega)
  have hrA : (w.alloc (.cells #[.int .i64 x.K, .int .i64 x.N] 34)).heap[w.heap.size]? = some (.cells #[.int .i64 x.K, .int .i64 x.N] 34 (0, 0)) := heap_new rfl
  have hlE := hs.1
  have KO := objectAt_any 0 S (some ⟨b, o, none⟩) len cap l a (w.alloc (.cells #[.int .i64 x.K, .int .i64 x.N] 34)).drew (by simp; omega) hsA.drew hl hcap (by omega)
  rw [hob] at KO
  have HOE : Hid (∀ e : Ending, OaEnd (some ⟨b, o, none⟩) a (some c) e → e = .returned (.tuple #[.slice (some ⟨b, o + a * 2, none⟩) (c + 1) (c + 1), .bool true])) := by
    rintro e ⟨b', o', e1, e2⟩
    injection e1 with e1
    injection e1 with e1 e3
    subst e1 e3
    exact e2
  obtain ⟨p, v, hbA, _⟩ := hSA.at_
  obtain ⟨t0, t1, t2, t3⟩ := cells4b hbA
  obtain ⟨q0, q1⟩ := cells2 hrA
  have HXK : Hid (x.K = 4) := hx4
  have HN : Hid (x.N = (a : Int)) := hN
  have HLE : Hid (len = l.length) := hlE
  rw [hx4, hN] at KO q0 q1 t0 t1 t2 t3 hA hSA hsA hgA
  have e7 := fun (h7 : (l.getD a wz).K = 7) => shw_rec (l := l) (x := x) hx4 (by rw [eN]; exact h7) f n
  have e5 := fun (h5 : (l.getD a wz).K = 5) => shw_pair (l := l) (x := x) hx4 (by rw [eN]; exact h5) f n
  have e6 := fun (h6 : (l.getD a wz).K = 6) => shw_cons (l := l) (x := x) hx4 (by rw [eN]; exact h6) f n
  rw [eN] at e5 e6
  generalize hXX : shw l (f + 1) (n + 1) x = XX at *
  have E7 : Hid ((l.getD a wz).K = 7 → _) := e7
  have E5 : Hid ((l.getD a wz).K = 5 → _) := e5
  have E6 : Hid ((l.getD a wz).K = 6 → _) := e6
  have HIH : Hid (∀ f', f' ≤ f → SaidW S B (some ⟨b, o, none⟩) len cap l f') := IH
  have HW2 : Hid (∀ w', Sg S w w' → Ws 0 S w' (some ⟨b, o, none⟩) len l) := fun w' hg => hs.sg hg
  have HTB : Hid (∀ w', Sg S w w' → TabB B w') := fun w' hg => hT.below (hg.bel.mono hBS)
  have HKW : Hid (vW x = .agg #[.int .i64 4, .int .i64 (a : Int)]) := by show _ = _; unfold vW; rw [hx4, hN]
  rw [HKW.out]
  clear e5 e6 e7 hXX IH hs hT hsA hrA hbA hlE hx4 hN eN hob hcn hx
  go_enter Tryd.func42, Tryd.ntmps42
  go_wp2_with fail
  go_region_law (go_simp; go_at_call 35; refine KO.mono ?_; rintro e w1 ⟨he, hb1⟩; have he2 := HOE.out e he; subst he2)
  all_goals
    have hb1' : Below (w.alloc (.cells #[.int .i64 4, .int .i64 (a : Int)] 34)).heap.size (w.alloc (.cells #[.int .i64 4, .int .i64 (a : Int)] 34)) w1 := ⟨hb1.os, hb1.tape, hb1.output, hb1.size, hb1.block⟩
    have hS1 := hSA.below hb1'
    have hg1 : Sg S w w1 := hgA.trans (Sg.below hb1' (by simp; omega))
    have hs1 := HW2.out w1 hg1
    have hz : a + 0 < l.length := by omega
    obtain ⟨_, k0, k1⟩ := obj_two hs1 a 0 hz
    simp only [Nat.zero_mul, Nat.add_zero] at k0 k1
    clear KO hb1 hb1' hSA hgA t0 t1 t2 t3 q0 q1
    rcases hkk with h5 | h6 | h7
    · obtain rfl : c = 2 := hc2 (by omega)
      rw [h5] at k0
      have he := E5.out h5
      have hr1 : rgt (heads l) (l.getD (a + 1) wz) = true := fld_rgt hok hm 0 (by omega)
      have hr2 : rgt (heads l) (l.getD (a + 2) wz) = true := fld_rgt hok hm 1 (by omega)
      have hw1 := (shw_le l f).1 n (l.getD (a + 1) wz)
      have hl1 := (shw_len hok f).1 n (l.getD (a + 1) wz) hr1
      have hw2 := (shw_le l f).1 (shw l f n (l.getD (a + 1) wz)).2 (l.getD (a + 2) wz)
      have hl2 := (shw_len hok f).1 (shw l f n (l.getD (a + 1) wz)).2 (l.getD (a + 2) wz) hr2
      clear hc2
      go_wp2_with fail
      refine (writeByte_any 40 40 (by rfl) hS1 (by omega)).mono ?_
      rintro e w2 ⟨⟨rr, rfl⟩, hg2, hS2⟩
      have hG2 := hg1.trans hg2
      have hs2 := HW2.out w2 hG2
      obtain ⟨_, c0, c1⟩ := obj_two hs2 a 1 (by omega)
      have KW := HIH.out f (Nat.le_refl _) n (l.getD (a + 1) wz) (T ++ [40]) w2 hnf hr1 hS2 hs2 (HTB.out w2 hG2) (by simp; omega)
      obtain ⟨X1, hX1⟩ : ∃ X1, X1 = shw l f n (l.getD (a + 1) wz) := ⟨_, rfl⟩
      rw [← hX1] at KW hw1 hl1 hw2 hl2 he
      clear hX1 k0 k1
      generalize l.getD (a + 1) wz = F1 at *
      unfold vW at KW
      go_wp2_with fail
      refine KW.mono ?_
      rintro e w3 ⟨rfl, hg3, hS3⟩
      clear KW c0 c1
      have hG3 := hG2.trans hg3
      go_wp2_with fail
      refine (writeByte_any 44 44 (by rfl) hS3 (by simp; omega)).mono ?_
      rintro e w4 ⟨⟨rr, rfl⟩, hg4, hS4⟩
      have hG4 := hG3.trans hg4
      have hs4 := HW2.out w4 hG4
      obtain ⟨_, c0, c1⟩ := obj_two hs4 a 2 (by omega)
      have KW := HIH.out f (Nat.le_refl _) X1.2 (l.getD (a + 2) wz) (T ++ [40] ++ X1.1 ++ [44]) w4 (by omega) hr2 hS4 hs4 (HTB.out w4 hG4) (by simp; omega)
      obtain ⟨X2, hX2⟩ : ∃ X2, X2 = shw l f X1.2 (l.getD (a + 2) wz) := ⟨_, rfl⟩
      rw [← hX2] at KW hw2 hl2 he
      clear hX2
      generalize l.getD (a + 2) wz = F2 at *
      unfold vW at KW
      go_wp2_with fail
      refine KW.mono ?_
      rintro e w5 ⟨rfl, hg5, hS5⟩
      clear KW c0 c1
      have hG5 := hG4.trans hg5
      go_wp2_with fail
      refine (writeByte_any 41 41 (by rfl) hS5 (by simp; omega)).mono ?_
      rintro e w6 ⟨⟨rr, rfl⟩, hg6, hS6⟩
      have hG6 := hG5.trans hg6
      have hSF : Shw w6 S (some ⟨b, o, none⟩) len cap (XX.2 : Int) (T ++ XX.1) := by rw [he]; simpa only [List.append_assoc] using hS6
      go_wp2_with fail
      go_end0
      exact ⟨rfl, hG6, hSF⟩
    · obtain rfl : c = 2 := hc2 (by omega)
      rw [h6] at k0
      have he := E6.out h6
      have hr1 : rgt (heads l) (l.getD (a + 1) wz) = true := fld_rgt hok hm 0 (by omega)
      have hr2 : rgt (heads l) (l.getD (a + 2) wz) = true := fld_rgt hok hm 1 (by omega)
      have hw1 := (shw_le l f).1 n (l.getD (a + 1) wz)
      have hl1 := (shw_len hok f).1 n (l.getD (a + 1) wz) hr1
      have hl2 := (shw_len hok f).2 (shw l f n (l.getD (a + 1) wz)).2 (l.getD (a + 2) wz) hr2
      clear hc2
      go_wp2_with fail
      refine (writeByte_any 91 91 (by rfl) hS1 (by omega)).mono ?_
      rintro e w2 ⟨⟨rr, rfl⟩, hg2, hS2⟩
      have hG2 := hg1.trans hg2
      have hs2 := HW2.out w2 hG2
      have KP := parts_any hok hcap hl hBS f HIH.out a n hm hnf (T ++ [91]) w2 hS2 hs2 (HTB.out w2 hG2) (by simp; omega)
      obtain ⟨X1, hX1⟩ : ∃ X1, X1 = shw l f n (l.getD (a + 1) wz) := ⟨_, rfl⟩
      obtain ⟨X2, hX2⟩ : ∃ X2, X2 = shr l f (shw l f n (l.getD (a + 1) wz)).2 (l.getD (a + 2) wz) := ⟨_, rfl⟩
      rw [← hX2] at KP hl2 he
      rw [← hX1] at KP hw1 hl1 hl2 he
      clear hX1 hX2 k0 k1
      go_wp2_with fail
      refine KP.mono ?_
      rintro e w5 ⟨rfl, hg5, hS5⟩
      clear KP
      have hG5 := hG2.trans hg5
      go_wp2_with fail
      refine (writeByte_any 93 93 (by rfl) hS5 (by simp; omega)).mono ?_
      rintro e w6 ⟨⟨rr, rfl⟩, hg6, hS6⟩
      have hG6 := hG5.trans hg6
      have hSF : Shw w6 S (some ⟨b, o, none⟩) len cap (XX.2 : Int) (T ++ XX.1) := by rw [he]; simpa only [List.append_assoc] using hS6
      go_wp2_with fail
      go_end0
      exact ⟨rfl, hG6, hSF⟩
    · rw [h7] at k0
      have he := E7.out h7
      have hi0 : (0 : Int) < (c : Int) + 1 := by omega
      go_wp2_with fail
      refine (writeString_any [102, 110] hS1 (by simp; omega)).mono ?_
      rintro e w6 ⟨⟨rr, rfl⟩, hg6, hS6⟩
      have hG6 := hg1.trans hg6
      have hSF : Shw w6 S (some ⟨b, o, none⟩) len cap (XX.2 : Int) (T ++ XX.1) := by rw [he]; exact hS6
      go_wp2_with fail
      go_end0
      exact ⟨rfl, hG6, hSF⟩

end Go.Proofs.YtapamdjoipofmaaDoor
