/-
  The law FnExactAlloc's walk: whatever heap, word and words lie in memory, true.
-/
import Derived.Test.YtemcmckofkhjfaaAaAl
import Derived.Test.YtemcmckofkhjfaaAaSa
import Derived.Test.YtemcmckofkhjfaaAaInv
import Derived.Test.YtemcmckofkhjfaaAaRdW
import Derived.Deep.RegionHeld3
import Derived.Deep.Cut
import Derived.Deep.CutRange
namespace Go.Proofs.Ytemcmckofkhjfaa
open Go.RowKit
set_option linter.unusedVariables false
set_option linter.unusedSimpArgs false

theorem alP_le (q : Bool) (l : List Wrd) (x : Wrd) (f : List Wrd) : (alP q l x f).length ≤ l.length + 1 + f.length := by
  unfold alP
  split
  · simp; omega
  · omega

section
variable {w0 W : World} {bx : List (Nat × Array Value × TypeId)} {rs : List (Value × List Wrd)}
theorem inv_sAlloc (I : Inv w0 W bx rs) {s : Int} {a1 : Option Addr} {len c1 : Nat} {l : List Wrd} {x : Wrd} {a2 : Option Addr} {nf c2 : Nat} {f : List Wrd} (h1 : (.slice a1 len c1, l) ∈ rs) (h2 : (.slice a2 nf c2, f) ∈ rs) (hl : len = l.length) (hf : nf = f.length) (hlm : len ≤ 1048576) (hfm : nf ≤ 1048576) {q : Bool} {P : List Wrd} {y : Wrd} (hq : alB s l x f = q) (hP : alP q l x f = P) (hy : alW q l = y) :
    Calls Try.prog 18 #[vH s a1 len c1, vW x, .slice a2 nf c2] W fun e W' => ∃ ao n cap, e = .returned (.tuple #[vH s ao n cap, vW y, .bool q]) ∧ n = P.length ∧ Inv w0 W' bx ((.slice ao n cap, P) :: rs) := by
  subst hP hy
  refine (sAlloc_any _ _ _ _ s a1 len c1 l x a2 nf c2 f W (Nat.le_refl _) (Nat.le_refl _) (I.ws h1 hl (by omega)) (I.ws h2 hf (by omega)) hlm hfm).mono ?_
  rw [hq]
  rintro e W' ⟨⟨ao, n, cap, he, hn, hN⟩, hb⟩
  exact ⟨ao, n, cap, he, hn, I.callRow hb hN⟩
theorem inv_alloc (I : Inv w0 W bx rs) {s : Int} {a1 : Option Addr} {len c1 : Nat} {l : List Wrd} {x : Wrd} {a2 : Option Addr} {nf c2 : Nat} {f : List Wrd} (h1 : (.slice a1 len c1, l) ∈ rs) (h2 : (.slice a2 nf c2, f) ∈ rs) (hl : len = l.length) (hf : nf = f.length) (hlm : len ≤ 1048576) (hfm : nf ≤ 1048576) (hcap : len ≤ c1) {q : Bool} {P : List Wrd} {y : Wrd} (hq : alB s l x f = q) (hP : alP q l x f = P) (hy : alW q l = y) :
    Calls Try.prog 21 #[vH s a1 len c1, vW x, .slice a2 nf c2] W fun e W' => ∃ ao n cap, e = .returned (.tuple #[vH s ao n cap, vW y, .bool q]) ∧ n = P.length ∧ Inv w0 W' bx ((.slice ao n cap, P) :: rs) := by
  subst hP hy
  refine (alloc_any _ _ _ _ s a1 len c1 l x a2 nf c2 f W (Nat.le_refl _) (Nat.le_refl _) (I.ws h1 hl (by omega)) (I.ws h2 hf (by omega)) hlm hfm hcap).mono ?_
  rw [hq]
  rintro e W' ⟨⟨ao, n, cap, he, hn, hN⟩, hb⟩
  exact ⟨ao, n, cap, he, hn, I.callRow hb hN⟩
end

set_option maxRecDepth 100000 in
set_option maxHeartbeats 4000000 in
theorem law_alloc (B : Nat) (s : Int) (ao : Option Addr) (len cap : Nat) (l : List Wrd) (x : Wrd) (af : Option Addr) (nf cf : Nat) (f : List Wrd) (w : World) (hB : B ≤ w.heap.size) (hs : Ws 0 B w ao len l) (hin : in64 s) (hok : ∀ x ∈ l, okW x) (hx : okW x) (hf : Ws 0 B w af nf f) (hokf : ∀ x ∈ f, okW x) :
    Calls Try.prog 5 #[vH s ao len cap, vW x, .slice af nf cf] w fun e w' => e = .returned (.bool true) ∧ Below w.heap.size w w' := by
  obtain ⟨X, hX⟩ : ∃ X, X = (w.alloc (.cells #[.int .i64 s, .slice ao len cap] 31)).alloc (.cells #[.int .i64 x.K, .int .i64 x.N] 37) := ⟨_, rfl⟩
  have hXs : X.heap.size = w.heap.size + 2 := by rw [hX]; simp
  have hXb : Below w.heap.size w X := by rw [hX]; exact ((Below.refl _ _).alloc (Nat.le_refl _) _).alloc (by simp) _
  have x0 : X.heap[w.heap.size]? = some (.cells #[.int .i64 s, .slice ao len cap] 31 (0, 0)) := by
    rw [hX, Below.heap_alloc _ _ _ (by simp)]; exact heap_new (by simp)
  have x1 : X.heap[w.heap.size + 1]? = some (.cells #[.int .i64 x.K, .int .i64 x.N] 37 (0, 0)) := by
    rw [hX]; exact heap_new (by simp)
  have HX : Hid (X = _) := hX
  have hlm := hs.2.1
  have hlf := hf.2.1
  have HL : Hid (len = l.length) := hs.1
  have HF : Hid (nf = f.length) := hf.1
  have hx0 : w.heap.size < X.heap.size := by omega
  have hx1 : w.heap.size + 1 < X.heap.size := by omega
  have HXS : Hid (X.heap.size = w.heap.size + 2) := hXs
  clear hX hXs
  by_cases hc : (len : Int) ≤ 1048576
  · by_cases hc2 : (nf : Int) ≤ 1048576 - len
    · have hcn : len ≤ 1048576 := by omega
      have hcf : nf ≤ 1048576 := by omega
      go_enter Try.func5, Try.ntmps5
      go_wp2_with fail
      rw [← HX.out]
      refine (szHeap_any _ _ _ _ _ _ hlm (by omega) (by omega)).mono ?_
      rintro e w1 ⟨rfl, hb1⟩
      rw [szN_pos hc]
      have hX1 : Below X.heap.size X w1 := hb1
      go_wp2_with fail
      refine (szWordS_any _ _ _ _ _ hlf (by omega) (by omega)).mono ?_
      rintro e w2 ⟨rfl, hb2⟩
      rw [szN_pos hc2]
      have hX2 : Below X.heap.size X w2 := hX1.trans (hb2.mono hX1.size)
      have hw2 : Below w.heap.size w w2 := hXb.trans (hX2.mono (by omega))
      have y0 := (hX2.block _ hx0).trans x0
      have y1 := (hX2.block _ hx1).trans x1
      obtain ⟨f0, f1⟩ := cells2 y0
      obtain ⟨f2, f3⟩ := cells2 y1
      clear hb1 hb2 hX1
      obtain ⟨q, hq⟩ : ∃ q, alB s l x f = q := ⟨_, rfl⟩
      obtain ⟨P, hP⟩ : ∃ P, alP q l x f = P := ⟨_, rfl⟩
      obtain ⟨y, hy⟩ : ∃ y, alW q l = y := ⟨_, rfl⟩
      have HQ : Hid (alB s l x f = q) := hq
      have HP : Hid (alP q l x f = P) := hP
      have HY : Hid (alW q l = y) := hy
      have HPL : Hid (P.length ≤ 1048577) := by have h1 := alP_le q l x f; rw [hP, ← HL.out, ← HF.out] at h1; show _ ≤ _; omega
      have HSA : Hid (∀ W, Below w2.heap.size w2 W → Ws 0 B W ao len l) := fun W hW => hs.below (hw2.trans (hW.mono hw2.size)) hB
      have HSF : Hid (∀ W, Below w2.heap.size w2 W → Ws 0 B W af nf f) := fun W hW => hf.below (hw2.trans (hW.mono hw2.size)) hB
      have hB2 : B ≤ w2.heap.size := Nat.le_trans hB hw2.size
      have hz0 : w.heap.size < w2.heap.size := Nat.lt_of_lt_of_le hx0 hX2.size
      have hz1 : w.heap.size + 1 < w2.heap.size := Nat.lt_of_lt_of_le hx1 hX2.size
      have HC : Hid (∀ W, Below w2.heap.size w2 W → W.cell? ⟨w.heap.size, 0, none⟩ = some (.int .i64 s) ∧ W.cell? ⟨w.heap.size, 1, none⟩ = some (.slice ao len cap) ∧ W.cell? ⟨w.heap.size + 1, 0, none⟩ = some (.int .i64 x.K) ∧ W.cell? ⟨w.heap.size + 1, 1, none⟩ = some (.int .i64 x.N)) := by
        intro W hW
        obtain ⟨k0, k1⟩ := cells2 ((hW.block _ hz0).trans y0)
        obtain ⟨k2, k3⟩ := cells2 ((hW.block _ hz1).trans y1)
        exact ⟨k0, k1, k2, k3⟩
      have IW : Inv w2 w2 [] [] := Inv.start w2
      clear hq hP hy y0 y1 x0 x1
      go_upto_region 8 with fail
      go_cut [8, 9, 10] from 32 to 42 (fun vA vB vC wx => ∃ hA hB a n c, vA = .pointer (some ⟨hA, 0, none⟩) ∧ vB = .pointer (some ⟨hB, 0, none⟩) ∧ vC = .bool q ∧ n = P.length ∧ Inv w2 wx [(hA, #[.int .i64 s, .slice a n c], 24), (hB, #[.int .i64 y.K, .int .i64 y.N], 39)] [(.slice a n c, P)])
      case first =>
        go_region_held3 (fun w' => w'.cell? ⟨w.heap.size, 0, none⟩ = some (.int .i64 s) ∧ w'.cell? ⟨w.heap.size, 1, none⟩ = some (.slice ao len cap) ∧ w'.cell? ⟨w.heap.size + 1, 0, none⟩ = some (.int .i64 x.K) ∧ w'.cell? ⟨w.heap.size + 1, 1, none⟩ = some (.int .i64 x.N))
          (first
            | with_reducible exact HC.out _ I6.bel
            | with_reducible exact HC.out _ (I6.alloc _ _).bel
            | with_reducible exact HC.out _ ((I6.alloc _ _).alloc _ _).bel
            | with_reducible exact HC.out _ (I6.set0 _ _).bel
            | with_reducible exact HC.out _ (I6.set1 _ _).bel
            | with_reducible exact HC.out _ ((I6.set0 _ _).set1 _ _).bel
            | with_reducible exact HC.out _ ((I6.set1 _ _).set0 _ _).bel
            | with_reducible exact HC.out _ ((I6.set0 _ _).alloc _ _).bel
            | with_reducible exact HC.out _ I5.bel
            | with_reducible exact HC.out _ (I5.alloc _ _).bel
            | with_reducible exact HC.out _ ((I5.alloc _ _).alloc _ _).bel
            | with_reducible exact HC.out _ I4.bel
            | with_reducible exact HC.out _ (I4.alloc _ _).bel
            | with_reducible exact HC.out _ ((I4.alloc _ _).alloc _ _).bel
            | with_reducible exact HC.out _ I3.bel
            | with_reducible exact HC.out _ (I3.alloc _ _).bel
            | with_reducible exact HC.out _ ((I3.alloc _ _).alloc _ _).bel
            | with_reducible exact HC.out _ IW.drew.bel
            | with_reducible exact HC.out _ (IW.alloc _ _).drew.bel
            | with_reducible exact HC.out _ ((IW.alloc _ _).alloc _ _).drew.bel)
          (first
            | (go_at_call 18; refine (inv_sAlloc (by first | exact I5 | exact I5.alloc _ _ | exact (I5.alloc _ _).alloc _ _) (by simp) (by simp) HL.out HF.out hcn hcf HQ.out HP.out HY.out).mono ?_; rintro e w6 ⟨a6, n6, c6, rfl, hn6, I6⟩; have HN6 : Hid (n6 = P.length) := hn6; clear hn6; (try simp only [World.size_alloc] at I6); (try (obtain ⟨j0, j1⟩ := I6.at List.mem_cons_self; have j2 := I6.free List.mem_cons_self; have j3 := I6.lt2 List.mem_cons_self)); (try (obtain ⟨k0, k1⟩ := I6.at (List.mem_cons_of_mem _ List.mem_cons_self); have k2 := I6.free (List.mem_cons_of_mem _ List.mem_cons_self); have k3 := I6.lt2 (List.mem_cons_of_mem _ List.mem_cons_self); have k4 := I6.ne; have k5 := k4.symm)); (try (obtain ⟨l0, l1⟩ := (I6.set1 (.int .i64 s) (.slice a6 n6 c6)).at List.mem_cons_self; have l2 := (I6.set1 (.int .i64 s) (.slice a6 n6 c6)).free List.mem_cons_self; obtain ⟨m0, m1⟩ := (I6.set0 (.int .i64 s) (.slice a6 n6 c6)).at (List.mem_cons_of_mem _ List.mem_cons_self); have m2 := (I6.set0 (.int .i64 s) (.slice a6 n6 c6)).free (List.mem_cons_of_mem _ List.mem_cons_self))))
            | (go_at_call 20; refine (inv_toWordS (by first | exact I4 | exact I4.alloc _ _ | exact (I4.alloc _ _).alloc _ _) cf hB2 HSF.out hcf).mono ?_; rintro e w5 ⟨g5, rfl, I5⟩; (try simp only [World.size_alloc] at I5))
            | (go_at_call 19; refine (inv_toWord (by first | exact I3 | exact I3.alloc _ _ | exact (I3.alloc _ _).alloc _ _) x).mono ?_; rintro e w4 ⟨rfl, I4⟩; (try simp only [World.size_alloc] at I4))
            | (go_at_call 15; refine (inv_toHeap (by first | exact IW.drew | exact (IW.alloc _ _).drew | exact ((IW.alloc _ _).alloc _ _).drew) cap hB2 HSA.out hcn).mono ?_; rintro e w3 ⟨g3, rfl, I3⟩; (try simp only [World.size_alloc] at I3)))
        all_goals
          go_wp2_with fail
          go_meet
          first
            | (have IZ := ((I6.alloc #[.int .i64 s, .slice a6 n6 c6] 24).alloc #[.int .i64 y.K, .int .i64 y.N] 39).weak (List.Perm.swap _ _ _) (List.Sublist.cons_cons _ (List.Sublist.cons _ (List.Sublist.cons _ (List.Sublist.refl _)))); simp only [World.size_alloc] at IZ; with_reducible exact ⟨_, _, a6, n6, c6, rfl, rfl, rfl, HN6.out, IZ⟩)
            | (have IZ := ((I6.alloc #[.int .i64 y.K, .int .i64 y.N] 39).alloc #[.int .i64 s, .slice a6 n6 c6] 24).weak (List.Perm.refl _) (List.Sublist.cons_cons _ (List.Sublist.cons _ (List.Sublist.cons _ (List.Sublist.refl _)))); simp only [World.size_alloc] at IZ; with_reducible exact ⟨_, _, a6, n6, c6, rfl, rfl, rfl, HN6.out, IZ⟩)
            | (have IZ := ((I6.set0 (.int .i64 s) (.slice a6 n6 c6)).alloc #[.int .i64 y.K, .int .i64 y.N] 39).weak (List.Perm.swap _ _ _) (List.Sublist.cons_cons _ (List.Sublist.cons _ (List.Sublist.cons _ (List.Sublist.refl _)))); simp only [World.size_setCell] at IZ; with_reducible exact ⟨_, _, a6, n6, c6, rfl, rfl, rfl, HN6.out, IZ⟩)
            | (have IZ := ((I6.set0 (.int .i64 y.K) (.int .i64 y.N)).alloc #[.int .i64 s, .slice a6 n6 c6] 24).weak (List.Perm.refl _) (List.Sublist.cons_cons _ (List.Sublist.cons _ (List.Sublist.cons _ (List.Sublist.refl _)))); simp only [World.size_setCell] at IZ; with_reducible exact ⟨_, _, a6, n6, c6, rfl, rfl, rfl, HN6.out, IZ⟩)
            | (have IZ := ((I6.set1 (.int .i64 s) (.slice a6 n6 c6)).set0 (.int .i64 y.K) (.int .i64 y.N)).weak (List.Perm.swap _ _ _) (List.Sublist.cons_cons _ (List.Sublist.cons _ (List.Sublist.cons _ (List.Sublist.refl _)))); with_reducible exact ⟨_, _, a6, n6, c6, rfl, rfl, rfl, HN6.out, IZ⟩)
            | (have IZ := ((I6.set0 (.int .i64 s) (.slice a6 n6 c6)).set1 (.int .i64 y.K) (.int .i64 y.N)).weak (List.Perm.refl _) (List.Sublist.cons_cons _ (List.Sublist.cons _ (List.Sublist.cons _ (List.Sublist.refl _)))); with_reducible exact ⟨_, _, a6, n6, c6, rfl, rfl, rfl, HN6.out, IZ⟩)
      case rest =>
      obtain ⟨h8, h9, a0, n0, c0, rfl, rfl, rfl, hn, I8⟩ := hcut
      obtain ⟨W8, hW8⟩ : ∃ v, v = wc := ⟨_, rfl⟩
      subst hW8
      have HN : Hid (n0 = P.length) := hn
      have hnm : n0 ≤ 1048577 := by have := HPL.out; omega
      clear hn IW
      obtain ⟨f0, f1, f2, f3⟩ := HC.out _ I8.bel
      go_wp2_with fail
      refine (inv_toHeap I8 cap hB2 HSA.out hcn).mono ?_
      rintro e w9 ⟨g9, rfl, I9⟩
      clear f0 f1 f2 f3
      have I9a := I9.alloc #[.int .i64 s, .slice (some ⟨g9, 0, none⟩) len len] 24
      go_wp2_with fail
      refine (inv_toWordS I9a cf hB2 HSF.out hcf).mono ?_
      rintro e w10 ⟨g10, rfl, I10⟩
      clear I9 I9a
      have KS : Hid (∀ (W : World) (bx : List (Nat × Array Value × TypeId)) (rs : List (Value × List Wrd)), Inv w2 W bx rs → (w9.heap.size, #[.int .i64 s, .slice (some ⟨g9, 0, none⟩) len len], 24) ∈ bx → W.cell? ⟨w9.heap.size, 0, none⟩ = some (.int .i64 s) ∧ W.cell? ⟨w9.heap.size, 1, none⟩ = some (.slice (some ⟨g9, 0, none⟩) len len) ∧ W.cell? ⟨w.heap.size + 1, 0, none⟩ = some (.int .i64 x.K) ∧ W.cell? ⟨w.heap.size + 1, 1, none⟩ = some (.int .i64 x.N)) := by
        intro W bx rs hI hm
        obtain ⟨_, _, k2, k3⟩ := HC.out _ hI.bel
        exact ⟨(hI.at hm).1, (hI.at hm).2, k2, k3⟩
      obtain ⟨f0, f1, f2, f3⟩ := KS.out _ _ _ I10 (by simp)
      go_upto_region 11 with fail
      go_cut [13, 14, 15] from 47 to 55 (fun vA vB vC wx => ∃ hA hB a n c, vA = .pointer (some ⟨hA, 0, none⟩) ∧ vB = .pointer (some ⟨hB, 0, none⟩) ∧ vC = .bool q ∧ n = P.length ∧ Inv w2 wx [(hA, #[.int .i64 s, .slice a n c], 24), (hB, #[.int .i64 y.K, .int .i64 y.N], 39), (w9.heap.size, #[.int .i64 s, .slice (some ⟨g9, 0, none⟩) len len], 24), (h8, #[.int .i64 s, .slice a0 n0 c0], 24), (h9, #[.int .i64 y.K, .int .i64 y.N], 39)] [(.slice a n c, P), (.slice (some ⟨g10, 0, none⟩) nf nf, f), (.slice (some ⟨g9, 0, none⟩) len len, l), (.slice a0 n0 c0, P)])
      case first =>
        go_region_held3 (fun w' => w'.cell? ⟨w9.heap.size, 0, none⟩ = some (.int .i64 s) ∧ w'.cell? ⟨w9.heap.size, 1, none⟩ = some (.slice (some ⟨g9, 0, none⟩) len len) ∧ w'.cell? ⟨w.heap.size + 1, 0, none⟩ = some (.int .i64 x.K) ∧ w'.cell? ⟨w.heap.size + 1, 1, none⟩ = some (.int .i64 x.N))
          (first
            | with_reducible exact KS.out _ _ _ I6 (by simp)
            | with_reducible exact KS.out _ _ _ (I6.alloc _ _) (by simp)
            | with_reducible exact KS.out _ _ _ ((I6.alloc _ _).alloc _ _) (by simp)
            | with_reducible exact KS.out _ _ _ (I6.set0 _ _) (by simp)
            | with_reducible exact KS.out _ _ _ (I6.set1 _ _) (by simp)
            | with_reducible exact KS.out _ _ _ ((I6.set0 _ _).set1 _ _) (by simp)
            | with_reducible exact KS.out _ _ _ ((I6.set1 _ _).set0 _ _) (by simp)
            | with_reducible exact KS.out _ _ _ ((I6.set0 _ _).alloc _ _) (by simp)
            | with_reducible exact KS.out _ _ _ I4 (by simp)
            | with_reducible exact KS.out _ _ _ (I4.alloc _ _) (by simp)
            | with_reducible exact KS.out _ _ _ ((I4.alloc _ _).alloc _ _) (by simp)
            | with_reducible exact KS.out _ _ _ I10.drew (by simp)
            | with_reducible exact KS.out _ _ _ (I10.alloc _ _).drew (by simp)
            | with_reducible exact KS.out _ _ _ ((I10.alloc _ _).alloc _ _).drew (by simp))
          (first
            | (go_at_call 21; refine (inv_alloc (by first | exact I4 | exact I4.alloc _ _ | exact (I4.alloc _ _).alloc _ _) (by simp) (by simp) HL.out HF.out hcn hcf (Nat.le_refl _) HQ.out HP.out HY.out).mono ?_; rintro e w6 ⟨a6, n6, c6, rfl, hn6, I6⟩; have HN6 : Hid (n6 = P.length) := hn6; clear hn6; (try simp only [World.size_alloc] at I6); (try (obtain ⟨j0, j1⟩ := I6.at List.mem_cons_self; have j2 := I6.free List.mem_cons_self; have j3 := I6.lt2 List.mem_cons_self)); (try (obtain ⟨k0, k1⟩ := I6.at (List.mem_cons_of_mem _ List.mem_cons_self); have k2 := I6.free (List.mem_cons_of_mem _ List.mem_cons_self); have k3 := I6.lt2 (List.mem_cons_of_mem _ List.mem_cons_self); have k4 := I6.ne; have k5 := k4.symm)); (try (obtain ⟨l0, l1⟩ := (I6.set1 (.int .i64 s) (.slice a6 n6 c6)).at List.mem_cons_self; have l2 := (I6.set1 (.int .i64 s) (.slice a6 n6 c6)).free List.mem_cons_self; obtain ⟨m0, m1⟩ := (I6.set0 (.int .i64 s) (.slice a6 n6 c6)).at (List.mem_cons_of_mem _ List.mem_cons_self); have m2 := (I6.set0 (.int .i64 s) (.slice a6 n6 c6)).free (List.mem_cons_of_mem _ List.mem_cons_self))))
            | (go_at_call 19; refine (inv_toWord (by first | exact I10.drew | exact (I10.alloc _ _).drew | exact ((I10.alloc _ _).alloc _ _).drew) x).mono ?_; rintro e w4 ⟨rfl, I4⟩; (try simp only [World.size_alloc] at I4)))
        all_goals
          go_wp2_with fail
          go_meet
          first
            | (have IZ := ((I6.alloc #[.int .i64 s, .slice a6 n6 c6] 24).alloc #[.int .i64 y.K, .int .i64 y.N] 39).weak (List.Perm.swap _ _ _) (List.Sublist.refl _); simp only [World.size_alloc] at IZ; with_reducible exact ⟨_, _, a6, n6, c6, rfl, rfl, rfl, HN6.out, IZ⟩)
            | (have IZ := ((I6.alloc #[.int .i64 y.K, .int .i64 y.N] 39).alloc #[.int .i64 s, .slice a6 n6 c6] 24).weak (List.Perm.refl _) (List.Sublist.refl _); simp only [World.size_alloc] at IZ; with_reducible exact ⟨_, _, a6, n6, c6, rfl, rfl, rfl, HN6.out, IZ⟩)
            | (have IZ := ((I6.set0 (.int .i64 s) (.slice a6 n6 c6)).alloc #[.int .i64 y.K, .int .i64 y.N] 39).weak (List.Perm.swap _ _ _) (List.Sublist.refl _); simp only [World.size_setCell] at IZ; with_reducible exact ⟨_, _, a6, n6, c6, rfl, rfl, rfl, HN6.out, IZ⟩)
            | (have IZ := ((I6.set0 (.int .i64 y.K) (.int .i64 y.N)).alloc #[.int .i64 s, .slice a6 n6 c6] 24).weak (List.Perm.refl _) (List.Sublist.refl _); simp only [World.size_setCell] at IZ; with_reducible exact ⟨_, _, a6, n6, c6, rfl, rfl, rfl, HN6.out, IZ⟩)
            | (have IZ := ((I6.set1 (.int .i64 s) (.slice a6 n6 c6)).set0 (.int .i64 y.K) (.int .i64 y.N)).weak (List.Perm.swap _ _ _) (List.Sublist.refl _); with_reducible exact ⟨_, _, a6, n6, c6, rfl, rfl, rfl, HN6.out, IZ⟩)
            | (have IZ := ((I6.set0 (.int .i64 s) (.slice a6 n6 c6)).set1 (.int .i64 y.K) (.int .i64 y.N)).weak (List.Perm.refl _) (List.Sublist.refl _); with_reducible exact ⟨_, _, a6, n6, c6, rfl, rfl, rfl, HN6.out, IZ⟩)
      case rest =>
      obtain ⟨hA, hB, a1, n1, c1, rfl, rfl, rfl, hn1, I11⟩ := hcut
      obtain ⟨W11, hW11⟩ : ∃ v, v = wc := ⟨_, rfl⟩
      subst hW11
      obtain rfl : n1 = n0 := hn1.trans HN.out.symm
      clear hn1 f0 f1 f2 f3 I10
      have hqq : (q != q) = false := by cases q <;> rfl
      obtain ⟨p0, p1⟩ := I11.at List.mem_cons_self
      obtain ⟨p2, p3⟩ := I11.at (List.mem_cons_of_mem _ (List.mem_cons_of_mem _ (List.mem_cons_of_mem _ List.mem_cons_self)))
      go_wp2_with fail
      refine (inv_eqHeap I11 (by simp) (by simp) HN.out (by omega)).mono ?_
      rintro e w12 ⟨rfl, I12⟩
      clear p0 p1 p2 p3 I11
      obtain ⟨p0, p1⟩ := I12.at (List.mem_cons_of_mem _ List.mem_cons_self)
      obtain ⟨p2, p3⟩ := I12.at (List.mem_cons_of_mem _ (List.mem_cons_of_mem _ (List.mem_cons_of_mem _ (List.mem_cons_of_mem _ List.mem_cons_self))))
      go_wp2_with fail
      refine (inv_eqWord I12 y).mono ?_
      rintro e w13 ⟨rfl, I13⟩
      clear p0 p1 p2 p3 I12
      have KT : Hid (∀ (W : World) (bx : List (Nat × Array Value × TypeId)) (rs : List (Value × List Wrd)), Inv w2 W bx rs → (w9.heap.size, #[.int .i64 s, .slice (some ⟨g9, 0, none⟩) len len], 24) ∈ bx → W.cell? ⟨w9.heap.size, 0, none⟩ = some (.int .i64 s) ∧ W.cell? ⟨w9.heap.size, 1, none⟩ = some (.slice (some ⟨g9, 0, none⟩) len len) ∧ W.cell? ⟨w.heap.size, 0, none⟩ = some (.int .i64 s) ∧ W.cell? ⟨w.heap.size, 1, none⟩ = some (.slice ao len cap)) := by
        intro W bx rs hI hm
        obtain ⟨k2, k3, _, _⟩ := HC.out _ hI.bel
        exact ⟨(hI.at hm).1, (hI.at hm).2, k2, k3⟩
      obtain ⟨f0, f1, f2, f3⟩ := KT.out _ _ _ I13 (by simp)
      go_wp2_with fail
      go_region_held3 (fun w' => w'.cell? ⟨w9.heap.size, 0, none⟩ = some (.int .i64 s) ∧ w'.cell? ⟨w9.heap.size, 1, none⟩ = some (.slice (some ⟨g9, 0, none⟩) len len) ∧ w'.cell? ⟨w.heap.size, 0, none⟩ = some (.int .i64 s) ∧ w'.cell? ⟨w.heap.size, 1, none⟩ = some (.slice ao len cap))
        (first | with_reducible exact KT.out _ _ _ I15 (by simp) | with_reducible exact KT.out _ _ _ I14 (by simp) | with_reducible exact KT.out _ _ _ I13.drew (by simp))
        (first
          | (go_at_call 10; refine (inv_eqHeap I14 (by simp) (by simp) HL.out (by omega)).mono ?_; rintro e w15 ⟨rfl, I15⟩)
          | (go_at_call 15; refine (inv_toHeap I13.drew cap hB2 HSA.out hcn).mono ?_; rintro e w14 ⟨g14, rfl, I14⟩))
      all_goals
        have I16 := I15.take (List.Sublist.refl _) (List.Sublist.cons _ (List.Sublist.refl _))
        clear f0 f1 f2 f3 I13 I14 I15
        go_wp2_with fail
        refine (inv_toWordS I16 cf hB2 HSF.out hcf).mono ?_
        rintro e w17 ⟨g17, rfl, I17⟩
        go_wp2_with fail
        refine (inv_eqWordS I17 (by simp) (by simp) HF.out (by omega)).mono ?_
        rintro e w18 ⟨rfl, I18⟩
        have I19 := I18.take (List.Sublist.refl _) (List.Sublist.cons _ (List.Sublist.refl _))
        clear I16 I17 I18
        obtain ⟨f0, f1⟩ := I19.at (List.mem_cons_of_mem _ (List.mem_cons_of_mem _ List.mem_cons_self))
        go_wp2_with fail
        refine (inv_markHeap (r1 := [(.slice a1 n1 c1, P), (.slice (some ⟨g10, 0, none⟩) nf nf, f)]) I19 1 HL.out (by omega) (by omega)).mono ?_
        rintro e w20 ⟨rfl, I20⟩
        clear f0 f1 I19
        go_wp2_with fail
        refine (inv_markWordS (r1 := [(.slice a1 n1 c1, P)]) I20 _ HF.out (by omega) (by omega)).mono ?_
        rintro e w21 ⟨rfl, I21⟩
        clear I20
        have I21' : Inv w2 w21 _ [(.slice a1 n1 c1, P), (.slice a0 n1 c0, P)] := I21.take (List.Sublist.refl _) (List.Sublist.cons_cons _ (List.Sublist.cons _ (List.Sublist.cons _ (List.Sublist.refl _))))
        clear I21
        obtain ⟨p0, p1⟩ := I21'.at List.mem_cons_self
        obtain ⟨p2, p3⟩ := I21'.at (List.mem_cons_of_mem _ (List.mem_cons_of_mem _ (List.mem_cons_of_mem _ List.mem_cons_self)))
        have hk : ¬ (1 : Int) + 2 * (len : Int) + 2 * (nf : Int) < 0 := by omega
        go_wp2_with fail
        refine (inv_eqHeap I21' (by simp) (by simp) HN.out (by omega)).mono ?_
        rintro e w22 ⟨rfl, I22⟩
        clear p0 p1 p2 p3 I21'
        obtain ⟨p0, p1⟩ := I22.at (List.mem_cons_of_mem _ List.mem_cons_self)
        obtain ⟨p2, p3⟩ := I22.at (List.mem_cons_of_mem _ (List.mem_cons_of_mem _ (List.mem_cons_of_mem _ (List.mem_cons_of_mem _ List.mem_cons_self))))
        go_wp2_with fail
        refine (inv_eqWord I22 y).mono ?_
        rintro e w23 ⟨rfl, I23⟩
        clear p0 p1 p2 p3 I22
        obtain ⟨p0, p1⟩ := I23.at List.mem_cons_self
        go_wp2_with fail
        refine (inv_markHeap (r1 := []) I23 1 HN.out (by omega) (by omega)).mono ?_
        rintro e w24 ⟨rfl, I24⟩
        clear p0 p1 I23
        simp only [List.nil_append] at I24
        obtain ⟨p0, p1⟩ := I24.at List.mem_cons_self
        go_wp2_with fail
        refine (inv_heldHeap I24 1 (by simp) (by omega) (by omega)).mono ?_
        rintro e w25 ⟨rfl, I25⟩
        clear p0 p1 I24
        obtain ⟨f0, f1, f2, f3⟩ := HC.out _ I25.bel
        go_upto_region 31 with fail
        go_cut [19, 20, 21] from 117 to 127 (fun vA vB vC wx => ∃ hX hY a n c, vA = .pointer (some ⟨hX, 0, none⟩) ∧ vB = .pointer (some ⟨hY, 0, none⟩) ∧ vC = .bool q ∧ n = P.length ∧ Inv w2 wx [(hX, #[.int .i64 s, .slice a n c], 24), (hY, #[.int .i64 y.K, .int .i64 y.N], 39), (hA, #[.int .i64 s, .slice a1 n1 c1], 24), (hB, #[.int .i64 y.K, .int .i64 y.N], 39), (w9.heap.size, #[.int .i64 s, .slice (some ⟨g9, 0, none⟩) len len], 24), (h8, #[.int .i64 s, .slice a0 n1 c0], 24), (h9, #[.int .i64 y.K, .int .i64 y.N], 39)] [(.slice a n c, P), (.slice a1 n1 c1, upsW 1 n1), (.slice a0 n1 c0, P)])
        case first =>
          go_region_held3 (fun w' => w'.cell? ⟨w.heap.size, 0, none⟩ = some (.int .i64 s) ∧ w'.cell? ⟨w.heap.size, 1, none⟩ = some (.slice ao len cap) ∧ w'.cell? ⟨w.heap.size + 1, 0, none⟩ = some (.int .i64 x.K) ∧ w'.cell? ⟨w.heap.size + 1, 1, none⟩ = some (.int .i64 x.N))
            (first
              | with_reducible exact HC.out _ I6.bel
              | with_reducible exact HC.out _ (I6.alloc _ _).bel
              | with_reducible exact HC.out _ ((I6.alloc _ _).alloc _ _).bel
              | with_reducible exact HC.out _ (I6.set0 _ _).bel
              | with_reducible exact HC.out _ (I6.set1 _ _).bel
              | with_reducible exact HC.out _ ((I6.set0 _ _).set1 _ _).bel
              | with_reducible exact HC.out _ ((I6.set1 _ _).set0 _ _).bel
              | with_reducible exact HC.out _ ((I6.set0 _ _).alloc _ _).bel
              | with_reducible exact HC.out _ I5.bel
              | with_reducible exact HC.out _ (I5.alloc _ _).bel
              | with_reducible exact HC.out _ ((I5.alloc _ _).alloc _ _).bel
              | with_reducible exact HC.out _ I4.bel
              | with_reducible exact HC.out _ (I4.alloc _ _).bel
              | with_reducible exact HC.out _ ((I4.alloc _ _).alloc _ _).bel
              | with_reducible exact HC.out _ I3.bel
              | with_reducible exact HC.out _ (I3.alloc _ _).bel
              | with_reducible exact HC.out _ ((I3.alloc _ _).alloc _ _).bel
              | with_reducible exact HC.out _ I25.drew.bel
              | with_reducible exact HC.out _ (I25.alloc _ _).drew.bel
              | with_reducible exact HC.out _ ((I25.alloc _ _).alloc _ _).drew.bel)
            (first
              | (go_at_call 21; refine (inv_alloc (by first | exact I5 | exact I5.alloc _ _ | exact (I5.alloc _ _).alloc _ _) (by simp) (by simp) HL.out HF.out hcn hcf (Nat.le_refl _) HQ.out HP.out HY.out).mono ?_; rintro e w6 ⟨a6, n6, c6, rfl, hn6, I6⟩; have HN6 : Hid (n6 = P.length) := hn6; clear hn6; (try simp only [World.size_alloc] at I6); (try (obtain ⟨j0, j1⟩ := I6.at List.mem_cons_self; have j2 := I6.free List.mem_cons_self; have j3 := I6.lt2 List.mem_cons_self)); (try (obtain ⟨k0, k1⟩ := I6.at (List.mem_cons_of_mem _ List.mem_cons_self); have k2 := I6.free (List.mem_cons_of_mem _ List.mem_cons_self); have k3 := I6.lt2 (List.mem_cons_of_mem _ List.mem_cons_self); have k4 := I6.ne; have k5 := k4.symm)); (try (obtain ⟨l0, l1⟩ := (I6.set1 (.int .i64 s) (.slice a6 n6 c6)).at List.mem_cons_self; have l2 := (I6.set1 (.int .i64 s) (.slice a6 n6 c6)).free List.mem_cons_self; obtain ⟨m0, m1⟩ := (I6.set0 (.int .i64 s) (.slice a6 n6 c6)).at (List.mem_cons_of_mem _ List.mem_cons_self); have m2 := (I6.set0 (.int .i64 s) (.slice a6 n6 c6)).free (List.mem_cons_of_mem _ List.mem_cons_self))))
              | (go_at_call 20; refine (inv_toWordS (by first | exact I4 | exact I4.alloc _ _ | exact (I4.alloc _ _).alloc _ _) cf hB2 HSF.out hcf).mono ?_; rintro e w5 ⟨g5, rfl, I5⟩; (try simp only [World.size_alloc] at I5))
              | (go_at_call 19; refine (inv_toWord (by first | exact I3 | exact I3.alloc _ _ | exact (I3.alloc _ _).alloc _ _) x).mono ?_; rintro e w4 ⟨rfl, I4⟩; (try simp only [World.size_alloc] at I4))
              | (go_at_call 15; refine (inv_toHeap (by first | exact I25.drew | exact (I25.alloc _ _).drew | exact ((I25.alloc _ _).alloc _ _).drew) cap hB2 HSA.out hcn).mono ?_; rintro e w3 ⟨g3, rfl, I3⟩; (try simp only [World.size_alloc] at I3)))
          all_goals
            go_wp2_with fail
            go_meet
            first
              | (have IZ := ((I6.alloc #[.int .i64 s, .slice a6 n6 c6] 24).alloc #[.int .i64 y.K, .int .i64 y.N] 39).weak (List.Perm.swap _ _ _) (List.Sublist.cons_cons _ (List.Sublist.cons _ (List.Sublist.cons _ (List.Sublist.refl _)))); simp only [World.size_alloc] at IZ; with_reducible exact ⟨_, _, a6, n6, c6, rfl, rfl, rfl, HN6.out, IZ⟩)
              | (have IZ := ((I6.alloc #[.int .i64 y.K, .int .i64 y.N] 39).alloc #[.int .i64 s, .slice a6 n6 c6] 24).weak (List.Perm.refl _) (List.Sublist.cons_cons _ (List.Sublist.cons _ (List.Sublist.cons _ (List.Sublist.refl _)))); simp only [World.size_alloc] at IZ; with_reducible exact ⟨_, _, a6, n6, c6, rfl, rfl, rfl, HN6.out, IZ⟩)
              | (have IZ := ((I6.set0 (.int .i64 s) (.slice a6 n6 c6)).alloc #[.int .i64 y.K, .int .i64 y.N] 39).weak (List.Perm.swap _ _ _) (List.Sublist.cons_cons _ (List.Sublist.cons _ (List.Sublist.cons _ (List.Sublist.refl _)))); simp only [World.size_setCell] at IZ; with_reducible exact ⟨_, _, a6, n6, c6, rfl, rfl, rfl, HN6.out, IZ⟩)
              | (have IZ := ((I6.set0 (.int .i64 y.K) (.int .i64 y.N)).alloc #[.int .i64 s, .slice a6 n6 c6] 24).weak (List.Perm.refl _) (List.Sublist.cons_cons _ (List.Sublist.cons _ (List.Sublist.cons _ (List.Sublist.refl _)))); simp only [World.size_setCell] at IZ; with_reducible exact ⟨_, _, a6, n6, c6, rfl, rfl, rfl, HN6.out, IZ⟩)
              | (have IZ := ((I6.set1 (.int .i64 s) (.slice a6 n6 c6)).set0 (.int .i64 y.K) (.int .i64 y.N)).weak (List.Perm.swap _ _ _) (List.Sublist.cons_cons _ (List.Sublist.cons _ (List.Sublist.cons _ (List.Sublist.refl _)))); with_reducible exact ⟨_, _, a6, n6, c6, rfl, rfl, rfl, HN6.out, IZ⟩)
              | (have IZ := ((I6.set0 (.int .i64 s) (.slice a6 n6 c6)).set1 (.int .i64 y.K) (.int .i64 y.N)).weak (List.Perm.refl _) (List.Sublist.cons_cons _ (List.Sublist.cons _ (List.Sublist.cons _ (List.Sublist.refl _)))); with_reducible exact ⟨_, _, a6, n6, c6, rfl, rfl, rfl, HN6.out, IZ⟩)
        case rest =>
        obtain ⟨hX, hY, a2, n2, c2, rfl, rfl, rfl, hn2, I31⟩ := hcut
        obtain ⟨W31, hW31⟩ : ∃ v, v = wc := ⟨_, rfl⟩
        subst hW31
        obtain rfl : n2 = n1 := hn2.trans HN.out.symm
        clear hn2 f0 f1 f2 f3 I25
        obtain ⟨p0, p1⟩ := I31.at List.mem_cons_self
        obtain ⟨p2, p3⟩ := I31.at (List.mem_cons_of_mem _ (List.mem_cons_of_mem _ (List.mem_cons_of_mem _ (List.mem_cons_of_mem _ (List.mem_cons_of_mem _ List.mem_cons_self)))))
        go_wp2_with fail
        refine (inv_eqHeap I31 (by simp) (by simp) HN.out (by omega)).mono ?_
        rintro e w32 ⟨rfl, I32⟩
        clear p0 p1 p2 p3 I31
        obtain ⟨p0, p1⟩ := I32.at (List.mem_cons_of_mem _ List.mem_cons_self)
        obtain ⟨p2, p3⟩ := I32.at (List.mem_cons_of_mem _ (List.mem_cons_of_mem _ (List.mem_cons_of_mem _ (List.mem_cons_of_mem _ (List.mem_cons_of_mem _ (List.mem_cons_of_mem _ List.mem_cons_self))))))
        go_wp2_with fail
        refine (inv_eqWord I32 y).mono ?_
        rintro e w33 ⟨rfl, I33⟩
        clear p0 p1 p2 p3 I32
        obtain ⟨p0, p1⟩ := I33.at (List.mem_cons_of_mem _ (List.mem_cons_of_mem _ List.mem_cons_self))
        go_wp2_with fail
        refine (inv_heldHeap I33 1 (by simp) (by omega) (by omega)).mono ?_
        rintro e w34 ⟨rfl, I34⟩
        go_wp2_with fail
        go_ret
        exact ⟨rfl, hw2.trans (I34.bel.mono hw2.size)⟩
    · go_enter Try.func5, Try.ntmps5
      go_wp2_with fail
      rw [← HX.out]
      refine (szHeap_any _ _ _ _ _ _ hlm (by omega) (by omega)).mono ?_
      rintro e w1 ⟨rfl, hb1⟩
      rw [szN_pos hc]
      have hX1 : Below X.heap.size X w1 := hb1
      go_wp2_with fail
      refine (szWordS_any _ _ _ _ _ hlf (by omega) (by omega)).mono ?_
      rintro e w2 ⟨rfl, hb2⟩
      rw [szN_neg (by omega)]
      have hX2 : Below X.heap.size X w2 := hX1.trans (hb2.mono hX1.size)
      have hw2 : Below w.heap.size w w2 := hXb.trans (hX2.mono (by omega))
      go_wp2_with fail
      go_ret
      exact ⟨rfl, hw2⟩
  · go_enter Try.func5, Try.ntmps5
    go_wp2_with fail
    rw [← HX.out]
    refine (szHeap_any _ _ _ _ _ _ hlm (by omega) (by omega)).mono ?_
    rintro e w1 ⟨rfl, hb1⟩
    rw [szN_neg (by omega)]
    have hw1 : Below w.heap.size w w1 := hXb.trans (hb1.mono (by omega))
    go_wp2_with fail
    go_ret
    exact ⟨rfl, hw1⟩

end Go.Proofs.Ytemcmckofkhjfaa
