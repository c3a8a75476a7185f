/-
  The model's 'l6Term'. (Written by mkul2.py.)
-/
import Derived.Test.YtbdpnnfhkhkecaaGreatDoorUbUl1
import Derived.Test.YtbdpnnfhkhkecaaGreatDoorUbUn2
import Derived.Test.YtbdpnnfhkhkecaaGreatDoorUbZ33
import Derived.Test.YtbdpnnfhkhkecaaGreatDoorUbZ34
import Derived.Test.YtbdpnnfhkhkecaaGreatDoorUbZ37
namespace Go.Proofs.YtbdpnnfhkhkecaaGreatDoor
open Go.RowKit
set_option linter.unusedVariables false
set_option linter.unusedSimpArgs false

theorem ownB_n (t : Tm) : (ownB t).length = ownN t.K := by
  unfold ownB ownN
  (repeat' split) <;> rfl
/-- The first k new names behind c. -/
def nmsL (c : Int) (k : Nat) : List (List UInt8) := (List.range k).map fun (i : Nat) => 97 :: Lib.itoa (c + (i : Int) + 1)
theorem nmsL_len (c : Int) (k : Nat) : (nmsL c k).length = k := by simp [nmsL]
theorem nmsL_succ (c : Int) (k : Nat) : nmsL c (k + 1) = nmsL c k ++ [97 :: Lib.itoa (c + k + 1)] := by simp [nmsL, List.range_succ]
theorem toks_lit6 {base : Nat} {w : World} {g : Nat} (hg : w.heap[g]? = some (.cells #[] 9 (0, 0))) (hb : base ≤ g) : Toks base w (.slice (some ⟨g, 0, none⟩) 0 0) [] :=
  ⟨rfl, Or.inr ⟨g, 0, #[], rfl, hb, hg, by simp, by unfold maxLen; simp, by simp, by simp⟩⟩

/-- Nothing has changed but what lies at h. -/
structure Jo (h : Nat) (w w' : World) : Prop where
  os : w'.os = w.os
  tape : w'.tape = w.tape
  output : w'.output = w.output
  size : w'.heap.size = w.heap.size
  block : ∀ k, k ≠ h → w'.heap[k]? = w.heap[k]?
theorem Jo.refl (h : Nat) (w : World) : Jo h w w := ⟨rfl, rfl, rfl, rfl, fun _ _ => rfl⟩
theorem Jo.set {h : Nat} {w w' : World} (j : Jo h w w') (o : Nat) (v : Value) : Jo h w (w'.setCell ⟨h, o, none⟩ v) := ⟨j.os, j.tape, j.output, by rw [World.size_setCell]; exact j.size, fun k hk => (row_other _ _ _ hk).trans (j.block k hk)⟩
/-- Below H nothing has changed but what lies at p and at h; at p there is c. -/
structure Nk (p h H : Nat) (w w' : World) (c : Int) : Prop where
  os : w'.os = w.os
  tape : w'.tape = w.tape
  output : w'.output = w.output
  size : w.heap.size ≤ w'.heap.size
  block : ∀ k, k < H → k ≠ p → k ≠ h → w'.heap[k]? = w.heap[k]?
  is : w'.heap[p]? = some (.cells #[.int .i64 c] 3 (0, 0))
theorem Nk.below {p h H H' : Nat} {w w' w'' : World} {c : Int} (hN : Nk p h H w w' c) (hb : Below H' w' w'') (hh : H ≤ H') (hp : p < H') : Nk p h H w w'' c :=
  ⟨hb.os.trans hN.os, hb.tape.trans hN.tape, hb.output.trans hN.output, Nat.le_trans hN.size hb.size, fun k hk h1 h2 => (hb.block k (by omega)).trans (hN.block k hk h1 h2), (hb.block p hp).trans hN.is⟩
theorem Nk.trans {p h H : Nat} {w w' w'' : World} {c c' : Int} (hN : Nk p h H w w' c) (hM : Nh p H w' w'' c') : Nk p h H w w'' c' :=
  ⟨hM.os.trans hN.os, hM.tape.trans hN.tape, hM.output.trans hN.output, Nat.le_trans hN.size hM.size, fun k hk h1 h2 => (hM.block k hk h1).trans (hN.block k hk h1 h2), hM.is⟩
theorem Nk.set {p h H : Nat} {w w' : World} {c : Int} (hN : Nk p h H w w' c) (hp : p ≠ h) (o : Nat) (v : Value) : Nk p h H w (w'.setCell ⟨h, o, none⟩ v) c :=
  ⟨hN.os, hN.tape, hN.output, by rw [World.size_setCell]; exact hN.size, fun k hk h1 h2 => (row_other _ _ _ h2).trans (hN.block k hk h1 h2), (row_other _ _ _ hp).trans hN.is⟩

theorem bind_no {k : Int} {s z s' z' : ByteArray} {i : Nat} {E : Env} (h : bindsW k (bs s) (bs z) i = []) : bindE k s z s' z' i E = E := by
  unfold bindsW at h
  unfold bindE
  by_cases c1 : k = 4 ∨ k = 7 ∨ (k = 6 ∧ i = 1) ∨ (k = 17 ∧ i = 1)
  · rw [if_pos c1] at h; simp at h
  · rw [if_neg c1] at h ⊢
    by_cases c2 : k = 14 ∧ i = 2
    · rw [if_pos c2] at h; simp at h
    · rw [if_neg c2]
/-- The pairs of a term's own names and their new ones. -/
def ownP (t : Tm) (c : Int) : Env := List.zipWith (fun x y => (ba x, ba y)) (ownB t) (nmsL c (ownN t.K))
theorem ownP_len (t : Tm) (c : Int) : (ownP t c).length = ownN t.K := by simp [ownP, nmsL_len, ownB_n]
theorem nm_ba (c : Int) : ba (97 :: Lib.itoa c) = nm c := rfl
theorem bind_own (t : Tm) (c : Int) (i : Nat) (E : Env) (h : bindsW t.K (bs t.S) (bs t.Z) i ≠ []) : (bindE t.K t.S t.Z (newS t.K t.S c) (newZ t.K t.Z c) i E).reverse = E.reverse ++ ownP t c := by
  unfold bindsW at h
  unfold bindE ownP ownB newS newZ
  by_cases c1 : t.K = 4 ∨ t.K = 7 ∨ (t.K = 6 ∧ i = 1) ∨ (t.K = 17 ∧ i = 1)
  · have c3 : t.K = 4 ∨ t.K = 6 ∨ t.K = 7 ∨ t.K = 17 := by omega
    have e : ownN t.K = 1 := by unfold ownN; rw [if_pos c3]
    rw [if_pos c1, if_pos c3, e]
    simp [nmsL, nm_ba, ba_bs]
  · rw [if_neg c1] at h ⊢
    by_cases c2 : t.K = 14 ∧ i = 2
    · have c3 : ¬ (t.K = 4 ∨ t.K = 6 ∨ t.K = 7 ∨ t.K = 17) := by omega
      have e : ownN t.K = 2 := by unfold ownN; rw [if_neg c3, if_pos c2.1]
      rw [if_pos c2, if_neg c3, if_pos c2.1, e]
      simp [nmsL, nm_ba, ba_bs, List.range_succ]
      rw [show c + 1 + 1 = c + 2 by omega]
    · rw [if_neg c2] at h; exact (h rfl).elim
theorem bindE_len (k : Int) (s z s' z' : ByteArray) (i : Nat) (E : Env) : (bindE k s z s' z' i E).length ≤ E.length + 2 := by
  unfold bindE
  (repeat' split) <;> simp

theorem set9_whole {w : World} {g : Nat} {z0 z1 z2 z3 z4 z5 z6 z7 z8 : Value} {ty : TypeId} {fr : Nat × Nat} {a0 a1 a2 a3 a4 a5 a6 a7 a8 : Value} (h : w.heap[g]? = some (.cells #[z0, z1, z2, z3, z4, z5, z6, z7, z8] ty fr)) : (set9 w g 0 a0 a1 a2 a3 a4 a5 a6 a7 a8).heap[g]? = some (.cells #[a0, a1, a2, a3, a4, a5, a6, a7, a8] ty fr) := by
  unfold set9
  have r1 : (set3 w g 0 a0 a1 a2).heap[g]? = some (.cells #[a0, a1, a2, z3, z4, z5, z6, z7, z8] ty fr) := by rw [set3_row h]; simp
  have r2 : (set3 (set3 w g 0 a0 a1 a2) g (0 + 3) a3 a4 a5).heap[g]? = some (.cells #[a0, a1, a2, a3, a4, a5, z6, z7, z8] ty fr) := by rw [set3_row r1]; simp
  rw [set3_row r2]; simp

/-- What 'l6Term' answers. -/
def SaidUl (l : Nat) : Prop := ∀ (D d L B p base0 : Nat) (t : Tm) (a1 : Option Addr) (l1 c1 : Nat) (a2 : Option Addr) (l2 c2 : Nat) (a3 : Option Addr) (l3 c3 : Nat) (m : Nat) (c : Int) (E : Env) (ve : Value) (w : World), B ≤ p → Fm L B w D d t a1 l1 a2 l2 a3 l3 → nodesM l t = some m → cntM t ≤ 1048576 → w.heap[p]? = some (.cells #[.int .i64 c] 3 (0, 0)) → 0 ≤ c → c + 2 * m ≤ 1000 → Mps base0 w ve E.reverse → p < base0 → E.length + 2 * l ≤ 500 → EnvOk E →
    Calls Tryz.prog 25 #[.agg #[.int .i64 t.K, .int .i64 t.N, .string t.S, .string t.Z, .int .i64 t.T.K, .int .i64 t.T.N, .slice a1 l1 c1, .slice a2 l2 c2, .slice a3 l3 c3], .pointer (some ⟨p, 0, none⟩), ve] w fun e w' => ∃ b1 m1 e1 b2 e2 b3 e3, e = .returned (.agg #[.int .i64 (renW l t c E).1.K, .int .i64 (renW l t c E).1.N, .string (renW l t c E).1.S, .string (renW l t c E).1.Z, .int .i64 (renW l t c E).1.T.K, .int .i64 (renW l t c E).1.T.N, .slice b1 m1 e1, .slice b2 l2 e2, .slice b3 l3 e3]) ∧ Nx p w w' (renW l t c E).2 ∧ FmO w.heap.size w'.heap.size w' (D + 1) d (renW l t c E).1 b1 m1 b2 l2 b3 l3

set_option maxRecDepth 100000 in
set_option maxHeartbeats 4000000 in
theorem ul_succ (l : Nat) (IH : SaidUl l) : SaidUl (l + 1) := by
  intro D d L B p base0 t a1 l1 c1 a2 l2 c2 a3 l3 c3 m c E ve w hBp hf hm hc hp h0 hcm hMp hpb hEl hE
  have hpw := (Array.getElem?_eq_some_iff.1 hp).1
  obtain ⟨hn, hparts⟩ := nodesM_inv hm
  obtain ⟨hl3, hl3m⟩ := hf.m.len
  have HL : Hid (l3 = t.A.length) := hl3
  have hml := allW_len _ t m hm
  have hm0 : 0 < m := by rw [← hml, allW_eq]; simp
  have hce := cntM_eq t
  unfold ownM at hce
  have hcT : cntS t.T.A ≤ 1048576 := by omega
  have hcS : cntS t.Ts ≤ 1048576 := by omega
  have hc3 : l3 ≤ 1048576 := by have := cntMS_eq t.A; omega
  have HCA : Hid (cntMS t.A ≤ 1048576) := by show _ ≤ _; omega
  have hEr : E.reverse.length = E.length := List.length_reverse
  obtain ⟨aE, cE, rfl⟩ := mps_form hMp
  obtain ⟨nE, hnE⟩ : ∃ n, E.reverse.length = n := ⟨_, rfl⟩
  have HNE : Hid (E.reverse.length = nE) := hnE
  rw [hnE] at hMp ⊢
  have hnE5 : nE ≤ 500 := by omega
  obtain ⟨X, hX⟩ : ∃ X, X = ((w.alloc (.cells #[.int .i64 t.K, .int .i64 t.N, .string t.S, .string t.Z, .int .i64 t.T.K, .int .i64 t.T.N, .slice a1 l1 c1, .slice a2 l2 c2, .slice a3 l3 c3] 34)).alloc (.cells #[.int .i64 0, .int .i64 0, .string ⟨#[]⟩, .string ⟨#[]⟩, .int .i64 0, .int .i64 0, .slice none 0 0, .slice none 0 0, .slice none 0 0] 34)) := ⟨_, rfl⟩
  have hXs : X.heap.size = w.heap.size + 2 := by rw [hX]; simp
  have hXb : Below w.heap.size w X := by rw [hX]; exact ((Below.refl _ _).alloc (Nat.le_refl _) _).alloc (by simp) _
  have hX0 : X.heap[w.heap.size]? = some (.cells #[.int .i64 t.K, .int .i64 t.N, .string t.S, .string t.Z, .int .i64 t.T.K, .int .i64 t.T.N, .slice a1 l1 c1, .slice a2 l2 c2, .slice a3 l3 c3] 34 (0, 0)) := by rw [hX, Below.heap_alloc _ _ _ (by simp)]; exact heap_new rfl
  have hX1 : X.heap[w.heap.size + 1]? = some (.cells #[.int .i64 0, .int .i64 0, .string ⟨#[]⟩, .string ⟨#[]⟩, .int .i64 0, .int .i64 0, .slice none 0 0, .slice none 0 0, .slice none 0 0] 34 (0, 0)) := by rw [hX]; exact heap_new (by simp)
  have HX : Hid (X = _) := hX
  have HXS : Hid (X.heap.size = w.heap.size + 2) := hXs
  have HXB : Hid (Below w.heap.size w X) := hXb
  have H1 : Hid (∀ y, Below X.heap.size X y → Calls Tryz.prog 56 #[.agg #[.int .i64 t.T.K, .int .i64 t.T.N, .slice a1 l1 c1]] y fun e w' => ∃ ao2 len2 cap2, e = .returned (.agg #[.int .i64 t.T.K, .int .i64 t.T.N, .slice ao2 len2 cap2]) ∧ Below y.heap.size y w' ∧ OwR y.heap.size w'.heap.size w' (D + 1) ao2 len2 t.T.A) := fun y hy => (lc_any D L B _ _ _ _ _ t.T.A y (by have := hy.size; omega) (Hs.below hy (by omega) (Hs.below hXb (by omega) hf.t1)) hcT).mono fun e w' ⟨g1, g2, g3, g4, g5, g6⟩ => ⟨g1, g2, g3, g4, g5, g6.deeper (by omega)⟩
  have H2 : Hid (∀ y, Below X.heap.size X y → Calls Tryz.prog 57 #[.slice a2 l2 c2] y fun e w' => ∃ ao2 cap2, e = .returned (.slice ao2 l2 cap2) ∧ Below y.heap.size y w' ∧ OwR y.heap.size w'.heap.size w' (D + 1) ao2 l2 t.Ts) := fun y hy => l2CopyTys_any D L B _ _ _ t.Ts y (by have := hy.size; omega) (Hs.below hy (by omega) (Hs.below hXb (by omega) hf.t2)) hcS
  have HS : Hid (∀ w', Below X.heap.size X w' → w'.cell? ⟨w.heap.size, 0, none⟩ = some (.int .i64 t.K) ∧ w'.cell? ⟨w.heap.size, 1, none⟩ = some (.int .i64 t.N) ∧ w'.cell? ⟨w.heap.size, 2, none⟩ = some (.string t.S) ∧ w'.cell? ⟨w.heap.size, 3, none⟩ = some (.string t.Z) ∧ w'.cell? ⟨w.heap.size, 4, none⟩ = some (.int .i64 t.T.K) ∧ w'.cell? ⟨w.heap.size, 5, none⟩ = some (.int .i64 t.T.N) ∧ w'.cell? ⟨w.heap.size, 6, none⟩ = some (.slice a1 l1 c1) ∧ w'.cell? ⟨w.heap.size, 7, none⟩ = some (.slice a2 l2 c2)) := fun y hy => by
    obtain ⟨g0, g1, g2, g3, g4, g5, g6, g7, g8⟩ := Nine.box ((hy.block w.heap.size (by omega)).trans hX0)
    exact ⟨g0, g1, g2, g3, g4, g5, g6, g7⟩
  have q0 : Below X.heap.size X X.drew := (Below.refl _ _).drew
  have q0a : ∀ o, Below X.heap.size X (X.alloc o).drew := fun o => ((Below.refl _ _).alloc (Nat.le_refl _) _).drew
  have hlt0 : w.heap.size < X.heap.size := by omega
  have HNe : Hid (w.heap.size ≠ X.heap.size) := by show _ ≠ _; omega
  clear hX hce hl3 hXs hXb hnE hEr
  go_enter Tryz.func25, Tryz.ntmps25
  go_upto_region 1 with fail
  rw [← HX.out]
  go_cut [7] from 14 to 28 (fun v wx => ∃ h b1 m1 e1 b2 e2 A1 M1 M2 M3, v = .pointer (some ⟨h, 0, none⟩) ∧ wx.heap[h]? = some (.cells #[.int .i64 t.K, .int .i64 t.N, .string t.S, .string t.Z, .int .i64 t.T.K, .int .i64 t.T.N, .slice b1 m1 e1, .slice b2 l2 e2, .slice none 0 0] 34 (0, 0)) ∧ Below X.heap.size X wx ∧ X.heap.size ≤ h ∧ X.heap.size ≤ A1 ∧ A1 ≤ M1 ∧ M1 ≤ M2 ∧ M2 ≤ M3 ∧ M3 ≤ wx.heap.size ∧ OwR A1 M1 wx (D + 1) b1 m1 t.T.A ∧ OwR M2 M3 wx (D + 1) b2 l2 t.Ts ∧ (h < A1 ∨ (M1 ≤ h ∧ h < M2) ∨ M3 ≤ h))
  case first =>
    go_region_held3 (fun w' => w'.cell? ⟨w.heap.size, 0, none⟩ = some (.int .i64 t.K) ∧ w'.cell? ⟨w.heap.size, 1, none⟩ = some (.int .i64 t.N) ∧ w'.cell? ⟨w.heap.size, 2, none⟩ = some (.string t.S) ∧ w'.cell? ⟨w.heap.size, 3, none⟩ = some (.string t.Z) ∧ w'.cell? ⟨w.heap.size, 4, none⟩ = some (.int .i64 t.T.K) ∧ w'.cell? ⟨w.heap.size, 5, none⟩ = some (.int .i64 t.T.N) ∧ w'.cell? ⟨w.heap.size, 6, none⟩ = some (.slice a1 l1 c1) ∧ w'.cell? ⟨w.heap.size, 7, none⟩ = some (.slice a2 l2 c2))
      (first | with_reducible exact HS.out _ (q2a _) | with_reducible exact HS.out _ q2 | with_reducible exact HS.out _ (q1a _) | with_reducible exact HS.out _ q1 | with_reducible exact HS.out _ (q0a _) | with_reducible exact HS.out _ q0 | (refine ⟨?_, ?_, ?_, ?_, ?_, ?_, ?_, ?_⟩ <;> simp [World.cell?_setCell_other, u0, u1, u2, u3, u4, u5, u6, u7, hno]))
      (first
        | (go_at_call 57; have hxo1 := xo1; refine (H2.out _ q1).mono ?_; rintro e w2 ⟨b2, e2, rfl, hb2, ho2⟩; have q2 : Below X.heap.size X w2 := q1.trans (hb2.mono q1.size); have q2a : ∀ o, Below X.heap.size X (w2.alloc o) := fun o => q2.alloc q2.size _; obtain ⟨u0, u1, u2, u3, u4, u5, u6, u7⟩ := HS.out _ q2; have xo := (hb2.block X.heap.size (Array.getElem?_eq_some_iff.1 hxo1).1).trans hxo1; obtain ⟨y0, y1, y2, y3, y4, y5, y6, y7, y8⟩ := Nine.box xo; have yf := row_free xo; have hno := HNe.out)
        | (go_at_call 57; refine (H2.out _ q1).mono ?_; rintro e w2 ⟨b2, e2, rfl, hb2, ho2⟩; have q2 : Below X.heap.size X w2 := q1.trans (hb2.mono q1.size); have q2a : ∀ o, Below X.heap.size X (w2.alloc o) := fun o => q2.alloc q2.size _; obtain ⟨u0, u1, u2, u3, u4, u5, u6, u7⟩ := HS.out _ q2)
        | (go_at_call 57; refine (H2.out _ (q1a _)).mono ?_; rintro e w2 ⟨b2, e2, rfl, hb2, ho2⟩; have q2 : Below X.heap.size X w2 := (q1a _).trans (hb2.mono (q1a _).size); have q2a : ∀ o, Below X.heap.size X (w2.alloc o) := fun o => q2.alloc q2.size _; obtain ⟨u0, u1, u2, u3, u4, u5, u6, u7⟩ := HS.out _ q2; have xo := (hb2.block w1.heap.size (by simp)).trans (heap_new rfl); obtain ⟨y0, y1, y2, y3, y4, y5, y6, y7, y8⟩ := Nine.box xo; have yf := row_free xo; have hno : w.heap.size ≠ w1.heap.size := Nat.ne_of_lt (Nat.lt_of_lt_of_le hlt0 q1.size))
        | (go_at_call 56; refine (H1.out _ q0).mono ?_; rintro e w1 ⟨b1, m1, e1, rfl, hb1, ho1⟩; have q1 : Below X.heap.size X w1 := q0.trans (hb1.mono q0.size); have q1a : ∀ o, Below X.heap.size X (w1.alloc o) := fun o => q1.alloc q1.size _)
        | (go_at_call 56; refine (H1.out _ (q0a _)).mono ?_; rintro e w1 ⟨b1, m1, e1, rfl, hb1, ho1⟩; have q1 : Below X.heap.size X w1 := (q0a _).trans (hb1.mono (q0a _).size); have q1a : ∀ o, Below X.heap.size X (w1.alloc o) := fun o => q1.alloc q1.size _; have xo1 : w1.heap[X.heap.size]? = some (.cells #[.int .i64 0, .int .i64 0, .string ⟨#[]⟩, .string ⟨#[]⟩, .int .i64 0, .int .i64 0, .slice none 0 0, .slice none 0 0, .slice none 0 0] 34 (0, 0)) := (hb1.block X.heap.size (by simp)).trans (heap_new rfl)))
    · go_wp2_with fail
      go_meet
      have hz1 : X.heap.size ≤ w1.heap.size := q1.size
      have hz2 := hb2.size
      refine ⟨w2.heap.size, b1, m1, e1, b2, e2, X.heap.size, w1.heap.size, w1.heap.size, w2.heap.size, rfl, heap_new rfl, q2a _, by omega, Nat.le_refl _, by omega, Nat.le_refl _, hz2, by simp, ?_, ?_, Or.inr (Or.inr (Nat.le_refl _))⟩
      · exact ho1.keep (fun k hk1 hk2 => (Below.heap_alloc _ _ _ (by omega)).trans (hb2.block k hk2)) (Nat.le_refl _) (Nat.le_refl _)
      · exact ho2.keep (fun k hk1 hk2 => Below.heap_alloc _ _ _ hk2) (Nat.le_refl _) (Nat.le_refl _)
    · go_wp2_with fail
      go_meet
      have hz1 : X.heap.size ≤ w1.heap.size := q1.size
      have hz2 : w1.heap.size + 1 ≤ w2.heap.size := by have := hb2.size; simpa using this
      obtain ⟨Y, hYe⟩ : ∃ Y, Y = set9 w2 w1.heap.size 0 (.int .i64 t.K) (.int .i64 t.N) (.string t.S) (.string t.Z) (.int .i64 t.T.K) (.int .i64 t.T.N) (.slice b1 m1 e1) (.slice b2 l2 e2) (.slice none 0 0) := ⟨_, rfl⟩
      have hYs : Y.heap.size = w2.heap.size := by rw [hYe]; exact set9_size _ _ _ _ _ _ _ _ _ _ _ _
      have hYo : ∀ k, k ≠ w1.heap.size → Y.heap[k]? = w2.heap[k]? := fun k hk => by rw [hYe]; exact set9_other k hk
      have hYb : Below X.heap.size X Y := by rw [hYe]; exact set9_below q2 hz1
      have hYh : Y.heap[w1.heap.size]? = some (.cells #[.int .i64 t.K, .int .i64 t.N, .string t.S, .string t.Z, .int .i64 t.T.K, .int .i64 t.T.N, .slice b1 m1 e1, .slice b2 l2 e2, .slice none 0 0] 34 (0, 0)) := by rw [hYe]; exact set9_whole xo
      have hfin : ∃ h b1' m1' e1' b2' e2' A1 M1 M2 M3, Value.pointer (some ⟨w1.heap.size, 0, none⟩) = .pointer (some ⟨h, 0, none⟩) ∧ Y.heap[h]? = some (.cells #[.int .i64 t.K, .int .i64 t.N, .string t.S, .string t.Z, .int .i64 t.T.K, .int .i64 t.T.N, .slice b1' m1' e1', .slice b2' l2 e2', .slice none 0 0] 34 (0, 0)) ∧ Below X.heap.size X Y ∧ X.heap.size ≤ h ∧ X.heap.size ≤ A1 ∧ A1 ≤ M1 ∧ M1 ≤ M2 ∧ M2 ≤ M3 ∧ M3 ≤ Y.heap.size ∧ OwR A1 M1 Y (D + 1) b1' m1' t.T.A ∧ OwR M2 M3 Y (D + 1) b2' l2 t.Ts ∧ (h < A1 ∨ (M1 ≤ h ∧ h < M2) ∨ M3 ≤ h) :=
        ⟨w1.heap.size, b1, m1, e1, b2, e2, X.heap.size, w1.heap.size, w1.heap.size + 1, w2.heap.size, rfl, hYh, hYb, hz1, Nat.le_refl _, hz1, by omega, hz2, by omega, ho1.keep (fun k hk1 hk2 => (hYo k (by omega)).trans ((hb2.block k (by simp; omega)).trans (Below.heap_alloc _ _ _ hk2))) (Nat.le_refl _) (Nat.le_refl _), ho2.keep (fun k hk1 hk2 => hYo k (by simp at hk1; omega)) (by simp) (Nat.le_refl _), Or.inr (Or.inl ⟨Nat.le_refl _, by omega⟩)⟩
      rw [hYe] at hfin
      exact hfin
    · go_wp2_with fail
      go_meet
      have hz1 : X.heap.size + 1 ≤ w1.heap.size := by have := hb1.size; simpa using this
      have hz2 := hb2.size
      obtain ⟨Y, hYe⟩ : ∃ Y, Y = set9 w2 X.heap.size 0 (.int .i64 t.K) (.int .i64 t.N) (.string t.S) (.string t.Z) (.int .i64 t.T.K) (.int .i64 t.T.N) (.slice b1 m1 e1) (.slice b2 l2 e2) (.slice none 0 0) := ⟨_, rfl⟩
      have hYs : Y.heap.size = w2.heap.size := by rw [hYe]; exact set9_size _ _ _ _ _ _ _ _ _ _ _ _
      have hYo : ∀ k, k ≠ X.heap.size → Y.heap[k]? = w2.heap[k]? := fun k hk => by rw [hYe]; exact set9_other k hk
      have hYb : Below X.heap.size X Y := by rw [hYe]; exact set9_below q2 (Nat.le_refl _)
      have hYh : Y.heap[X.heap.size]? = some (.cells #[.int .i64 t.K, .int .i64 t.N, .string t.S, .string t.Z, .int .i64 t.T.K, .int .i64 t.T.N, .slice b1 m1 e1, .slice b2 l2 e2, .slice none 0 0] 34 (0, 0)) := by rw [hYe]; exact set9_whole xo
      have hfin : ∃ h b1' m1' e1' b2' e2' A1 M1 M2 M3, Value.pointer (some ⟨X.heap.size, 0, none⟩) = .pointer (some ⟨h, 0, none⟩) ∧ Y.heap[h]? = some (.cells #[.int .i64 t.K, .int .i64 t.N, .string t.S, .string t.Z, .int .i64 t.T.K, .int .i64 t.T.N, .slice b1' m1' e1', .slice b2' l2 e2', .slice none 0 0] 34 (0, 0)) ∧ Below X.heap.size X Y ∧ X.heap.size ≤ h ∧ X.heap.size ≤ A1 ∧ A1 ≤ M1 ∧ M1 ≤ M2 ∧ M2 ≤ M3 ∧ M3 ≤ Y.heap.size ∧ OwR A1 M1 Y (D + 1) b1' m1' t.T.A ∧ OwR M2 M3 Y (D + 1) b2' l2 t.Ts ∧ (h < A1 ∨ (M1 ≤ h ∧ h < M2) ∨ M3 ≤ h) :=
        ⟨X.heap.size, b1, m1, e1, b2, e2, X.heap.size + 1, w1.heap.size, w1.heap.size, w2.heap.size, rfl, hYh, hYb, Nat.le_refl _, by omega, hz1, Nat.le_refl _, hz2, by omega, ho1.keep (fun k hk1 hk2 => (hYo k (by simp at hk1; omega)).trans (hb2.block k hk2)) (by simp) (Nat.le_refl _), ho2.keep (fun k hk1 hk2 => hYo k (by omega)) (Nat.le_refl _) (Nat.le_refl _), Or.inl (by omega)⟩
      rw [hYe] at hfin
      exact hfin
  case rest =>
    obtain ⟨h, b1, m1, e1, b2, e2, A1, M1, M2, M3, rfl, hW0, hWX, hXh, hXA, hA1, hM12, hM23, hM3, ho1, ho2, hhM⟩ := hcut
    obtain ⟨W, hWe⟩ : ∃ v, v = wc := ⟨_, rfl⟩
    subst hWe
    have hXs := HXS.out
    have hzW := hWX.size
    have hhl := (Array.getElem?_eq_some_iff.1 hW0).1
    have hbwW : Below w.heap.size w W := HXB.out.trans (hWX.mono (by omega))
    have xw0 := (hWX.block w.heap.size (by omega)).trans hX0
    have xw1 := (hWX.block (w.heap.size + 1) (by omega)).trans hX1
    have hpW : W.heap[p]? = some (.cells #[.int .i64 c] 3 (0, 0)) := (hbwW.block p hpw).trans hp
    have hMpW : Mps base0 W (.slice aE nE cE) E.reverse := mps_keep hMp (fun g hg => hbwW.block g (mps_own hMp hg).2)
    have HO : Hid (OwR A1 M1 W (D + 1) b1 m1 t.T.A ∧ OwR M2 M3 W (D + 1) b2 l2 t.Ts ∧ X.heap.size = w.heap.size + 2) := ⟨ho1, ho2, hXs⟩
    obtain ⟨f0, f1, f2, f3, f4, f5, f6, f7, f8⟩ := Nine.box xw0
    have hnI : NodeIs t := NodeIs.of hn
    have hnm := hnI.names
    clear ho1 ho2 q0 q0a
    by_cases hK : t.K = 3
    · have hA0 : t.A.length = 0 := by
        have := (nodeM_kinds hn).2.2
        rw [hK] at this
        have h2 : shP 3 = 0 := rfl
        omega
      have HRW : Hid (renW (l + 1) t c E = (⟨t.K, t.N, fnd E t.S, t.Z, t.T, t.Ts, t.A⟩, c)) := by show _ = _; simp [renW, hK]
      have hfs := fnd_size hE (s := t.S) (by omega)
      have KF := l6Find_any (base := base0) (.slice aE nE cE) E.reverse t.S W hMpW (by have := HNE.out; omega)
      rw [fndR_all] at KF
      obtain ⟨F, hF⟩ : ∃ F, fnd E t.S = F := ⟨_, rfl⟩
      rw [hF] at KF HRW hfs
      have bK : (t.K == 3) = true := by simp [hK]
      clear hF hK
      go_wp2_with fail
      refine KF.mono ?_
      rintro e W2 ⟨rfl, hWW⟩
      obtain rfl : W = W2 := hWW.symm
      clear f0 f1 f2 f3 f4 f5 f6 f7 f8
      obtain ⟨q0, q1, q2, q3, q4, q5, q6, q7, q8⟩ := Nine.box hW0
      have qf := row_free hW0
      obtain ⟨p0, p1, p2, p3, p4, p5, p6, p7, p8⟩ := Nine.box xw1
      have pf := row_free xw1
      have hne : w.heap.size + 1 ≠ h := by omega
      go_wp2_with fail
      obtain ⟨V, hV⟩ : ∃ V, V = W.setCell ⟨h, 2, none⟩ (.string F) := ⟨_, rfl⟩
      have hVs : V.heap.size = W.heap.size := by rw [hV]; simp
      have hVo : ∀ k, k ≠ h → V.heap[k]? = W.heap[k]? := fun k hk => by rw [hV]; exact row_other _ _ _ hk
      have hVb : Below w.heap.size w V := by rw [hV]; exact hbwW.setCell (p := ⟨h, 2, none⟩) (show w.heap.size ≤ h by omega) _
      obtain ⟨Y, hYe⟩ : ∃ Y, Y = set9 V (w.heap.size + 1) 0 (.int .i64 t.K) (.int .i64 t.N) (.string F) (.string t.Z) (.int .i64 t.T.K) (.int .i64 t.T.N) (.slice b1 m1 e1) (.slice b2 l2 e2) (.slice none 0 0) := ⟨_, rfl⟩
      have hYs : Y.heap.size = W.heap.size := by rw [hYe, set9_size, hVs]
      have hYo : ∀ k, k ≠ w.heap.size + 1 → Y.heap[k]? = V.heap[k]? := fun k hk => by rw [hYe]; exact set9_other k hk
      have hYb : Below w.heap.size w Y := by rw [hYe]; exact set9_below hVb (by omega)
      have hYN : Nx p w Y c := ⟨Kf.of_below hYb, by rw [hYo p (by omega), hVo p (by omega)]; exact hpW⟩
      have hfin : ∃ b1' m1' e1' b2' e2' b3' e3', Ending.returned (.agg #[.int .i64 t.K, .int .i64 t.N, .string F, .string t.Z, .int .i64 t.T.K, .int .i64 t.T.N, .slice b1 m1 e1, .slice b2 l2 e2, .slice none 0 0]) = .returned (.agg #[.int .i64 t.K, .int .i64 t.N, .string F, .string t.Z, .int .i64 t.T.K, .int .i64 t.T.N, .slice b1' m1' e1', .slice b2' l2 e2', .slice b3' l3 e3']) ∧ Nx p w Y c ∧ FmO w.heap.size Y.heap.size Y (D + 1) d ⟨t.K, t.N, F, t.Z, t.T, t.Ts, t.A⟩ b1' m1' b2' l2 b3' l3 := by
        obtain ⟨o1, o2, _⟩ := HO.out
        have hl0 : l3 = 0 := by have := HL.out; omega
        have hA : t.A = [] := List.length_eq_zero_iff.1 hA0
        subst hl0
        refine ⟨b1, m1, e1, b2, e2, none, 0, rfl, hYN, FmO.mk (L := w.heap.size) (M1 := M2) (M2 := M3) (by show F.size ≤ _; omega) hf.z ?_ ?_ (by rw [hA]; exact OwMR.nil _ _ _ _ _ _) (by omega) (by omega) (by omega)⟩
        · exact o1.keep (fun k hk1 hk2 => by rw [hYo k (by omega), hVo k (by omega)]) (by omega) (by omega)
        · exact o2.keep (fun k hk1 hk2 => by rw [hYo k (by omega), hVo k (by omega)]) (Nat.le_refl _) (Nat.le_refl _)
      rw [hYe, hV] at hfin
      refine bodyPost_ret (v := .agg #[.int .i64 t.K, .int .i64 t.N, .string F, .string t.Z, .int .i64 t.T.K, .int .i64 t.T.N, .slice b1 m1 e1, .slice b2 l2 e2, .slice none 0 0]) (by simp [results, Tryz.results25, go_sem, p0, p1, p2, p3, p4, p5, p6, p7, p8, q0, q1, q2, q3, q4, q5, q6, q7, q8]) rfl ?_
      rw [HRW.out]
      exact hfin
    · have bK : (t.K == 3) = false := by simp [hK]
      have hnames := names_3 hn hK
      have HRW : Hid (renW (l + 1) t c E = (⟨t.K, t.N, newS t.K t.S c, newZ t.K t.Z c, t.T, t.Ts, (renA (renW l) t c E t.A.length).1⟩, (renA (renW l) t c E t.A.length).2)) := by show _ = _; simp [renW, hK]
      have hs' : (newS t.K t.S c).size ≤ 22 := by
        unfold newS
        split
        · exact nm_size _ (by omega) (by omega)
        · omega
      have hz' : (newZ t.K t.Z c).size ≤ 22 := by
        unfold newZ
        split
        · exact nm_size _ (by omega) (by omega)
        · omega
      obtain ⟨S', hS'⟩ : ∃ S', newS t.K t.S c = S' := ⟨_, rfl⟩
      obtain ⟨Z', hZ'⟩ : ∃ Z', newZ t.K t.Z c = Z' := ⟨_, rfl⟩
      have HSZ : Hid (newS t.K t.S c = S' ∧ newZ t.K t.Z c = Z') := ⟨hS', hZ'⟩
      rw [hS'] at hs'
      rw [hZ'] at hz'
      have hle2 := ownN_le t.K
      obtain ⟨nO, hnO⟩ : ∃ nO, ownN t.K = nO := ⟨_, rfl⟩
      have HNO : Hid (ownN t.K = nO ∧ (ownB t).length = nO) := ⟨hnO, by rw [← hnO]; exact ownB_n t⟩
      rw [hnO] at hle2
      clear hK hS' hZ' hnames hnO
      go_wp2_with fail
      refine (l6Own_any t _ _ _ _ _ _ _ _ _ (ownB t) rfl W).mono ?_
      rintro e w3 ⟨gO, rfl, hb3, hgO, hrO⟩
      rw [HNO.out.2]
      have hz3 := hb3.size
      have hgl := (Array.getElem?_eq_some_iff.1 hrO).1
      have hp3 := (hb3.block p (by omega)).trans hpW
      obtain ⟨V0, hV0⟩ : ∃ V0, V0 = w3.alloc (.cells #[] 9) := ⟨_, rfl⟩
      have hV0b : Below w3.heap.size w3 V0 := by rw [hV0]; exact (Below.refl _ _).alloc (Nat.le_refl _) _
      have hV0n : V0.heap[w3.heap.size]? = some (.cells #[] 9 (0, 0)) := by rw [hV0]; exact heap_new rfl
      have HV0 : Hid (V0 = _) := hV0
      clear f0 f1 f2 f3 f4 f5 f6 f7 f8 hV0
      go_wp2_with fail
      rw [← HV0.out]
      go_loopw [9, 10] (fun v i wr => ∃ (k : Nat) (an : Option Addr) (cn : Nat), k ≤ nO ∧ i = .int .i64 k ∧ v = .slice an k cn ∧ Toks w3.heap.size wr (.slice an k cn) (nmsL c k) ∧ Nh p w3.heap.size w3 wr (c + k)) (fun _ i _ => nO - (intOf i).toNat)
      case atStart => exact ⟨0, _, _, by omega, rfl, rfl, toks_lit6 hV0n (Nat.le_refl _), by simpa using Nh.of_below hV0b (by omega) hp3⟩
      case round =>
        obtain ⟨k, an, cn, hk, rfl, rfl, hTn, hNn⟩ := hrel
        obtain ⟨vr, hvr⟩ : ∃ v, v = wr := ⟨_, rfl⟩
        subst hvr
        have hznn := hNn.size
        by_cases hkn : k < nO
        · have r0 := cell_1 hNn.is
          have r1 := row_free hNn.is 0
          have hpv := (Array.getElem?_eq_some_iff.1 hNn.is).1
          have hw1 : IntKind.i64.wrap (c + k + 1) = c + k + 1 := by rw [IntKind.wrap_i64]; omega
          obtain ⟨V1, hV1⟩ : ∃ V1, V1 = vr.setCell ⟨p, 0, none⟩ (.int .i64 (c + k + 1)) := ⟨_, rfl⟩
          have hV1p : V1.heap[p]? = some (.cells #[.int .i64 (c + k + 1)] 3 (0, 0)) := by rw [hV1, row_set hNn.is]; rfl
          have hV1o : ∀ i, i ≠ p → V1.heap[i]? = vr.heap[i]? := fun i hi => by rw [hV1]; exact row_other _ _ _ hi
          have hV1s : V1.heap.size = vr.heap.size := by rw [hV1]; simp
          have hV1N : Nh p w3.heap.size w3 V1 (c + k + 1) := ⟨by rw [hV1]; exact hNn.os, by rw [hV1]; exact hNn.tape, by rw [hV1]; exact hNn.output, by omega, fun i hi hne => (hV1o i hne).trans (hNn.block i hi hne), hV1p⟩
          have hT1 : Toks w3.heap.size V1 (.slice an k cn) (nmsL c k) := toks_keep hTn (fun g hg => hV1o g (by have := (toks_own hTn hg).1; omega))
          have r2 := cell_1 hV1p
          have KI := li_any (c + k + 1) (by omega) (by omega) V1
          have hil := Lib.itoa_length_le (c + k + 1) (by omega) (by omega)
          have HNM : Hid (nmsL c (k + 1) = nmsL c k ++ [97 :: Lib.itoa (c + k + 1)] ∧ (nmsL c k).length = k) := ⟨nmsL_succ c k, nmsL_len c k⟩
          obtain ⟨T, hT⟩ : ∃ T, Lib.itoa (c + k + 1) = T := ⟨_, rfl⟩
          rw [hT] at KI hil HNM
          have HV1 : Hid (V1 = _) := hV1
          have hkx : (k : Int) < (nO : Int) := by omega
          clear hT hV1
          go_wp2_with fail
          rw [← HV1.out]
          refine KI.mono ?_
          rintro e w5 ⟨rfl, hb5⟩
          have hz5 := hb5.size
          obtain ⟨g, cap, w6, hrun, hT6, hb6⟩ := toks_push (toks_keep hT1 (fun g hg => hb5.block g (toks_own hT1 hg).2)) (by omega) (by have := HNM.out.2; omega) (97 :: T)
          rw [HNM.out.2, ← HNM.out.1] at hT6
          have HR : Hid ((Builtin.append_ #[51, 51] 51 #[.slice an k cn, .slice (some ⟨w5.heap.size, 0, none⟩) 1 1]).run Tryz.prog (w5.alloc (.cells #[.string ((⟨#[97]⟩ : ByteArray) ++ ⟨T.toArray⟩)] 9)) = .ok (.slice (some ⟨g, 0, none⟩) (k + 1) cap) w6) := by
            show _ = _
            rw [app97]
            rw [HNM.out.2] at hrun
            exact hrun
          have hN6 : Nh p w3.heap.size w3 w6 (c + (k + 1 : Nat)) := by
            have g1 : Nh p w3.heap.size w3 w5 (c + k + 1) := hV1N.below hb5 (by omega) (by omega)
            have g2 := g1.below hb6 (Nat.le_refl _) (by omega)
            rw [show c + ((k + 1 : Nat) : Int) = c + k + 1 by omega]
            exact g2
          clear hrun r0 r1 r2
          go_wp2_with (at_builtin; refine list_run HR.out (by rfl) _ _ (by rfl) (by rfl) (by rfl) (by rfl) ?_)
          go_roundw
          case rel => exact ⟨k + 1, _, _, by omega, by go_num, rfl, hT6, hN6⟩
          case measure => simp [intOf]; omega
        · obtain rfl : k = nO := by omega
          have hh3 : h < w3.heap.size := by omega
          have hVh : vr.heap[h]? = _ := (hNn.block h hh3 (by omega)).trans ((hb3.block h hhl).trans hW0)
          have hVv : ∀ i, i < W.heap.size → i ≠ p → vr.heap[i]? = W.heap[i]? := fun i hi hne => (hNn.block i (by omega) hne).trans (hb3.block i hi)
          have hrOv : vr.heap[gO]? = _ := (hNn.block gO hgl (by omega)).trans hrO
          have HT : Hid (Toks w3.heap.size vr (.slice an k cn) (nmsL c k)) := hTn
          have H1 : Hid ((k = 0 ∧ S' = t.S) ∨ (0 < k ∧ S' = nm (c + 1) ∧ ∃ gn, an = some ⟨gn, 0, none⟩ ∧ vr.cell? ⟨gn, 0, none⟩ = some (.string (nm (c + 1))))) := by
            have e := HNO.out.1
            rcases Nat.eq_zero_or_pos k with h0 | h0
            · left
              exact ⟨h0, by rw [← HSZ.out.1]; simp [newS, e, h0]⟩
            · right
              refine ⟨h0, by rw [← HSZ.out.1]; unfold newS; rw [e, if_pos (by omega)], ?_⟩
              obtain ⟨gn, cp, e1, _, _, e2⟩ := toks_at hTn 0 (by rw [nmsL_len]; exact h0)
              injection e1 with e1 _ _
              refine ⟨gn, e1, ?_⟩
              rw [e2]
              simp [nmsL, tk, nm]
          have H2 : Hid ((k ≤ 1 ∧ Z' = t.Z) ∨ (1 < k ∧ Z' = nm (c + 2) ∧ ∃ gn, an = some ⟨gn, 0, none⟩ ∧ gn ≠ h ∧ vr.cell? ⟨gn, 1, none⟩ = some (.string (nm (c + 2))))) := by
            have e := HNO.out.1
            by_cases h0 : k ≤ 1
            · left
              exact ⟨h0, by rw [← HSZ.out.2]; unfold newZ; rw [e, if_neg (by omega)]⟩
            · right
              refine ⟨by omega, by rw [← HSZ.out.2]; unfold newZ; rw [e, if_pos (by omega)], ?_⟩
              obtain ⟨gn, cp, e1, e3, _, e2⟩ := toks_at hTn 1 (by rw [nmsL_len]; omega)
              injection e1 with e1 _ _
              refine ⟨gn, e1, by omega, ?_⟩
              rw [show (1 : Nat) = 0 + 1 by rfl, e2]
              simp [nmsL, tk, nm]
              rw [show c + 1 + 1 = c + 2 by omega]
          clear hTn
          go_upto_if 63 with fail
          go_cut [63] from 61 to 74 (fun _ wx => wx.heap[h]? = some (.cells #[.int .i64 t.K, .int .i64 t.N, .string S', .string t.Z, .int .i64 t.T.K, .int .i64 t.T.N, .slice b1 m1 e1, .slice b2 l2 e2, .slice none 0 0] 34 (0, 0)) ∧ Jo h vr wx)
          case first =>
            have g2 := row_cell hVh 2
            have gf := row_free hVh
            rcases H1.out with ⟨e, eS⟩ | ⟨e, eS, gn, rfl, z0⟩
            · have HS : Hid (S' = t.S) := eS
              have e2 : decide (0 < k) = false := by simp; omega
              have e3 : decide ((0 : Int) < (k : Int)) = false := by simp; omega
              clear eS e
              first | rw [e2] | rw [e3]
              clear e2 e3
              go_wp2_with fail
              go_meet
              exact ⟨by rw [HS.out]; exact hVh, Jo.refl _ _⟩
            · have HS : Hid (S' = nm (c + 1)) := eS
              have e2 : decide (0 < k) = true := by simp; omega
              have e3 : decide ((0 : Int) < (k : Int)) = true := by simp; omega
              have hk0 : (0 : Int) < (k : Int) := by omega
              clear eS
              first | rw [e2] | rw [e3]
              clear e2 e3
              go_wp2_with fail
              go_meet
              exact ⟨by rw [row_set hVh, HS.out]; rfl, (Jo.refl _ _).set _ _⟩
          case rest =>
          obtain ⟨hU1, hJ1⟩ := hcut
          obtain ⟨U1, hU1e⟩ : ∃ v, v = wc := ⟨_, rfl⟩
          subst hU1e
          go_upto_if 70 with fail
          go_cut [70] from 61 to 74 (fun _ wx => wx.heap[h]? = some (.cells #[.int .i64 t.K, .int .i64 t.N, .string S', .string Z', .int .i64 t.T.K, .int .i64 t.T.N, .slice b1 m1 e1, .slice b2 l2 e2, .slice none 0 0] 34 (0, 0)) ∧ Jo h vr wx)
          case first =>
            have g3 := row_cell hU1 3
            have gf := row_free hU1
            rcases H2.out with ⟨e, eS⟩ | ⟨e, eS, gn, rfl, hgh, z0⟩
            · have HS : Hid (Z' = t.Z) := eS
              have e2 : decide (1 < k) = false := by simp; omega
              have e3 : decide ((1 : Int) < (k : Int)) = false := by simp; omega
              clear eS e
              first | rw [e2] | rw [e3]
              clear e2 e3
              go_wp2_with fail
              go_meet
              exact ⟨by rw [HS.out]; exact hU1, hJ1⟩
            · have HS : Hid (Z' = nm (c + 2)) := eS
              have z1 : U1.cell? ⟨gn, 1, none⟩ = some (.string (nm (c + 2))) := (World.cell?_of_block (hJ1.block gn hgh)).trans z0
              have e2 : decide (1 < k) = true := by simp; omega
              have e3 : decide ((1 : Int) < (k : Int)) = true := by simp; omega
              have hk0 : (1 : Int) < (k : Int) := by omega
              clear eS z0
              first | rw [e2] | rw [e3]
              clear e2 e3
              go_wp2_with fail
              go_meet
              exact ⟨by rw [row_set hU1, HS.out]; rfl, hJ1.set _ _⟩
          case rest =>
          obtain ⟨hU0, hJU⟩ := hcut
          obtain ⟨U, hUe⟩ : ∃ v, v = wc := ⟨_, rfl⟩
          subst hUe
          have hzU := hJU.size
          obtain ⟨H, hH⟩ : ∃ H, H = U.heap.size := ⟨_, rfl⟩
          have hhH : h < H := by omega
          have hpH : p < H := by omega
          have hpU : U.heap[p]? = some (.cells #[.int .i64 (c + k)] 3 (0, 0)) := (hJU.block p (by omega)).trans hNn.is
          have hUW : ∀ i, i < W.heap.size → i ≠ p → i ≠ h → U.heap[i]? = W.heap[i]? := fun i hi h1 h2 => (hJU.block i h2).trans (hVv i hi h1)
          have hUw : ∀ i, i < w.heap.size → i ≠ p → U.heap[i]? = w.heap[i]? := fun i hi h1 => (hUW i (by omega) h1 (by omega)).trans (hbwW.block i hi)
          have xu0 : U.heap[w.heap.size]? = _ := (hUW w.heap.size (by omega) (by omega) (by omega)).trans xw0
          have xu1 : U.heap[w.heap.size + 1]? = _ := (hUW (w.heap.size + 1) (by omega) (by omega) (by omega)).trans xw1
          have hrOU : U.heap[gO]? = _ := (hJU.block gO (by omega)).trans hrOv
          have hTU : Toks w3.heap.size U (.slice an k cn) (nmsL c k) := toks_keep HT.out (fun g hg => hJU.block g (by have := (toks_own HT.out hg).1; omega))
          have hMpU : Mps base0 U (.slice aE nE cE) E.reverse := mps_keep hMp (fun g hg => by have g1 := mps_own hMp hg; exact hUw g g1.2 (by omega))
          have hwU : U.os = w.os ∧ U.tape = w.tape ∧ U.output = w.output := ⟨(hJU.os.trans hNn.os).trans (hb3.os.trans hbwW.os), (hJU.tape.trans hNn.tape).trans (hb3.tape.trans hbwW.tape), (hJU.output.trans hNn.output).trans (hb3.output.trans hbwW.output)⟩
          have hNU0 : Nk p h H U U (c + k) := ⟨rfl, rfl, rfl, Nat.le_refl _, fun _ _ _ _ => rfl, hpU⟩
          have HUW : Hid (∀ i, i < W.heap.size → i ≠ p → i ≠ h → U.heap[i]? = W.heap[i]?) := hUW
          have HUw : Hid (∀ i, i < w.heap.size → i ≠ p → U.heap[i]? = w.heap[i]?) := hUw
          have HMU : Hid (Mps base0 U (.slice aE nE cE) E.reverse ∧ Toks w3.heap.size U (.slice an k cn) (nmsL c k) ∧ U.heap[gO]? = some (.cells ((ownB t).map tk).toArray 9 (0, 0))) := ⟨hMpU, hTU, hrOU⟩
          have HH : Hid (H = U.heap.size) := hH
          have HZ : Hid (W.heap.size ≤ w3.heap.size ∧ w3.heap.size ≤ H ∧ gO < w3.heap.size ∧ W.heap.size ≤ gO ∧ h < W.heap.size) := ⟨hz3, by omega, hgl, hgO, hhl⟩
          obtain ⟨RA, hRA⟩ : ∃ RA, (renA (renW l) t c E t.A.length).1 = RA := ⟨_, rfl⟩
          obtain ⟨CC, hCC⟩ : ∃ CC : Nat → Int, (fun j => (renA (renW l) t c E j).2) = CC := ⟨_, rfl⟩
          have HRA : Hid ((renA (renW l) t c E t.A.length).1 = RA ∧ RA.length = t.A.length) := ⟨hRA, by rw [← hRA]; exact renP_len _ _ _ _ _ (Nat.le_refl _)⟩
          have HC0 : Hid (CC 0 = c + k) := by show _ = _; rw [← hCC, ← HNO.out.1]; rfl
          have HCE : Hid ((renA (renW l) t c E t.A.length).2 = CC t.A.length) := by show _ = _; rw [← hCC]
          have HSTEP : Hid (∀ j (hj : j < t.A.length), ∃ R, RA[j]? = some R ∧ renW l t.A[j] (CC j) (bindE t.K t.S t.Z S' Z' j E) = (R, CC (j + 1)) ∧ 0 ≤ CC j ∧ ∃ a, nodesM l t.A[j] = some a ∧ CC j + 2 * a ≤ 1000) := fun j hj => by
            obtain ⟨a, ha⟩ := hparts j hj
            have hg := renP_get (renW l) (fun i => bindE t.K t.S t.Z (newS t.K t.S c) (newZ t.K t.Z c) i E) t.A (c + ownN t.K) j hj t.A.length hj (Nat.le_refl _)
            have hs2 := renP_succ (renW l) (fun i => bindE t.K t.S t.Z (newS t.K t.S c) (newZ t.K t.Z c) i E) t.A (c + ownN t.K) j hj
            rw [HSZ.out.1, HSZ.out.2] at hg hs2
            have e1 : CC j = (renP (renW l) (fun i => bindE t.K t.S t.Z S' Z' i E) t.A (c + ownN t.K) j).2 := by rw [← hCC, ← HSZ.out.1, ← HSZ.out.2]; rfl
            have e2 : CC (j + 1) = (renP (renW l) (fun i => bindE t.K t.S t.Z S' Z' i E) t.A (c + ownN t.K) (j + 1)).2 := by rw [← hCC, ← HSZ.out.1, ← HSZ.out.2]; rfl
            have e3 : RA = (renP (renW l) (fun i => bindE t.K t.S t.Z S' Z' i E) t.A (c + ownN t.K) t.A.length).1 := by rw [← hRA, ← HSZ.out.1, ← HSZ.out.2]; rfl
            have hbd := renA_cnt l t c E j (by omega)
            have hb2 := preW_len hm j hj ha
            have e4 : (renA (renW l) t c E j).2 = CC j := by rw [← hCC]
            have e5 := ownN_le t.K
            rw [e4] at hbd
            refine ⟨(renW l t.A[j] (CC j) (bindE t.K t.S t.Z S' Z' j E)).1, ?_, ?_, by omega, a, ha, by omega⟩
            · rw [e3, hg, e1]
            · rw [e2, hs2, e1]
          have HBO : Hid (∀ j, bindsW t.K (bs t.S) (bs t.Z) j ≠ [] → (bindE t.K t.S t.Z S' Z' j E).reverse = E.reverse ++ ownP t c) := fun j hj => by have g := bind_own t c j E hj; rw [HSZ.out.1, HSZ.out.2] at g; exact g
          have hApU : ApRelM H U (D + 1) (d - 1) (.slice none 0 0) 0 RA := apm_nil _ _ _ _ _
          clear hRA hCC hVh hVv hrOv H1 H2 hU1 hJ1 hMpU hTU hrOU hUW hUw hNn hznn hV0b hV0n hp3 hrO hb3 hMpW hpW xw0 xw1 hW0 hH hpU HT
          go_wp2_with fail
          go_loopw [11] (fun i wr => ∃ (j : Nat) (aj : Option Addr) (cj : Nat), j ≤ l3 ∧ i = .int .i64 j ∧ wr.heap[h]? = some (.cells #[.int .i64 t.K, .int .i64 t.N, .string S', .string Z', .int .i64 t.T.K, .int .i64 t.T.N, .slice b1 m1 e1, .slice b2 l2 e2, .slice aj j cj] 34 (0, 0)) ∧ ApRelM H wr (D + 1) (d - 1) (.slice aj j cj) j RA ∧ Nk p h H U wr (CC j)) (fun i _ => l3 - (intOf i).toNat)
          case atStart => exact ⟨0, none, 0, by omega, rfl, hU0, hApU, by rw [HC0.out]; exact hNU0⟩
          case round =>
            obtain ⟨j, aj, cj, hj, rfl, hrow, hap, hNr⟩ := hrel
            obtain ⟨ur, hur⟩ : ∃ v, v = wr := ⟨_, rfl⟩
            subst hur
            have hhr := (Array.getElem?_eq_some_iff.1 hrow).1
            have hzr := hNr.size
            have hHH := HH.out
            obtain ⟨zz1, zz2, zz3, zz4, zz5⟩ := HZ.out
            have xr0 := (hNr.block w.heap.size (by omega) (by omega) (by omega)).trans xu0
            have hltb : w.heap.size < ur.heap.size := by omega
            obtain ⟨f0, f1, f2, f3, f4, f5, f6, f7, f8⟩ := Nine.box xr0
            by_cases hlt : j < l3
            · have hlt' : j < t.A.length := by have := HL.out; omega
              obtain ⟨RJ, hRJ, hstep, hcj0, a, ha, hca⟩ := HSTEP.out j hlt'
              have hRl : j < RA.length := by rw [HRA.out.2]; exact hlt'
              have hRJ2 : RA[j] = RJ := by rw [List.getElem?_eq_getElem hRl] at hRJ; exact Option.some.inj hRJ
              have hur : ∀ i, i < w.heap.size → i ≠ p → ur.heap[i]? = w.heap[i]? := fun i hi hne => (hNr.block i (by omega) hne (by omega)).trans (HUw.out i hi hne)
              have HL2 : Hid (∀ y, Calls Tryz.prog 55 #[.agg #[.int .i64 t.K, .int .i64 t.N, .string t.S, .string t.Z, .int .i64 t.T.K, .int .i64 t.T.N, .slice a1 l1 c1, .slice a2 l2 c2, .slice a3 l3 c3], .int .i64 j] y fun e w' => LitE y w' e (bindsW t.K (bs t.S) (bs t.Z) j)) := fun y => l2Binds_any t a1 l1 c1 a2 l2 c2 a3 l3 c3 j (by have := nodeM_len hn; omega) y
              obtain ⟨b, o, rfl, _, hbB, q1, n1, k1, q2, n2, k2, q3, n3, k3, h9, hf1⟩ := hf.m.get j hlt'
              obtain ⟨Q0, hQ0⟩ : ∃ Q0, Q0 = ur.alloc (.cells #[] 93) := ⟨_, rfl⟩
              have hQ0b : Below ur.heap.size ur Q0 := by rw [hQ0]; exact (Below.refl _ _).alloc (Nat.le_refl _) _
              have hQ0s : Q0.heap.size = ur.heap.size + 1 := by rw [hQ0]; simp
              have hQ0n : Q0.heap[ur.heap.size]? = some (.cells #[] 93 (0, 0)) := by rw [hQ0]; exact heap_new rfl
              have hMr : Mps base0 ur (.slice aE nE cE) E.reverse := mps_keep HMU.out.1 (fun g hg => by have g1 := mps_own hMp hg; exact hNr.block g (by omega) (by omega) (by omega))
              have hMQ0 : Mps base0 Q0 (.slice aE E.reverse.length cE) E.reverse := by rw [HNE.out]; exact mps_keep hMr (fun g hg => hQ0b.block g (mps_own hMr hg).2)
              obtain ⟨vi, w5, hrun, hM5, hb5⟩ := mps_copy hQ0n (Nat.le_refl ur.heap.size) (show ur.heap.size ≤ Q0.heap.size by omega) hMQ0 (by have := HNE.out; omega)
              obtain ⟨ai, ci, rfl⟩ := mps_form hM5
              rw [HNE.out] at hrun hM5
              have hz5 := hb5.size
              have HR5 : Hid (_ = _) := hrun
              rw [hQ0] at HR5
              have x50 := (hb5.block w.heap.size (by omega)).trans ((hQ0b.block w.heap.size (by omega)).trans xr0)
              obtain ⟨g0, g1, g2, g3, g4, g5, g6, g7, g8⟩ := Nine.box x50
              have HB5 : Hid (Below ur.heap.size ur w5) := hQ0b.trans hb5
              have HM5 : Hid (Mps ur.heap.size w5 (.slice ai nE ci) E.reverse) := hM5
              have hix : (j : Int) < (l3 : Int) := by omega
              clear hrun hQ0 hQ0b hQ0s hQ0n hMr hMQ0 hb5 hM5 hNU0 hApU
              go_wp2_with (at_builtin; refine list_run HR5.out (by rfl) _ _ (by rfl) (by rfl) (by rfl) (by rfl) ?_)
              clear f0 f1 f2 f3 f4 f5 f6 f7 f8
              refine (HL2.out w5).mono ?_
              rintro e w6 ⟨gB, rfl, hb6, hgB, hrB⟩
              clear g0 g1 g2 g3 g4 g5 g6 g7 g8
              have hz6 := hb6.size
              obtain ⟨nb, hnb⟩ : ∃ nb, (bindsW t.K (bs t.S) (bs t.Z) j).length = nb := ⟨_, rfl⟩
              have HNB : Hid ((bindsW t.K (bs t.S) (bs t.Z) j).length = nb) := hnb
              rw [hnb]
              have HB6 : Hid (Below ur.heap.size ur w6) := HB5.out.trans (hb6.mono HB5.out.size)
              have HM6 : Hid (Mps ur.heap.size w6 (.slice ai nE ci) E.reverse) := mps_bel HM5.out hb6
              clear hnb hrB hb6
              go_upto_if 89 with fail
              go_cut [12] from 82 to 107 (fun v wx => ∃ ai' ni' ci', v = .slice ai' ni' ci' ∧ Mps ur.heap.size wx (.slice ai' ni' ci') (bindE t.K t.S t.Z S' Z' j E).reverse ∧ Below ur.heap.size w6 wx)
              case first =>
                by_cases hb0 : nb = 0
                · have HBE : Hid (bindE t.K t.S t.Z S' Z' j E = E) := bind_no (List.length_eq_zero_iff.1 (by rw [HNB.out]; exact hb0))
                  have e2 : decide (0 < nb) = false := by simp; omega
                  have e3 : decide ((0 : Int) < (nb : Int)) = false := by simp; omega
                  clear hb0
                  first | rw [e2] | rw [e3]
                  clear e2 e3
                  go_wp2_with fail
                  go_meet
                  exact ⟨ai, nE, ci, rfl, by rw [HBE.out]; exact HM6.out, Below.refl _ _⟩
                · have HBE : Hid ((bindE t.K t.S t.Z S' Z' j E).reverse = E.reverse ++ ownP t c) := HBO.out j (fun e => hb0 (by rw [← HNB.out, e]; rfl))
                  have e2 : decide (0 < nb) = true := by simp; omega
                  have e3 : decide ((0 : Int) < (nb : Int)) = true := by simp; omega
                  have hOl := ownP_len t c
                  rw [HNO.out.1] at hOl
                  have HOL : Hid ((ownP t c).length = k) := hOl
                  have HCL : Hid (∀ y, Below ur.heap.size w6 y → ∀ i, i < k → ∃ gn A1 A2, an = some ⟨gn, 0, none⟩ ∧ y.cell? ⟨gO, i, none⟩ = some (.string A1) ∧ y.cell? ⟨gn, i, none⟩ = some (.string A2) ∧ (ownP t c).take (i + 1) = (ownP t c).take i ++ [(A1, A2)]) := fun y hy i hi => by
                    have hby : Below ur.heap.size ur y := HB6.out.trans hy
                    have hgu : y.heap[gO]? = _ := (hby.block gO (by omega)).trans ((hNr.block gO (by omega) (by omega) (by omega)).trans HMU.out.2.2)
                    have hTy : Toks w3.heap.size y (.slice an k cn) (nmsL c k) := toks_keep HMU.out.2.1 (fun g hg => by
                      have g1 := toks_own HMU.out.2.1 hg
                      exact (hby.block g (by omega)).trans (hNr.block g (by omega) (by omega) (by omega)))
                    obtain ⟨gn, cp, e1, _, _, e2⟩ := toks_at hTy i (by rw [nmsL_len]; exact hi)
                    injection e1 with e1 _ _
                    have li1 : i < (ownB t).length := by rw [HNO.out.2]; exact hi
                    have li2 : i < (nmsL c k).length := by rw [nmsL_len]; exact hi
                    refine ⟨gn, ba (ownB t)[i], ba (nmsL c k)[i], e1, ?_, ?_, ?_⟩
                    · rw [row_cell hgu i]
                      simp [li1, tk, ba]
                    · rw [Nat.zero_add] at e2
                      rw [e2]
                      rfl
                    · have li3 : i < (ownP t c).length := by rw [HOL.out]; exact hi
                      rw [List.take_succ_eq_append_getElem li3]
                      congr 1
                      unfold ownP
                      simp only [List.getElem_zipWith, HNO.out.1]
                  clear hb0 hOl
                  first | rw [e2] | rw [e3]
                  clear e2 e3
                  go_wp2_with fail
                  go_loopw [12, 13] (fun v kk wq => ∃ (i : Nat) (ai' : Option Addr) (ci' : Nat), i ≤ k ∧ kk = .int .i64 i ∧ v = .slice ai' (nE + i) ci' ∧ Mps ur.heap.size wq (.slice ai' (nE + i) ci') (E.reverse ++ (ownP t c).take i) ∧ Below ur.heap.size w6 wq) (fun _ kk _ => k - (intOf kk).toNat)
                  case atStart => exact ⟨0, ai, ci, by omega, rfl, rfl, by simpa using HM6.out, Below.refl _ _⟩
                  case round =>
                    obtain ⟨i, ai', ci', hi, rfl, rfl, hMi, hbi⟩ := hrel
                    have hzi := hbi.size
                    by_cases hik : i < k
                    · obtain ⟨gn, A1, A2, rfl, zc1, zc2, htk⟩ := HCL.out wr hbi i hik
                      have hFl : (E.reverse ++ (ownP t c).take i).length = nE + i := by
                        rw [List.length_append, HNE.out, List.length_take, HOL.out]; omega
                      have hz6u := HB6.out.size
                      obtain ⟨g, cap, w7, hrun, hM7, hb7⟩ := mps_push (w := wr.drew) (mps_keep hMi (fun g hg => rfl)) (show ur.heap.size ≤ wr.heap.size by omega) (by omega) A1 A2
                      rw [hFl, List.append_assoc, ← htk] at hM7
                      rw [hFl] at hrun
                      have HR7 : Hid ((Builtin.append_ #[55, 55] 55 #[.slice ai' (nE + i) ci', .slice (some ⟨wr.heap.size, 0, none⟩) 1 1]).run Tryz.prog (wr.alloc (.cells #[.string A1, .string A2] 93)).drew = .ok (.slice (some ⟨g, 0, none⟩) (nE + i + 1) cap) w7) := hrun
                      have hbn : Below ur.heap.size w6 w7 := (hbi.drew).trans hb7
                      have hii : (i : Int) < (k : Int) := by omega
                      clear hrun hFl htk hMi
                      go_wp2_with fail
                      go_region_law (first | (refine step_run HR7.out (by rfl) _ _ (by rfl) (by rfl) (by rfl) (by rfl) ?_))
                      all_goals
                        go_wp2_with fail
                        go_roundw
                        case rel => exact ⟨i + 1, _, _, by omega, by go_num, rfl, hM7, hbn⟩
                        case measure => simp [intOf]; omega
                    · have hie : i = k := by omega
                      subst hie
                      have HTK : Hid ((ownP t c).take i = ownP t c) := List.take_of_length_le (by rw [HOL.out]; exact Nat.le_refl _)
                      go_wp2_with fail
                      go_meet
                      exact ⟨ai', nE + i, ci', rfl, by rw [HBE.out, ← HTK.out]; exact hMi, hbi⟩
              case rest =>
              obtain ⟨ai', ni', ci', rfl, hMQ, hbQ⟩ := hcut
              obtain ⟨Q, hQe⟩ : ∃ v, v = wc := ⟨_, rfl⟩
              subst hQe
              have hbuQ : Below ur.heap.size ur Q := HB6.out.trans hbQ
              have hzQ := hbuQ.size
              have hQh : Q.heap[h]? = _ := (hbuQ.block h hhr).trans hrow
              have hQ0 : Q.heap[w.heap.size]? = _ := (hbuQ.block w.heap.size hltb).trans xr0
              have hNQ : Nk p h H U Q (CC j) := hNr.below hbuQ (by omega) (by omega)
              have hNQd : Nk p h H U Q.drew (CC j) := hNQ.below ((Below.refl Q.heap.size Q).drew) (by omega) (by omega)
              have hapQ : ApRelM H Q.drew (D + 1) (d - 1) (.slice aj j cj) j RA := apm_below hap hbuQ.drew
              have hQw : ∀ i, i < B → Q.heap[i]? = w.heap[i]? := fun i hi => (hbuQ.block i (by omega)).trans (hur i (by omega) (by omega))
              have hfQ : Fm L B Q.drew D (d - 1) t.A[j] q1 n1 q2 n2 q3 n3 := Fm.drew (Fm.keep (fun i _ hi => hQw i hi) (Nat.le_refl _) (Nat.le_refl _) hf1)
              have hcj : cntM t.A[j] ≤ 1048576 := by have := cntMS_get t.A j hlt'; have := HCA.out; omega
              have hbl := bindE_len t.K t.S t.Z S' Z' j E
              have IHj := IH D (d - 1) L B p ur.heap.size t.A[j] q1 n1 k1 q2 n2 k2 q3 n3 k3 a (CC j) (bindE t.K t.S t.Z S' Z' j E) (.slice ai' ni' ci') Q.drew hBp hfQ ha hcj hNQd.is hcj0 hca (mps_keep hMQ (fun _ _ => rfl)) (by omega) (by omega) (bindE_ok hE hs' hz')
              rw [hstep] at IHj
              dsimp only at IHj
              have APR : Hid (∀ (w2 : World) (r1 : Option Addr) (s1 u1 : Nat) (r2 : Option Addr) (s2 u2 : Nat) (r3 : Option Addr) (s3 u3 : Nat), Nx p Q.drew w2 (CC (j + 1)) → FmO Q.drew.heap.size w2.heap.size w2 (D + 1) (d - 1) RJ r1 s1 r2 s2 r3 s3 →
                  ∃ g cp w3, (Builtin.append_ #[32, 32] 32 #[.slice aj j cj, .slice (some ⟨w2.heap.size, 0, none⟩) 1 1]).run Tryz.prog (w2.alloc (.cells #[.int .i64 RJ.K, .int .i64 RJ.N, .string RJ.S, .string RJ.Z, .int .i64 RJ.T.K, .int .i64 RJ.T.N, .slice r1 s1 u1, .slice r2 s2 u2, .slice r3 s3 u3] 34)) = .ok (.slice (some ⟨g, 0, none⟩) (j + 1) cp) w3 ∧
                    w3.cell? ⟨h, 8, none⟩ = some (.slice aj j cj) ∧ w3.frozen? ⟨h, 8, none⟩ = false ∧
                    (w3.setCell ⟨h, 8, none⟩ (.slice (some ⟨g, 0, none⟩) (j + 1) cp)).heap[h]? = some (.cells #[.int .i64 t.K, .int .i64 t.N, .string S', .string Z', .int .i64 t.T.K, .int .i64 t.T.N, .slice b1 m1 e1, .slice b2 l2 e2, .slice (some ⟨g, 0, none⟩) (j + 1) cp] 34 (0, 0)) ∧
                    ApRelM H (w3.setCell ⟨h, 8, none⟩ (.slice (some ⟨g, 0, none⟩) (j + 1) cp)) (D + 1) (d - 1) (.slice (some ⟨g, 0, none⟩) (j + 1) cp) (j + 1) RA ∧ Nk p h H U (w3.setCell ⟨h, 8, none⟩ (.slice (some ⟨g, 0, none⟩) (j + 1) cp)) (CC (j + 1))) := by
                intro w2 r1 s1 u1 r2 s2 u2 r3 s3 u3 hN2 ho2
                obtain ⟨g, cp, w3', hrun, hap3, hN3⟩ := apm_run2 (c1 := u1) (c2 := u2) (c3 := u3) hapQ hRl (by omega) hNQd.is hpH hN2 (show H ≤ Q.heap.size by omega) (by rw [hRJ2]; exact ho2)
                rw [hRJ2] at hrun
                have hq : w3'.heap[h]? = _ := (hN3.block h hhH (by omega)).trans hQh
                refine ⟨g, cp, w3', hrun, row_cell hq 8, row_free hq 8, ?_, apm_set hap3 hhH _, (hNQd.trans hN3).set (by omega) _ _⟩
                rw [row_set hq]
                rfl
              have y8 : Q.cell? ⟨h, 8, none⟩ = some (.slice aj j cj) := row_cell hQh 8
              obtain ⟨g0, g1, g2, g3, g4, g5, g6, g7, g8⟩ := Nine.box hQ0
              obtain ⟨e0, e1', e2', e3, e4, e5, e6, e7, e8⟩ := h9.world (hQw b hbB)
              have hhP : h < Q.heap.size := by omega
              have hph2 : h ≠ p := by omega
              clear hQh hQ0 hNQ hNQd hapQ hfQ hMQ hbQ hrow hap hNr hstep hRJ hRJ2 hf1 h9 hbuQ hbl hRl hca ha hcj
              go_wp2_with fail
              go_region_law (first | (refine step_run hrun (by rfl) _ _ (by rfl) (by rfl) (by rfl) (by rfl) ?_) | (go_simp; go_at_call 25; refine IHj.mono ?_; rintro e w2 ⟨r1, s1, u1, r2, u2, r3, u3, rfl, hN2, ho2⟩; have hz2 : h < w2.heap.size := Nat.lt_of_lt_of_le hhP hN2.kf.size; have v8 : w2.cell? ⟨h, 8, none⟩ = some (.slice aj j cj) := (World.cell?_of_block (hN2.kf.block h hhP hph2)).trans y8; have v9 : (w2.alloc (.cells #[.int .i64 RJ.K, .int .i64 RJ.N, .string RJ.S, .string RJ.Z, .int .i64 RJ.T.K, .int .i64 RJ.T.N, .slice r1 s1 u1, .slice r2 n2 u2, .slice r3 n3 u3] 34)).cell? ⟨h, 8, none⟩ = some (.slice aj j cj) := (World.cell?_of_block (Below.heap_alloc _ _ _ hz2)).trans v8; obtain ⟨g, cp, w3', hrun, hc8, hf8, hrow3, hap3, hbr3⟩ := APR.out w2 r1 s1 u1 r2 n2 u2 r3 n3 u3 hN2 ho2))
              all_goals
                clear g0 g1 g2 g3 g4 g5 g6 g7 g8 y8 v8 v9 hrun hc8 hf8 e0 e1' e2' e3 e4 e5 e6 e7 e8
                go_wp2_with fail
                go_roundw
                case rel => exact ⟨j + 1, _, _, by omega, by go_num, hrow3, hap3, hbr3⟩
                case measure => simp [intOf]; omega
            · have HJ : Hid (j = l3) := by show _ = _; omega
              have xr := (hNr.block (w.heap.size + 1) (by omega) (by omega) (by omega)).trans xu1
              obtain ⟨p0, p1, p2, p3, p4, p5, p6, p7, p8⟩ := Nine.box xr
              have pf := row_free xr
              obtain ⟨q0, q1, q2, q3, q4, q5, q6, q7, q8⟩ := Nine.box hrow
              go_wp2_with fail
              obtain ⟨Y, hYe⟩ : ∃ Y, Y = set9 ur (w.heap.size + 1) 0 (.int .i64 t.K) (.int .i64 t.N) (.string S') (.string Z') (.int .i64 t.T.K) (.int .i64 t.T.N) (.slice b1 m1 e1) (.slice b2 l2 e2) (.slice aj j cj) := ⟨_, rfl⟩
              have hYs : Y.heap.size = ur.heap.size := by rw [hYe]; exact set9_size _ _ _ _ _ _ _ _ _ _ _ _
              have hYo : ∀ i, i ≠ w.heap.size + 1 → Y.heap[i]? = ur.heap[i]? := fun i hi => by rw [hYe]; exact set9_other i hi
              have hYb : Below w.heap.size ur Y := by rw [hYe]; exact set9_below (Below.refl _ _) (by omega)
              have hrb : Nh p w.heap.size w ur (CC j) := ⟨hNr.os.trans hwU.1, hNr.tape.trans hwU.2.1, hNr.output.trans hwU.2.2, by omega, fun i hi hne => (hNr.block i (by omega) hne (by omega)).trans (HUw.out i hi hne), hNr.is⟩
              have hYN : Nx p w Y (CC j) := (hrb.below hYb (Nat.le_refl _) hpw).nx
              have hfin : ∃ b1' m1' e1' b2' e2' b3' e3', Ending.returned (.agg #[.int .i64 t.K, .int .i64 t.N, .string S', .string Z', .int .i64 t.T.K, .int .i64 t.T.N, .slice b1 m1 e1, .slice b2 l2 e2, .slice aj j cj]) = .returned (.agg #[.int .i64 t.K, .int .i64 t.N, .string S', .string Z', .int .i64 t.T.K, .int .i64 t.T.N, .slice b1' m1' e1', .slice b2' l2 e2', .slice b3' l3 e3']) ∧ Nx p w Y (CC t.A.length) ∧ FmO w.heap.size Y.heap.size Y (D + 1) d ⟨t.K, t.N, S', Z', t.T, t.Ts, RA⟩ b1' m1' b2' l2 b3' l3 := by
                have hjl := HJ.out
                subst hjl
                obtain ⟨o1, o2, _⟩ := HO.out
                have hjt : j = t.A.length := HL.out
                obtain ⟨a', c', ev, hoA⟩ := apm_whole2 hap (by rw [HRA.out.2]; exact hjt) (by omega) (fun h0 => by have := pos_d hf.m (j := 0) (by omega); omega)
                injection ev with ev1 _ ev3
                subst ev1
                subst ev3
                refine ⟨b1, m1, e1, b2, e2, aj, cj, rfl, by rw [← hjt]; exact hYN, FmO.mk (L := w.heap.size) (M1 := M2) (M2 := H) (by show S'.size ≤ _; omega) (by show Z'.size ≤ _; omega) ?_ ?_ ?_ (by omega) (by omega) (by omega)⟩
                · exact o1.keep (fun i hk1 hk2 => (hYo i (by omega)).trans ((hNr.block i (by omega) (by omega) (by omega)).trans (HUW.out i (by omega) (by omega) (by omega)))) (by omega) (by omega)
                · exact o2.keep (fun i hk1 hk2 => (hYo i (by omega)).trans ((hNr.block i (by omega) (by omega) (by omega)).trans (HUW.out i (by omega) (by omega) (by omega)))) (Nat.le_refl _) (by omega)
                · exact hoA.keep (fun i hk1 hk2 => hYo i (by omega)) (by omega) (by omega)
              rw [hYe] at hfin
              refine bodyPost_ret (v := .agg #[.int .i64 t.K, .int .i64 t.N, .string S', .string Z', .int .i64 t.T.K, .int .i64 t.T.N, .slice b1 m1 e1, .slice b2 l2 e2, .slice aj j cj]) (by simp [results, Tryz.results25, go_sem, p0, p1, p2, p3, p4, p5, p6, p7, p8]) rfl ?_
              rw [HRW.out, HSZ.out.1, HSZ.out.2, HRA.out.1, HCE.out]
              exact hfin


end Go.Proofs.YtbdpnnfhkhkecaaGreatDoor
