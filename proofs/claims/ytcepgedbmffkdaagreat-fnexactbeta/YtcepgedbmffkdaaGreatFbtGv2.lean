/-
  The program's 'givenBy', whatever the form: what is given a name, its memory among the term's own.
-/
import Derived.Test.YtcepgedbmffkdaaGreatFbtGv
import Derived.Test.YtcepgedbmffkdaaGreatFbtZ3
import Derived.Test.YtcepgedbmffkdaaGreatFbtZ7
namespace Go.Proofs.YtcepgedbmffkdaaGreat
open Go.RowKit
set_option linter.unusedVariables false
set_option linter.unusedSimpArgs false

theorem fval_tag (nd k n : Int) (s z : ByteArray) (tk tn : Int) (v1 v2 p0 p1 p2 : Value) : ∃ τ u, fval nd k n s z tk tn v1 v2 p0 p1 p2 = .iface τ u ∧ (k ≠ 4 → τ ≠ 110) ∧ (k ≠ 5 → τ ≠ 112) ∧ (k ≠ 6 → τ ≠ 114) := by
  unfold fval
  by_cases h1 : k = 1
  · rw [if_pos h1]; exact ⟨_, _, rfl, fun _ => by decide, fun _ => by decide, fun _ => by decide⟩
  rw [if_neg h1]
  by_cases h2 : k = 2
  · rw [if_pos h2]; exact ⟨_, _, rfl, fun _ => by decide, fun _ => by decide, fun _ => by decide⟩
  rw [if_neg h2]
  by_cases h3 : k = 3
  · rw [if_pos h3]; exact ⟨_, _, rfl, fun _ => by decide, fun _ => by decide, fun _ => by decide⟩
  rw [if_neg h3]
  by_cases h4 : k = 4
  · rw [if_pos h4]; exact ⟨_, _, rfl, fun h => absurd h4 h, fun _ => by decide, fun _ => by decide⟩
  rw [if_neg h4]
  by_cases h5 : k = 5
  · rw [if_pos h5]; exact ⟨_, _, rfl, fun _ => by decide, fun h => absurd h5 h, fun _ => by decide⟩
  rw [if_neg h5]
  by_cases h6 : k = 6
  · rw [if_pos h6]; exact ⟨_, _, rfl, fun _ => by decide, fun _ => by decide, fun h => absurd h6 h⟩
  rw [if_neg h6]
  by_cases h7 : k = 7
  · rw [if_pos h7]; exact ⟨_, _, rfl, fun _ => by decide, fun _ => by decide, fun _ => by decide⟩
  rw [if_neg h7]
  by_cases h8 : k = 8
  · rw [if_pos h8]; exact ⟨_, _, rfl, fun _ => by decide, fun _ => by decide, fun _ => by decide⟩
  rw [if_neg h8]
  by_cases h9 : k = 9
  · rw [if_pos h9]; exact ⟨_, _, rfl, fun _ => by decide, fun _ => by decide, fun _ => by decide⟩
  rw [if_neg h9]
  by_cases h10 : k = 10
  · rw [if_pos h10]; exact ⟨_, _, rfl, fun _ => by decide, fun _ => by decide, fun _ => by decide⟩
  rw [if_neg h10]
  by_cases h11 : k = 11
  · rw [if_pos h11]; exact ⟨_, _, rfl, fun _ => by decide, fun _ => by decide, fun _ => by decide⟩
  rw [if_neg h11]
  by_cases h12 : k = 12
  · rw [if_pos h12]; exact ⟨_, _, rfl, fun _ => by decide, fun _ => by decide, fun _ => by decide⟩
  rw [if_neg h12]
  by_cases h13 : k = 13
  · rw [if_pos h13]; exact ⟨_, _, rfl, fun _ => by decide, fun _ => by decide, fun _ => by decide⟩
  rw [if_neg h13]
  by_cases h14 : k = 14
  · rw [if_pos h14]; exact ⟨_, _, rfl, fun _ => by decide, fun _ => by decide, fun _ => by decide⟩
  rw [if_neg h14]
  by_cases h15 : k = 15
  · rw [if_pos h15]; exact ⟨_, _, rfl, fun _ => by decide, fun _ => by decide, fun _ => by decide⟩
  rw [if_neg h15]
  by_cases h16 : k = 16
  · rw [if_pos h16]; exact ⟨_, _, rfl, fun _ => by decide, fun _ => by decide, fun _ => by decide⟩
  rw [if_neg h16]
  exact ⟨_, _, rfl, fun _ => by decide, fun _ => by decide, fun _ => by decide⟩

theorem paGetB {t : Tm} {i : Nat} (hi : i < t.A.length) : pa t i = t.A[i] := by unfold pa; rw [List.getElem?_eq_getElem hi]; rfl
theorem FldO.parts {w : World} {D d : Nat} {t : Tm} {a1 a2 a3 : Option Addr} {l1 l2 l3 : Nat} {bs : List Nat} (h : FldO w D (OwM w D d) t a1 l1 a2 l2 a3 l3 bs) (hA : 0 < t.A.length) :
    ∃ (g : Nat) (cs : Array Value) (p12 : List Nat) (bss : List (List Nat)) (d1 : Nat), d = d1 + 1 ∧ a3 = some ⟨g, 0, none⟩ ∧ l3 = t.A.length ∧ w.heap[g]? = some (.cells cs 34 (0, 0)) ∧ bss.length = t.A.length ∧ bs = p12 ++ g :: bss.flatten ∧
      ∀ i (_ : i < t.A.length) (_ : i < bss.length), ∃ b1 m1 e1 b2 m2 e2 b3 m3 e3, Nine w g (i * 9) t.A[i].K t.A[i].N t.A[i].S t.A[i].Z t.A[i].T.K t.A[i].T.N (.slice b1 m1 e1) (.slice b2 m2 e2) (.slice b3 m3 e3) ∧ FldO w D (OwM w D d1) t.A[i] b1 m1 b2 m2 b3 m3 bss[i] := by
  obtain ⟨p1, p2, p3, rfl, h1, h2, h3, h4, h5⟩ := h
  cases d with
  | zero => obtain ⟨_, h6, _⟩ := h5; rw [h6] at hA; simp at hA
  | succ d1 =>
    rcases h5 with ⟨_, h6, _⟩ | ⟨g, cs, bss, rfl, hl, hm, hg, hc, hbl, rfl, hE⟩
    · rw [h6] at hA; simp at hA
    · exact ⟨g, cs, p1 ++ p2, bss, d1, rfl, rfl, hl, hg, hbl, rfl, hE⟩

/-- How it ends. -/
def GivE (w w' : World) (D : Nat) (t : Tm) (bs : List Nat) (e : Ending) : Prop :=
  Below w.heap.size w w' ∧ ∃ (GC : Array Value), GC.size = 19 ∧
    ((givM t = none ∧ e = .returned (.tuple #[.agg GC, .bool false]) ∧ GC = #[.string ⟨#[]⟩, .int .i64 0, .int .i64 0, .string ⟨#[]⟩, .string ⟨#[]⟩, .int .i64 0, .int .i64 0, .slice none 0 0, .slice none 0 0, .slice none 0 0, .int .i64 0, .int .i64 0, .string ⟨#[]⟩, .string ⟨#[]⟩, .int .i64 0, .int .i64 0, .slice none 0 0, .slice none 0 0, .slice none 0 0]) ∨
     (∃ (s : ByteArray) (x y : Tm) (b1 : Option Addr) (m1 e1 : Nat) (b2 : Option Addr) (m2 e2 : Nat) (b3 : Option Addr) (m3 e3 : Nat) (d1 : Option Addr) (n1 f1 : Nat) (d2 : Option Addr) (n2 f2 : Nat) (d3 : Option Addr) (n3 f3 : Nat) (d' : Nat) (bx bY : List Nat), givM t = some (s, x, y) ∧ e = .returned (.tuple #[.agg GC, .bool true]) ∧ GC = #[.string s, .int .i64 x.K, .int .i64 x.N, .string x.S, .string x.Z, .int .i64 x.T.K, .int .i64 x.T.N, .slice b1 m1 e1, .slice b2 m2 e2, .slice b3 m3 e3, .int .i64 y.K, .int .i64 y.N, .string y.S, .string y.Z, .int .i64 y.T.K, .int .i64 y.T.N, .slice d1 n1 f1, .slice d2 n2 f2, .slice d3 n3 f3] ∧
        FldO w D (OwM w D d') x b1 m1 b2 m2 b3 m3 bx ∧ FldO w D (OwM w D d') y d1 n1 d2 n2 d3 n3 bY ∧ bx.Nodup ∧ bY.Nodup ∧ (∀ k ∈ bx, k ∉ bY) ∧ (∀ k ∈ bx, k ∈ bs) ∧ (∀ k ∈ bY, k ∈ bs)))

theorem FldO.deeperd {w : World} {D d d' : Nat} {t : Tm} {a1 a2 a3 : Option Addr} {l1 l2 l3 : Nat} {bs : List Nat} (h : FldO w D (OwM w D d) t a1 l1 a2 l2 a3 l3 bs) (hd : d ≤ d') : FldO w D (OwM w D d') t a1 l1 a2 l2 a3 l3 bs :=
  h.map (fun _ _ _ _ _ hr => hr) (fun _ _ _ _ _ hr => hr.deepP hd)

set_option maxRecDepth 100000 in
set_option maxHeartbeats 4000000 in
theorem gv_any (l : Nat) (L B D0 : Nat) (w0 : World) (t : Tm) (vf : Value) (hv : Fv L B w0 D0 (l + 1) t vf) (m : Nat) (hm : nodesM (l + 1) t = some m) (w : World) (D d : Nat) (a1 : Option Addr) (l1 c1 : Nat) (a2 : Option Addr) (l2 c2 : Nat) (a3 : Option Addr) (l3 c3 : Nat) (bs : List Nat)
    (hf : FldO w D (OwM w D d) t a1 l1 a2 l2 a3 l3 bs) (hnd : bs.Nodup) (hin : ∀ k ∈ bs, k < w.heap.size) :
    Calls Tryz.prog 74 #[.agg #[.int .i64 t.K, .int .i64 t.N, .string t.S, .string t.Z, .int .i64 t.T.K, .int .i64 t.T.N, .slice a1 l1 c1, .slice a2 l2 c2, .slice a3 l3 c3], vf] w fun e w' => GivE w w' D t bs e := by
  obtain ⟨nd, v1, k1, j1, v2, k2, j2, p, _, _, hp, rfl⟩ := hv
  obtain ⟨hn, hparts⟩ := nodesM_get hm
  obtain ⟨hk1, hk2, hsh⟩ := nodeM_kinds hn
  by_cases h6 : t.K = 6
  · have hl : t.A.length = 2 := by have h := hsh; rw [h6] at h; have h2 : shP 6 = 2 := rfl; omega
    obtain ⟨g, cs, p12, bss, d1, rfl, rfl, hl3, hg, hbl, rfl, hE⟩ := hf.parts (by omega)
    obtain rfl : l3 = 2 := by omega
    obtain ⟨b1, m1, e1, b2, m2, e2, b3, m3, e3, hx9, hxf⟩ := hE 0 (by omega) (by omega)
    obtain ⟨d1', n1, f1, d2, n2, f2, d3, n3, f3, hy9, hyf⟩ := hE 1 (by omega) (by omega)
    have hgiv : givM t = some (t.S, t.A[0], t.A[1]) := by unfold givM; rw [if_pos h6, paGetB (by omega), paGetB (by omega)]
    obtain ⟨hn12, hng, hdis⟩ := List.nodup_append.1 hnd
    obtain ⟨hgf, hnf⟩ := List.nodup_cons.1 hng
    have hN0 : (bss[0]'(by omega)).Nodup := (List.pairwise_flatten.1 hnf).1 _ (List.getElem_mem _)
    have hN1 : (bss[1]'(by omega)).Nodup := (List.pairwise_flatten.1 hnf).1 _ (List.getElem_mem _)
    have hNa : ∀ k ∈ (bss[0]'(by omega)), k ∉ (bss[1]'(by omega)) := fun k h1 h2 => part_apart hnf (by omega) (by omega) (by decide) h1 h2
    have hs0 : ∀ k ∈ (bss[0]'(by omega)), k ∈ p12 ++ g :: bss.flatten := fun k hk => by simp only [List.mem_append, List.mem_cons]; exact Or.inr (Or.inr (mem_part (by omega) hk))
    have hs1 : ∀ k ∈ (bss[1]'(by omega)), k ∈ p12 ++ g :: bss.flatten := fun k hk => by simp only [List.mem_append, List.mem_cons]; exact Or.inr (Or.inr (mem_part (by omega) hk))
    obtain ⟨τ0, u0, e0⟩ := (hp 0 (by omega)).iface
    obtain ⟨τ1, u1, e1'⟩ := (hp 1 (by omega)).iface
    have hfv : fval nd t.K t.N t.S t.Z t.T.K t.T.N (.slice v1 k1 j1) (.slice v2 k2 j2) (p 0) (p 1) (p 2) = .iface 114 (.agg #[.string t.S, .int .i64 t.N, .iface τ0 u0, .iface τ1 u1]) := by
      rw [h6, e0, e1']; rfl
    rw [hfv]
    refine (givenBy_let t a1 l1 c1 a2 l2 c2 c3 t.A[0] b1 m1 e1 b2 m2 e2 b3 m3 e3 t.A[1] d1' n1 f1 d2 n2 f2 d3 n3 f3 t.S t.N τ0 τ1 u0 u1 g w (hin g (by simp)) hx9 hy9).mono ?_
    rintro e w' ⟨rfl, hb⟩
    refine ⟨hb, _, by rfl, Or.inr ⟨t.S, t.A[0], t.A[1], b1, m1, e1, b2, m2, e2, b3, m3, e3, d1', n1, f1, d2, n2, f2, d3, n3, f3, d1, bss[0], bss[1], hgiv, rfl, rfl, hxf, hyf, hN0, hN1, hNa, hs0, hs1⟩⟩
  by_cases h5 : t.K = 5
  · have hl : t.A.length = 2 := by have h := hsh; rw [h5] at h; have h2 : shP 5 = 2 := rfl; omega
    obtain ⟨τ1, u1, e1'⟩ := (hp 1 (by omega)).iface
    have hv0 := hp 0 (by omega)
    by_cases h4 : t.A[0].K = 4
    · obtain ⟨m0, hm0, _⟩ := hparts 0 (by omega)
      have hl0 : t.A[0].A.length = 1 := by
        cases l with
        | zero => simp [nodesM] at hm0
        | succ l => have h := (nodeM_kinds (nodesM_get hm0).1).2.2; rw [h4] at h; have h2 : shP 4 = 1 := rfl; omega
      obtain ⟨g, cs, p12, bss, d1, rfl, rfl, hl3, hg, hbl, rfl, hE⟩ := hf.parts (by omega)
      obtain rfl : l3 = 2 := by omega
      obtain ⟨q1, r1, s1, q2, r2, s2, q3, r3, s3, hf9, hff⟩ := hE 0 (by omega) (by omega)
      obtain ⟨b1, m1, e1, b2, m2, e2, b3, m3, e3, hx9, hxf⟩ := hE 1 (by omega) (by omega)
      obtain ⟨g2, cs2, q12, bss2, d2', rfl, rfl, hr3, hg2, hbl2, hbs2, hE2⟩ := hff.parts (by omega)
      obtain rfl : r3 = 1 := by omega
      obtain ⟨d1', n1, f1, d2, n2, f2, d3, n3, f3, hy9, hyf⟩ := hE2 0 (by omega) (by omega)
      have hgiv : givM t = some (t.A[0].S, t.A[1], t.A[0].A[0]) := by
        unfold givM
        rw [if_neg h6, if_pos ⟨h5, by rw [paGetB (by omega)]; exact h4⟩, paGetB (i := 0) (by omega), paGetB (i := 1) (by omega), paGetB (by omega)]
      obtain ⟨hn12, hng, hdis⟩ := List.nodup_append.1 hnd
      obtain ⟨hgf, hnf⟩ := List.nodup_cons.1 hng
      have hni : (bss[0]'(by omega)).Nodup := (List.pairwise_flatten.1 hnf).1 _ (List.getElem_mem _)
      have hsub0 : ∀ k ∈ (bss2[0]'(by omega)), k ∈ (bss[0]'(by omega)) := fun k hk => by
        rw [hbs2]; simp only [List.mem_append, List.mem_cons]; exact Or.inr (Or.inr (mem_part (by omega) hk))
      have hN1 : (bss[1]'(by omega)).Nodup := (List.pairwise_flatten.1 hnf).1 _ (List.getElem_mem _)
      have hN0 : (bss2[0]'(by omega)).Nodup := by
        have h := hni
        rw [hbs2] at h
        exact (List.pairwise_flatten.1 (List.nodup_cons.1 (List.nodup_append.1 h).2.1).2).1 _ (List.getElem_mem _)
      have hNa : ∀ k ∈ (bss[1]'(by omega)), k ∉ (bss2[0]'(by omega)) := fun k h1 h2 => part_apart hnf (by omega) (by omega) (show 1 ≠ 0 by decide) h1 (hsub0 k h2)
      have hs1 : ∀ k ∈ (bss[1]'(by omega)), k ∈ p12 ++ g :: bss.flatten := fun k hk => by simp only [List.mem_append, List.mem_cons]; exact Or.inr (Or.inr (mem_part (by omega) hk))
      have hs0 : ∀ k ∈ (bss2[0]'(by omega)), k ∈ p12 ++ g :: bss.flatten := fun k hk => by simp only [List.mem_append, List.mem_cons]; exact Or.inr (Or.inr (mem_part (by omega) (hsub0 k hk)))
      have hg2in : g2 ∈ (bss[0]'(by omega)) := by rw [hbs2]; simp
      cases l with
      | zero => simp [nodesM] at hm0
      | succ l =>
        obtain ⟨nd0, z1, z2, z3, z4, z5, z6, p', _, _, hp', e0⟩ := hv0
        obtain ⟨τ2, u2, e2'⟩ := (hp' 0 (by omega)).iface
        have hfv0 : p 0 = .iface 110 (.agg #[.int .i64 nd0, .string t.A[0].S, .int .i64 t.A[0].T.K, .int .i64 t.A[0].T.N, .slice z1 z2 z3, .iface τ2 u2]) := by
          rw [e0, h4, e2']; rfl
        have hfv : fval nd t.K t.N t.S t.Z t.T.K t.T.N (.slice v1 k1 j1) (.slice v2 k2 j2) (p 0) (p 1) (p 2) = .iface 112 (.agg #[.int .i64 nd, .iface 110 (.agg #[.int .i64 nd0, .string t.A[0].S, .int .i64 t.A[0].T.K, .int .i64 t.A[0].T.N, .slice z1 z2 z3, .iface τ2 u2]), .iface τ1 u1]) := by
          rw [h5, hfv0, e1']; rfl
        rw [hfv]
        refine (givenBy_fn t a1 l1 c1 a2 l2 c2 c3 t.A[1] b1 m1 e1 b2 m2 e2 b3 m3 e3 t.A[0].A[0] d1' n1 f1 d2 n2 f2 d3 n3 f3 t.A[0] q1 r1 s1 q2 r2 s2 s3 t.A[0].S nd nd0 t.A[0].T.K t.A[0].T.N z1 z2 z3 τ1 τ2 u1 u2 g g2 w (hin g (by simp)) (hin g2 (by simp only [List.mem_append, List.mem_cons]; exact Or.inr (Or.inr (mem_part (by omega) hg2in)))) hf9 hx9 hy9).mono ?_
        rintro e w' ⟨rfl, hb⟩
        refine ⟨hb, _, by rfl, Or.inr ⟨t.A[0].S, t.A[1], t.A[0].A[0], b1, m1, e1, b2, m2, e2, b3, m3, e3, d1', n1, f1, d2, n2, f2, d3, n3, f3, d2' + 1, bss[1], bss2[0], hgiv, rfl, rfl, hxf, hyf.deeperd (by omega), hN1, hN0, hNa, hs1, hs0⟩⟩
    · have hgiv : givM t = none := by
        unfold givM
        rw [if_neg h6, if_neg (fun h => h4 (by have := h.2; rw [paGetB (by omega)] at this; exact this))]
      cases l with
      | zero => exact hv0.elim
      | succ l =>
        obtain ⟨nd0, z1, z2, z3, z4, z5, z6, p', _, _, hp', e0⟩ := hv0
        obtain ⟨τ0, u0, et, ht4, _, _⟩ := fval_tag nd0 t.A[0].K t.A[0].N t.A[0].S t.A[0].Z t.A[0].T.K t.A[0].T.N (.slice z1 z2 z3) (.slice z4 z5 z6) (p' 0) (p' 1) (p' 2)
        have hfv : fval nd t.K t.N t.S t.Z t.T.K t.T.N (.slice v1 k1 j1) (.slice v2 k2 j2) (p 0) (p 1) (p 2) = .iface 112 (.agg #[.int .i64 nd, .iface τ0 u0, .iface τ1 u1]) := by
          rw [h5, e0, et, e1']; rfl
        rw [hfv]
        refine (givenBy_app t a1 l1 c1 a2 l2 c2 a3 l3 c3 nd τ0 τ1 u0 u1 (ht4 h4) w).mono ?_
        rintro e w' ⟨rfl, hb⟩
        exact ⟨hb, _, by rfl, Or.inl ⟨hgiv, rfl, rfl⟩⟩
  · have hgiv : givM t = none := by
      unfold givM
      rw [if_neg h6, if_neg (fun h => h5 h.1)]
    obtain ⟨τ0, u0, et, _, ht5, ht6⟩ := fval_tag nd t.K t.N t.S t.Z t.T.K t.T.N (.slice v1 k1 j1) (.slice v2 k2 j2) (p 0) (p 1) (p 2)
    rw [et]
    refine (givenBy_no t a1 l1 c1 a2 l2 c2 a3 l3 c3 τ0 u0 (ht6 h6) (ht5 h5) w).mono ?_
    rintro e w' ⟨rfl, hb⟩
    exact ⟨hb, _, by rfl, Or.inl ⟨hgiv, rfl, rfl⟩⟩

end Go.Proofs.YtcepgedbmffkdaaGreat
