/-
  Terms as forms: the value that 'formOf' answers of a term that is right; no memory is in it but that of its types.
-/
import Derived.Test.YtgljlgiebmnekaaGreatDoorQuZ8
import Derived.Test.YtgljlgiebmnekaaGreatDoorQuZ10
import Derived.Deep.RegionHeld3
namespace Go.Proofs.YtgljlgiebmnekaaGreatDoor
open Go.RowKit
set_option linter.unusedVariables false
set_option linter.unusedSimpArgs false

/-- The form of a term, its parts' forms being ps. -/
def fval (nd k n : Int) (s z : ByteArray) (tk tn : Int) (v1 v2 : Value) (p0 p1 p2 : Value) : Value :=
  if k = 1 then .iface 114 (.agg #[.int .i64 n])
  else if k = 2 then .iface 115 (.agg #[.int .i64 n])
  else if k = 3 then .iface 88 (.agg #[.string s, v2])
  else if k = 4 then .iface 91 (.agg #[.int .i64 nd, .string s, .int .i64 tk, .int .i64 tn, v1, p0])
  else if k = 5 then .iface 117 (.agg #[.int .i64 nd, p0, p1])
  else if k = 6 then .iface 94 (.agg #[.string s, .int .i64 n, p0, p1])
  else if k = 7 then .iface 96 (.agg #[.string s, .int .i64 n, .int .i64 tk, .int .i64 tn, v1, p0, p1])
  else if k = 8 then .iface 119 (.agg #[p0, p1, p2])
  else if k = 9 then .iface 121 (.agg #[p0, p1])
  else if k = 10 then .iface 123 (.agg #[p0])
  else if k = 11 then .iface 124 (.agg #[p0])
  else if k = 12 then .iface 126 (.agg #[.int .i64 tk, .int .i64 tn, v1])
  else if k = 13 then .iface 128 (.agg #[p0, p1])
  else if k = 14 then .iface 98 (.agg #[.string s, .string z, p0, p1, p2])
  else if k = 15 then .iface 130 (.agg #[.int .i64 n, p0, p1])
  else if k = 16 then .iface 132 (.agg #[.int .i64 tk, .int .i64 tn, v1, p0])
  else .iface 100 (.agg #[.string s, p0, p1])

/-- v is the form of t. -/
def Fv (L B : Nat) (w : World) (D : Nat) : Nat → Tm → Value → Prop
  | 0, _, _ => False
  | l + 1, t, v => ∃ (nd : Int) (a1 : Option Addr) (l1 c1 : Nat) (a2 : Option Addr) (l2 c2 : Nat) (p : Nat → Value), Hs L B w D a1 l1 t.T.A ∧ Hs L B w D a2 l2 t.Ts ∧ (∀ i (h : i < t.A.length), Fv L B w D l t.A[i] (p i)) ∧ v = fval nd t.K t.N t.S t.Z t.T.K t.T.N (.slice a1 l1 c1) (.slice a2 l2 c2) (p 0) (p 1) (p 2)

theorem Fv.iface {L B : Nat} {w : World} {D l : Nat} {t : Tm} {v : Value} (h : Fv L B w D l t v) : ∃ τ u, v = .iface τ u := by
  cases l with
  | zero => exact h.elim
  | succ l =>
    obtain ⟨nd, a1, l1, c1, a2, l2, c2, p, _, _, _, hx⟩ := h
    rw [hx]
    unfold fval
    by_cases h1 : t.K = 1
    · rw [if_pos h1]; exact ⟨_, _, rfl⟩
    rw [if_neg h1]
    by_cases h2 : t.K = 2
    · rw [if_pos h2]; exact ⟨_, _, rfl⟩
    rw [if_neg h2]
    by_cases h3 : t.K = 3
    · rw [if_pos h3]; exact ⟨_, _, rfl⟩
    rw [if_neg h3]
    by_cases h4 : t.K = 4
    · rw [if_pos h4]; exact ⟨_, _, rfl⟩
    rw [if_neg h4]
    by_cases h5 : t.K = 5
    · rw [if_pos h5]; exact ⟨_, _, rfl⟩
    rw [if_neg h5]
    by_cases h6 : t.K = 6
    · rw [if_pos h6]; exact ⟨_, _, rfl⟩
    rw [if_neg h6]
    by_cases h7 : t.K = 7
    · rw [if_pos h7]; exact ⟨_, _, rfl⟩
    rw [if_neg h7]
    by_cases h8 : t.K = 8
    · rw [if_pos h8]; exact ⟨_, _, rfl⟩
    rw [if_neg h8]
    by_cases h9 : t.K = 9
    · rw [if_pos h9]; exact ⟨_, _, rfl⟩
    rw [if_neg h9]
    by_cases h10 : t.K = 10
    · rw [if_pos h10]; exact ⟨_, _, rfl⟩
    rw [if_neg h10]
    by_cases h11 : t.K = 11
    · rw [if_pos h11]; exact ⟨_, _, rfl⟩
    rw [if_neg h11]
    by_cases h12 : t.K = 12
    · rw [if_pos h12]; exact ⟨_, _, rfl⟩
    rw [if_neg h12]
    by_cases h13 : t.K = 13
    · rw [if_pos h13]; exact ⟨_, _, rfl⟩
    rw [if_neg h13]
    by_cases h14 : t.K = 14
    · rw [if_pos h14]; exact ⟨_, _, rfl⟩
    rw [if_neg h14]
    by_cases h15 : t.K = 15
    · rw [if_pos h15]; exact ⟨_, _, rfl⟩
    rw [if_neg h15]
    by_cases h16 : t.K = 16
    · rw [if_pos h16]; exact ⟨_, _, rfl⟩
    rw [if_neg h16]
    exact ⟨_, _, rfl⟩

/-- From w to w' nothing has changed but what lies at p, and there is c. -/
structure Nx (p : Nat) (w w' : World) (c : Int) : Prop where
  kf : Kf (fun k => k = p) w (fun k => k = p) w'
  is : w'.heap[p]? = some (.cells #[.int .i64 c] 3 (0, 0))

theorem Nx.trans {p : Nat} {w w' w'' : World} {c c' : Int} (h : Nx p w w' c) (k : Nx p w' w'' c') : Nx p w w'' c' := ⟨h.kf.trans k.kf, k.is⟩
theorem Nx.lt {p : Nat} {w w' : World} {c : Int} (h : Nx p w w' c) : p < w'.heap.size := (Array.getElem?_eq_some_iff.1 h.is).1
theorem Nx.fm {p : Nat} {w w' : World} {c : Int} {L B D d : Nat} {t : Tm} {a1 a2 a3 : Option Addr} {l1 l2 l3 : Nat} (h : Nx p w w' c) (hB : B ≤ p) (hw : B ≤ w.heap.size) (hf : Fm L B w D d t a1 l1 a2 l2 a3 l3) : Fm L B w' D d t a1 l1 a2 l2 a3 l3 :=
  Fm.keep (fun k _ hk => h.kf.block k (by omega) (by omega)) (Nat.le_refl _) (Nat.le_refl _) hf

theorem Nx.drew {p : Nat} {w w' : World} {c : Int} (h : Nx p w w' c) : Nx p w w'.drew c := ⟨h.kf.trans (Kf.of_below ((Below.refl _ w').drew)), h.is⟩
theorem Nx.undrew {p : Nat} {w w' : World} {c : Int} (h : Nx p w.drew w' c) : Nx p w w' c := ⟨(Kf.of_below ((Below.refl _ w).drew)).trans h.kf, h.is⟩

/-- What 'formBehind' answers of a term, the counter being c, in every world that goes on from w. -/
def SaidFb (l : Nat) : Prop := ∀ (D d L B : Nat) (t : Tm) (a1 : Option Addr) (l1 c1 : Nat) (a2 : Option Addr) (l2 c2 : Nat) (a3 : Option Addr) (l3 c3 : Nat) (m : Nat) (w : World), B ≤ w.heap.size → Fm L B w D d t a1 l1 a2 l2 a3 l3 → nodesM l t = some m →
    ∃ V : Int → Value, (∀ c, Fv L B w D l t (V c)) ∧ ∀ p w' c, B ≤ p → Nx p w w' c → 0 ≤ c → c + m ≤ 1000000 → Calls Tryz.prog 55 #[.agg #[.int .i64 t.K, .int .i64 t.N, .string t.S, .string t.Z, .int .i64 t.T.K, .int .i64 t.T.N, .slice a1 l1 c1, .slice a2 l2 c2, .slice a3 l3 c3], .pointer (some ⟨p, 0, none⟩)] w' fun e w'' => e = .returned (V c) ∧ Nx p w' w'' (c + m)

theorem fb_zero : SaidFb 0 := by
  intro D d L B t a1 l1 c1 a2 l2 c2 a3 l3 c3 m w hB hf hm
  simp [nodesM] at hm

/-- At a place the closure 'part' answers q c, the counter being c, wherever the boxes lie; it counts k. -/
structure PartIs (p : Nat) (w : World) (cs : Array Value) (x : Int) (q : Int → Value) (k : Int) : Prop where
  call : ∀ (bx bp : Nat) (w' : World) (c : Int), Nx p w w' c → w'.heap[bx]? = some (.cells cs 34 (0, 0)) → w'.heap[bp]? = some (.cells #[.pointer (some ⟨p, 0, none⟩)] 48 (0, 0)) → 0 ≤ c → c + k ≤ 1000000 → Calls Tryz.prog 66 #[.int .i64 x, .pointer (some ⟨bx, 0, none⟩), .pointer (some ⟨bp, 0, none⟩)] w' fun e w'' => e = .returned (q c) ∧ Nx p w' w'' (c + k)

set_option maxHeartbeats 400000 in
theorem part_any (D d L B : Nat) (t : Tm) (a1 : Option Addr) (l1 c1 : Nat) (a2 : Option Addr) (l2 c2 : Nat) (a3 : Option Addr) (l3 c3 : Nat) (l : Nat) (IH : SaidFb l) (w : World) (hB : B ≤ w.heap.size) (hf : Fm L B w D d t a1 l1 a2 l2 a3 l3) (i : Nat) (hi : i < t.A.length) (m : Nat) (hm : nodesM l t.A[i] = some m) :
    ∃ q : Int → Value, (∀ c, Fv L B w D l t.A[i] (q c)) ∧ ∀ p, B ≤ p → PartIs p w #[.int .i64 t.K, .int .i64 t.N, .string t.S, .string t.Z, .int .i64 t.T.K, .int .i64 t.T.N, .slice a1 l1 c1, .slice a2 l2 c2, .slice a3 l3 c3] (i : Int) q m := by
  have hl3 := hf.m.len
  obtain ⟨b, o, rfl, _, hbB, e1, m1, d1, e2, m2, d2, e3, m3, d3, h9, hfi⟩ := hf.m.get i hi
  obtain ⟨v, hv, hcall⟩ := IH D (d - 1) L B t.A[i] e1 m1 d1 e2 m2 d2 e3 m3 d3 m w hB hfi hm
  refine ⟨v, hv, fun p hp => ⟨fun bx bp w' c hw' hbx hbp hc0 hcm => ?_⟩⟩
  have q9 := Nine.box (w := w'.drew) hbx
  have q8 := q9.c8
  have qp := cell_1 (w := w'.drew) hbp
  have hxp : bx ≠ p := fun e => by
    rw [e, hw'.is] at hbx
    injection hbx with hbx
    injection hbx with _ hbx
    exact absurd hbx (by decide)
  have hpp : bp ≠ p := fun e => by
    rw [e, hw'.is] at hbp
    injection hbp with hbp
    injection hbp with _ hbp
    exact absurd hbp (by decide)
  have hbw := h9.world (w' := w'.drew) (hw'.drew.kf.block b (by omega) (by omega))
  obtain ⟨e0', e1', e2', e3', e4', e5', e6', e7', e8'⟩ := hbw
  have hbx0 := (Array.getElem?_eq_some_iff.1 hbx).1
  have hbp0 := (Array.getElem?_eq_some_iff.1 hbp).1
  have HS : Hid (∀ W c', Nx p w' W c' → W.cell? ⟨bx, 8, none⟩ = some (.slice (some ⟨b, o, none⟩) l3 c3) ∧ W.cell? ⟨bp, 0, none⟩ = some (.pointer (some ⟨p, 0, none⟩)) ∧ Nine W b (o + i * 9) t.A[i].K t.A[i].N t.A[i].S t.A[i].Z t.A[i].T.K t.A[i].T.N (.slice e1 m1 d1) (.slice e2 m2 d2) (.slice e3 m3 d3)) := fun W c' hN =>
    ⟨(Nine.box ((hN.kf.block bx hbx0 hxp).trans hbx)).c8, cell_1 ((hN.kf.block bp hbp0 hpp).trans hbp), h9.world ((hN.kf.block b (by have := hw'.kf.size; omega) (by omega)).trans (hw'.kf.block b (by omega) (by omega)))⟩
  have HC : Hid (Calls _ _ _ _ _) := hcall p w'.drew c hp hw'.drew hc0 hcm
  have hil : i < l3 := by omega
  clear hcall hbx q9 h9 hfi hm hf hbp
  go_enter Tryz.func66, Tryz.ntmps66
  go_wp2_with fail
  go_region_held3 (fun W => W.cell? ⟨bx, 8, none⟩ = some (.slice (some ⟨b, o, none⟩) l3 c3) ∧ W.cell? ⟨bp, 0, none⟩ = some (.pointer (some ⟨p, 0, none⟩)) ∧ W.cell? ⟨b, o + i * 9, none⟩ = some (.int .i64 t.A[i].K) ∧ W.cell? ⟨b, o + i * 9 + 1, none⟩ = some (.int .i64 t.A[i].N) ∧ W.cell? ⟨b, o + i * 9 + 2, none⟩ = some (.string t.A[i].S) ∧ W.cell? ⟨b, o + i * 9 + 3, none⟩ = some (.string t.A[i].Z) ∧ W.cell? ⟨b, o + i * 9 + 4, none⟩ = some (.int .i64 t.A[i].T.K) ∧ W.cell? ⟨b, o + i * 9 + 5, none⟩ = some (.int .i64 t.A[i].T.N) ∧ W.cell? ⟨b, o + i * 9 + 6, none⟩ = some (.slice e1 m1 d1) ∧ W.cell? ⟨b, o + i * 9 + 7, none⟩ = some (.slice e2 m2 d2) ∧ W.cell? ⟨b, o + i * 9 + 8, none⟩ = some (.slice e3 m3 d3))
    (first | (refine ⟨?_, ?_, ?_, ?_, ?_, ?_, ?_, ?_, ?_, ?_, ?_⟩; with_reducible exact q8; with_reducible exact qp; with_reducible exact e0'; with_reducible exact e1'; with_reducible exact e2'; with_reducible exact e3'; with_reducible exact e4'; with_reducible exact e5'; with_reducible exact e6'; with_reducible exact e7'; with_reducible exact e8') | (refine ⟨?_, ?_, ?_, ?_, ?_, ?_, ?_, ?_, ?_, ?_, ?_⟩; with_reducible exact z8; with_reducible exact zp; with_reducible exact z0'; with_reducible exact z1'; with_reducible exact z2'; with_reducible exact z3'; with_reducible exact z4'; with_reducible exact z5'; with_reducible exact z6'; with_reducible exact z7'; with_reducible exact z8'))
    (first | (go_at_call 55; refine HC.out.mono ?_; rintro e w2 ⟨rfl, hb2'⟩; have hb2 := hb2'.undrew; obtain ⟨z8, zp, ⟨z0', z1', z2', z3', z4', z5', z6', z7', z8'⟩⟩ := HS.out _ _ hb2))
  all_goals
    go_wp2_with fail
    go_ret
    exact ⟨rfl, hb2⟩

end Go.Proofs.YtgljlgiebmnekaaGreatDoor
