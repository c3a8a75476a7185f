/-
  What the program's 'rebuiltBehind' comes to where it makes forms, by recursion; 'formOf'.
-/
import Derived.Test.YtbdmdgghhefmcaaPfoZ20
namespace Go.Proofs.Ytbdmdgghhefmcaa
open Go.RowKit
set_option linter.unusedVariables false
set_option linter.unusedSimpArgs false

/-- The function value that is handed on. -/
abbrev mdF : Value := .func (.func 67) #[] #[]

def SaidRb (l : Nat) : Prop := ∀ (D d L B : Nat) (t : Tm) (a1 : Option Addr) (l1 c1 : Nat) (a2 : Option Addr) (l2 c2 : Nat) (a3 : Option Addr) (l3 c3 : Nat) (m : Nat) (w : World), B ≤ w.heap.size → Fm L B w D d t a1 l1 a2 l2 a3 l3 → nodesM l t = some m →
    ∃ V : Int → Value, (∀ c, Fv L B w D l t (V c)) ∧ ∀ p w' c, B ≤ p → Nx p w w' c → 0 ≤ c → c + m ≤ 1000000 → Calls Try.prog 73 #[.agg #[.int .i64 t.K, .int .i64 t.N, .string t.S, .string t.Z, .int .i64 t.T.K, .int .i64 t.T.N, .slice a1 l1 c1, .slice a2 l2 c2, .slice a3 l3 c3], .pointer (some ⟨p, 0, none⟩), mdF] w' fun e w'' => e = .returned (V c) ∧ Nx p w' w'' (c + m)

theorem nodesG_sums {f : Tm → Option Nat} : ∀ (A : List Tm) (b : Nat), nodesG f A = some b → ∃ O : Nat → Nat, O 0 = 0 ∧ O A.length = b ∧ ∀ i (h : i < A.length), ∃ k, f A[i] = some k ∧ O (i + 1) = O i + k
  | [], b, h => ⟨fun _ => 0, rfl, by simp [nodesG] at h; exact h, fun i hi => by simp at hi⟩
  | y :: A, b, h => by
    simp only [nodesG] at h
    cases hy : f y with
    | none => simp [hy] at h
    | some a =>
      cases hz : nodesG f A with
      | none => simp [hy, hz] at h
      | some c =>
        simp [hy, hz] at h
        obtain ⟨O, h0, h1, h2⟩ := nodesG_sums A c hz
        refine ⟨fun i => match i with | 0 => 0 | i + 1 => a + O i, rfl, ?_, fun i hi => ?_⟩
        · show a + O A.length = b
          omega
        · cases i with
          | zero => exact ⟨a, hy, by show a + O 0 = 0 + a; omega⟩
          | succ i =>
            obtain ⟨k, k1, k2⟩ := h2 i (by simpa using hi)
            exact ⟨k, by simpa using k1, by show a + O (i + 1) = a + O i + k; omega⟩

theorem Nx.onB {p : Nat} {w w3 w4 : World} {c : Int} {base : Nat} (h : Nx p w w3 c) (hb : Below base w3 w4) (hw : w.heap.size ≤ base) (hp : p < base) : Nx p w w4 c :=
  ⟨⟨hb.os.trans h.kf.os, hb.tape.trans h.kf.tape, hb.output.trans h.kf.output, Nat.le_trans h.kf.size hb.size, fun k hk hF => (hb.block k (by omega)).trans (h.kf.block k hk hF), h.kf.own⟩, (hb.block p hp).trans h.is⟩
theorem Nx.bel {p : Nat} {w w3 w4 : World} {c : Int} (h : Nx p w w3 c) (hb : Below w3.heap.size w3 w4) : Nx p w w4 c :=
  ⟨h.kf.trans (Kf.of_below hb), (hb.block p h.lt).trans h.is⟩

structure RbL (p : Nat) (w' wr : World) (c : Int) (O : Nat → Nat) (Q : Nat → Int → Value) (cs : Array Value) (v : Value) (j : Nat) : Prop where
  nx : Nx p w' wr (c + 1 + O j)
  box : wr.heap[w'.heap.size]? = some (.cells cs 35 (0, 0))
  row : Frw (w'.heap.size + 1) wr v ((List.range j).map fun i => Q i (c + 1 + O i))
  sz : w'.heap.size + 1 ≤ wr.heap.size

theorem rb_next {p : Nat} {w' wr wa w3 : World} {c : Int} {O : Nat → Nat} {Q : Nat → Int → Value} {cs : Array Value} {v : Value} {j k : Nat} (h : RbL p w' wr c O Q cs v j) (hp : p < w'.heap.size) (hj : j ≤ 3) (hba : Below wr.heap.size wr wa) (h3 : Nx p wa w3 (c + 1 + O j + k)) (hO : O (j + 1) = O j + k) {τ : TypeId} {u : Value} (hq : Q j (c + 1 + O j) = .iface τ u) :
    ∃ g cp w4, (Builtin.append_ #[109, 109] 109 #[v, .slice (some ⟨w3.heap.size, 0, none⟩) 1 1]).run Try.prog (w3.alloc (.cells #[.iface τ u] 86)) = .ok (.slice (some ⟨g, 0, none⟩) (j + 1) cp) w4 ∧ RbL p w' w4 c O Q cs (.slice (some ⟨g, 0, none⟩) (j + 1) cp) (j + 1) := by
  have hsz := h.sz
  have hza := hba.size
  have hz3 := h3.kf.size
  have hk3 : ∀ g, g ≠ p → g < wr.heap.size → w3.heap[g]? = wr.heap[g]? := fun g hne hg => (h3.kf.block g (by omega) hne).trans (hba.block g hg)
  have hrow : Frw (w'.heap.size + 1) w3 v ((List.range j).map fun i => Q i (c + 1 + O i)) := frw_keep h.row fun g hg hg2 => hk3 g (by omega) hg2
  obtain ⟨g, cp, w4, hrun, hr4, hb4⟩ := frw_push hrow (by omega) (by simp; omega) τ u
  simp only [List.length_map, List.length_range] at hrun hr4
  have hN3 : Nx p w' w3 (c + 1 + O j + k) := (h.nx.bel hba).trans h3
  refine ⟨g, cp, w4, hrun, ⟨?_, ?_, ?_, by have := hb4.size; omega⟩⟩
  · rw [show c + 1 + ((O (j + 1) : Nat) : Int) = c + 1 + O j + k by omega]
    exact hN3.onB hb4 (by omega) (by omega)
  · rw [hb4.block _ (by omega), hk3 _ (by omega) (by omega)]
    exact h.box
  · rw [List.range_succ, List.map_append, List.map_cons, List.map_nil, hq]
    exact hr4

theorem rb_form {p : Nat} {w' wr : World} {c : Int} {O : Nat → Nat} {Q : Nat → Int → Value} {cs : Array Value} {v : Value} {j : Nat} (h : RbL p w' wr c O Q cs v j) : ∃ ao cap, v = .slice ao j cap := by
  have := frw_form h.row
  simpa using this

theorem rb_prt {p : Nat} {w' wr : World} {c : Int} {O : Nat → Nat} {Q : Nat → Int → Value} {cs : Array Value} {ao : Option Addr} {cap j : Nat} (h : RbL p w' wr c O Q cs (.slice ao j cap) j) (q : Nat → Value) (hq : ∀ i, Q i (c + 1 + O i) = q i) : Prt wr ao j q := by
  obtain ⟨ao', cap', e, hp⟩ := frw_prt h.row q (fun i hi => by simpa using hq i)
  simp only [List.length_map, List.length_range] at e hp
  cases e
  exact hp

theorem mt_within (x : Value) (W : World) : Sem.run Try.prog (method 264 35 x "loop.example/g00187/impl.within") W = .ok (97, x) W := by kernel_rfl

set_option maxRecDepth 100000 in
set_option maxHeartbeats 2000000 in
theorem rb_succ (l : Nat) (IH : SaidRb l) : SaidRb (l + 1) := by
  intro D d L B t a1 l1 c1 a2 l2 c2 a3 l3 c3 m w hB hf hm
  simp only [nodesM] at hm
  cases hn : nodeM t with
  | false => simp [hn] at hm
  | true =>
  simp only [hn, if_true] at hm
  obtain ⟨b, hb, hmb⟩ := Option.map_eq_some_iff.1 hm
  obtain ⟨O, hO0, hOb, hOs⟩ := nodesG_sums t.A b hb
  obtain ⟨rfl, hl9⟩ := hf.m.len
  have hex : ∀ i, ∃ Q : Int → Value, (∀ c, ∃ τ u, Q c = .iface τ u) ∧ ∀ h : i < t.A.length, (∀ c, Fv L B w D l t.A[i] (Q c)) ∧ ∃ k, O (i + 1) = O i + k ∧ ∃ (b o : Nat) (e1 : Option Addr) (m1 d1 : Nat) (e2 : Option Addr) (m2 d2 : Nat) (e3 : Option Addr) (m3 d3 : Nat), a3 = some ⟨b, o, none⟩ ∧ b < B ∧ Nine w b (o + i * 9) t.A[i].K t.A[i].N t.A[i].S t.A[i].Z t.A[i].T.K t.A[i].T.N (.slice e1 m1 d1) (.slice e2 m2 d2) (.slice e3 m3 d3) ∧
      ∀ p w' c, B ≤ p → Nx p w w' c → 0 ≤ c → c + k ≤ 1000000 → Calls Try.prog 73 #[.agg #[.int .i64 t.A[i].K, .int .i64 t.A[i].N, .string t.A[i].S, .string t.A[i].Z, .int .i64 t.A[i].T.K, .int .i64 t.A[i].T.N, .slice e1 m1 d1, .slice e2 m2 d2, .slice e3 m3 d3], .pointer (some ⟨p, 0, none⟩), mdF] w' fun e w'' => e = .returned (Q c) ∧ Nx p w' w'' (c + k) := by
    intro i
    by_cases h : i < t.A.length
    · obtain ⟨k, k1, k2⟩ := hOs i h
      obtain ⟨b', o, ha3, _, hbB, e1, m1, d1, e2, m2, d2, e3, m3, d3, h9, hfi⟩ := hf.m.get i h
      obtain ⟨V, hV, hcall⟩ := IH D (d - 1) L B t.A[i] e1 m1 d1 e2 m2 d2 e3 m3 d3 k w hB hfi k1
      exact ⟨V, fun c => (hV c).iface, fun _ => ⟨hV, k, k2, b', o, e1, m1, d1, e2, m2, d2, e3, m3, d3, ha3, hbB, h9, hcall⟩⟩
    · exact ⟨fun _ => .iface 0 .nilIface, fun c => ⟨_, _, rfl⟩, fun h' => (h h').elim⟩
  obtain ⟨Q, hQ⟩ := Classical.axiomOfChoice hex
  clear hex
  refine ⟨fun c => fval c t.K t.N t.S t.Z t.T.K t.T.N (.slice a1 l1 c1) (.slice a2 l2 c2) (Q 0 (c + 1 + O 0)) (Q 1 (c + 1 + O 1)) (Q 2 (c + 1 + O 2)), fun c => ⟨c, a1, l1, c1, a2, l2, c2, fun i => Q i (c + 1 + O i), hf.t1, hf.t2, fun i h => ((hQ i).2 h).1 _, rfl⟩, ?_⟩
  intro p w' c hBp hNx hc0 hcm
  have hpl := hNx.lt
  have hOm : ∀ j, j ≤ t.A.length → O j ≤ O t.A.length := by
    have : ∀ n j, j + n = t.A.length → O j ≤ O t.A.length := by
      intro n
      induction n with
      | zero => intro j hj; rw [show j = t.A.length by omega]; exact Nat.le_refl _
      | succ n ih =>
        intro j hj
        obtain ⟨k, _, hk⟩ := hOs j (by omega)
        have := ih (j + 1) (by omega)
        omega
    exact fun j hj => this (t.A.length - j) j (by omega)
  obtain ⟨hK1, hK2, hKs⟩ := nodeM_kinds hn
  have h3 := nodeM_len hn
  obtain ⟨f, hfi⟩ := Classical.axiomOfChoice (r := fun i (x : TypeId × Value) => Q i (c + 1 + O i) = .iface x.1 x.2) (fun i => by obtain ⟨τ, u, e⟩ := (hQ i).1 (c + 1 + O i); exact ⟨(τ, u), e⟩)
  have HF : Hid (∀ e wr wx, e = Ending.returned (fval c t.K t.N t.S t.Z t.T.K t.T.N (.slice a1 l1 c1) (.slice a2 l2 c2) (.iface (f 0).1 (f 0).2) (.iface (f 1).1 (f 1).2) (.iface (f 2).1 (f 2).2)) → Nx p w' wr (c + 1 + O t.A.length) → Below wr.heap.size wr wx → e = Ending.returned (fval c t.K t.N t.S t.Z t.T.K t.T.N (.slice a1 l1 c1) (.slice a2 l2 c2) (Q 0 (c + 1 + O 0)) (Q 1 (c + 1 + O 1)) (Q 2 (c + 1 + O 2))) ∧ Nx p w' wx (c + m)) := by
    intro e wr wx he hN hb
    rw [hfi 0, hfi 1, hfi 2, show c + (m : Int) = c + 1 + O t.A.length by omega]
    exact ⟨he, hN.bel hb⟩
  have HQ : Hid (_ ∧ True) := ⟨fun j => (hQ j).2, trivial⟩
  have hw1 : IntKind.i64.wrap (c + 1) = c + 1 := by rw [IntKind.wrap_i64]; omega
  have r0 := cell_1 hNx.is
  have r1 := row_free hNx.is 0
  have hmt := mt_within
  obtain ⟨X, hX⟩ : ∃ X, X = (w'.setCell ⟨p, 0, none⟩ (.int .i64 (c + 1))).alloc (.cells #[.int .i64 t.K, .int .i64 t.N, .string t.S, .string t.Z, .int .i64 t.T.K, .int .i64 t.T.N, .slice a1 l1 c1, .slice a2 l2 c2, .slice a3 t.A.length c3] 35) := ⟨_, rfl⟩
  have hXb : Below (w'.setCell ⟨p, 0, none⟩ (.int .i64 (c + 1))).heap.size (w'.setCell ⟨p, 0, none⟩ (.int .i64 (c + 1))) X := by rw [hX]; exact (Below.refl _ _).alloc (Nat.le_refl _) _
  have hXs : X.heap.size = w'.heap.size + 1 := by rw [hX]; simp
  have hXp : X.heap[p]? = some (.cells #[.int .i64 (c + 1)] 3 (0, 0)) := by rw [hXb.block p (by simpa using hpl), row_set hNx.is]; rfl
  have hN : Nx p w' X (c + 1) := ⟨⟨hXb.os, hXb.tape, hXb.output, by omega, fun i hi hne => (hXb.block i (by simpa using hi)).trans (row_other _ _ _ hne), fun i hi => Or.inl hi⟩, hXp⟩
  have hbx : X.heap[w'.heap.size]? = some (.cells #[.int .i64 t.K, .int .i64 t.N, .string t.S, .string t.Z, .int .i64 t.T.K, .int .i64 t.T.N, .slice a1 l1 c1, .slice a2 l2 c2, .slice a3 t.A.length c3] 35 (0, 0)) := by rw [hX]; exact heap_new (by simp)
  have HX : Hid (X = _) := hX
  clear hX hXb hXp hQ
  go_enter Try.func73, Try.ntmps73
  go_wp2_with fail
  rw [← HX.out]
  refine (within_any t a1 l1 c1 a2 l2 c2 a3 t.A.length c3 _).mono ?_
  rintro e w2 ⟨rfl, hb2⟩
  have h0 : Hid (RbL p w' w2 c O Q #[.int .i64 t.K, .int .i64 t.N, .string t.S, .string t.Z, .int .i64 t.T.K, .int .i64 t.T.N, .slice a1 l1 c1, .slice a2 l2 c2, .slice a3 t.A.length c3] (.slice none 0 0) 0) := by
    refine ⟨?_, (hb2.block _ (by omega)).trans hbx, ⟨rfl, Or.inl ⟨rfl, rfl⟩⟩, by have := hb2.size; omega⟩
    rw [hO0, show c + 1 + ((0 : Nat) : Int) = c + 1 by omega]
    exact hN.bel hb2
  clear r0 r1 hb2 hbx
  go_wp2_with fail
  go_loopw [8, 23] (fun v y wr => ∃ j : Nat, y = .int .i64 j ∧ j ≤ t.A.length ∧ RbL p w' wr c O Q #[.int .i64 t.K, .int .i64 t.N, .string t.S, .string t.Z, .int .i64 t.T.K, .int .i64 t.T.N, .slice a1 l1 c1, .slice a2 l2 c2, .slice a3 t.A.length c3] v j) (fun _ y _ => t.A.length - (intOf y).toNat)
  case atStart => exact ⟨0, rfl, by omega, h0.out⟩
  case round =>
    obtain ⟨j, rfl, hj, hI⟩ := hrel
    obtain ⟨ao', cap', rfl⟩ := rb_form hI
    by_cases hlt : j < t.A.length
    · obtain ⟨_, k, hk, b', o', e1, m1, d1, e2, m2, d2, e3, m3, d3, rfl, hbB, h9, hcall⟩ := HQ.out.1 j hlt
      have hNr := hNx.trans hI.nx
      obtain ⟨x0, x1, x2, x3, x4, x5, x6, x7, x8⟩ := h9.world (hNr.kf.block b' (by omega) (by omega))
      have hba : Below wr.heap.size wr (wr.alloc (.cells #[.int .i64 t.A[j].K, .int .i64 t.A[j].N, .string t.A[j].S, .string t.A[j].Z, .int .i64 t.A[j].T.K, .int .i64 t.A[j].T.N, .slice e1 m1 d1, .slice e2 m2 d2, .slice e3 m3 d3] 35)) := (Below.refl _ _).alloc (Nat.le_refl _) _
      have hOj := hOm (j + 1) (by omega)
      have HC := hcall p _ (c + 1 + O j) hBp (hNr.bel hba) (by omega) (by omega)
      have HBA : Hid (Below _ _ _) := hba
      clear h9 hba hcall
      go_wp2_with fail
      refine HC.mono ?_
      rintro e w3 ⟨rfl, h3'⟩
      obtain ⟨g, cp, w4, hrun, hN4⟩ := rb_next hI hpl (by omega) HBA.out h3' hk (hfi j)
      have HR : Hid (_ = _) := hrun
      clear hrun
      rw [hfi j]
      go_wp2_with (at_builtin; refine list_run HR.out (by rfl) _ _ (by rfl) (by rfl) (by rfl) (by rfl) ?_)
      go_roundw
      case rel => exact ⟨j + 1, by go_num, by omega, hN4⟩
      case measure => simp [intOf]; omega
    · obtain rfl : j = t.A.length := by omega
      obtain ⟨x0, x1, x2, x3, x4, x5, x6, x7, x8⟩ := Nine.box hI.box
      have HP := rb_prt hI (fun i => .iface (f i).1 (f i).2) hfi
      have HM := made_any c t a1 l1 c1 a2 l2 c2 a3 t.A.length c3 ao' t.A.length cap' (fun i => (f i).1) (fun i => (f i).2) wr hK1 hK2 hKs HP
      go_wp2_with fail
      refine HM.mono ?_
      rintro e w5 ⟨rfl, hb5⟩
      go_wp2_with fail
      go_ret
      exact HF.out _ wr w5 rfl hI.nx hb5

theorem rb_any (l : Nat) : SaidRb l := by
  induction l with
  | zero => intro D d L B t a1 l1 c1 a2 l2 c2 a3 l3 c3 m w hB hf hm; simp [nodesM] at hm
  | succ l ih => exact rb_succ l ih

end Go.Proofs.Ytbdmdgghhefmcaa
