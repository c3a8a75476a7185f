/-
  What 'ask' comes to, of any term; the steps of the way: no walk of its own.
-/
import Derived.Test.YtmjpckbpkpbkjaaPu3
namespace Go.Proofs.Ytmjpckbpkpbkjaa
open Go.RowKit
set_option linter.unusedVariables false
set_option linter.unusedSimpArgs false

theorem isVal_not {k : Int} (h : isVal k = true) : ¬ (k = 9 ∨ k = 13) := by
  simp only [isVal, Bool.or_eq_true, beq_iff_eq] at h
  omega

theorem two_sum {l : List Tm} (h : l.length = 2) : 1 + (l.map fun t => 1 + 2 * cntM t).sum + 1 = 2 * cntMS l := by
  match l, h with
  | [x, y], _ => simp [cntMS]; omega

theorem ask_any (D d : Nat) (t : Tm) (a1 : Option Addr) (l1 c1 : Nat) (a2 : Option Addr) (l2 c2 : Nat) (a3 : Option Addr) (l3 c3 : Nat) (bs : List Nat) (w wr : World) (wp mp : Nat) (v : Value) (fs : List Fr) (cs : List Nat) (hD : PDyn w wr wp mp v fs cs) (hS : PSt w D d fs cs)
    (hI : FldO w D (OwM w D d) t a1 l1 a2 l2 a3 l3 bs) (hnd : (bs ++ (fs.flatMap Fr.left ++ cs)).Nodup) (hbd : ∀ b ∈ bs, b < w.heap.size) (hsz : fs.length ≤ 2097153) :
    Calls Try.prog 16 #[.pointer (some ⟨wp, 0, none⟩), .agg #[.int .i64 t.K, .int .i64 t.N, .string t.S, .string t.Z, .int .i64 t.T.K, .int .i64 t.T.N, .slice a1 l1 c1, .slice a2 l2 c2, .slice a3 l3 c3]] wr fun e w' => (pureM t = false ∧ e = .returned (.bool false) ∧ Below w.heap.size w w') ∨ (e = .returned (.bool true) ∧ ∃ v' fs' cs', PDyn w w' wp mp v' fs' cs' ∧ PSt w D d fs' cs' ∧ fs'.all Fr.ok = (pureM t && fs.all Fr.ok) ∧ wsum fs' ≤ wsum fs + 2 * cntM t) := by
  have hwz := hD.bel.size
  have hfm : Fm 0 wr.heap.size wr D d t a1 l1 a2 l2 a3 l3 := FmO.fm ⟨bs, FldO.keep (fun b hb => hD.bel.block b (hbd b hb)) hI, (List.nodup_append.1 hnd).1, fun b hb => ⟨Nat.zero_le _, Nat.lt_of_lt_of_le (hbd b hb) hwz⟩⟩
  cases hv : isVal t.K
  · by_cases hq : (t.K = 9 ∨ t.K = 13) ∧ l3 = 2
    · obtain ⟨hp, rfl⟩ := hq
      obtain ⟨p1, p2, p3, hbs, _, _, _, _, hA⟩ := hI
      cases d with
      | zero => obtain ⟨h, _⟩ := hA; omega
      | succ d =>
        rcases hA with ⟨h, _⟩ | ⟨g, cs0, bss, ha3, hl, hm, hg, hc, hbl, hp3, hE⟩
        · omega
        · subst ha3
          subst hp3
          subst hbs
          have hgc : g ∉ cs := fun h => by
            have := (List.nodup_append.1 hnd).2.2 g (by simp) g (by simp [h])
            exact this rfl
          refine (ask_pair D (d + 1) t a1 l1 c1 a2 l2 c2 g c3 w wr wp mp v fs cs hD hfm hv hp hgc (fun x hx => ?_) hsz t.A bss).mono ?_
          · rcases hx with rfl | hx
            · exact ⟨_, _, hg⟩
            · exact hS.fro x hx
          rintro e w' ⟨rfl, v', hD'⟩
          have hlen : t.A.length = 2 := hl.symm
          refine Or.inr ⟨rfl, v', _, _, hD', ⟨?_, ?_, ?_, ?_, ?_⟩, ?_, ?_⟩
          · intro f hf
            rcases List.mem_append.1 hf with hf | hf
            · exact hS.ok f hf
            · simp only [List.mem_singleton] at hf
              subst hf
              refine ⟨hlen, by simp only []; omega, Nat.zero_le _, fun i hi hi' => ?_⟩
              obtain ⟨b1, m1, e1, b2, m2, e2, b3, m3, e3, h9, hfl⟩ := hE i hi hi'
              exact ⟨b1, m1, e1, b2, m2, e2, b3, m3, e3, h9, hfl.map (fun _ _ _ _ _ hr => hr) (fun _ _ _ _ _ hr => hr.deeper (Nat.le_succ _))⟩
          · intro f hf
            rcases List.mem_append.1 hf with hf | hf
            · exact List.mem_cons_of_mem _ (hS.cin f hf)
            · simp only [List.mem_singleton] at hf
              subst hf
              simp
          · have h1 : ((g :: bss.flatten) ++ (fs.flatMap Fr.left ++ cs)).Nodup := by
              rw [List.append_assoc] at hnd
              exact (List.nodup_append.1 hnd).2.1
            refine (List.Perm.nodup_iff ?_).1 h1
            rw [List.perm_iff_count]
            intro a
            simp only [List.flatMap_append, List.flatMap_cons, List.flatMap_nil, List.append_nil, List.count_append, List.count_cons, Fr.left, List.drop_zero]
            omega
          · intro b hb
            simp only [List.flatMap_append, List.flatMap_cons, List.flatMap_nil, List.append_nil, List.mem_append, List.mem_cons, Fr.left, List.drop_zero] at hb
            rcases hb with (hb | hb) | rfl | hb
            · exact hS.bnd b (by simp only [List.mem_append]; exact Or.inl hb)
            · exact hbd b (by simp only [List.mem_append, List.mem_cons]; exact Or.inr (Or.inr hb))
            · exact hbd b (by simp)
            · exact hS.bnd b (by simp [hb])
          · intro b hb
            rcases List.mem_cons.1 hb with rfl | hb
            · exact ⟨_, _, hg⟩
            · exact hS.fro b hb
          · rw [pureM_eq, if_pos hp]
            simp only [List.all_append, List.all_cons, List.all_nil, Bool.and_true, Fr.ok, List.drop_zero, hlen, decide_true, Bool.true_and]
            rw [Bool.and_comm]
          · rw [wsum_append]
            have h1 := two_sum hlen
            have h2 := cntM_eq t
            have h3 : wsum [(⟨g, c3, t.A, bss, 0⟩ : Fr)] = 1 + (t.A.map fun t => 1 + 2 * cntM t).sum := by simp [wsum, Fr.wt]
            omega
    · refine (ask_no D d t _ _ _ _ _ _ _ _ _ wr wp hfm hv hq).mono ?_
      rintro e w' ⟨rfl, hb⟩
      refine Or.inl ⟨?_, rfl, hD.bel.trans (hb.mono hwz)⟩
      rw [pureM_eq]
      split
      · rename_i h
        have hl := hfm.m.len.1
        have : ¬ t.A.length = 2 := fun e => hq ⟨h, by omega⟩
        simp [this]
      · exact hv
  · refine (ask_val D d t _ _ _ _ _ _ _ _ _ wr wp hfm hv).mono ?_
    rintro e w' ⟨rfl, hb⟩
    refine Or.inr ⟨rfl, v, fs, cs, p_below hD hb, hS, ?_, by omega⟩
    rw [pureM_eq, if_neg (isVal_not hv), hv, Bool.true_and]

/-- The next part of the last list that is open: what is left without it. -/
theorem st_next {w : World} {D d : Nat} {init : List Fr} {f : Fr} {cs : List Nat} (h : PSt w D d (init ++ [f]) cs) (hn : f.n < 2) (hi : f.n < f.ts.length) (hi' : f.n < f.bss.length) :
    PSt w D d (init ++ [f.next]) cs ∧ (f.bss[f.n] ++ ((init ++ [f.next]).flatMap Fr.left ++ cs)).Nodup ∧ (∀ b ∈ f.bss[f.n], b < w.heap.size) ∧ ((init ++ [f]).all Fr.ok = (pureM f.ts[f.n] && (init ++ [f.next]).all Fr.ok)) ∧ wsum (init ++ [f]) = wsum (init ++ [f.next]) + 1 + 2 * cntM f.ts[f.n] := by
  have hleft : f.left = f.bss[f.n] ++ f.next.left := by
    unfold Fr.left Fr.next
    simp only []
    rw [List.drop_eq_getElem_cons hi', List.flatten_cons]
  have hnd : (f.bss[f.n] ++ ((init ++ [f.next]).flatMap Fr.left ++ cs)).Nodup := by
    refine (List.Perm.nodup_iff ?_).1 h.nodup
    rw [List.perm_iff_count]
    intro a
    simp only [List.flatMap_append, List.flatMap_cons, List.flatMap_nil, List.append_nil, List.count_append, hleft]
    omega
  have hmem : ∀ b, b ∈ f.bss[f.n] ++ ((init ++ [f.next]).flatMap Fr.left ++ cs) → b < w.heap.size := by
    intro b hb
    apply h.bnd b
    simp only [List.flatMap_append, List.flatMap_cons, List.flatMap_nil, List.append_nil, List.mem_append, hleft] at hb ⊢
    rcases hb with h1 | (h1 | h1) | h1
    · exact Or.inl (Or.inr (Or.inl h1))
    · exact Or.inl (Or.inl h1)
    · exact Or.inl (Or.inr (Or.inr h1))
    · exact Or.inr h1
  have hf := h.ok f (by simp)
  refine ⟨⟨?_, ?_, (List.nodup_append.1 hnd).2.1, fun b hb => hmem b (List.mem_append_right _ hb), h.fro⟩, hnd, fun b hb => hmem b (List.mem_append_left _ hb), ?_, ?_⟩
  · intro x hx
    rcases List.mem_append.1 hx with hx | hx
    · exact h.ok x (List.mem_append_left _ hx)
    · simp only [List.mem_singleton] at hx
      subst hx
      exact ⟨hf.lt, hf.lb, hn, hf.it⟩
  · intro x hx
    rcases List.mem_append.1 hx with hx | hx
    · exact h.cin x (List.mem_append_left _ hx)
    · simp only [List.mem_singleton] at hx
      subst hx
      exact h.cin f (by simp)
  · have e : f.ok = (pureM f.ts[f.n] && f.next.ok) := by
      unfold Fr.ok Fr.next
      simp only []
      rw [List.drop_eq_getElem_cons hi, List.all_cons]
    simp only [List.all_append, List.all_cons, List.all_nil, Bool.and_true, e]
    cases init.all Fr.ok <;> cases pureM f.ts[f.n] <;> rfl
  · rw [wsum_append, wsum_append]
    have e : f.wt = f.next.wt + 1 + 2 * cntM f.ts[f.n] := by
      unfold Fr.wt Fr.next
      simp only []
      rw [List.drop_eq_getElem_cons hi, List.map_cons, List.sum_cons]
      omega
    simp only [wsum, List.map_cons, List.map_nil, List.sum_cons, List.sum_nil, e]
    omega

/-- The last list that is open, all of whose parts were asked, is left. -/
theorem st_pop {w : World} {D d : Nat} {init : List Fr} {f : Fr} {cs : List Nat} (h : PSt w D d (init ++ [f]) cs) (hn : f.n = 2) :
    PSt w D d init cs ∧ (init ++ [f]).all Fr.ok = init.all Fr.ok ∧ wsum init < wsum (init ++ [f]) := by
  have hf := h.ok f (by simp)
  have hleft : f.left = [] := by
    unfold Fr.left
    rw [List.drop_of_length_le (by have := hf.lb; omega)]; rfl
  have hok : f.ok = true := by
    unfold Fr.ok
    rw [List.drop_of_length_le (by have := hf.lt; omega)]; rfl
  refine ⟨⟨fun x hx => h.ok x (List.mem_append_left _ hx), fun x hx => h.cin x (List.mem_append_left _ hx), ?_, ?_, h.fro⟩, ?_, ?_⟩
  · have := h.nodup
    simpa [List.flatMap_append, hleft] using this
  · intro b hb
    exact h.bnd b (by simpa [List.flatMap_append, hleft] using hb)
  · simp [hok]
  · rw [wsum_append]; simp [wsum, Fr.wt]; omega

end Go.Proofs.Ytmjpckbpkpbkjaa
