/-
  What is Pure, by a term's kinds; a map keyed by where a list of two begins: no walk.
-/
import Derived.Test.YtmjpckbpkpbkjaaAgM0
import Derived.Test.YtmjpckbpkpbkjaaIv
import Derived.LaidEqlPtr
import Derived.Laws.StructEq
import Derived.MapKept
namespace Go.Proofs.Ytmjpckbpkpbkjaa
open Go.RowKit
set_option linter.unusedVariables false
set_option linter.unusedSimpArgs false

def pureM : Tm → Bool
  | ⟨k, _, _, _, _, _, a⟩ => if k = 9 ∨ k = 13 then decide (a.length = 2) && (a.attach.map fun ⟨x, _⟩ => pureM x).all id else isVal k

theorem pureM_eq (t : Tm) : pureM t = if t.K = 9 ∨ t.K = 13 then decide (t.A.length = 2) && t.A.all pureM else isVal t.K := by
  cases t; rw [pureM]; simp [List.all_map, Function.comp_def]

theorem Try.stoodP : Try.prog.stoodInHeld 56 = false := by kernel_rfl
theorem Try.infoTmQ : (Try.prog.info? 35).map (fun i => i.size) = some 9 := by kernel_rfl
theorem Try.infoIntP : (Try.prog.info? 3).map (fun i => i.zero) = some (some (.int .i64 0)) := by kernel_rfl

/-- The key of a list of two at the head of block c. -/
def keyP (c : Nat) : Value := .agg #[.pointer (some ⟨c, 0, none⟩), .int .i64 2]

set_option maxRecDepth 100000 in
set_option maxHeartbeats 1000000 in
theorem keyP_other {w : World} {c c' : Nat} {cs cs' : Array Value} {t t' : TypeId} (hne : c ≠ c') (h : w.heap[c]? = some (.cells cs t (0, 0))) (h' : w.heap[c']? = some (.cells cs' t' (0, 0))) :
    (Op.equal 56 (keyP c) (keyP c')).run Try.prog w = .ok false w := by
  obtain ⟨i0, hi, hz⟩ := Option.map_eq_some_iff.1 Try.infoTmQ
  have hA : (⟨c, 0, none⟩ : Addr) ≠ ⟨c', 0, none⟩ := by intro e; exact hne (congrArg Addr.block e)
  have hs := run_sameAddr_other (P := Try.prog) w (a := ⟨c, 0, none⟩) (b := ⟨c', 0, none⟩) hA h h'
  have hp : ∀ d : Nat, (Op.equalIn (d + 1) 54 (.pointer (some ⟨c, 0, none⟩)) (.pointer (some ⟨c', 0, none⟩))).run Try.prog w = .ok false w := fun d => by
    simp [Op.equalIn, run_underlying Try.underlying54, sizeOf, typeInfo, hi, hz, hs]
  have hpart : ∀ a b : Value, (part 54 #[a, b] 0).run Try.prog w = .ok a w := fun a b => by
    simp [part, isAgg, run_underlying Try.underlying54]
  unfold Op.equal keyP
  show (Op.equalIn (9999 + 1) _ _ _).run _ _ = _
  rw [run_equalIn_struct w 9999 _ _ _ (by unfold Program.fieldsOf; rw [Try.underlying56]) Try.stoodP]
  simp [Program.fieldsOf, Try.underlying56, Op.eqFields, hpart, hp 9998]

set_option maxRecDepth 100000 in
set_option maxHeartbeats 1000000 in
theorem keyP_same {w : World} (c : Nat) :
    (Op.equal 56 (keyP c) (keyP c)).run Try.prog w = .ok true w := by
  obtain ⟨i0, hi, hz⟩ := Option.map_eq_some_iff.1 Try.infoTmQ
  have hp : ∀ d : Nat, (Op.equalIn (d + 1) 54 (.pointer (some ⟨c, 0, none⟩)) (.pointer (some ⟨c, 0, none⟩))).run Try.prog w = .ok true w := fun d => by
    simp [Op.equalIn, run_underlying Try.underlying54, sizeOf, typeInfo, hi, hz, run_sameAddr_same]
  have hn : ∀ d : Nat, (Op.equalIn (d + 1) 3 (.int .i64 2) (.int .i64 2)).run Try.prog w = .ok true w := fun d => by
    simp [Op.equalIn, run_underlying Try.underlying3]
  have hpart : ∀ a b : Value, (part 54 #[a, b] 0).run Try.prog w = .ok a w := fun a b => by
    simp [part, isAgg, run_underlying Try.underlying54]
  have hpart1 : ∀ a b : Value, (part 3 #[a, b] 1).run Try.prog w = .ok b w := fun a b => by
    simp [part, isAgg, run_underlying Try.underlying3]
  unfold Op.equal keyP
  show (Op.equalIn (9999 + 1) _ _ _).run _ _ = _
  rw [run_equalIn_struct w 9999 _ _ _ (by unfold Program.fieldsOf; rw [Try.underlying56]) Try.stoodP]
  simp [Program.fieldsOf, Try.underlying56, Op.eqFields, hpart, hpart1, hp 9998, hn 9998]

/-- What lies in the map's block: keys of the blocks in cs. -/
def KeysP (es : Array MapEntry) (cs : List Nat) : Prop := ∀ e ∈ es.toList, ∃ c, c ∈ cs ∧ e.key = keyP c

theorem findP {w : World} {c : Nat} {cs : List Nat} (hfr : ∀ x, x = c ∨ x ∈ cs → ∃ a t, w.heap[x]? = some (.cells a t (0, 0))) :
    ∀ (es : List MapEntry) (i : Nat), (∀ e ∈ es, ∃ c, c ∈ cs ∧ e.key = keyP c) →
      ((Instr.findAsking 56 (keyP c) es i).run Try.prog w = .ok none w) ∨ (c ∈ cs ∧ ∃ j e, (Instr.findAsking 56 (keyP c) es i).run Try.prog w = .ok (some (i + j, e.val)) w ∧ es[j]? = some e ∧ e.key = keyP c) := by
  intro es
  induction es with
  | nil => intro i _; left; simp [Instr.findAsking]
  | cons e es ih =>
    intro i h
    obtain ⟨c', hc', he⟩ := h e (by simp)
    by_cases hcc : c = c'
    · subst hcc
      right
      refine ⟨hc', 0, e, ?_, rfl, he⟩
      simp [Instr.findAsking, he, keyP_same]
    · obtain ⟨a, t, ha⟩ := hfr c (Or.inl rfl)
      obtain ⟨a', t', ha'⟩ := hfr c' (Or.inr hc')
      have hk := keyP_other hcc ha ha'
      rcases ih (i + 1) (fun e he => h e (by simp [he])) with h1 | ⟨h0, j, e1, h1, h2, h3⟩
      · left; simp [Instr.findAsking, he, hk, h1]
      · right
        refine ⟨h0, j + 1, e1, ?_, by simpa using h2, h3⟩
        simp [Instr.findAsking, he, hk, h1]; omega

theorem findP_key {w : World} {c : Nat} {cs : List Nat} (hfr : ∀ x, x = c ∨ x ∈ cs → ∃ a t, w.heap[x]? = some (.cells a t (0, 0))) {es : Array MapEntry} (hk : KeysP es cs) :
    ((Instr.findKey 56 (keyP c) es.toList).run Try.prog w = .ok none w) ∨ (c ∈ cs ∧ ∃ j e, (Instr.findKey 56 (keyP c) es.toList).run Try.prog w = .ok (some (j, e.val)) w ∧ es.toList[j]? = some e ∧ e.key = keyP c) := by
  have h2 := findP (w := w) (c := c) hfr es.toList 0 hk
  have hred : (Instr.findKey 56 (keyP c) es.toList).run Try.prog w = (Instr.findAsking 56 (keyP c) es.toList 0).run Try.prog w := by
    unfold Instr.findKey
    simp only [Sem.run_bind, run_underlying Try.underlying56, Result.andThen_ok]
    cases hes : es.toList with
    | nil => simp [Instr.findNow, Instr.findAsking]
    | cons e l => simp [Instr.findNow, Instr.sameNow]
  rw [hred]
  simpa using h2

set_option maxRecDepth 100000 in
theorem checkP {w : World} (b : Bool) (c : Nat) : (Instr.checkKey b 10000 56 (keyP c)).run Try.prog w = .ok () w := by
  have hp : ∀ (d : Nat) (v : Option Addr), (Instr.checkKey b (d + 1) 54 (.pointer v)).run Try.prog w = .ok () w := fun d v => by simp [Instr.checkKey, run_underlying Try.underlying54]
  have hn : ∀ (d : Nat) (v : Int), (Instr.checkKey b (d + 1) 3 (.int .i64 v)).run Try.prog w = .ok () w := fun d v => by simp [Instr.checkKey, run_underlying Try.underlying3]
  have hpart0 : ∀ a b : Value, (part 54 #[a, b] 0).run Try.prog w = .ok a w := fun a b => by simp [part, isAgg, run_underlying Try.underlying54]
  have hpart1 : ∀ a b : Value, (part 3 #[a, b] 1).run Try.prog w = .ok b w := fun a b => by simp [part, isAgg, run_underlying Try.underlying3]
  unfold keyP
  show (Instr.checkKey b (9999 + 1) _ _).run _ _ = _
  rw [Instr.checkKey]
  simp only [Sem.run_bind, run_underlying Try.underlying56, Result.andThen_ok]
  simp [hpart0, hpart1, hp 9998, hn 9998]

/-- A list that was not met is not in the map. -/
theorem lookupP {w : World} {mp c : Nat} {cs : List Nat} {es : Array MapEntry} {clock : Nat} (hm : w.heap[mp]? = some (.map es clock)) (hfr : ∀ x, x = c ∨ x ∈ cs → ∃ a t, w.heap[x]? = some (.cells a t (0, 0))) (hc : c ∉ cs) (hk : KeysP es cs) :
    (Instr.lookup 45 (.map (some mp)) (keyP c) false).run Try.prog w = .ok (.int .i64 0) w := by
  have h1 := (findP_key (w := w) hfr hk).resolve_right (fun h => hc h.1)
  have h2 := checkP (w := w) es.isEmpty c
  obtain ⟨i1, hi1, hz1⟩ := Option.map_eq_some_iff.1 Try.infoIntP
  have hz : (zeroValue 3).run Try.prog w = .ok (.int .i64 0) w := by
    simp [zeroValue, typeInfo, hi1, hz1]
  have hg := MapKept.run_getObj_map (P := Try.prog) hm
  unfold Instr.lookup
  simp [run_underlying Try.underlying45, hg, h1, h2, hz]

/-- Whatever is laid at a key of cs: the map's keys are of cs still. -/
theorem updateP {w : World} {mp c : Nat} {cs : List Nat} {es : Array MapEntry} {clock : Nat} (v : Value) (hm : w.heap[mp]? = some (.map es clock)) (hfr : ∀ x, x = c ∨ x ∈ cs → ∃ a t, w.heap[x]? = some (.cells a t (0, 0))) (hk : KeysP es cs) :
    ∃ es' clock', (Instr.mapUpdate 45 (.map (some mp)) (keyP c) v).run Try.prog w = .ok () { w with heap := w.heap.setIfInBounds mp (.map es' clock') } ∧ KeysP es' (c :: cs) := by
  have h2 := checkP (w := w) false c
  have hg := MapKept.run_getObj_map (P := Try.prog) hm
  have hs := fun o => MapKept.run_setObj_map (P := Try.prog) o hm
  rcases findP_key (w := w) (c := c) hfr hk with h1 | ⟨_, j, e, h1, he, hek⟩
  · refine ⟨es.push { key := keyP c, val := v, born := clock }, clock + 1, ?_, ?_⟩
    · unfold Instr.mapUpdate
      simp [run_underlying Try.underlying45, hg, hs, h1, h2]
    · intro x hx
      rw [Array.toList_push, List.mem_append] at hx
      rcases hx with hx | hx
      · obtain ⟨c', h3, h4⟩ := hk x hx
        exact ⟨c', List.mem_cons_of_mem _ h3, h4⟩
      · simp at hx; subst hx; exact ⟨c, by simp, rfl⟩
  · have hst : (Instr.keyThatStays (keyP c) (keyP c)).run Try.prog w = .ok (keyP c) w := by
      unfold Instr.keyThatStays keyP
      simp [Instr.sameBits]
    have hje : es[j]? = some e := by rw [← Array.getElem?_toList]; exact he
    refine ⟨es.modify j (fun e => { e with key := keyP c, val := v }), clock, ?_, ?_⟩
    · unfold Instr.mapUpdate
      simp [run_underlying Try.underlying45, hg, hs, h1, h2, hje, hek, hst]
    · have hks := MapKept.modify_keys (es := es) j (fun e => { e with key := keyP c, val := v }) (fun e0 h0 => by rw [hje] at h0; cases h0; exact hek.symm)
      intro x hx
      have : x.key ∈ (es.modify j (fun e => { e with key := keyP c, val := v })).toList.map (·.key) := List.mem_map.2 ⟨x, hx, rfl⟩
      rw [hks] at this
      obtain ⟨y, hy, hyx⟩ := List.mem_map.1 this
      obtain ⟨c', h3, h4⟩ := hk y hy
      exact ⟨c', List.mem_cons_of_mem _ h3, by rw [← hyx]; exact h4⟩

end Go.Proofs.Ytmjpckbpkpbkjaa
