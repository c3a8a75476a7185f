/-
  A set of keys of two addresses and a number, each with an address of a block of its own: a new one is not found, and is laid behind the others.
-/
import Derived.Test.YtikfbgkjgbdoiaaSn
import Derived.LaidEqlPtr
import Derived.Laws.StructEq
import Derived.MapKept
import Derived.Test.YtikfbgkjgbdoiaaTo2
namespace Go.Proofs.Ytikfbgkjgbdoiaa
open Go.RowKit
set_option linter.unusedVariables false
set_option linter.unusedSimpArgs false

theorem Try.stood : Try.prog.stoodInHeld 185 = false := by kernel_rfl
theorem Try.infoTyP : (Try.prog.info? 32).map (fun i => i.size) = some 3 := by kernel_rfl

theorem Try.infoU : (Try.prog.info? 116).map (fun i => i.zero) = some (some (.agg #[])) := by kernel_rfl

/-- The key of a block c. -/
def keyV (c : Nat) (q : Option Addr) (n : Int) : Value := .agg #[.pointer (some ⟨c, 0, none⟩), .pointer q, .int .i64 n]

set_option maxRecDepth 100000 in
set_option maxHeartbeats 1000000 in
theorem key_other {w : World} {c c' : Nat} {q q' : Option Addr} {n n' : Int} {cs cs' : Array Value} {t t' : TypeId} (hne : c ≠ c') (h : w.heap[c]? = some (.cells cs t (0, 0))) (h' : w.heap[c']? = some (.cells cs' t' (0, 0))) :
    (Op.equal 185 (keyV c q n) (keyV c' q' n')).run Try.prog w = .ok false w := by
  obtain ⟨i0, hi, hz⟩ := Option.map_eq_some_iff.1 Try.infoTyP
  have hA : (⟨c, 0, none⟩ : Addr) ≠ ⟨c', 0, none⟩ := by intro e; exact hne (congrArg Addr.block e)
  have hs := run_sameAddr_other (P := Try.prog) w (a := ⟨c, 0, none⟩) (b := ⟨c', 0, none⟩) hA h h'
  have hp : ∀ d : Nat, (Op.equalIn (d + 1) 183 (.pointer (some ⟨c, 0, none⟩)) (.pointer (some ⟨c', 0, none⟩))).run Try.prog w = .ok false w := fun d => by
    simp [Op.equalIn, run_underlying Try.underlying183, sizeOf, typeInfo, hi, hz, hs]
  have hpart : ∀ a b d : Value, (part 183 #[a, b, d] 0).run Try.prog w = .ok a w := fun a b d => by
    simp [part, isAgg, run_underlying Try.underlying183]
  unfold Op.equal keyV
  show (Op.equalIn (9999 + 1) _ _ _).run _ _ = _
  rw [run_equalIn_struct w 9999 _ _ _ (by unfold Program.fieldsOf; rw [Try.underlying185]) Try.stood]
  simp [Program.fieldsOf, Try.underlying185, Op.eqFields, hpart, hp 9998]

/-- What lies in the map's block: keys of the blocks in cs. -/
def KeysIn (es : Array MapEntry) (cs : List Nat) : Prop := ∀ e ∈ es.toList, ∃ c q n, c ∈ cs ∧ e.key = keyV c q n

theorem find_none {w : World} {c : Nat} {q : Option Addr} {n : Int} {cs : List Nat} (hfr : ∀ x, x = c ∨ x ∈ cs → ∃ a t, w.heap[x]? = some (.cells a t (0, 0))) (hc : c ∉ cs) :
    ∀ (es : List MapEntry) (i : Nat), (∀ e ∈ es, ∃ c q n, c ∈ cs ∧ e.key = keyV c q n) → (Instr.findAsking 185 (keyV c q n) es i).run Try.prog w = .ok none w := by
  intro es
  induction es with
  | nil => intro i _; simp [Instr.findAsking]
  | cons e es ih =>
    intro i h
    obtain ⟨c', q', n', hc', he⟩ := h e (by simp)
    obtain ⟨a, t, ha⟩ := hfr c (Or.inl rfl)
    obtain ⟨a', t', ha'⟩ := hfr c' (Or.inr hc')
    have hne : c ≠ c' := fun e => hc (e ▸ hc')
    have hk := key_other (q := q) (n := n) (q' := q') (n' := n') hne ha ha'
    simp [Instr.findAsking, he, hk, ih (i + 1) (fun e he => h e (by simp [he]))]

theorem find_key {w : World} {c : Nat} {q : Option Addr} {n : Int} {cs : List Nat} (hfr : ∀ x, x = c ∨ x ∈ cs → ∃ a t, w.heap[x]? = some (.cells a t (0, 0))) (hc : c ∉ cs) {es : Array MapEntry} (hk : KeysIn es cs) :
    (Instr.findKey 185 (keyV c q n) es.toList).run Try.prog w = .ok none w := by
  have h2 := find_none (w := w) (q := q) (n := n) hfr hc es.toList 0 hk
  unfold Instr.findKey
  simp only [Sem.run_bind, run_underlying Try.underlying185, Result.andThen_ok]
  cases hes : es.toList with
  | nil => simp [Instr.findNow]
  | cons e l =>
    rw [hes] at h2
    simp [Instr.findNow, Instr.sameNow, h2]

set_option maxRecDepth 100000 in
theorem check_key {w : World} (b : Bool) (c : Nat) (q : Option Addr) (n : Int) : (Instr.checkKey b 10000 185 (keyV c q n)).run Try.prog w = .ok () w := by
  have hp : ∀ (d : Nat) (v : Option Addr), (Instr.checkKey b (d + 1) 183 (.pointer v)).run Try.prog w = .ok () w := fun d v => by simp [Instr.checkKey, run_underlying Try.underlying183]
  have hn : ∀ (d : Nat) (v : Int), (Instr.checkKey b (d + 1) 3 (.int .i64 v)).run Try.prog w = .ok () w := fun d v => by simp [Instr.checkKey, run_underlying Try.underlying3]
  have hpart0 : ∀ a b d : Value, (part 183 #[a, b, d] 0).run Try.prog w = .ok a w := fun a b d => by simp [part, isAgg, run_underlying Try.underlying183]
  have hpart1 : ∀ a b d : Value, (part 183 #[a, b, d] 1).run Try.prog w = .ok b w := fun a b d => by simp [part, isAgg, run_underlying Try.underlying183]
  have hpart2 : ∀ a b d : Value, (part 3 #[a, b, d] 2).run Try.prog w = .ok d w := fun a b d => by simp [part, isAgg, run_underlying Try.underlying3]
  unfold keyV
  show (Instr.checkKey b (9999 + 1) _ _).run _ _ = _
  rw [Instr.checkKey]
  simp only [Sem.run_bind, run_underlying Try.underlying185, Result.andThen_ok]
  simp [hpart0, hpart1, hpart2, hp 9998, hn 9998]

theorem lookup_new {w : World} {mp c : Nat} {q : Option Addr} {n : Int} {cs : List Nat} {es : Array MapEntry} {clock : Nat} (hm : w.heap[mp]? = some (.map es clock)) (hfr : ∀ x, x = c ∨ x ∈ cs → ∃ a t, w.heap[x]? = some (.cells a t (0, 0))) (hc : c ∉ cs) (hk : KeysIn es cs) :
    (Instr.lookup 182 (.map (some mp)) (keyV c q n) true).run Try.prog w = .ok (.tuple #[.agg #[], .bool false]) w := by
  have h1 := find_key (w := w) (q := q) (n := n) hfr hc hk
  have h2 := check_key (w := w) es.isEmpty c q n
  obtain ⟨i1, hi1, hz1⟩ := Option.map_eq_some_iff.1 Try.infoU
  have hz : (zeroValue 116).run Try.prog w = .ok (.agg #[]) w := by
    simp [zeroValue, typeInfo, hi1, hz1]
  have hg := MapKept.run_getObj_map (P := Try.prog) hm
  unfold Instr.lookup
  simp [run_underlying Try.underlying182, hg, h1, h2, hz]

theorem update_new {w : World} {mp c : Nat} {q : Option Addr} {n : Int} {cs : List Nat} {es : Array MapEntry} {clock : Nat} (hm : w.heap[mp]? = some (.map es clock)) (hfr : ∀ x, x = c ∨ x ∈ cs → ∃ a t, w.heap[x]? = some (.cells a t (0, 0))) (hc : c ∉ cs) (hk : KeysIn es cs) :
    (Instr.mapUpdate 182 (.map (some mp)) (keyV c q n) (.agg #[])).run Try.prog w = .ok () { w with heap := w.heap.setIfInBounds mp (.map (es.push { key := keyV c q n, val := .agg #[], born := clock }) (clock + 1)) } := by
  have h1 := find_key (w := w) (q := q) (n := n) hfr hc hk
  have h2 := check_key (w := w) false c q n
  have hg := MapKept.run_getObj_map (P := Try.prog) hm
  have hs := fun o => MapKept.run_setObj_map (P := Try.prog) o hm
  unfold Instr.mapUpdate
  simp [run_underlying Try.underlying182, hg, hs, h1, h2]

end Go.Proofs.Ytikfbgkjgbdoiaa
