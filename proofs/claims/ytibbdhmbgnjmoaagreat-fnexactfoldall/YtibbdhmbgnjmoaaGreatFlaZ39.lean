/-
  A set of keys of two addresses and a number, each with an address of a block of its own: a new one is not found, and is laid behind the others.
-/
import Derived.Test.YtibbdhmbgnjmoaaGreatFlaZ38
import Derived.LaidEqlPtr
import Derived.Laws.StructEq
import Derived.MapKept
import Derived.Test.YtibbdhmbgnjmoaaGreatFlaZ3
import Derived.Test.YtibbdhmbgnjmoaaGreatFlaZ14
import Derived.Test.YtibbdhmbgnjmoaaGreatFlaOw
namespace Go.Proofs.YtibbdhmbgnjmoaaGreat
open Go.RowKit
set_option linter.unusedVariables false
set_option linter.unusedSimpArgs false

theorem Tryz.stoodM : Tryz.prog.stoodInHeld 119 = false := by kernel_rfl
theorem Tryz.infoTmP : (Tryz.prog.info? 34).map (fun i => i.size) = some 9 := by kernel_rfl

theorem Tryz.infoUM : (Tryz.prog.info? 120).map (fun i => i.zero) = some (some (.agg #[])) := by kernel_rfl

/-- The key of a block c. -/
def keyVM (c : Nat) (q : Option Addr) (n : Int) : Value := .agg #[.pointer (some ⟨c, 0, none⟩), .pointer q, .int .i64 n]

set_option maxRecDepth 100000 in
set_option maxHeartbeats 1000000 in
theorem keyM_other {w : World} {c c' : Nat} {q q' : Option Addr} {n n' : Int} {cs cs' : Array Value} {t t' : TypeId} (hne : c ≠ c') (h : w.heap[c]? = some (.cells cs t (0, 0))) (h' : w.heap[c']? = some (.cells cs' t' (0, 0))) :
    (Op.equal 119 (keyVM c q n) (keyVM c' q' n')).run Tryz.prog w = .ok false w := by
  obtain ⟨i0, hi, hz⟩ := Option.map_eq_some_iff.1 Tryz.infoTmP
  have hA : (⟨c, 0, none⟩ : Addr) ≠ ⟨c', 0, none⟩ := by intro e; exact hne (congrArg Addr.block e)
  have hs := run_sameAddr_other (P := Tryz.prog) w (a := ⟨c, 0, none⟩) (b := ⟨c', 0, none⟩) hA h h'
  have hp : ∀ d : Nat, (Op.equalIn (d + 1) 67 (.pointer (some ⟨c, 0, none⟩)) (.pointer (some ⟨c', 0, none⟩))).run Tryz.prog w = .ok false w := fun d => by
    simp [Op.equalIn, run_underlying Tryz.underlying67, sizeOf, typeInfo, hi, hz, hs]
  have hpart : ∀ a b d : Value, (part 67 #[a, b, d] 0).run Tryz.prog w = .ok a w := fun a b d => by
    simp [part, isAgg, run_underlying Tryz.underlying67]
  unfold Op.equal keyVM
  show (Op.equalIn (9999 + 1) _ _ _).run _ _ = _
  rw [run_equalIn_struct w 9999 _ _ _ (by unfold Program.fieldsOf; rw [Tryz.underlying119]) Tryz.stoodM]
  simp [Program.fieldsOf, Tryz.underlying119, Op.eqFields, hpart, hp 9998]

/-- What lies in the map's block: keys of the blocks in cs. -/
def KeysInM (es : Array MapEntry) (cs : List Nat) : Prop := ∀ e ∈ es.toList, ∃ c q n, c ∈ cs ∧ e.key = keyVM c q n

theorem findM_none {w : World} {c : Nat} {q : Option Addr} {n : Int} {cs : List Nat} (hfr : ∀ x, x = c ∨ x ∈ cs → ∃ a t, w.heap[x]? = some (.cells a t (0, 0))) (hc : c ∉ cs) :
    ∀ (es : List MapEntry) (i : Nat), (∀ e ∈ es, ∃ c q n, c ∈ cs ∧ e.key = keyVM c q n) → (Instr.findAsking 119 (keyVM c q n) es i).run Tryz.prog w = .ok none w := by
  intro es
  induction es with
  | nil => intro i _; simp [Instr.findAsking]
  | cons e es ih =>
    intro i h
    obtain ⟨c', q', n', hc', he⟩ := h e (by simp)
    obtain ⟨a, t, ha⟩ := hfr c (Or.inl rfl)
    obtain ⟨a', t', ha'⟩ := hfr c' (Or.inr hc')
    have hne : c ≠ c' := fun e => hc (e ▸ hc')
    have hk := keyM_other (q := q) (n := n) (q' := q') (n' := n') hne ha ha'
    simp [Instr.findAsking, he, hk, ih (i + 1) (fun e he => h e (by simp [he]))]

theorem findM_key {w : World} {c : Nat} {q : Option Addr} {n : Int} {cs : List Nat} (hfr : ∀ x, x = c ∨ x ∈ cs → ∃ a t, w.heap[x]? = some (.cells a t (0, 0))) (hc : c ∉ cs) {es : Array MapEntry} (hk : KeysInM es cs) :
    (Instr.findKey 119 (keyVM c q n) es.toList).run Tryz.prog w = .ok none w := by
  have h2 := findM_none (w := w) (q := q) (n := n) hfr hc es.toList 0 hk
  unfold Instr.findKey
  simp only [Sem.run_bind, run_underlying Tryz.underlying119, Result.andThen_ok]
  cases hes : es.toList with
  | nil => simp [Instr.findNow]
  | cons e l =>
    rw [hes] at h2
    simp [Instr.findNow, Instr.sameNow, h2]

set_option maxRecDepth 100000 in
theorem checkM_key {w : World} (b : Bool) (c : Nat) (q : Option Addr) (n : Int) : (Instr.checkKey b 10000 119 (keyVM c q n)).run Tryz.prog w = .ok () w := by
  have hp : ∀ (d : Nat) (v : Option Addr), (Instr.checkKey b (d + 1) 67 (.pointer v)).run Tryz.prog w = .ok () w := fun d v => by simp [Instr.checkKey, run_underlying Tryz.underlying67]
  have hn : ∀ (d : Nat) (v : Int), (Instr.checkKey b (d + 1) 3 (.int .i64 v)).run Tryz.prog w = .ok () w := fun d v => by simp [Instr.checkKey, run_underlying Tryz.underlying3]
  have hpart0 : ∀ a b d : Value, (part 67 #[a, b, d] 0).run Tryz.prog w = .ok a w := fun a b d => by simp [part, isAgg, run_underlying Tryz.underlying67]
  have hpart1 : ∀ a b d : Value, (part 67 #[a, b, d] 1).run Tryz.prog w = .ok b w := fun a b d => by simp [part, isAgg, run_underlying Tryz.underlying67]
  have hpart2 : ∀ a b d : Value, (part 3 #[a, b, d] 2).run Tryz.prog w = .ok d w := fun a b d => by simp [part, isAgg, run_underlying Tryz.underlying3]
  unfold keyVM
  show (Instr.checkKey b (9999 + 1) _ _).run _ _ = _
  rw [Instr.checkKey]
  simp only [Sem.run_bind, run_underlying Tryz.underlying119, Result.andThen_ok]
  simp [hpart0, hpart1, hpart2, hp 9998, hn 9998]

theorem lookupM_new {w : World} {mp c : Nat} {q : Option Addr} {n : Int} {cs : List Nat} {es : Array MapEntry} {clock : Nat} (hm : w.heap[mp]? = some (.map es clock)) (hfr : ∀ x, x = c ∨ x ∈ cs → ∃ a t, w.heap[x]? = some (.cells a t (0, 0))) (hc : c ∉ cs) (hk : KeysInM es cs) :
    (Instr.lookup 112 (.map (some mp)) (keyVM c q n) true).run Tryz.prog w = .ok (.tuple #[.agg #[], .bool false]) w := by
  have h1 := findM_key (w := w) (q := q) (n := n) hfr hc hk
  have h2 := checkM_key (w := w) es.isEmpty c q n
  obtain ⟨i1, hi1, hz1⟩ := Option.map_eq_some_iff.1 Tryz.infoUM
  have hz : (zeroValue 120).run Tryz.prog w = .ok (.agg #[]) w := by
    simp [zeroValue, typeInfo, hi1, hz1]
  have hg := MapKept.run_getObj_map (P := Tryz.prog) hm
  unfold Instr.lookup
  simp [run_underlying Tryz.underlying112, hg, h1, h2, hz]

theorem updateM_new {w : World} {mp c : Nat} {q : Option Addr} {n : Int} {cs : List Nat} {es : Array MapEntry} {clock : Nat} (hm : w.heap[mp]? = some (.map es clock)) (hfr : ∀ x, x = c ∨ x ∈ cs → ∃ a t, w.heap[x]? = some (.cells a t (0, 0))) (hc : c ∉ cs) (hk : KeysInM es cs) :
    (Instr.mapUpdate 112 (.map (some mp)) (keyVM c q n) (.agg #[])).run Tryz.prog w = .ok () { w with heap := w.heap.setIfInBounds mp (.map (es.push { key := keyVM c q n, val := .agg #[], born := clock }) (clock + 1)) } := by
  have h1 := findM_key (w := w) (q := q) (n := n) hfr hc hk
  have h2 := checkM_key (w := w) false c q n
  have hg := MapKept.run_getObj_map (P := Tryz.prog) hm
  have hs := fun o => MapKept.run_setObj_map (P := Tryz.prog) o hm
  unfold Instr.mapUpdate
  simp [run_underlying Tryz.underlying112, hg, hs, h1, h2]

end Go.Proofs.YtibbdhmbgnjmoaaGreat

/-
  What the program's 'sameRightTy' comes to.
-/
namespace Go.Proofs.YtibbdhmbgnjmoaaGreat
open Go.RowKit
set_option linter.unusedVariables false
set_option linter.unusedSimpArgs false

def SaidRt (d : Nat) : Prop := ∀ (L B L' B' : Nat) (k n : Int) (ao : Option Addr) (len cap : Nat) (ts : List Tr) (k' n' : Int) (ao' : Option Addr) (len' cap' : Nat) (ts' : List Tr) (b : Bool) (w : World), B ≤ w.heap.size → B' ≤ w.heap.size → Hs L B w d ao len ts → Hs L' B' w d ao' len' ts' →
    (b = true ↔ (⟨k, n, ts⟩ : Tr) = ⟨k', n', ts'⟩) →
    Calls Tryz.prog 79 #[.agg #[.int .i64 k, .int .i64 n, .slice ao len cap], .agg #[.int .i64 k', .int .i64 n', .slice ao' len' cap']] w fun e w' => e = .returned (.bool b) ∧ Below w.heap.size w w'

set_option maxRecDepth 100000 in
set_option maxHeartbeats 4000000 in
theorem rt_step (d : Nat) (IH : 0 < d → SaidRt (d - 1)) : SaidRt d := by
  intro L B L' B' k n ao len cap ts k' n' ao' len' cap' ts' b w hB hB' hs hs' hb
  have hl := hs.len.2
  have hl' := hs'.len.2
  have HL : Hid (len = ts.length) := hs.len.1
  have HL' : Hid (len' = ts'.length) := hs'.len.1
  have HB : Hid (b = true ↔ (⟨k, n, ts⟩ : Tr) = ⟨k', n', ts'⟩) := hb
  clear hb
  obtain ⟨X, hX⟩ : ∃ X, X = ((w.alloc (.cells #[.int .i64 k, .int .i64 n, .slice ao len cap] 31)).alloc (.cells #[.int .i64 k', .int .i64 n', .slice ao' len' cap'] 31)) := ⟨_, rfl⟩
  have hbel : Below w.heap.size w X := by rw [hX]; exact ((Below.refl _ _).alloc (Nat.le_refl _) _).alloc (by simp) _
  have hXs : X.heap.size = w.heap.size + 2 := by rw [hX]; simp
  have hX0 : X.heap[w.heap.size]? = some (.cells #[.int .i64 k, .int .i64 n, .slice ao len cap] 31 (0, 0)) := by rw [hX, Below.heap_alloc _ _ _ (by simp)]; exact heap_new rfl
  have hX1 : X.heap[w.heap.size + 1]? = some (.cells #[.int .i64 k', .int .i64 n', .slice ao' len' cap'] 31 (0, 0)) := by rw [hX]; exact heap_new (by simp)
  have HX : Hid (X = _) := hX
  clear hX
  have HXs : Hid (_ = _) := hXs
  cases hq : ((k == k') && (n == n') && ((len : Int) == (len' : Int)))
  case' false =>
    have HF : Hid (b = false) := by
      show _ = _
      rw [Bool.eq_false_iff]; intro h
      have e := HB.out.1 h
      have e1 : k = k' := congrArg Tr.K e
      have e2 : n = n' := congrArg Tr.N e
      have e3 : len = len' := by rw [HL.out, HL'.out]; exact congrArg (fun t => t.A.length) e
      rw [e1, e2, e3] at hq
      simp at hq
    have HQ : Hid (_ = false) := hq
    clear hq
    go_enter Tryz.func79, Tryz.ntmps79
    go_wp2_with fail
    rw [← HX.out]
    refine (sameTyNode_any _ _ _ _ _ _ _ _ _ _ _ hl hl').mono ?_
    rintro e w1 ⟨rfl, hb1⟩
    rw [HQ.out]
    go_wp2_with fail
    go_ret
    exact ⟨ret_bool HF.out.symm, hbel.trans (hb1.mono (by omega))⟩
  have HQ : Hid (_ = true) := hq
  have H3 : Hid (len = len') := by simp only [Bool.and_eq_true, beq_iff_eq] at hq; show _ = _; omega
  have HY : Hid (ts = ts' → b = true) := fun h => HB.out.2 (by simp only [Bool.and_eq_true, beq_iff_eq] at hq; rw [hq.1.1, hq.1.2, h])
  have HNo : Hid (¬ ts = ts' → b = false) := fun h => by rw [Bool.eq_false_iff]; intro hb; exact h (congrArg Tr.A (HB.out.1 hb))
  clear hq
  have f2 := row_cell hX0 2
  have g2 := row_cell hX1 2
  simp only [List.getElem?_toArray, List.getElem?_cons_zero, List.getElem?_cons_succ] at f2 g2
  have htl : w.heap.size < X.heap.size := by omega
  have htl' : w.heap.size + 1 < X.heap.size := by omega
  go_enter Tryz.func79, Tryz.ntmps79
  go_wp2_with fail
  rw [← HX.out]
  refine (sameTyNode_any _ _ _ _ _ _ _ _ _ _ _ hl hl').mono ?_
  rintro e w1 ⟨rfl, hb1⟩
  rw [HQ.out]
  replace hX0 := (hb1.block _ htl).trans hX0
  replace hX1 := (hb1.block _ htl').trans hX1
  replace f2 := (bcell hb1 htl 2).trans f2
  replace g2 := (bcell hb1 htl' 2).trans g2
  have hz1 := hb1.size
  replace htl := Nat.lt_of_lt_of_le htl hz1
  replace htl' := Nat.lt_of_lt_of_le htl' hz1
  replace hbel : Below w.heap.size w w1 := hbel.trans (hb1.mono (by omega))
  clear hXs hX0 hX1
  go_wp2_with fail
  go_loopw [13] (fun i wr => ∃ j : Nat, j ≤ len ∧ i = .int .i64 j ∧ Hid (likeB ts ts' j) ∧ Below w1.heap.size w1 wr) (fun i _ => len - (intOf i).toNat)
  case atStart => exact ⟨0, by omega, rfl, rfl, Below.refl _ _⟩
  case round =>
    obtain ⟨j, hj, rfl, HA, hbr⟩ := hrel
    have hszr := hbr.size
    have p2 := (bcell hbr htl 2).trans f2
    have q2 := (bcell hbr htl' 2).trans g2
    have hbw : Below w.heap.size w wr := hbel.trans (hbr.mono (by omega))
    have htr : w.heap.size < wr.heap.size := by omega
    have htr' : w.heap.size + 1 < wr.heap.size := by omega
    by_cases hlt : j < len
    · have hlt1 : j < ts.length := by have := HL.out; omega
      have hlt2 : j < ts'.length := by have := HL'.out; have := H3.out; omega
      have hlt' : j < len' := by have := H3.out; omega
      obtain ⟨x, o, rfl, _, hxB, ao1, len1, cap1, c0, c1, c2, hs1⟩ := hs.get j hlt1
      obtain ⟨x', o', rfl, _, hxB', ao2, len2, cap2, c0', c1', c2', hs2⟩ := hs'.get j hlt2
      have e0 := (bcell hbw (by omega) _).trans c0
      have e1 := (bcell hbw (by omega) _).trans c1
      have e2 := (bcell hbw (by omega) _).trans c2
      have e0' := (bcell hbw (by omega) _).trans c0'
      have e1' := (bcell hbw (by omega) _).trans c1'
      have e2' := (bcell hbw (by omega) _).trans c2'
      have hxr : x < wr.heap.size := by omega
      have hxr' : x' < wr.heap.size := by omega
      have hd : 0 < d := by
        cases d with
        | zero => obtain ⟨_, rfl⟩ := hs; simp at hlt1
        | succ d => omega
      have hr1 := hs1.below hbw hB
      have hr2 := hs2.below hbw hB'
      have hBr : B ≤ wr.heap.size := by omega
      have hBr' : B' ≤ wr.heap.size := by omega
      have hj0 : (0 : Int) ≤ (j : Int) := by omega
      have hjl : (j : Int) < (len : Int) := by omega
      have hjl' : (j : Int) < (len' : Int) := by omega
      clear c0 c1 c2 c0' c1' c2'
      by_cases heq : ts[j] = ts'[j]
      · have HE : Hid (ts[j] = ts'[j]) := heq
        have HN : Hid (likeB ts ts' (j + 1)) := like_next HA.out hlt1 hlt2 heq
        clear heq
        go_wp2_with fail
        refine wp_region_below (by kernel_rfl) (by kernel_rfl) ?_
        repeat (first
          | go_big_quiet_skip
          | (go_big_quiet_want; unfold Oper.quiet; apply Exists.intro; refine ⟨fun w' hC => ?_, ?_⟩; (have y0 := (bcell hC htr 2).trans p2; have y1 := (bcell hC htr' 2).trans q2; have z0 := (bcell hC hxr _).trans e0; have z1 := (bcell hC hxr _).trans e1; have z2 := (bcell hC hxr _).trans e2; have z0' := (bcell hC hxr' _).trans e0'; have z1' := (bcell hC hxr' _).trans e1'; have z2' := (bcell hC hxr' _).trans e2'; unfold Oper.quietAt; go_simp; first | exact rfl | exact ⟨rfl, rfl⟩ | (go_at_call 79; refine (IH hd L B L' B' _ _ _ _ _ ts[j].A _ _ _ _ _ ts'[j].A true _ (Nat.le_trans hBr hC.size) (Nat.le_trans hBr' hC.size) (hr1.below hC hBr) (hr2.below hC hBr') (Iff.intro (fun _ => by rw [tr_eta, tr_eta]; exact HE.out) (fun _ => rfl))).mono ?_; rintro e w'' ⟨rfl, hw⟩; exact ⟨rfl, hC.trans (hw.mono hC.size)⟩)); go_big_quiet_on; simp only [Act.put, List.setIfInBounds_toArray, List.set_cons_zero, List.set_cons_succ]))
        refine wpQuiet_nil ?_
        intro w2 hb2
        have hbr2 : Below w1.heap.size w1 w2 := hbr.trans (hb2.mono hszr)
        go_wp2_with fail
        go_roundw
        case rel => exact ⟨j + 1, by omega, by go_num, HN, hbr2⟩
        case measure => simp [intOf]; omega
      · have HE : Hid (¬ ts[j] = ts'[j]) := heq
        have HN : Hid (b = false) := HNo.out (unlike_at hlt1 hlt2 heq)
        clear heq
        go_wp2_with fail
        refine wp_region_below (by kernel_rfl) (by kernel_rfl) ?_
        repeat (first
          | go_big_quiet_skip
          | (go_big_quiet_want; unfold Oper.quiet; apply Exists.intro; refine ⟨fun w' hC => ?_, ?_⟩; (have y0 := (bcell hC htr 2).trans p2; have y1 := (bcell hC htr' 2).trans q2; have z0 := (bcell hC hxr _).trans e0; have z1 := (bcell hC hxr _).trans e1; have z2 := (bcell hC hxr _).trans e2; have z0' := (bcell hC hxr' _).trans e0'; have z1' := (bcell hC hxr' _).trans e1'; have z2' := (bcell hC hxr' _).trans e2'; unfold Oper.quietAt; go_simp; first | exact rfl | exact ⟨rfl, rfl⟩ | (go_at_call 79; refine (IH hd L B L' B' _ _ _ _ _ ts[j].A _ _ _ _ _ ts'[j].A false _ (Nat.le_trans hBr hC.size) (Nat.le_trans hBr' hC.size) (hr1.below hC hBr) (hr2.below hC hBr') (Iff.intro (fun h => nomatch h) (fun h => (HE.out (by rw [tr_eta, tr_eta] at h; exact h)).elim))).mono ?_; rintro e w'' ⟨rfl, hw⟩; exact ⟨rfl, hC.trans (hw.mono hC.size)⟩)); go_big_quiet_on; simp only [Act.put, List.setIfInBounds_toArray, List.set_cons_zero, List.set_cons_succ]))
        refine wpQuiet_nil ?_
        intro w2 hb2
        go_wp2_with fail
        go_ret
        exact ⟨ret_bool HN.out.symm, hbw.trans (hb2.mono (by omega))⟩
    · have HT : Hid (b = true) := HY.out (like_all HA.out (by have := HL.out; omega) (by have := HL'.out; have := H3.out; omega))
      go_wp2_with fail
      go_ret
      exact ⟨ret_bool HT.out.symm, hbw⟩

theorem rt_any (d : Nat) : SaidRt d := by
  induction d with
  | zero => exact rt_step 0 (fun h => by omega)
  | succ d ih => exact rt_step (d + 1) (fun _ => by simpa using ih)

end Go.Proofs.YtibbdhmbgnjmoaaGreat

/-
  What the program's 'sameTermNode' comes to, and 'slices.EqualFunc' of types by 'sameRightTy'.
-/
namespace Go.Proofs.YtibbdhmbgnjmoaaGreat
open Go.RowKit
set_option linter.unusedVariables false
set_option linter.unusedSimpArgs false

def likeTm (t t' : Tm) (l2 m2 l3 m3 : Nat) : Bool := (t.K == t'.K) && (t.N == t'.N) && (t.S.toList == t'.S.toList) && (t.Z.toList == t'.Z.toList) && ((l2 : Int) == (m2 : Int)) && ((l3 : Int) == (m3 : Int))

set_option maxHeartbeats 2000000 in
theorem sameTermNode_any (t t' : Tm) (v6 : Value) (a2 : Option Addr) (l2 c2 : Nat) (a3 : Option Addr) (l3 c3 : Nat) (u6 : Value) (b2 : Option Addr) (m2 d2 : Nat) (b3 : Option Addr) (m3 d3 : Nat) (w : World) (hl2 : l2 ≤ 9223372036854775807) (hm2 : m2 ≤ 9223372036854775807) (hl3 : l3 ≤ 9223372036854775807) (hm3 : m3 ≤ 9223372036854775807) :
    Calls Tryz.prog 78 #[.agg #[.int .i64 t.K, .int .i64 t.N, .string t.S, .string t.Z, .int .i64 t.T.K, .int .i64 t.T.N, v6, .slice a2 l2 c2, .slice a3 l3 c3], .agg #[.int .i64 t'.K, .int .i64 t'.N, .string t'.S, .string t'.Z, .int .i64 t'.T.K, .int .i64 t'.T.N, u6, .slice b2 m2 d2, .slice b3 m3 d3]] w fun e w' => e = .returned (.bool (likeTm t t' l2 m2 l3 m3)) ∧ Below w.heap.size w w' := by
  have hbel : Below w.heap.size w ((w.alloc (.cells #[.int .i64 t.K, .int .i64 t.N, .string t.S, .string t.Z, .int .i64 t.T.K, .int .i64 t.T.N, v6, .slice a2 l2 c2, .slice a3 l3 c3] 34)).alloc (.cells #[.int .i64 t'.K, .int .i64 t'.N, .string t'.S, .string t'.Z, .int .i64 t'.T.K, .int .i64 t'.T.N, u6, .slice b2 m2 d2, .slice b3 m3 d3] 34)) := ((Below.refl _ _).alloc (Nat.le_refl _) _).alloc (by simp) _
  unfold likeTm
  cases h1 : (t.K == t'.K)
  · go_enter Tryz.func78, Tryz.ntmps78
    go_wp2_with fail
    go_ret
    exact ⟨rfl, hbel⟩
  cases h2 : (t.N == t'.N)
  · go_enter Tryz.func78, Tryz.ntmps78
    go_wp2_with fail
    go_ret
    exact ⟨rfl, hbel⟩
  cases h3 : (t.S.toList == t'.S.toList)
  · go_enter Tryz.func78, Tryz.ntmps78
    go_wp2_with fail
    go_ret
    exact ⟨rfl, hbel⟩
  cases h4 : (t.Z.toList == t'.Z.toList)
  · go_enter Tryz.func78, Tryz.ntmps78
    go_wp2_with fail
    go_ret
    exact ⟨rfl, hbel⟩
  cases h5 : ((l2 : Int) == (m2 : Int))
  · go_enter Tryz.func78, Tryz.ntmps78
    go_wp2_with fail
    go_ret
    exact ⟨rfl, hbel⟩
  cases h6 : ((l3 : Int) == (m3 : Int))
  all_goals
    go_enter Tryz.func78, Tryz.ntmps78
    go_wp2_with fail
    go_ret
    exact ⟨rfl, hbel⟩

set_option maxHeartbeats 2000000 in
theorem eqFuncTy_any (d L B L' B' : Nat) (ao : Option Addr) (len cap : Nat) (ts : List Tr) (ao' : Option Addr) (len' cap' : Nat) (ts' : List Tr) (b : Bool) (w : World) (hB : B ≤ w.heap.size) (hB' : B' ≤ w.heap.size) (hs : Hs L B w d ao len ts) (hs' : Hs L' B' w d ao' len' ts') (hb : b = true ↔ ts = ts') :
    Calls Tryz.prog 80 #[.slice ao len cap, .slice ao' len' cap', .func (.func 79) #[] #[]] w fun e w' => e = .returned (.bool b) ∧ Below w.heap.size w w' := by
  have hl := hs.len.2
  have hl' := hs'.len.2
  have HL : Hid (len = ts.length) := hs.len.1
  have HL' : Hid (len' = ts'.length) := hs'.len.1
  have HB : Hid (b = true ↔ ts = ts') := hb
  clear hb
  by_cases h3 : len = len'
  case' neg =>
    have h3b : ((len : Int) != (len' : Int)) = true := by rw [bne_iff_ne]; omega
    have HF : Hid (b = false) := by show _ = _; rw [Bool.eq_false_iff]; intro h; exact h3 (by rw [HL.out, HL'.out, HB.out.1 h])
    clear h3
    go_enter Tryz.func80, Tryz.ntmps80
    go_wp2_with fail
    go_ret
    exact ⟨ret_bool HF.out.symm, Below.refl _ _⟩
  have h3b : ((len : Int) != (len' : Int)) = false := by simp [h3]
  have H3 : Hid (len = len') := h3
  clear h3
  go_enter Tryz.func80, Tryz.ntmps80
  go_wp2_with fail
  go_loopw [17] (fun i wr => ∃ j : Nat, j ≤ len ∧ i = .int .i64 j ∧ Hid (likeB ts ts' j) ∧ Below w.heap.size w wr) (fun i _ => len - (intOf i).toNat)
  case atStart => exact ⟨0, by omega, rfl, rfl, Below.refl _ _⟩
  case round =>
    obtain ⟨j, hj, rfl, HA, hbr⟩ := hrel
    have hszr := hbr.size
    by_cases hlt : j < len
    · have hlt1 : j < ts.length := by have := HL.out; omega
      have hlt2 : j < ts'.length := by have := HL'.out; have := H3.out; omega
      have hlt' : j < len' := by have := H3.out; omega
      obtain ⟨x, o, rfl, _, hxB, ao1, len1, cap1, c0, c1, c2, hs1⟩ := hs.get j hlt1
      obtain ⟨x', o', rfl, _, hxB', ao2, len2, cap2, c0', c1', c2', hs2⟩ := hs'.get j hlt2
      have e0 := (bcell hbr (by omega) _).trans c0
      have e1 := (bcell hbr (by omega) _).trans c1
      have e2 := (bcell hbr (by omega) _).trans c2
      have e0' := (bcell hbr (by omega) _).trans c0'
      have e1' := (bcell hbr (by omega) _).trans c1'
      have e2' := (bcell hbr (by omega) _).trans c2'
      have hxr' : x' < wr.heap.size := by omega
      have hba : Below w.heap.size w ((wr.alloc (.cells #[.int .i64 ts[j].K, .int .i64 ts[j].N, .slice ao1 len1 cap1] 31)).alloc (.cells #[.int .i64 ts'[j].K, .int .i64 ts'[j].N, .slice ao2 len2 cap2] 31)) := (hbr.alloc (by omega) _).alloc (by simp; omega) _
      have hr1 := hs1.below hba hB
      have hr2 := hs2.below hba hB'
      clear c0 c1 c2 c0' c1' c2'
      by_cases heq : ts[j] = ts'[j]
      · have HE : Hid (ts[j] = ts'[j]) := heq
        have HN : Hid (likeB ts ts' (j + 1)) := like_next HA.out hlt1 hlt2 heq
        clear heq
        go_wp2_with fail
        refine (rt_any (d - 1) L B L' B' _ _ _ _ _ ts[j].A _ _ _ _ _ ts'[j].A true _ (by simp; omega) (by simp; omega) hr1 hr2 (Iff.intro (fun _ => by rw [tr_eta, tr_eta]; exact HE.out) (fun _ => rfl))).mono ?_
        rintro e w2 ⟨rfl, hb2⟩
        have hbr2 : Below w.heap.size w w2 := hba.trans (hb2.mono (by simp; omega))
        go_wp2_with fail
        go_roundw
        case rel => exact ⟨j + 1, by omega, by go_num, HN, hbr2⟩
        case measure => simp [intOf]; omega
      · have HE : Hid (¬ ts[j] = ts'[j]) := heq
        have HN : Hid (b = false) := by show _ = _; rw [Bool.eq_false_iff]; intro h; exact unlike_at hlt1 hlt2 heq (HB.out.1 h)
        clear heq
        go_wp2_with fail
        refine (rt_any (d - 1) L B L' B' _ _ _ _ _ ts[j].A _ _ _ _ _ ts'[j].A false _ (by simp; omega) (by simp; omega) hr1 hr2 (Iff.intro (fun h => nomatch h) (fun h => (HE.out (by rw [tr_eta, tr_eta] at h; exact h)).elim))).mono ?_
        rintro e w2 ⟨rfl, hb2⟩
        go_wp2_with fail
        go_ret
        exact ⟨ret_bool HN.out.symm, hba.trans (hb2.mono (by simp; omega))⟩
    · have HT : Hid (b = true) := HB.out.2 (like_all HA.out (by have := HL.out; omega) (by have := HL'.out; have := H3.out; omega))
      go_wp2_with fail
      go_ret
      exact ⟨ret_bool HT.out.symm, hbr⟩

end Go.Proofs.YtibbdhmbgnjmoaaGreat

/-
  What the program's 'sameRightTerm' and 'slices.EqualFunc' of terms by it come to.
-/
namespace Go.Proofs.YtibbdhmbgnjmoaaGreat
open Go.RowKit
set_option linter.unusedVariables false
set_option linter.unusedSimpArgs false

def SaidRtM (d : Nat) : Prop := ∀ (D L B L' B' : Nat) (t t' : Tm) (a1 : Option Addr) (l1 c1 : Nat) (a2 : Option Addr) (l2 c2 : Nat) (a3 : Option Addr) (l3 c3 : Nat) (b1 : Option Addr) (m1 d1 : Nat) (b2 : Option Addr) (m2 d2 : Nat) (b3 : Option Addr) (m3 d3 : Nat) (b : Bool) (w : World), B ≤ w.heap.size → B' ≤ w.heap.size → Fm L B w D d t a1 l1 a2 l2 a3 l3 → Fm L' B' w D d t' b1 m1 b2 m2 b3 m3 →
    (b = true ↔ t = t') →
    Calls Tryz.prog 65 #[.agg #[.int .i64 t.K, .int .i64 t.N, .string t.S, .string t.Z, .int .i64 t.T.K, .int .i64 t.T.N, .slice a1 l1 c1, .slice a2 l2 c2, .slice a3 l3 c3], .agg #[.int .i64 t'.K, .int .i64 t'.N, .string t'.S, .string t'.Z, .int .i64 t'.T.K, .int .i64 t'.T.N, .slice b1 m1 d1, .slice b2 m2 d2, .slice b3 m3 d3]] w fun e w' => e = .returned (.bool b) ∧ Below w.heap.size w w'
def SaidEfM (d : Nat) : Prop := ∀ (D L B L' B' : Nat) (ao : Option Addr) (len cap : Nat) (ts : List Tm) (ao' : Option Addr) (len' cap' : Nat) (ts' : List Tm) (b : Bool) (w : World), B ≤ w.heap.size → B' ≤ w.heap.size → Hm L B w D d ao len ts → Hm L' B' w D d ao' len' ts' → (b = true ↔ ts = ts') →
    Calls Tryz.prog 81 #[.slice ao len cap, .slice ao' len' cap', .func (.func 65) #[] #[]] w fun e w' => e = .returned (.bool b) ∧ Below w.heap.size w w'

set_option maxHeartbeats 2000000 in
theorem efM_step (d : Nat) (IH : 0 < d → SaidRtM (d - 1)) : SaidEfM d := by
  intro D L B L' B' ao len cap ts ao' len' cap' ts' b w hB hB' hs hs' hb
  have hl := hs.len.2
  have hl' := hs'.len.2
  have HL : Hid (len = ts.length) := hs.len.1
  have HL' : Hid (len' = ts'.length) := hs'.len.1
  have HB : Hid (b = true ↔ ts = ts') := hb
  clear hb
  by_cases h3 : len = len'
  case' neg =>
    have h3b : ((len : Int) != (len' : Int)) = true := by rw [bne_iff_ne]; omega
    have HF : Hid (b = false) := by show _ = _; rw [Bool.eq_false_iff]; intro h; exact h3 (by rw [HL.out, HL'.out, HB.out.1 h])
    clear h3
    go_enter Tryz.func81, Tryz.ntmps81
    go_wp2_with fail
    go_ret
    exact ⟨ret_bool HF.out.symm, Below.refl _ _⟩
  have h3b : ((len : Int) != (len' : Int)) = false := by simp [h3]
  have H3 : Hid (len = len') := h3
  clear h3
  go_enter Tryz.func81, Tryz.ntmps81
  go_wp2_with fail
  go_loopw [17] (fun i wr => ∃ j : Nat, j ≤ len ∧ i = .int .i64 j ∧ Hid (likeMB ts ts' j) ∧ Below w.heap.size w wr) (fun i _ => len - (intOf i).toNat)
  case atStart => exact ⟨0, by omega, rfl, rfl, Below.refl _ _⟩
  case round =>
    obtain ⟨j, hj, rfl, HA, hbr⟩ := hrel
    have hszr := hbr.size
    by_cases hlt : j < len
    · have hlt1 : j < ts.length := by have := HL.out; omega
      have hlt2 : j < ts'.length := by have := HL'.out; have := H3.out; omega
      have hlt' : j < len' := by have := H3.out; omega
      have hd : 0 < d := by cases d with | zero => obtain ⟨_, e⟩ := hs; rw [e] at hlt1; simp at hlt1 | succ d => omega
      obtain ⟨x, o, rfl, _, hxB, u1, u2, u3, u4, u5, u6, u7, u8, u9, h9, hg1⟩ := hs.get j hlt1
      obtain ⟨x', o', rfl, _, hxB', v1, v2, v3, v4, v5, v6, v7, v8, v9, h9', hg2⟩ := hs'.get j hlt2
      obtain ⟨e0, e1, e2, e3, e4, e5, e6, e7, e8⟩ := h9.below hbr (by omega)
      obtain ⟨e0', e1', e2', e3', e4', e5', e6', e7', e8'⟩ := h9'.below hbr (by omega)
      have hxr' : x' < wr.heap.size := by omega
      have hba : Below w.heap.size w ((wr.alloc (.cells #[.int .i64 ts[j].K, .int .i64 ts[j].N, .string ts[j].S, .string ts[j].Z, .int .i64 ts[j].T.K, .int .i64 ts[j].T.N, .slice u1 u2 u3, .slice u4 u5 u6, .slice u7 u8 u9] 34)).alloc (.cells #[.int .i64 ts'[j].K, .int .i64 ts'[j].N, .string ts'[j].S, .string ts'[j].Z, .int .i64 ts'[j].T.K, .int .i64 ts'[j].T.N, .slice v1 v2 v3, .slice v4 v5 v6, .slice v7 v8 v9] 34)) := (hbr.alloc (by omega) _).alloc (by simp; omega) _
      have hr1 := Fm.below hba hB hg1
      have hr2 := Fm.below hba hB' hg2
      clear h9 h9'
      by_cases heq : ts[j] = ts'[j]
      · have HE : Hid (ts[j] = ts'[j]) := heq
        have HN : Hid (likeMB ts ts' (j + 1)) := likeM_next HA.out hlt1 hlt2 heq
        clear heq
        go_wp2_with fail
        refine (IH hd D L B L' B' ts[j] ts'[j] _ _ _ _ _ _ _ _ _ _ _ _ _ _ _ _ _ _ true _ (by simp; omega) (by simp; omega) hr1 hr2 (Iff.intro (fun _ => HE.out) (fun _ => rfl))).mono ?_
        rintro e w2 ⟨rfl, hb2⟩
        have hbr2 : Below w.heap.size w w2 := hba.trans (hb2.mono (by simp; omega))
        go_wp2_with fail
        go_roundw
        case rel => exact ⟨j + 1, by omega, by go_num, HN, hbr2⟩
        case measure => simp [intOf]; omega
      · have HE : Hid (¬ ts[j] = ts'[j]) := heq
        have HN : Hid (b = false) := by show _ = _; rw [Bool.eq_false_iff]; intro h; exact unlikeM_at hlt1 hlt2 heq (HB.out.1 h)
        clear heq
        go_wp2_with fail
        refine (IH hd D L B L' B' ts[j] ts'[j] _ _ _ _ _ _ _ _ _ _ _ _ _ _ _ _ _ _ false _ (by simp; omega) (by simp; omega) hr1 hr2 (Iff.intro (fun h => nomatch h) (fun h => (HE.out h).elim))).mono ?_
        rintro e w2 ⟨rfl, hb2⟩
        go_wp2_with fail
        go_ret
        exact ⟨ret_bool HN.out.symm, hba.trans (hb2.mono (by simp; omega))⟩
    · have HT : Hid (b = true) := HB.out.2 (likeM_all HA.out (by have := HL.out; omega) (by have := HL'.out; have := H3.out; omega))
      go_wp2_with fail
      go_ret
      exact ⟨ret_bool HT.out.symm, hbr⟩

set_option maxHeartbeats 2000000 in
theorem rtM_of (d : Nat) (h : SaidEfM d) : SaidRtM d := by
  intro D L B L' B' t t' a1 l1 c1 a2 l2 c2 a3 l3 c3 b1 m1 d1 b2 m2 d2 b3 m3 d3 b w hB hB' hf hf' hb
  have hl2 := hf.t2.len.2
  have hm2 := hf'.t2.len.2
  have hl3 := hf.m.len.2
  have hm3 := hf'.m.len.2
  have HL2 : Hid (l2 = t.Ts.length) := hf.t2.len.1
  have HM2 : Hid (m2 = t'.Ts.length) := hf'.t2.len.1
  have HL3 : Hid (l3 = t.A.length) := hf.m.len.1
  have HM3 : Hid (m3 = t'.A.length) := hf'.m.len.1
  have HB : Hid (b = true ↔ t = t') := hb
  clear hb
  obtain ⟨X, hX⟩ : ∃ X, X = ((w.alloc (.cells #[.int .i64 t.K, .int .i64 t.N, .string t.S, .string t.Z, .int .i64 t.T.K, .int .i64 t.T.N, .slice a1 l1 c1, .slice a2 l2 c2, .slice a3 l3 c3] 34)).alloc (.cells #[.int .i64 t'.K, .int .i64 t'.N, .string t'.S, .string t'.Z, .int .i64 t'.T.K, .int .i64 t'.T.N, .slice b1 m1 d1, .slice b2 m2 d2, .slice b3 m3 d3] 34)) := ⟨_, rfl⟩
  have hbel : Below w.heap.size w X := by rw [hX]; exact ((Below.refl _ _).alloc (Nat.le_refl _) _).alloc (by simp) _
  have hXs : X.heap.size = w.heap.size + 2 := by rw [hX]; simp
  have hX0 : X.heap[w.heap.size]? = some (.cells #[.int .i64 t.K, .int .i64 t.N, .string t.S, .string t.Z, .int .i64 t.T.K, .int .i64 t.T.N, .slice a1 l1 c1, .slice a2 l2 c2, .slice a3 l3 c3] 34 (0, 0)) := by rw [hX, Below.heap_alloc _ _ _ (by simp)]; exact heap_new rfl
  have hX1 : X.heap[w.heap.size + 1]? = some (.cells #[.int .i64 t'.K, .int .i64 t'.N, .string t'.S, .string t'.Z, .int .i64 t'.T.K, .int .i64 t'.T.N, .slice b1 m1 d1, .slice b2 m2 d2, .slice b3 m3 d3] 34 (0, 0)) := by rw [hX]; exact heap_new (by simp)
  have HX : Hid (X = _) := hX
  clear hX
  go_enter Tryz.func65, Tryz.ntmps65
  go_wp2_with fail
  rw [← HX.out]
  refine (sameTermNode_any t t' _ _ _ _ _ _ _ _ _ _ _ _ _ _ _ hl2 hm2 hl3 hm3).mono ?_
  rintro e w1 ⟨rfl, hb1⟩
  have hz1 := hb1.size
  have hbw1 : Below w.heap.size w w1 := hbel.trans (hb1.mono (by omega))
  have y0 := (hb1.block _ (by omega)).trans hX0
  have y1 := (hb1.block _ (by omega)).trans hX1
  clear hX0 hX1
  cases hq : likeTm t t' l2 m2 l3 m3
  · have HF : Hid (b = false) := by
      show _ = _
      rw [Bool.eq_false_iff]; intro hh
      have e := HB.out.1 hh
      have e2 := HL2.out; have e3 := HM2.out; have e4 := HL3.out; have e5 := HM3.out
      subst e
      rw [e2, e3, e4, e5] at hq
      simp [likeTm] at hq
    clear hq
    go_wp2_with fail
    go_ret
    exact ⟨ret_bool HF.out.symm, hbw1⟩
  have HQ : Hid (t.K = t'.K ∧ t.N = t'.N ∧ t.S = t'.S ∧ t.Z = t'.Z) := by
    simp only [likeTm, Bool.and_eq_true] at hq
    exact ⟨beq_iff_eq.1 hq.1.1.1.1.1, beq_iff_eq.1 hq.1.1.1.1.2, bytes_eq hq.1.1.1.2, bytes_eq hq.1.1.2⟩
  clear hq
  obtain ⟨f0, f1, f2, f3, f4, f5, f6, f7, f8⟩ := Nine.box y0
  obtain ⟨g0, g1, g2, g3, g4, g5, g6, g7, g8⟩ := Nine.box y1
  simp only [Nat.zero_add] at f1 f2 f3 f4 f5 f6 f7 f8 g1 g2 g3 g4 g5 g6 g7 g8
  have hf1 := Fm.below hbw1 hB hf
  have hf1' := Fm.below hbw1 hB' hf'
  by_cases h5 : t.T = t'.T
  case' neg =>
    have HF : Hid (b = false) := by show _ = _; rw [Bool.eq_false_iff]; intro hh; exact h5 (congrArg Tm.T (HB.out.1 hh))
    have HE : Hid (¬ t.T = t'.T) := h5
    clear h5
    go_wp2_with fail
    refine (rt_any D L B L' B' _ _ _ _ _ t.T.A _ _ _ _ _ t'.T.A false _ (by omega) (by omega) hf1.t1 hf1'.t1 (Iff.intro (fun h => nomatch h) (fun h => (HE.out (by rw [tr_eta, tr_eta] at h; exact h)).elim))).mono ?_
    rintro e w2 ⟨rfl, hb2⟩
    go_wp2_with fail
    go_ret
    exact ⟨ret_bool HF.out.symm, hbw1.trans (hb2.mono (by omega))⟩
  have H5 : Hid (t.T = t'.T) := h5
  clear h5
  go_wp2_with fail
  refine (rt_any D L B L' B' _ _ _ _ _ t.T.A _ _ _ _ _ t'.T.A true _ (by omega) (by omega) hf1.t1 hf1'.t1 (Iff.intro (fun _ => by rw [tr_eta, tr_eta]; exact H5.out) (fun _ => rfl))).mono ?_
  rintro e w2 ⟨rfl, hb2⟩
  have hz2 := hb2.size
  have hbw2 : Below w.heap.size w w2 := hbw1.trans (hb2.mono (by omega))
  replace y0 := (hb2.block _ (by omega)).trans y0
  replace y1 := (hb2.block _ (by omega)).trans y1
  clear f0 f1 f2 f3 f4 f5 f6 f7 f8 g0 g1 g2 g3 g4 g5 g6 g7 g8 hf1 hf1'
  obtain ⟨f0, f1, f2, f3, f4, f5, f6, f7, f8⟩ := Nine.box y0
  obtain ⟨g0, g1, g2, g3, g4, g5, g6, g7, g8⟩ := Nine.box y1
  simp only [Nat.zero_add] at f7 f8 g7 g8
  clear f0 f1 f2 f3 f4 f5 f6 g0 g1 g2 g3 g4 g5 g6
  have hf2 := Fm.below hbw2 hB hf
  have hf2' := Fm.below hbw2 hB' hf'
  by_cases h6 : t.Ts = t'.Ts
  case' neg =>
    have HF : Hid (b = false) := by show _ = _; rw [Bool.eq_false_iff]; intro hh; exact h6 (congrArg Tm.Ts (HB.out.1 hh))
    have HE : Hid (¬ t.Ts = t'.Ts) := h6
    clear h6
    go_wp2_with fail
    refine (eqFuncTy_any D L B L' B' _ _ _ t.Ts _ _ _ t'.Ts false _ (by omega) (by omega) hf2.t2 hf2'.t2 (Iff.intro (fun h => nomatch h) (fun h => (HE.out h).elim))).mono ?_
    rintro e w3 ⟨rfl, hb3⟩
    go_wp2_with fail
    go_ret
    exact ⟨ret_bool HF.out.symm, hbw2.trans (hb3.mono (by omega))⟩
  have H6 : Hid (t.Ts = t'.Ts) := h6
  clear h6
  go_wp2_with fail
  refine (eqFuncTy_any D L B L' B' _ _ _ t.Ts _ _ _ t'.Ts true _ (by omega) (by omega) hf2.t2 hf2'.t2 (Iff.intro (fun _ => H6.out) (fun _ => rfl))).mono ?_
  rintro e w3 ⟨rfl, hb3⟩
  have hz3 := hb3.size
  have hbw3 : Below w.heap.size w w3 := hbw2.trans (hb3.mono (by omega))
  replace f8 := (bcell hb3 (by omega) 8).trans f8
  replace g8 := (bcell hb3 (by omega) 8).trans g8
  clear f7 g7
  have hf3 := Fm.below hbw3 hB hf
  have hf3' := Fm.below hbw3 hB' hf'
  have HA : Hid (b = true ↔ t.A = t'.A) := by
    show _ ↔ _
    rw [HB.out]
    have k1 := HQ.out; have k5 := H5.out; have k6 := H6.out
    constructor
    · intro hh; rw [hh]
    · intro hh
      cases t; cases t'; simp_all
  go_wp2_with fail
  refine (h D L B L' B' _ _ _ t.A _ _ _ t'.A b _ (by omega) (by omega) hf3.m hf3'.m HA.out).mono ?_
  rintro e w4 ⟨rfl, hb4⟩
  go_wp2_with fail
  go_ret
  exact ⟨rfl, hbw3.trans (hb4.mono (by omega))⟩

theorem rtM_any (d : Nat) : SaidRtM d := by
  induction d with
  | zero => exact rtM_of 0 (efM_step 0 (fun h => by omega))
  | succ d ih => exact rtM_of (d + 1) (efM_step (d + 1) (fun _ => by simpa using ih))

end Go.Proofs.YtibbdhmbgnjmoaaGreat

/-
  What 'toTy', 'toTyS' (a copy in the program's own type) come to: the same tree in new memory.
-/
namespace Go.Proofs.YtibbdhmbgnjmoaaGreat
open Go.RowKit
set_option linter.unusedVariables false
set_option linter.unusedSimpArgs false

theorem Tryz.infoTy2 : (Tryz.prog.info? 31).map (fun i => (i.zero, i.size, i.bytes)) = some (some (.agg #[.int .i64 0, .int .i64 0, .slice none 0 0]), 3, 40) := by kernel_rfl

def SaidTo2 (d : Nat) : Prop := ∀ (L B : Nat) (k n : Int) (ao : Option Addr) (len cap : Nat) (ts : List Tr) (w : World), B ≤ w.heap.size → Hs L B w d ao len ts → cntS ts ≤ 1048576 →
    Calls Tryz.prog 20 #[.agg #[.int .i64 k, .int .i64 n, .slice ao len cap]] w fun e w' => ∃ g, e = .returned (.agg #[.int .i64 k, .int .i64 n, .slice (some ⟨g, 0, none⟩) len len]) ∧ Below w.heap.size w w' ∧ OwR w.heap.size w'.heap.size w' d (some ⟨g, 0, none⟩) len ts
def SaidToS2 (d : Nat) : Prop := ∀ (L B : Nat) (ao : Option Addr) (len cap : Nat) (ts : List Tr) (w : World), B ≤ w.heap.size → Hs L B w d ao len ts → cntS ts ≤ 1048576 →
    Calls Tryz.prog 21 #[.slice ao len cap] w fun e w' => ∃ g, e = .returned (.slice (some ⟨g, 0, none⟩) len len) ∧ Below w.heap.size w w' ∧ OwR w.heap.size w'.heap.size w' d (some ⟨g, 0, none⟩) len ts

set_option maxHeartbeats 400000 in
theorem toTyS_succ2 (d : Nat) (IH : SaidTo2 d) : SaidToS2 (d + 1) := by
  intro L B ao len cap ts w hB hs hcnt
  have hl : len ≤ 1048576 := by have := hs.1; have := cntS_eq ts; omega
  have HL : Hid (len = ts.length) := hs.1
  obtain ⟨i0, hi, hz0, hz1, hz2⟩ := info_parts Tryz.infoTy2
  have hmk : ∃ C : Array Value, C.size = len * 3 ∧ ∀ w : World, (Instr.makeSlice 29 (.int .i64 (len : Int)) (.int .i64 (len : Int))).run Tryz.prog w = .ok (.slice (some ⟨w.heap.size, 0, none⟩) len len) (w.alloc (.cells C 31)) := by
    refine ⟨madeCells (Value.cells (.agg #[.int .i64 0, .int .i64 0, .slice none 0 0])) (len * 3), ?_, fun w => ?_⟩
    · exact size_madeCells _ _
    · have := run_make (P := Tryz.prog) (w := w) 29 31 i0 _ Tryz.underlying29 hi hz0 .i64 .i64 (len : Int) (len : Int) (by omega) (by omega) (by rw [hz2]; omega) (by omega)
      rw [hz1] at this
      simpa using this
  obtain ⟨C, hC, hmk⟩ := hmk
  go_enter Tryz.func21, Tryz.ntmps21
  go_wp2_with fail
  go_loopw [4] (fun i wr => ∃ k : Nat, k ≤ len ∧ i = .int .i64 k ∧ RowRel w wr d len k ts) (fun i _ => len - (intOf i).toNat)
  case atStart => exact ⟨0, by omega, rfl, rr_start hC⟩
  case round =>
    obtain ⟨k, hk, rfl, hR⟩ := hrel
    by_cases hlt : k < len
    · have hlt' : k < ts.length := by have := HL.out; omega
      have hbel := hR.bel
      have hsz := hbel.size
      obtain ⟨b, o, rfl, _, hbB, ao1, len1, cap1, c0, c1, c2, hs1⟩ := hs.2.2 k hlt'
      have e0 := (bcell hbel (by omega) _).trans c0
      have e1 := (bcell hbel (by omega) _).trans c1
      have e2 := (bcell hbel (by omega) _).trans c2
      have hs1 := hs1.below hbel hB
      have hc1 := cntS_get ts k hlt'
      go_wp2_with fail
      refine (IH _ _ _ _ _ _ _ _ _ (by omega) hs1 (by omega)).mono ?_
      rintro e w1 ⟨g, rfl, hb1, hs2⟩
      have hN := rr_next (cap1 := len1) hR hlt hlt' hb1 hs2
      obtain ⟨cs, hrow, hcsz⟩ := rr_row hR hb1
      have f0 := row_cell hrow (k * 3)
      have f1 := row_cell hrow (k * 3 + 1)
      have f2 := row_cell hrow (k * 3 + 2)
      rw [Array.getElem?_eq_getElem (by omega)] at f0 f1 f2
      have r0 := row_free hrow (k * 3)
      have r1 := row_free hrow (k * 3 + 1)
      have r2 := row_free hrow (k * 3 + 2)
      clear hrow hs2 hR e0 e1 e2
      go_wp2_with fail
      go_roundw
      case rel => exact ⟨k + 1, by omega, by go_num, hN⟩
      case measure => simp [intOf]; omega
    · go_wp2_with fail
      go_ret
      obtain rfl : k = len := by omega
      exact ⟨_, rfl, hR.bel, rr_done hR HL.out (by omega)⟩

set_option maxHeartbeats 400000 in
theorem toTyS_zero2 : SaidToS2 0 := by
  intro L B ao len cap ts w hB hs hcnt
  obtain ⟨rfl, rfl⟩ := hs
  obtain ⟨i0, hi, hz0, hz1, hz2⟩ := info_parts Tryz.infoTy2
  have hmk : ∃ C : Array Value, ∀ w : World, (Instr.makeSlice 29 (.int .i64 0) (.int .i64 0)).run Tryz.prog w = .ok (.slice (some ⟨w.heap.size, 0, none⟩) 0 0) (w.alloc (.cells C 31)) := by
    refine ⟨madeCells (Value.cells (.agg #[.int .i64 0, .int .i64 0, .slice none 0 0])) (0 * 3), fun w => ?_⟩
    have := run_make (P := Tryz.prog) (w := w) 29 31 i0 _ Tryz.underlying29 hi hz0 .i64 .i64 0 0 (by omega) (by omega) (by omega) (by omega)
    rw [hz1] at this
    simpa using this
  obtain ⟨C, hmk⟩ := hmk
  go_enter Tryz.func21, Tryz.ntmps21
  go_wp2_with fail
  refine wp_loop_rounds 1 ?_; rw [rounds_succ]
  go_wp2_with fail
  go_ret
  exact ⟨_, rfl, (Below.refl _ _).alloc (Nat.le_refl _) _, OwR.nil _ _ _ _ _⟩

set_option maxHeartbeats 400000 in
theorem toTy_of2 (d : Nat) (h : SaidToS2 d) : SaidTo2 d := by
  intro L B k n ao len cap ts w hB hs hcnt
  obtain ⟨X, hX⟩ : ∃ X, X = (((w.alloc (.cells #[.int .i64 k, .int .i64 n, .slice ao len cap] 24)).alloc (.cells #[.int .i64 0, .int .i64 0, .slice none 0 0] 31)).alloc (.cells #[.int .i64 k, .int .i64 n, .slice none 0 0] 31)) := ⟨_, rfl⟩
  have hXs : X.heap.size = w.heap.size + 3 := by rw [hX]; simp
  have hXb : Below w.heap.size w X := by rw [hX]; exact (((Below.refl _ _).alloc (Nat.le_refl _) _).alloc (by simp) _).alloc (by simp; omega) _
  have hX1 : X.heap[w.heap.size + 1]? = some (.cells #[.int .i64 0, .int .i64 0, .slice none 0 0] 31 (0, 0)) := by
    rw [hX, Below.heap_alloc _ _ _ (by simp)]; exact heap_new (by simp)
  have hX2 : X.heap[w.heap.size + 1 + 1]? = some (.cells #[.int .i64 k, .int .i64 n, .slice none 0 0] 31 (0, 0)) := by
    rw [hX]; exact heap_new (by simp)
  have hs1 := hs.below hXb hB
  have HX : Hid (X = _) := hX
  clear hX
  go_enter Tryz.func20, Tryz.ntmps20
  go_wp2_with fail
  rw [← HX.out]
  refine (h _ _ _ _ _ _ _ (by omega) hs1 hcnt).mono ?_
  rintro e w1 ⟨g, rfl, hb1, hs2⟩
  have hw1 := hb1.size
  have y1 := (hb1.block _ (by omega)).trans hX1
  have y2 := (hb1.block _ (by omega)).trans hX2
  have f10 := row_cell y1 0
  have f11 := row_cell y1 1
  have f12 := row_cell y1 2
  have f20 := row_cell y2 0
  have f21 := row_cell y2 1
  have f22 := row_cell y2 2
  have r1 := row_free y1
  have r2 := row_free y2
  simp only [List.getElem?_toArray, List.getElem?_cons_zero, List.getElem?_cons_succ] at f10 f11 f12 f20 f21 f22
  have hbel : Below w.heap.size w w1 := hXb.trans (hb1.mono (by omega))
  clear hX1 hX2 y1 y2 hXb
  go_wp2_with fail
  refine bodyPost_ret (v := .agg #[.int .i64 k, .int .i64 n, .slice (some ⟨g, 0, none⟩) len len]) (by simp [results, Tryz.results20, go_sem, f10, f11, f12]) rfl ⟨g, rfl, ?_, ?_⟩
  · exact set3_below (hbel.setCell (p := ⟨w.heap.size + 1 + 1, 2, none⟩) (by show _ ≤ w.heap.size + 1 + 1; omega) _) (by omega)
  · refine hs2.keep (fun j hj _ => ?_) (by omega) (by simp)
    rw [row_other _ _ _ (by omega), row_other _ _ _ (by omega), row_other _ _ _ (by omega), row_other _ _ _ (by omega)]

theorem toTyS_any2 : ∀ d, SaidToS2 d := by
  intro d
  induction d with
  | zero => exact toTyS_zero2
  | succ d ih => exact toTyS_succ2 d (toTy_of2 d ih)
theorem toTy_any2 (d : Nat) : SaidTo2 d := toTy_of2 d (toTyS_any2 d)

end Go.Proofs.YtibbdhmbgnjmoaaGreat
