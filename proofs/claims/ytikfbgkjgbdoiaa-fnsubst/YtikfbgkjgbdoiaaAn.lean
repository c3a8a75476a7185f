/-
  What is left to be compared, as a list; what lies in memory of it: no walk.
-/
import Derived.Test.YtikfbgkjgbdoiaaMp
import Derived.Test.YtikfbgkjgbdoiaaRt
import Derived.Test.YtikfbgkjgbdoiaaRd
namespace Go.Proofs.Ytikfbgkjgbdoiaa
open Go.RowKit
set_option linter.unusedVariables false
set_option linter.unusedSimpArgs false

theorem Try.infoTwo : (Try.prog.info? 100).map (fun i => (i.zero, i.size, i.bytes)) = some (some (.agg #[.int .i64 0, .int .i64 0, .slice none 0 0, .int .i64 0, .int .i64 0, .slice none 0 0]), 6, 80) := by kernel_rfl

/-- Two types that are left to be compared. -/
structure It where
  k : Int
  n : Int
  ao : Option Addr
  len : Nat
  cap : Nat
  ts : List Tr
  bs : List Nat
  k' : Int
  n' : Int
  ao' : Option Addr
  len' : Nat
  cap' : Nat
  ts' : List Tr

def It.x (i : It) : Tr := ⟨i.k, i.n, i.ts⟩
def It.y (i : It) : Tr := ⟨i.k', i.n', i.ts'⟩
def It.cells (i : It) : List Value := [.int .i64 i.k, .int .i64 i.n, .slice i.ao i.len i.cap, .int .i64 i.k', .int .i64 i.n', .slice i.ao' i.len' i.cap']

/-- What holds of them in the world in which the call began. -/
structure AnySt (w : World) (D L' B' g0 : Nat) (its : List It) (cs : List Nat) : Prop where
  ow : ∀ i ∈ its, Ow w D i.ao i.len i.ts i.bs ∧ Hs L' B' w D i.ao' i.len' i.ts'
  nodup : (its.flatMap It.bs ++ cs).Nodup
  bnd : ∀ b ∈ its.flatMap It.bs ++ cs, b < g0
  fro : ∀ b ∈ cs, ∃ a t, w.heap[b]? = some (.cells a t (0, 0))

/-- What lies in the world at hand. -/
structure AnyDyn (w wr : World) (g0 mp : Nat) (v : Value) (its : List It) (cs : List Nat) : Prop where
  grown : w.grownBy wr (some g0)
  row : wr.ownsRow g0 100 6 v its.length (its.flatMap It.cells)
  map : ∃ es clock, wr.heap[mp]? = some (.map es clock) ∧ KeysIn es cs

theorem any_below {w wr w1 : World} {g0 mp : Nat} {v : Value} {its : List It} {cs : List Nat} (h : AnyDyn w wr g0 mp v its cs) (hb : Below wr.heap.size wr w1) : AnyDyn w w1 g0 mp v its cs := by
  refine ⟨⟨hb.os.trans h.grown.os, hb.tape.trans h.grown.tape, hb.output.trans h.grown.output, Nat.le_trans h.grown.size hb.size, fun i hi hr => (hb.block i (Nat.lt_of_lt_of_le hi h.grown.size)).trans (h.grown.block i hi hr)⟩, ⟨h.row.1, ?_⟩, ?_⟩
  · rcases h.row.2 with hn | ⟨g, cap, cur, rfl, hg, hh, r⟩
    · exact Or.inl hn
    · exact Or.inr ⟨g, cap, cur, rfl, hg, (hb.block g (Array.getElem?_eq_some_iff.1 hh).1).trans hh, r⟩
  · obtain ⟨es, clock, hm, hk⟩ := h.map
    exact ⟨es, clock, (hb.block mp (Array.getElem?_eq_some_iff.1 hm).1).trans hm, hk⟩

theorem cells_len (i : It) : i.cells.length = 6 := rfl
theorem cells_flat (its : List It) : (its.flatMap It.cells).length = its.length * 6 := by
  induction its with
  | nil => rfl
  | cons i l ih => simp only [List.flatMap_cons, List.length_append, ih, cells_len, List.length_cons]; omega

/-- The last one of a row, and the row without it. -/
theorem any_pop {w wr : World} {g0 mp : Nat} {v : Value} {init : List It} {it : It} {cs : List Nat} (h : AnyDyn w wr g0 mp v (init ++ [it]) cs) :
    ∃ g cap, v = .slice (some ⟨g, 0, none⟩) (init.length + 1) cap ∧ g0 ≤ g ∧ g < wr.heap.size ∧ init.length + 1 ≤ cap ∧ cap ≤ 9223372036854775807 ∧
      wr.cell? ⟨g, init.length * 6, none⟩ = some (.int .i64 it.k) ∧ wr.cell? ⟨g, init.length * 6 + 1, none⟩ = some (.int .i64 it.n) ∧ wr.cell? ⟨g, init.length * 6 + 2, none⟩ = some (.slice it.ao it.len it.cap) ∧
      wr.cell? ⟨g, init.length * 6 + 3, none⟩ = some (.int .i64 it.k') ∧ wr.cell? ⟨g, init.length * 6 + 4, none⟩ = some (.int .i64 it.n') ∧ wr.cell? ⟨g, init.length * 6 + 5, none⟩ = some (.slice it.ao' it.len' it.cap') ∧
      AnyDyn w wr g0 mp (.slice (some ⟨g, 0, none⟩) init.length cap) init cs := by
  have hrow := h.row
  rw [List.length_append, List.flatMap_append] at hrow
  simp only [List.length_singleton, List.flatMap_cons, List.flatMap_nil, List.append_nil] at hrow
  rcases hrow.2 with ⟨_, hn⟩ | ⟨g, cap, cur, rfl, hg, hh, hc1, hc2, hc3, ht⟩
  · omega
  · have hl := cells_flat init
    have look : ∀ j, j < 6 → wr.cell? ⟨g, init.length * 6 + j, none⟩ = it.cells[j]? := by
      intro j hj
      rw [row_cell hh]
      have e : (cur.toList.take ((init.length + 1) * 6))[init.length * 6 + j]? = it.cells[j]? := by
        rw [ht, List.getElem?_append_right (by omega), hl]; congr 1; omega
      rw [List.getElem?_take, if_pos (by omega)] at e
      simpa using e
    refine ⟨g, cap, rfl, hg, (Array.getElem?_eq_some_iff.1 hh).1, hc1, by unfold maxLen at hc2; omega, look 0 (by omega), look 1 (by omega), look 2 (by omega), look 3 (by omega), look 4 (by omega), look 5 (by omega), h.grown, ⟨hl, Or.inr ⟨g, cap, cur, rfl, hg, hh, by omega, hc2, hc3, ?_⟩⟩, h.map⟩
    have e2 : cur.toList.take (init.length * 6) = (cur.toList.take ((init.length + 1) * 6)).take (init.length * 6) := by rw [List.take_take]; congr 1; omega
    rw [e2, ht, List.take_append_of_le_length (by omega), List.take_of_length_le (by omega)]

/-- One more behind them: what 'append' gives. -/
theorem any_push {w wr : World} {g0 mp : Nat} {v : Value} {its : List It} {cs : List Nat} (h : AnyDyn w wr g0 mp v its cs) (hlast : w.heap.size = g0 + 1) (hsz : its.length ≤ 1048577) (it : It) :
    ∃ g cap w2, (Builtin.append_ #[101, 101] 101 #[v, .slice (some ⟨wr.heap.size, 0, none⟩) 1 1]).run Try.prog (wr.alloc (.cells #[.int .i64 it.k, .int .i64 it.n, .slice it.ao it.len it.cap, .int .i64 it.k', .int .i64 it.n', .slice it.ao' it.len' it.cap'] 100)) = .ok (.slice (some ⟨g, 0, none⟩) (its.length + 1) cap) w2 ∧
      AnyDyn w w2 g0 mp (.slice (some ⟨g, 0, none⟩) (its.length + 1) cap) (its ++ [it]) cs ∧ wr.grownBy w2 v.ownBlock ∧ (v.ownBlock = some g ∨ g = wr.heap.size + 1) := by
  obtain ⟨i0, hi, hz0, hz1, hz2⟩ := info_parts Try.infoTwo
  have hX : Below wr.heap.size wr (wr.alloc (.cells #[.int .i64 it.k, .int .i64 it.n, .slice it.ao it.len it.cap, .int .i64 it.k', .int .i64 it.n', .slice it.ao' it.len' it.cap'] 100)) := (Below.refl _ _).alloc (Nat.le_refl _) _
  have h1 := any_below h hX
  have hgw := h.grown.size
  obtain ⟨g, cap, w2, hrun, hown2, hgrow, hat, hlt⟩ := run_append_lies (P := Try.prog) (wr.alloc (.cells #[.int .i64 it.k, .int .i64 it.n, .slice it.ao it.len it.cap, .int .i64 it.k', .int .i64 it.n', .slice it.ao' it.len' it.cap'] 100)) 101 101 g0 100 i0 _ 6 80 Try.underlying101 hi hz0 hz1 hz2 rfl (by omega) v its.length _ h1.row
    ⟨wr.heap.size, 0, none⟩ 1 1 it.cells rfl (World.news_of_block (cs := #[.int .i64 it.k, .int .i64 it.n, .slice it.ao it.len it.cap, .int .i64 it.k', .int .i64 it.n', .slice it.ao' it.len' it.cap']) (t := 100) (fr := (0, 0)) (heap_alloc_new wr _)) (by simp [Value.oneCell', It.cells])
    (by omega) (by unfold maxLen; omega) (by omega) (by simp; omega) _ rfl
  have hnm : v.ownBlock ≠ some mp := by
    intro e
    obtain ⟨es, clock, hm, _⟩ := h1.map
    rcases h1.row.2 with ⟨rfl, _⟩ | ⟨g1, cap1, cur, rfl, _, hh, _⟩
    · cases e
    · have e' : g1 = mp := by simpa [Value.ownBlock] using e
      subst e'
      rw [hm] at hh; cases hh
  have hge : ∀ b, v.ownBlock = some b → g0 ≤ b := by
    intro b e
    rcases h1.row.2 with ⟨rfl, _⟩ | ⟨g1, cap1, cur, rfl, hg, hh, _⟩
    · cases e
    · have e' : g1 = b := by simpa [Value.ownBlock] using e
      omega
  refine ⟨g, cap, w2, hrun, ⟨⟨hgrow.os.trans h1.grown.os, hgrow.tape.trans h1.grown.tape, hgrow.output.trans h1.grown.output, Nat.le_trans h1.grown.size hgrow.size, fun i hi hr => ?_⟩, ?_, ?_⟩, ⟨hgrow.os, hgrow.tape, hgrow.output, Nat.le_trans (by simp) hgrow.size, fun i hi hr => ?_⟩, by simpa using hat⟩
  · have hne : v.ownBlock ≠ some i := fun e => by have := hge i e; simp at hr; omega
    exact (hgrow.block i (Nat.lt_of_lt_of_le hi h1.grown.size) (fun e => hne e.symm)).trans (h1.grown.block i hi hr)
  · rw [List.length_append, List.flatMap_append]
    simpa using hown2
  · obtain ⟨es, clock, hm, hk⟩ := h1.map
    exact ⟨es, clock, (hgrow.block mp (Array.getElem?_eq_some_iff.1 hm).1 (fun e => hnm e.symm)).trans hm, hk⟩
  · exact (hgrow.block i (by simp; omega) hr).trans (Below.heap_alloc _ _ _ hi)

/-- A key more in the map. -/
theorem any_key {w wr : World} {g0 mp : Nat} {v : Value} {its : List It} {cs : List Nat} (h : AnyDyn w wr g0 mp v its cs) (hmp : w.heap.size ≤ mp) {es : Array MapEntry} {clock : Nat} (hm : wr.heap[mp]? = some (.map es clock)) (hk : KeysIn es cs) (c : Nat) (q : Option Addr) (n : Int) :
    AnyDyn w { wr with heap := wr.heap.setIfInBounds mp (.map (es.push { key := keyV c q n, val := .agg #[], born := clock }) (clock + 1)) } g0 mp v its (c :: cs) := by
  have hlt : mp < wr.heap.size := (Array.getElem?_eq_some_iff.1 hm).1
  have other : ∀ i, i ≠ mp → (wr.heap.setIfInBounds mp (.map (es.push { key := keyV c q n, val := .agg #[], born := clock }) (clock + 1)))[i]? = wr.heap[i]? := fun i hi => by
    rw [Array.getElem?_setIfInBounds]; rw [if_neg (fun e => hi e.symm)]
  refine ⟨⟨h.grown.os, h.grown.tape, h.grown.output, by simpa using h.grown.size, fun i hi hr => (other i (by omega)).trans (h.grown.block i hi hr)⟩, ⟨h.row.1, ?_⟩, ?_⟩
  · rcases h.row.2 with hn | ⟨g, cap, cur, rfl, hg, hh, r⟩
    · exact Or.inl hn
    · refine Or.inr ⟨g, cap, cur, rfl, hg, (other g ?_).trans hh, r⟩
      intro e; subst e; rw [hm] at hh; cases hh
  · refine ⟨es.push { key := keyV c q n, val := .agg #[], born := clock }, clock + 1, by rw [Array.getElem?_setIfInBounds]; simp [hlt], ?_⟩
    intro e he
    rw [Array.toList_push, List.mem_append] at he
    rcases he with he | he
    · obtain ⟨c', q', n', h1, h2⟩ := hk e he
      exact ⟨c', q', n', List.mem_cons_of_mem _ h1, h2⟩
    · simp at he
      subst he
      exact ⟨c, q, n, by simp, rfl⟩

theorem choose_it {n : Nat} {p : Nat → It → Prop} (h : ∀ i, i < n → ∃ x, p i x) : ∃ l : List It, l.length = n ∧ ∀ i (hi : i < l.length), p i l[i] := by
  classical
  refine ⟨(List.range n).attach.map fun i => Classical.choose (h i.1 (List.mem_range.1 i.2)), by simp, fun i hi => ?_⟩
  have hi' : i < n := by simpa using hi
  have := Classical.choose_spec (h i hi')
  simpa using this

/-- The parts of two that are alike, one by one. -/
theorem any_parts {w : World} {D L' B' : Nat} {it : It} (hw : Ow w D it.ao it.len it.ts it.bs) (hh : Hs L' B' w D it.ao' it.len' it.ts') (hlen : it.len = it.len') (hpos : 0 < it.len) :
    ∃ (c c' o' : Nat) (ch : List It), it.ao = some ⟨c, 0, none⟩ ∧ it.ao' = some ⟨c', o', none⟩ ∧ c' < B' ∧ ch.length = it.len ∧ (∃ a t, w.heap[c]? = some (.cells a t (0, 0))) ∧ it.bs = c :: ch.flatMap It.bs ∧ it.len = it.ts.length ∧ it.len' = it.ts'.length ∧
      (∀ i (hi : i < ch.length) (h1 : i < it.ts.length) (h2 : i < it.ts'.length), ch[i].x = it.ts[i] ∧ ch[i].y = it.ts'[i] ∧ Ow w D ch[i].ao ch[i].len ch[i].ts ch[i].bs ∧ Hs L' B' w D ch[i].ao' ch[i].len' ch[i].ts' ∧
        w.cell? ⟨c, i * 3, none⟩ = some (.int .i64 ch[i].k) ∧ w.cell? ⟨c, i * 3 + 1, none⟩ = some (.int .i64 ch[i].n) ∧ w.cell? ⟨c, i * 3 + 2, none⟩ = some (.slice ch[i].ao ch[i].len ch[i].cap) ∧
        w.cell? ⟨c', o' + i * 3, none⟩ = some (.int .i64 ch[i].k') ∧ w.cell? ⟨c', o' + i * 3 + 1, none⟩ = some (.int .i64 ch[i].n') ∧ w.cell? ⟨c', o' + i * 3 + 2, none⟩ = some (.slice ch[i].ao' ch[i].len' ch[i].cap')) := by
  cases D with
  | zero => have := hw.1; omega
  | succ d =>
    rcases hw with ⟨h0, _, _⟩ | ⟨c, a, bss, e, hl, hm, hg, hc, hbl, hbs, hE⟩
    · omega
    · have hl' := hh.1
      obtain ⟨c', o', e', _, hB, _⟩ := hh.2.2 0 (by omega)
      have key : ∀ i, i < it.len → ∃ x : It, ∀ (h1 : i < it.ts.length) (h2 : i < it.ts'.length) (h3 : i < bss.length), x.x = it.ts[i] ∧ x.y = it.ts'[i] ∧ x.bs = bss[i] ∧ Ow w (d + 1) x.ao x.len x.ts x.bs ∧ Hs L' B' w (d + 1) x.ao' x.len' x.ts' ∧
          w.cell? ⟨c, i * 3, none⟩ = some (.int .i64 x.k) ∧ w.cell? ⟨c, i * 3 + 1, none⟩ = some (.int .i64 x.n) ∧ w.cell? ⟨c, i * 3 + 2, none⟩ = some (.slice x.ao x.len x.cap) ∧
          w.cell? ⟨c', o' + i * 3, none⟩ = some (.int .i64 x.k') ∧ w.cell? ⟨c', o' + i * 3 + 1, none⟩ = some (.int .i64 x.n') ∧ w.cell? ⟨c', o' + i * 3 + 2, none⟩ = some (.slice x.ao' x.len' x.cap') := by
        intro i hi
        obtain ⟨ao1, len1, cap1, x0, x1, x2, ho⟩ := hE i (by omega) (by omega)
        obtain ⟨c2, o2, e2, _, _, ao2, len2, cap2, y0, y1, y2, hs⟩ := hh.2.2 i (by omega)
        rw [e'] at e2
        cases e2
        refine ⟨⟨it.ts[i].K, it.ts[i].N, ao1, len1, cap1, it.ts[i].A, bss[i], it.ts'[i].K, it.ts'[i].N, ao2, len2, cap2, it.ts'[i].A⟩, fun h1 h2 h3 => ⟨tr_eta _, tr_eta _, rfl, ho.deeper (by omega), hs.deeper (by omega), x0, x1, x2, y0, y1, y2⟩⟩
      obtain ⟨ch, hcl, hch⟩ := choose_it key
      have hbss : ch.map It.bs = bss := by
        apply List.ext_getElem
        · simp; omega
        · intro i h1 h2
          simp only [List.getElem_map]
          exact (hch i (by simpa using h1) (by omega) (by omega) h2).2.2.1
      refine ⟨c, c', o', ch, e, e', hB, hcl, ⟨a, _, hg⟩, by rw [hbs, ← hbss, List.flatMap_def], hl, hl', fun i hi h1 h2 => ?_⟩
      obtain ⟨q1, q2, q3, q4⟩ := hch i hi h1 h2 (by omega)
      exact ⟨q1, q2, q4⟩

theorem sum_le_len (f : It → Nat) (hf : ∀ i, 1 ≤ f i) (l : List It) : l.length ≤ (l.map f).sum := by
  induction l with
  | nil => simp
  | cons i l ih => have := hf i; simp only [List.map_cons, List.sum_cons, List.length_cons]; omega
theorem cnt_pos (t : Tr) : 1 ≤ cnt t := by rw [cnt_eq]; omega

end Go.Proofs.Ytikfbgkjgbdoiaa
