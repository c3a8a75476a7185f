/-
  What the model's 'l12Some' comes to: some word that is right; the cursor is moved on.
-/
import Derived.Test.YtapamdjoipofmaaDoorFcdZ36
namespace Go.Proofs.YtapamdjoipofmaaDoor
open Go.RowKit
set_option linter.unusedVariables false
set_option linter.unusedSimpArgs false

theorem rgt_1 (bs : List Bool) (y : Int) (h0 : 0 ≤ y) (h1 : y < 9) : rgt bs ⟨1, y⟩ = true := by
  unfold rgt
  rw [if_pos rfl]
  simp
  omega
theorem rgt_2 (bs : List Bool) (y : Int) (h0 : 0 ≤ y) (h1 : y < 2) : rgt bs ⟨2, y⟩ = true := by
  unfold rgt
  rw [if_neg (by simp), if_pos rfl]
  simp
  omega
theorem rgt_3 (bs : List Bool) : rgt bs ⟨3, 0⟩ = true := by
  unfold rgt
  rw [if_neg (by simp), if_neg (by simp), if_pos rfl]
  simp
theorem rgt_4 (bs : List Bool) (y : Int) (h : ∃ k : Nat, y = (k : Int) ∧ k < bs.length ∧ bs.getD k false = true) : rgt bs ⟨4, y⟩ = true := by
  obtain ⟨k, rfl, h1, h2⟩ := h
  unfold rgt
  rw [if_neg (by simp), if_neg (by simp), if_neg (by simp), if_pos rfl]
  simp only [Bool.and_eq_true, decide_eq_true_eq, Int.toNat_natCast]
  exact ⟨⟨by omega, by omega⟩, h2⟩

set_option maxRecDepth 100000 in
set_option maxHeartbeats 2000000 in
theorem l12Some_rgt (p : Nat) (cao : Option Addr) (clen ccap : Nat) (g len cap : Nat) (bs : List Bool) (w : World) (hc : Cur w p cao clen ccap) (hr : BRow w g bs) (hgp : g ≠ p) (hlen : len = bs.length) (hl : len ≤ 256) :
    Calls Tryd.prog 15 #[.pointer (some ⟨p, 0, none⟩), .slice (some ⟨g, 0, none⟩) len cap] w fun e w' => ∃ x : Wrd, e = .returned (vW x) ∧ rgt bs x = true ∧ Drw w w' p cao clen ccap := by
  have hp := hc.lt
  have hg := hr.lt
  obtain ⟨X, hX⟩ : ∃ X, X = (w.alloc (.cells #[.int .i64 0, .int .i64 0] 34)).alloc (.cells #[] 3) := ⟨_, rfl⟩
  have hXs : X.heap.size = w.heap.size + 2 := by rw [hX]; simp
  have hXb : Below w.heap.size w X := by rw [hX]; exact ((Below.refl _ _).alloc (Nat.le_refl _) _).alloc (by simp) _
  have x0 : X.heap[w.heap.size]? = some (.cells #[.int .i64 0, .int .i64 0] 34 (0, 0)) := by rw [hX, Below.heap_alloc _ _ _ (by simp)]; exact heap_new rfl
  have x1 : X.heap[w.heap.size + 1]? = some (.cells #[] 3 (0, 0)) := by rw [hX]; exact heap_new (by simp)
  have hN0 : Nums (w.heap.size + 1) X (.slice (some ⟨w.heap.size + 1, 0, none⟩) 0 0) [] := nums_none x1 (Nat.le_refl _)
  have HX : Hid (X = _) := hX
  have HL : Hid (len = bs.length) := hlen
  clear hX hlen x1
  go_enter Tryd.func15, Tryd.ntmps15
  go_wp2_with fail
  rw [← HX.out]
  go_loopw [5, 6] (fun v i wr => ∃ (k n : Nat) (a' : Option Addr) (c' : Nat) (P : List Int), k ≤ len ∧ n ≤ k ∧ i = .int .i64 k ∧ v = .slice a' n c' ∧ Hid (n = P.length) ∧ Hid (∀ y ∈ P, ∃ k : Nat, y = (k : Int) ∧ k < bs.length ∧ bs.getD k false = true) ∧ Nums (w.heap.size + 1) wr (.slice a' n c') P ∧ Below (w.heap.size + 1) X wr) (fun _ i _ => len - (intOf i).toNat)
  case atStart => exact ⟨0, 0, _, _, [], by omega, by omega, rfl, rfl, rfl, (fun y hy => by cases hy), hN0, Below.refl _ _⟩
  case round =>
    obtain ⟨k, n, a', c', P, hk, hn, rfl, rfl, HN, HPB, hN, hbr⟩ := hrel
    have hszr := hbr.size
    have hbw : Below w.heap.size w wr := hXb.trans (hbr.mono (by omega))
    by_cases hlt : k < len
    · have hzb : w.heap.size + 1 ≤ wr.heap.size := by omega
      have hkb : k < bs.length := by have := HL.out; omega
      have hbit := (hr.bel hbw hg).get k hkb
      obtain ⟨g2, cp, w2, HR, HN2, hb2⟩ := nums_push hN hzb (by have := HN.out; omega) (k : Int)
      have HR' : Hid (_ = _) := HR
      have HN' : Hid (Nums (w.heap.size + 1) w2 (.slice (some ⟨g2, 0, none⟩) (n + 1) cp) (P ++ [(k : Int)])) := by show Nums _ _ _ _; rw [HN.out]; exact HN2
      have hbr2 : Below (w.heap.size + 1) X w2 := hbr.trans hb2
      have HL2 : Hid (n + 1 = (P ++ [(k : Int)]).length) := by show _ = _; have := HN.out; simp; omega
      rw [← HN.out] at HR'
      clear HR HN2 hb2
      cases hb : bs.getD k false with
      | true =>
        rw [hb] at hbit
        have HPB2 : Hid (∀ y ∈ P ++ [(k : Int)], ∃ k : Nat, y = (k : Int) ∧ k < bs.length ∧ bs.getD k false = true) := by
          intro y hy
          rcases List.mem_append.1 hy with hy | hy
          · exact HPB.out y hy
          · rw [List.mem_singleton] at hy
            exact ⟨k, hy, hkb, hb⟩
        go_wp2_with (at_builtin; refine list_run HR'.out (by rfl) _ _ (by rfl) (by rfl) (by rfl) (by rfl) ?_)
        go_roundw
        case rel => exact ⟨k + 1, n + 1, _, _, _, by omega, by omega, by go_num, rfl, HL2, HPB2, HN'.out, hbr2⟩
        case measure => simp [intOf]; omega
      | false =>
        rw [hb] at hbit
        go_wp2_with fail
        go_roundw
        case rel => exact ⟨k + 1, n, _, _, _, by omega, by omega, by go_num, rfl, HN, HPB, hN, hbr⟩
        case measure => simp [intOf]; omega
    · have hcr := hc.below hbw
      have hDr : Drw w wr p cao clen ccap := drw_below hc hbw
      have hrr := (hbr.block w.heap.size (by omega)).trans x0
      have hwlt : w.heap.size < wr.heap.size := by omega
      clear hr hXb x0
      by_cases hn0 : 0 < n
      · go_wp2_with fail
        refine (l1Once_any p cao clen ccap 2 _ hcr (by omega) (by omega)).mono ?_
        rintro e w1 ⟨b, rfl, hD1⟩
        have hr1 := (hD1.blk hwlt (by omega)).trans hrr
        have hlt1 : w.heap.size < w1.heap.size := (Array.getElem?_eq_some_iff.1 hr1).1
        have hDw1 := hDr.trans hD1
        cases b with
        | true =>
          go_wp2_with fail
          refine (l1Below_any p cao clen ccap n _ hD1.cur (by omega) (by omega)).mono ?_
          rintro e w2 ⟨x, rfl, hx0, hx1, hD2⟩
          have hr2 := (hD2.blk hlt1 (by omega)).trans hr1
          obtain ⟨g3, cp3, e3, hg3, hg3', hcell⟩ := nums_at hN x.toNat (by have := HN.out; omega)
          cases e3
          have hcell2 : w2.cell? ⟨g3, 0 + x.toNat, none⟩ = some (ik (P[x.toNat]'(by have := HN.out; omega))) := by
            refine (World.cell?_of_block ?_).trans hcell
            show w2.heap[g3]? = wr.heap[g3]?
            exact (hD2.blk (by have := hD1.grown.size; omega) (by omega)).trans (hD1.blk hg3' (by omega))
          obtain ⟨y, hy⟩ : ∃ y, y = (P[x.toNat]'(by have := HN.out; omega)) := ⟨_, rfl⟩
          have HR4 : Hid (rgt bs ⟨4, y⟩ = true) := rgt_4 bs y (HPB.out y (by rw [hy]; exact List.getElem_mem _))
          rw [← hy, Nat.zero_add] at hcell2
          obtain ⟨xn, hxn⟩ : ∃ xn : Nat, x = xn := ⟨x.toNat, by omega⟩
          subst hxn
          simp only [Int.toNat_natCast, ik] at hcell2
          obtain ⟨c0, c1⟩ := cells2 hr2
          have f1 := row_free hr2
          have hDw2 := hDw1.trans hD2
          clear hrr hr1 hr2 hcell hy
          go_wp2_with fail
          refine bodyPost_ret (v := vW ⟨4, y⟩) (by simp [results, Tryd.results15, go_sem, c0, c1]) rfl ⟨_, rfl, HR4.out, some_end hDw2 hp _ _⟩
        | false =>
          go_wp2_with fail
          refine (l1Below_any p cao clen ccap 4 _ hD1.cur (by omega) (by omega)).mono ?_
          rintro e w2 ⟨x, rfl, hx0, hx1, hD2⟩
          have hr2 := (hD2.blk hlt1 (by omega)).trans hr1
          have hlt2 : w.heap.size < w2.heap.size := (Array.getElem?_eq_some_iff.1 hr2).1
          have hDw2 := (hDw1).trans hD2
          clear hrr hr1
          by_cases e0 : x = 0
          · subst e0
            go_wp2_with fail
            refine (l1Below_any p cao clen ccap 2 _ hD2.cur (by omega) (by omega)).mono ?_
            rintro e w3 ⟨y, rfl, hy0, hy1, hD3⟩
            have hr3 := (hD3.blk hlt2 (by omega)).trans hr2
            obtain ⟨c0, c1⟩ := cells2 hr3
            have f1 := row_free hr3
            have hDw3 := hDw2.trans hD3
            clear hr3 hr2
            go_wp2_with fail
            refine bodyPost_ret (v := vW ⟨2, y⟩) (by simp [results, Tryd.results15, go_sem, c0, c1]) rfl ⟨_, rfl, rgt_2 bs y hy0 hy1, some_end hDw3 hp _ _⟩
          · by_cases e1 : x = 1
            · subst e1
              obtain ⟨c0, c1⟩ := cells2 hr2
              have f1 := row_free hr2
              clear hr2
              go_wp2_with fail
              refine bodyPost_ret (v := vW ⟨3, 0⟩) (by simp [results, Tryd.results15, go_sem, c0, c1]) rfl ⟨_, rfl, rgt_3 bs, some_end hDw2 hp _ _⟩
            · go_wp2_with fail
              refine (l1Below_any p cao clen ccap 9 _ hD2.cur (by omega) (by omega)).mono ?_
              rintro e w3 ⟨y, rfl, hy0, hy1, hD3⟩
              have hr3 := (hD3.blk hlt2 (by omega)).trans hr2
              obtain ⟨c0, c1⟩ := cells2 hr3
              have f1 := row_free hr3
              have hDw3 := hDw2.trans hD3
              clear hr3 hr2
              go_wp2_with fail
              refine bodyPost_ret (v := vW ⟨1, y⟩) (by simp [results, Tryd.results15, go_sem, c0, c1]) rfl ⟨_, rfl, rgt_1 bs y hy0 hy1, some_end hDw3 hp _ _⟩
      · obtain rfl : n = 0 := by omega
        go_wp2_with fail
        refine (l1Below_any p cao clen ccap 4 _ hcr (by omega) (by omega)).mono ?_
        rintro e w2 ⟨x, rfl, hx0, hx1, hD2⟩
        have hr2 := (hD2.blk hwlt (by omega)).trans hrr
        have hlt2 : w.heap.size < w2.heap.size := (Array.getElem?_eq_some_iff.1 hr2).1
        have hDw2 := (hDr).trans hD2
        clear hrr
        by_cases e0 : x = 0
        · subst e0
          go_wp2_with fail
          refine (l1Below_any p cao clen ccap 2 _ hD2.cur (by omega) (by omega)).mono ?_
          rintro e w3 ⟨y, rfl, hy0, hy1, hD3⟩
          have hr3 := (hD3.blk hlt2 (by omega)).trans hr2
          obtain ⟨c0, c1⟩ := cells2 hr3
          have f1 := row_free hr3
          have hDw3 := hDw2.trans hD3
          clear hr3 hr2
          go_wp2_with fail
          refine bodyPost_ret (v := vW ⟨2, y⟩) (by simp [results, Tryd.results15, go_sem, c0, c1]) rfl ⟨_, rfl, rgt_2 bs y hy0 hy1, some_end hDw3 hp _ _⟩
        · by_cases e1 : x = 1
          · subst e1
            obtain ⟨c0, c1⟩ := cells2 hr2
            have f1 := row_free hr2
            clear hr2
            go_wp2_with fail
            refine bodyPost_ret (v := vW ⟨3, 0⟩) (by simp [results, Tryd.results15, go_sem, c0, c1]) rfl ⟨_, rfl, rgt_3 bs, some_end hDw2 hp _ _⟩
          · go_wp2_with fail
            refine (l1Below_any p cao clen ccap 9 _ hD2.cur (by omega) (by omega)).mono ?_
            rintro e w3 ⟨y, rfl, hy0, hy1, hD3⟩
            have hr3 := (hD3.blk hlt2 (by omega)).trans hr2
            obtain ⟨c0, c1⟩ := cells2 hr3
            have f1 := row_free hr3
            have hDw3 := hDw2.trans hD3
            clear hr3 hr2
            go_wp2_with fail
            refine bodyPost_ret (v := vW ⟨1, y⟩) (by simp [results, Tryd.results15, go_sem, c0, c1]) rfl ⟨_, rfl, rgt_1 bs y hy0 hy1, some_end hDw3 hp _ _⟩

end Go.Proofs.YtapamdjoipofmaaDoor
