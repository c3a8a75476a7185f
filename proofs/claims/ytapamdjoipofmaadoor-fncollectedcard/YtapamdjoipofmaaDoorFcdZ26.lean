/-
  Plain: behind a collection a word shows the same.
-/
import Derived.Test.YtapamdjoipofmaaDoorFcdZ25
import Derived.Test.YtapamdjoipofmaaDoorFcdZ3
import Derived.Test.YtapamdjoipofmaaDoorFcdZ12
import Derived.Test.YtapamdjoipofmaaDoorFcdZ6
import Derived.Lib.OthersKept
import Derived.Lib.AppendStr
import Derived.Lib.UnsafeStr
import Derived.Lib.Builder
import Derived.Deep.AppendLies
namespace Go.Proofs.YtapamdjoipofmaaDoor
open Go.RowKit
set_option linter.unusedVariables false
set_option linter.unusedSimpArgs false

theorem col_head {l : List Wrd} {ps : List Nat} (hP : PL l ps) {i p c : Nat} (hp : ps[i]? = some p) (hc : ob l p = some c) : (col l ps).getD (wrds l (ps.take i)) wz = l.getD p wz := by
  have h1 := col_at hP hp hc (Nat.zero_le c)
  obtain ⟨ha, hcx, _⟩ := ob_some hc
  rw [Nat.add_zero, Nat.add_zero, List.getElem?_eq_getElem ha, Option.map_some, mv_head hcx] at h1
  rw [List.getD_eq_getElem?_getD, h1, List.getD_eq_getElem?_getD, List.getElem?_eq_getElem ha]
theorem mv_not {l : List Wrd} {ps : List Nat} {x : Wrd} (hk : x.K ≠ 4) : mvW l ps x = x := by unfold mvW; rw [if_neg hk]
theorem shq_0 (l : List Wrd) (f : Nat) (x : Wrd) : shw l (f + 1) 0 x = ([46], 0) := by rw [shw]
theorem shq_1 {l : List Wrd} {x : Wrd} (h : x.K = 1) (f n : Nat) : shw l (f + 1) (n + 1) x = (Lib.itoa x.N, n) := by rw [shw, if_pos h]
theorem shq_2 {l : List Wrd} {x : Wrd} (h : x.K = 2) (f n : Nat) : shw l (f + 1) (n + 1) x = (if x.N = 1 then [116] else [117], n) := by rw [shw, if_neg (by omega), if_pos h]
theorem shq_3 {l : List Wrd} {x : Wrd} (h : x.K = 3) (f n : Nat) : shw l (f + 1) (n + 1) x = ([91, 93], n) := by rw [shw, if_neg (by omega), if_neg (by omega), if_pos h]
theorem shq_r {l : List Wrd} {x : Wrd} (h4 : x.K = 4) (h : (l.getD x.N.toNat wz).K = 7) (f n : Nat) : shw l (f + 1) (n + 1) x = ([102, 110], n) := by
  rw [shw, if_neg (by omega), if_neg (by omega), if_neg (by omega), if_pos h]
theorem shq_p {l : List Wrd} {x : Wrd} (h4 : x.K = 4) (h : (l.getD x.N.toNat wz).K = 5) (f n : Nat) : shw l (f + 1) (n + 1) x = ([40] ++ (shw l f n (l.getD (x.N.toNat + 1) wz)).1 ++ [44] ++ (shw l f (shw l f n (l.getD (x.N.toNat + 1) wz)).2 (l.getD (x.N.toNat + 2) wz)).1 ++ [41], (shw l f (shw l f n (l.getD (x.N.toNat + 1) wz)).2 (l.getD (x.N.toNat + 2) wz)).2) := by
  rw [shw, if_neg (by omega), if_neg (by omega), if_neg (by omega), if_neg (by omega), if_pos h]
theorem shq_c {l : List Wrd} {x : Wrd} (h4 : x.K = 4) (h : (l.getD x.N.toNat wz).K = 6) (f n : Nat) : shw l (f + 1) (n + 1) x = ([91] ++ (shw l f n (l.getD (x.N.toNat + 1) wz)).1 ++ (shr l f (shw l f n (l.getD (x.N.toNat + 1) wz)).2 (l.getD (x.N.toNat + 2) wz)).1 ++ [93], (shr l f (shw l f n (l.getD (x.N.toNat + 1) wz)).2 (l.getD (x.N.toNat + 2) wz)).2) := by
  rw [shw, if_neg (by omega), if_neg (by omega), if_neg (by omega), if_neg (by omega), if_neg (by omega)]
theorem shq_e {l : List Wrd} {x : Wrd} (h : ¬ (x.K = 4 ∧ (l.getD x.N.toNat wz).K = 6)) (f n : Nat) : shr l (f + 1) n x = ([], n) := by
  unfold shr
  rw [if_neg h]
theorem shq_z {l : List Wrd} {x : Wrd} (h : x.K = 4 ∧ (l.getD x.N.toNat wz).K = 6) (f : Nat) : shr l (f + 1) 0 x = ([44, 46], 0) := by
  rw [shr, if_pos h]
theorem shq_s {l : List Wrd} {x : Wrd} (h : x.K = 4 ∧ (l.getD x.N.toNat wz).K = 6) (f n : Nat) : shr l (f + 1) (n + 1) x = ([44] ++ (shw l f n (l.getD (x.N.toNat + 1) wz)).1 ++ (shr l f (shw l f n (l.getD (x.N.toNat + 1) wz)).2 (l.getD (x.N.toNat + 2) wz)).1, (shr l f (shw l f n (l.getD (x.N.toNat + 1) wz)).2 (l.getD (x.N.toNat + 2) wz)).2) := by
  rw [shr, if_pos h]
theorem shw_plain {l l' : List Wrd} {x : Wrd} (hk : x.K = 1 ∨ x.K = 2 ∨ x.K = 3) : ∀ f n, shw l f n x = shw l' f n x
  | 0, n => by rw [shw, shw]
  | f + 1, 0 => by rw [shq_0, shq_0]
  | f + 1, n + 1 => by
    rcases hk with h | h | h
    · rw [shq_1 h, shq_1 h]
    · rw [shq_2 h, shq_2 h]
    · rw [shq_3 h, shq_3 h]

theorem shw_mv {s : Int} {l : List Wrd} {ps : List Nat} (h : okH s l = true) (hP : PL l ps) (hC : ∀ p ∈ ps, cls l p ps) : ∀ f,
    (∀ n x, rgt (heads l) x = true → (x.K = 4 → x.N.toNat ∈ ps) → shw (col l ps) f n (mvW l ps x) = shw l f n x) ∧ (∀ n x, rgt (heads l) x = true → (x.K = 4 → x.N.toNat ∈ ps) → shr (col l ps) f n (mvW l ps x) = shr l f n x)
  | 0 => ⟨fun n x _ _ => by rw [shw, shw], fun n x _ _ => by rw [shr, shr]⟩
  | f + 1 => by
    obtain ⟨h1, h2⟩ := shw_mv h hP hC f
    refine ⟨fun n x hx hm => ?_, fun n x hx hm => ?_⟩
    · by_cases hk : x.K = 4
      · cases n with
        | zero => rw [shq_0, shq_0]
        | succ n =>
          obtain ⟨a, c, ha, hmem, hlt, hob, hcn, hkk, hc2⟩ := rg4 h hx hk
          have eN : x.N.toNat = a := by omega
          have hin := hm hk
          rw [eN] at hin
          obtain ⟨i, hi⟩ := List.mem_iff_getElem?.1 hin
          have e : mvW l ps x = ⟨4, (wrds l (ps.take i) : Int)⟩ := by unfold mvW; rw [if_pos hk, eN, off_at hP.1 hi]
          rw [e]
          have eT : (⟨4, (wrds l (ps.take i) : Int)⟩ : Wrd).N.toNat = wrds l (ps.take i) := Int.toNat_natCast _
          have eH := col_head hP hi hob
          have eH' : ((col l ps).getD (⟨4, (wrds l (ps.take i) : Int)⟩ : Wrd).N.toNat wz) = l.getD a wz := by rw [eT]; exact eH
          rcases hkk with h5 | h6 | h7
          · obtain rfl : c = 2 := hc2 (by omega)
            have f1 := col_fld hP hi hob (show 0 < 2 by omega)
            have f2 := col_fld hP hi hob (show 1 < 2 by omega)
            have g1 : (col l ps).getD (wrds l (ps.take i) + 1) wz = mvW l ps (l.getD (a + 1) wz) := f1
            have g2 : (col l ps).getD (wrds l (ps.take i) + 2) wz = mvW l ps (l.getD (a + 2) wz) := f2
            have k1 := fun n => h1 n (l.getD (a + 1) wz) (fld_rgt h hmem 0 (by omega)) (cls_fld hob (hC a hin) (show 0 < 2 by omega))
            have k2 := fun n => h1 n (l.getD (a + 2) wz) (fld_rgt h hmem 1 (by omega)) (cls_fld hob (hC a hin) (show 1 < 2 by omega))
            rw [shq_p rfl (by rw [eH']; exact h5), shq_p hk (by rw [eN]; exact h5), eT, eN, g1, g2, k1, k2]
          · obtain rfl : c = 2 := hc2 (by omega)
            have f1 := col_fld hP hi hob (show 0 < 2 by omega)
            have f2 := col_fld hP hi hob (show 1 < 2 by omega)
            have g1 : (col l ps).getD (wrds l (ps.take i) + 1) wz = mvW l ps (l.getD (a + 1) wz) := f1
            have g2 : (col l ps).getD (wrds l (ps.take i) + 2) wz = mvW l ps (l.getD (a + 2) wz) := f2
            have k1 := fun n => h1 n (l.getD (a + 1) wz) (fld_rgt h hmem 0 (by omega)) (cls_fld hob (hC a hin) (show 0 < 2 by omega))
            have k3 := fun n => h2 n (l.getD (a + 2) wz) (fld_rgt h hmem 1 (by omega)) (cls_fld hob (hC a hin) (show 1 < 2 by omega))
            rw [shq_c rfl (by rw [eH']; exact h6), shq_c hk (by rw [eN]; exact h6), eT, eN, g1, g2, k1, k3]
          · rw [shq_r rfl (by rw [eH']; exact h7), shq_r hk (by rw [eN]; exact h7)]
      · rw [mv_not hk]
        refine shw_plain ?_ _ _
        rcases rg_kind hx with h' | h' | h' | h'
        · exact Or.inl h'.1
        · exact Or.inr (Or.inl h')
        · exact Or.inr (Or.inr h')
        · exact absurd h' hk
    · by_cases hk : x.K = 4
      · obtain ⟨a, c, ha, hmem, hlt, hob, hcn, hkk, hc2⟩ := rg4 h hx hk
        have eN : x.N.toNat = a := by omega
        have hin := hm hk
        rw [eN] at hin
        obtain ⟨i, hi⟩ := List.mem_iff_getElem?.1 hin
        have e : mvW l ps x = ⟨4, (wrds l (ps.take i) : Int)⟩ := by unfold mvW; rw [if_pos hk, eN, off_at hP.1 hi]
        rw [e]
        have eT : (⟨4, (wrds l (ps.take i) : Int)⟩ : Wrd).N.toNat = wrds l (ps.take i) := Int.toNat_natCast _
        have eH := col_head hP hi hob
        have eH' : ((col l ps).getD (⟨4, (wrds l (ps.take i) : Int)⟩ : Wrd).N.toNat wz) = l.getD a wz := by rw [eT]; exact eH
        by_cases h6 : (l.getD a wz).K = 6
        · obtain rfl : c = 2 := hc2 (by omega)
          have f1 := col_fld hP hi hob (show 0 < 2 by omega)
          have f2 := col_fld hP hi hob (show 1 < 2 by omega)
          have g1 : (col l ps).getD (wrds l (ps.take i) + 1) wz = mvW l ps (l.getD (a + 1) wz) := f1
          have g2 : (col l ps).getD (wrds l (ps.take i) + 2) wz = mvW l ps (l.getD (a + 2) wz) := f2
          have k1 := fun n => h1 n (l.getD (a + 1) wz) (fld_rgt h hmem 0 (by omega)) (cls_fld hob (hC a hin) (show 0 < 2 by omega))
          have k3 := fun n => h2 n (l.getD (a + 2) wz) (fld_rgt h hmem 1 (by omega)) (cls_fld hob (hC a hin) (show 1 < 2 by omega))
          cases n with
          | zero => rw [shq_z ⟨rfl, by rw [eH']; exact h6⟩, shq_z ⟨hk, by rw [eN]; exact h6⟩]
          | succ n => rw [shq_s ⟨rfl, by rw [eH']; exact h6⟩, shq_s ⟨hk, by rw [eN]; exact h6⟩, eT, eN, g1, g2, k1, k3]
        · rw [shq_e (fun q => h6 (by rw [← eH']; exact q.2)), shq_e (fun q => h6 (by rw [← eN]; exact q.2))]
      · rw [mv_not hk, shq_e (fun q => hk q.1), shq_e (fun q => hk q.1)]

end Go.Proofs.YtapamdjoipofmaaDoor

/-
  A builder that lies in a 'shower': 'copyCheck', 'WriteString', 'WriteByte', 'String' at it.
-/
namespace Go.Proofs.YtapamdjoipofmaaDoor
open Go.RowKit
set_option linter.unusedVariables false
set_option linter.unusedSimpArgs false

theorem Tryd.infoByte : (Tryd.prog.info? 5).map (fun i => (i.zero, i.size, i.bytes)) = some (some (.int .u8 0), 1, 1) := by kernel_rfl
theorem Tryd.infoBuilder : (Tryd.prog.info? 58).map (fun i => i.size) = some 2 := by kernel_rfl
theorem Tryd.liesBuilder : liesAt Tryd.prog Tryd.prog.depth 60 (4 / Tryd.prog.cellsOf 60) 2 58 1 = true := by kernel_rfl

/-- A row of bytes of one's own. -/
def Byr (base : Nat) (w : World) (v : Value) (T : List UInt8) : Prop := w.ownsRow base 5 1 v T.length (Lib.byteCells T)
theorem byr_own {base : Nat} {w : World} {v : Value} {T : List UInt8} (h : Byr base w v T) {g : Nat} (hg : v.ownBlock = some g) : base ≤ g ∧ ∃ c fz, w.heap[g]? = some (.cells c 5 fz) := by
  rcases h.2 with ⟨rfl, _⟩ | ⟨g', cap, cur, rfl, hb', hh, _⟩
  · cases hg
  · have e : g' = g := by simpa [Value.ownBlock] using hg
    subst e
    exact ⟨hb', _, _, hh⟩
theorem byr_keep {base : Nat} {w w' : World} {v : Value} {T : List UInt8} (h : Byr base w v T) (hk : ∀ g, v.ownBlock = some g → w'.heap[g]? = w.heap[g]?) : Byr base w' v T := by
  refine ⟨h.1, ?_⟩
  rcases h.2 with hn | ⟨g, cap, cur, rfl, hg, hh, r⟩
  · exact Or.inl hn
  · exact Or.inr ⟨g, cap, cur, rfl, hg, (hk g rfl).trans hh, r⟩

/-- What a writer changes: its own block S, rows of bytes from base on; all else stands. -/
structure Sg (S : Nat) (w w' : World) : Prop where
  bel : Below S w w'
  oth : Lib.OthersKept 5 (some S) w w'
theorem Sg.refl (S : Nat) (w : World) : Sg S w w := ⟨Below.refl _ _, Lib.OthersKept.refl _ _ _⟩
theorem Sg.trans {S : Nat} {a b c : World} (h : Sg S a b) (k : Sg S b c) : Sg S a c := ⟨h.bel.trans k.bel, h.oth.trans k.oth⟩
theorem Sg.blk {S : Nat} {w w' : World} (h : Sg S w w') {k : Nat} {cs : Array Value} {t : TypeId} {fr : Nat × Nat} (hk : w.heap[k]? = some (.cells cs t fr)) (hS : k ≠ S) (ht : t ≠ 5) : w'.heap[k]? = some (.cells cs t fr) :=
  h.oth k _ hk (fun e => hS (Option.some.inj e)) (fun c fz e => by injection e with _ e2 _; exact ht e2)
theorem Sg.below {S : Nat} {w w' : World} (hb : Below w.heap.size w w') (hS : S ≤ w.heap.size) : Sg S w w' :=
  ⟨hb.mono hS, fun k o hk _ _ => (hb.block k (Array.getElem?_eq_some_iff.1 hk).1).trans hk⟩

/-- A shower in block S: the heap's words, how many looks are left, the text so far. -/
structure Shw (w : World) (S : Nat) (ao : Option Addr) (len cap : Nat) (n : Int) (T : List UInt8) : Prop where
  at_ : ∃ p v, w.heap[S]? = some (.cells #[.slice ao len cap, .int .i64 n, p, v] 60 (0, 0)) ∧ (p = .pointer none ∨ p = .pointer (some ⟨S, 2, none⟩)) ∧ Byr (S + 1) w v T
theorem Shw.lt {w : World} {S : Nat} {ao : Option Addr} {len cap : Nat} {n : Int} {T : List UInt8} (h : Shw w S ao len cap n T) : S < w.heap.size := by
  obtain ⟨p, v, hb, _⟩ := h.at_
  exact (Array.getElem?_eq_some_iff.1 hb).1
theorem Shw.below {w w' : World} {S : Nat} {ao : Option Addr} {len cap : Nat} {n : Int} {T : List UInt8} (h : Shw w S ao len cap n T) (hb : Below w.heap.size w w') : Shw w' S ao len cap n T := by
  have hlt := h.lt
  obtain ⟨p, v, h1, h2, h3⟩ := h.at_
  refine ⟨p, v, (hb.block _ hlt).trans h1, h2, byr_keep h3 fun g hg => ?_⟩
  obtain ⟨_, c, fz, hc⟩ := byr_own h3 hg
  exact hb.block g (Array.getElem?_eq_some_iff.1 hc).1
theorem cells4b {w : World} {b : Nat} {x0 x1 x2 x3 : Value} {t : TypeId} {fr : Nat × Nat} (h : w.heap[b]? = some (.cells #[x0, x1, x2, x3] t fr)) :
    w.cell? ⟨b, 0, none⟩ = some x0 ∧ w.cell? ⟨b, 1, none⟩ = some x1 ∧ w.cell? ⟨b, 2, none⟩ = some x2 ∧ w.cell? ⟨b, 3, none⟩ = some x3 := ⟨row_cell h 0, row_cell h 1, row_cell h 2, row_cell h 3⟩

set_option maxRecDepth 100000 in
set_option maxHeartbeats 1000000 in
theorem copyCheck_used (S : Nat) (w : World) (h0 : w.cell? ⟨S, 2, none⟩ = some (.pointer (some ⟨S, 2, none⟩))) :
    Calls Tryd.prog 51 #[.pointer (some ⟨S, 2, none⟩)] w fun e w' => e = .returned (.tuple #[]) ∧ w' = w := by
  obtain ⟨j, hj, hjs⟩ := Option.map_eq_some_iff.1 Tryd.infoBuilder
  go_enter Tryd.func51, Tryd.ntmps51
  go_wp2_with fail
  rw [Lib.run_neq_ptr_same w _ Tryd.underlying56 hj]
  simp only [Result.andThen]
  rw [Oper.upon_value]
  go_wp2_with fail
  go_end0
  exact ⟨rfl, rfl⟩

set_option maxRecDepth 100000 in
set_option maxHeartbeats 1000000 in
theorem copyCheck_fresh (S : Nat) (w : World) (h0 : w.cell? ⟨S, 2, none⟩ = some (.pointer none)) (hsh : w.shape? S = some (60, 4)) (hfz : w.frozen? ⟨S, 2, none⟩ = false) :
    Calls Tryd.prog 51 #[.pointer (some ⟨S, 2, none⟩)] w fun e w' => e = .returned (.tuple #[]) ∧ w' = w.setCell ⟨S, 2, none⟩ (.pointer (some ⟨S, 2, none⟩)) := by
  obtain ⟨j, hj, hjs⟩ := Option.map_eq_some_iff.1 Tryd.infoBuilder
  go_enter Tryd.func51, Tryd.ntmps51
  go_wp2_with fail
  rw [Lib.run_to_unsafe w ⟨S, 2, none⟩ Tryd.underlying56 Tryd.underlying97 hj (by rw [hjs]; decide) hsh (by show 2 < 4; omega)]
  simp only [Result.andThen]
  rw [Oper.upon_value]
  go_wp2_with fail
  rw [run_callFunc_extern Tryd.func54 (by kernel_rfl) (by kernel_rfl) (by kernel_rfl) (e := Extern.AbiNoEscape.same) (by kernel_rfl)]
  rw [Lib.run_noEscape]
  simp only [Result.andThen]
  rw [Oper.upon_value]
  go_wp2_with fail
  rw [Lib.run_from_unsafe w ⟨S, 2, none⟩ Tryd.underlying97 Tryd.underlying56 hj hsh Tryd.liesBuilder]
  simp only [Result.andThen]
  rw [Oper.upon_value]
  go_wp2_with fail
  go_end0
  exact ⟨rfl, rfl⟩

end Go.Proofs.YtapamdjoipofmaaDoor
