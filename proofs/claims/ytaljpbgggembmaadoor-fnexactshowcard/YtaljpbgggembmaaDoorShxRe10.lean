/-
  The program's 'rootsRight' and 'Reached'.
-/
import Derived.Test.YtaljpbgggembmaaDoorShxHq0
namespace Go.Proofs.YtaljpbgggembmaaDoor
open Go.RowKit Go.Shelf
set_option linter.unusedVariables false
set_option linter.unusedSimpArgs false

/-- Roots of a heap that are right. -/
def rokB (s : Int) (l roots : List Wrd) : Bool := okH s l && roots.all (rgt (heads l))

set_option maxHeartbeats 1000000 in
theorem rootsRight_any (L B Lr Br : Nat) (s : Int) (ao : Option Addr) (len cap : Nat) (l : List Wrd) (ar : Option Addr) (nr cr : Nat) (roots : List Wrd) (w : World) (hB : B ≤ w.heap.size) (hBr : Br ≤ w.heap.size) (hs : Ws L B w ao len l) (hr : Ws Lr Br w ar nr roots) (hl : len ≤ 1048576) (hnr : nr ≤ 1048576) (hcap : len ≤ cap) :
    Calls Tryd.prog 14 #[vH s ao len cap, .slice ar nr cr] w fun e w' => e = .returned (.bool (rokB s l roots)) ∧ Below w.heap.size w w' := by
  have HL : Hid (len = l.length) := hs.1
  have HR : Hid (rokB s l roots = (okH s l && roots.all (rgt (heads l)))) := rfl
  obtain ⟨ans, hans⟩ : ∃ b, rokB s l roots = b := ⟨_, rfl⟩
  rw [hans] at HR ⊢
  clear hans
  have hXb : Below w.heap.size w (w.alloc (.cells #[.int .i64 s, .slice ao len cap] 31)) := (Below.refl _ _).alloc (Nat.le_refl _) _
  have K := headsOf_any L B s ao len cap l _ (by simp; omega) (hs.below hXb hB) hl hcap
  obtain ⟨q, hq⟩ : ∃ q, okH s l = q := ⟨_, rfl⟩
  rw [hq] at K HR
  clear hq
  cases q with
  | false =>
    have HE : Hid (ans = false) := HR.out
    go_enter Tryd.func14, Tryd.ntmps14
    go_wp2_with fail
    refine K.mono ?_
    rintro e w1 ⟨he, hb1⟩
    obtain rfl : e = .returned (.tuple #[.slice none 0 0, .bool false]) := he
    have hbw : Below w.heap.size w w1 := hXb.trans (hb1.mono (by simp))
    clear K
    go_wp2_with fail
    go_ret
    exact ⟨ret_bool (by rw [HE.out]), hbw⟩
  | true =>
    have HE : Hid (ans = roots.all (rgt (heads l))) := HR.out
    go_enter Tryd.func14, Tryd.ntmps14
    go_wp2_with fail
    refine K.mono ?_
    rintro e w1 ⟨he, hb1⟩
    obtain ⟨g, rfl, _, hR⟩ := he
    have hbw : Below w.heap.size w w1 := hXb.trans (hb1.mono (by simp))
    have K2 := right_any g len len (heads l) Lr Br ar nr cr roots w1 hR (by rw [heads_len]; exact HL.out) hl (Nat.le_trans hBr hbw.size) (hr.below hbw hBr) hnr
    rw [← HE.out] at K2
    clear K
    go_wp2_with fail
    refine K2.mono ?_
    rintro e w2 ⟨rfl, hb2⟩
    clear K2
    have hbw2 : Below w.heap.size w w2 := hbw.trans (hb2.mono hbw.size)
    go_wp2_with fail
    go_ret
    exact ⟨rfl, hbw2⟩

end Go.Proofs.YtaljpbgggembmaaDoor
