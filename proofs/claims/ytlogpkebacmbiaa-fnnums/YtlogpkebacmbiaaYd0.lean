/-
  Plainly: a number comes back of its bytes, and not of fewer.
-/
import Derived.Test.YtlogpkebacmbiaaYg0
namespace Go.Proofs.Ytlogpkebacmbiaa
open Go.RowKit
set_option linter.unusedVariables false
set_option linter.unusedSimpArgs false

theorem grp_ind {P : Nat → Prop} (h0 : ∀ m, m < 128 → P m) (h1 : ∀ m, 128 ≤ m → P (m / 128) → P m) : ∀ m, P m := fun m => by
  induction m using Nat.strongRecOn with
  | _ m ih =>
    by_cases h : m < 128
    · exact h0 m h
    · exact h1 m (by omega) (ih (m / 128) (by omega))
theorem grp_val : ∀ m, valG (grp m) = m := grp_ind (fun m h => by rw [grp_last h]; simp [valG]; omega) (fun m h ih => by rw [grp_more h, valG, ih]; omega)
/-- All but the last are 128 or more, the last is below. -/
theorem grp_split : ∀ m, ∃ (f : List Int) (c : Int), grp m = f ++ [c] ∧ (∀ x ∈ f, 128 ≤ x) ∧ c < 128 ∧ (1 ≤ m → c ≠ 0) := grp_ind
  (fun m h => ⟨[], m, by rw [grp_last h]; rfl, by simp, by omega, by omega⟩)
  (fun m h ⟨f, c, e, h1, h2, h3⟩ => by
    refine ⟨((m % 128 + 128 : Nat) : Int) :: f, c, by rw [grp_more h, e]; rfl, fun x hx => ?_, h2, fun _ => h3 (by omega)⟩
    rcases List.mem_cons.1 hx with rfl | hx
    · omega
    · exact h1 x hx)
theorem idxG_snoc (f : List Int) (c : Int) (h1 : ∀ x ∈ f, 128 ≤ x) (h2 : c < 128) : idxG (f ++ [c]) = some f.length :=
  idxG_some _ _ (by simp) (fun i hi => by rw [List.getElem_append_left hi]; exact h1 _ (List.getElem_mem _)) (by simpa using h2)
theorem idxG_all (f : List Int) (h1 : ∀ x ∈ f, 128 ≤ x) : idxG f = none := idxG_none _ (fun i hi => h1 _ (List.getElem_mem _))
theorem sgn_zig (n : Int) : sgn (zig n) = cla n := by
  unfold sgn
  by_cases h : cla n < 0
  · have := zig_neg h
    rw [if_pos (by omega)]
    omega
  · have := zig_pos h
    rw [if_neg (by omega)]
    omega
theorem grpAt_put (l : List Int) (n : Int) : grpAt (l ++ put n) l.length = put n := by
  rw [grpAt_in (by omega) (by simp; omega), Int.toNat_natCast, List.drop_left, List.take_of_length_le (put_len n)]
/-- A number comes back of its bytes. -/
theorem get_put (l : List Int) (n : Int) : getN (grpAt (l ++ put n) l.length) l.length = (cla n, ((l ++ put n).length : Int), true) := by
  rw [grpAt_put]
  obtain ⟨f, c, e, h1, h2, h3⟩ := grp_split (zig n)
  have e' : put n = f ++ [c] := e
  have hv : valG (put n) = zig n := grp_val _
  have hi : idxG (put n) = some f.length := by rw [e']; exact idxG_snoc f c h1 h2
  have ht : (put n).take (f.length + 1) = put n := List.take_of_length_le (by rw [e']; simp)
  have hd : (put n).getD f.length 0 = c := by rw [e']; simp
  have hb : ¬ ((0 < f.length ∧ (put n).getD f.length 0 = 0) ∨ sgn (valG ((put n).take (f.length + 1))) < -1000000000 ∨ 1000000000 < sgn (valG ((put n).take (f.length + 1)))) := by
    rw [ht, hv, sgn_zig, hd]
    have := cla_lo n
    have := cla_hi n
    rintro (⟨h, hc⟩ | h | h)
    · refine h3 ?_ hc
      rcases Nat.eq_zero_or_pos (zig n) with h0 | h0
      · exfalso
        have : (put n).length = 1 := by unfold put; rw [h0, grp_last (by omega)]; rfl
        rw [e', List.length_append, List.length_singleton] at this
        omega
      · exact h0
    · omega
    · omega
  rw [getN_good _ hi hb, ht, hv, sgn_zig]
  have : (put n).length = f.length + 1 := by rw [e']; simp
  rw [List.length_append, this]
  congr 2
/-- Not of fewer. -/
theorem get_cut (l : List Int) (n : Int) : getN (grpAt ((l ++ put n).take (l.length + (put n).length - 1)) l.length) l.length = (0, 0, false) := by
  obtain ⟨f, c, e, h1, h2, h3⟩ := grp_split (zig n)
  have e' : put n = f ++ [c] := e
  have e2 : (l ++ put n).take (l.length + (put n).length - 1) = l ++ f := by
    rw [e', ← List.append_assoc, List.take_append_of_le_length (by simp), List.take_of_length_le (by simp)]
  rw [e2]
  have e3 : grpAt (l ++ f) l.length = f := by
    rw [grpAt_in (by omega) (by simp; omega), Int.toNat_natCast, List.drop_left, List.take_of_length_le]
    have := put_len n
    rw [e', List.length_append, List.length_singleton] at this
    omega
  rw [e3]
  exact getN_none _ (idxG_all f h1)

end Go.Proofs.Ytlogpkebacmbiaa
