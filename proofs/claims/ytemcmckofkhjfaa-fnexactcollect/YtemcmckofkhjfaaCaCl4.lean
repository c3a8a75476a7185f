/-
  What the words that are kept name: plain values. No walk, no statement.
-/
import Derived.Test.YtemcmckofkhjfaaCaCl3
import Derived.Test.YtemcmckofkhjfaaCaRc3
namespace Go.Proofs.Ytemcmckofkhjfaa
open Go.RowKit Go.Shelf
set_option linter.unusedVariables false
set_option linter.unusedSimpArgs false

theorem raw_lt {s : Int} {l : List Wrd} (hok : okH s l = true) {ps : List Nat} (hP : PL l ps) {x : Wrd} (hx : x ∈ rawC l ps) (hk : x.K = 4) : ∃ b : Nat, x.N = (b : Int) ∧ b < l.length := by
  obtain ⟨p, hp, hxo⟩ := List.mem_flatMap.1 hx
  obtain ⟨c, hpc, hc⟩ := hP.2 p hp
  obtain ⟨i, hi⟩ := List.mem_iff_getElem?.1 hxo
  have hil := (List.getElem?_eq_some_iff.1 hi).1
  rw [objW_len hc] at hil
  rw [objW_get hc (by omega)] at hi
  by_cases h0 : i = 0
  · subst h0
    obtain ⟨ha, hcx, _⟩ := ob_some hc
    rw [Nat.add_zero, List.getElem?_eq_getElem ha] at hi
    injection hi with hi
    exact absurd (by rw [hi]; exact hk) (head_no hcx)
  · have hf : (flds l (p, c))[i - 1]? = some x := by
      rw [flds_get, if_pos (by simp; omega), show p + 1 + (i - 1) = p + i by omega]
      exact hi
    obtain ⟨a, c', hN, _, hob⟩ := okH_flds hok hpc x (List.mem_of_getElem? hf) hk
    exact ⟨a, hN, (ob_some hob).1⟩
theorem lb_all {s : Int} {l roots : List Wrd} (hok : okH s l = true) {nx : Nat} {ps : List Nat} {p c t : Nat} : ∀ (m q : Nat) (qs : List Nat), c + 1 - q = m → Lb l roots nx ps p c t q qs → ∃ qs', Lb l roots nx ps p c t (c + 1) qs'
  | 0, q, qs, hm, h => by
    have h1 := h.le
    obtain rfl : q = c + 1 := by omega
    exact ⟨qs, h⟩
  | m + 1, q, qs, hm, h => by
    obtain ⟨x, _, _, h2, _⟩ := h.next hok (by omega)
    exact lb_all hok m (q + 1) _ (by omega) h2
theorem way_dn {s : Int} {l roots : List Wrd} (hok : okH s l = true) : ∀ (m nx : Nat) (ps : List Nat) (t : Nat), l.length - nx = m → Way l roots nx ps → t = wrds l (ps.take nx) → Dn l ps t → Dn l (plc l roots) (wrds l (plc l roots)) := by
  intro m
  induction m with
  | zero =>
    intro nx ps t hm hW ht hd
    have h1 := hW.1.len
    have h2 := hW.2.1
    have hnone : ps[nx]? = none := List.getElem?_eq_none (by omega)
    rw [List.take_of_length_le (by omega)] at ht
    rw [← hW.done hnone, ← ht]
    exact hd
  | succ m ih =>
    intro nx ps t hm hW ht hd
    cases hp : ps[nx]? with
    | none =>
      have h1 := List.getElem?_eq_none_iff.1 hp
      rw [List.take_of_length_le h1] at ht
      rw [← hW.done hp, ← ht]
      exact hd
    | some p =>
      obtain ⟨c, _, hc⟩ := hW.1.2 _ (List.mem_of_getElem? hp)
      obtain ⟨qs, hq⟩ := lb_all hok _ 1 ps rfl (Lb.start hW ht hp hc hd).1
      obtain ⟨h1, h2⟩ := hq.done hok
      exact ih (nx + 1) qs (t + c + 1) (by omega) h1 h2 hq.dn
theorem plc_dn {s : Int} {l roots : List Wrd} (hok : okH s l = true) (hrw : ∀ x ∈ roots, RW l x) : Dn l (plc l roots) (wrds l (plc l roots)) :=
  way_dn hok _ 0 (meetL [] roots) 0 rfl (Way.start hrw) rfl (fun i x hi => absurd hi (Nat.not_lt_zero _))
theorem raw_in {s : Int} {l roots : List Wrd} (hok : okH s l = true) (hrw : ∀ x ∈ roots, RW l x) {x : Wrd} (hx : x ∈ rawC l (plc l roots)) (hk : x.K = 4) : x.N.toNat ∈ plc l roots := by
  obtain ⟨i, hi⟩ := List.mem_iff_getElem?.1 hx
  have hlt := (List.getElem?_eq_some_iff.1 hi).1
  have hPL : PL l (plc l roots) := bfs_PL hok _ _ _ (Way.start hrw).1
  rw [rawC_len hPL.ob] at hlt
  exact plc_dn hok hrw i x hlt hi hk
theorem root_in {l roots : List Wrd} {x : Wrd} (hx : x ∈ roots) (hk : x.K = 4) : x.N.toNat ∈ plc l roots := by
  have h1 : x.N.toNat ∈ meetL [] roots := by
    have key : ∀ (ws : List Wrd) (ps : List Nat), x ∈ ws → x.N.toNat ∈ meetL ps ws := by
      intro ws
      induction ws with
      | nil => intro ps hz; cases hz
      | cons y ws ih =>
        intro ps hz
        rcases List.mem_cons.1 hz with rfl | hz
        · exact (meetL_pre ws (meet1 ps x)).subset (meet1_mem ps x hk)
        · exact ih _ hz
    exact key roots [] hx
  exact (bfs_pre l _ _ _).subset h1

end Go.Proofs.Ytemcmckofkhjfaa
