/-
  The model's 'l12Show' at every fuel.
-/
import Derived.Test.YtaljpbgggembmaaDoorShxSm6
namespace Go.Proofs.YtaljpbgggembmaaDoor
open Go.RowKit
set_option linter.unusedVariables false
set_option linter.unusedSimpArgs false

theorem saidM_step {s : Int} {M len cap : Nat} {ao : Option Addr} {l : List Wrd} (hok : okH s l = true) (hlen : len ≤ 1048576) (f : Nat) (IH : ∀ f', f' ≤ f → SaidM M s ao len cap l f') : SaidM M s ao len cap l (f + 1) := by
  intro n x T v w hnf hx h hs hTl
  cases n with
  | zero =>
    rw [shw_zero]
    exact sShow_zero h (by omega)
  | succ m =>
    obtain ⟨K, N⟩ := x
    rcases rg_kind hx with ⟨hk, hn1, hn2⟩ | hk | hk | hk
    · rw [shw_1 hk]
      simp only at hk hn1 hn2
      subst hk
      exact sShow_num h (by omega) (by omega) hn1 hn2
    · rw [shw_2 hk]
      simp only at hk
      subst hk
      exact sShow_bool h (by omega) (by omega)
    · rw [shw_3 hk]
      simp only at hk
      subst hk
      exact sShow_nil h (by omega) (by omega)
    · simp only at hk
      subst hk
      obtain ⟨a, c, hN, hm, hac, hob, hcn, hkk, hc2⟩ := rg4 hok hx rfl
      simp only at hN
      subst hN
      obtain ⟨b, o, hao, _⟩ := hs.2.2 0 (by omega)
      subst hao
      have e0 : (⟨4, (a : Int)⟩ : Wrd).N.toNat = a := Int.toNat_natCast a
      obtain ⟨y, hy⟩ : ∃ y, l.getD a wz = y := ⟨_, rfl⟩
      rw [hy] at hkk hc2
      obtain ⟨K', N'⟩ := y
      simp only at hkk hc2
      rcases hkk with h5 | h6 | h7
      · subst h5
        obtain rfl : c = 2 := hc2 (by omega)
        rw [shw_pair rfl (by rw [e0, hy]), e0]
        exact sShow_pair f (IH f (Nat.le_refl _)) hok h hs hm N' hy (by omega) (by omega) (by omega) hlen
      · subst h6
        obtain rfl : c = 2 := hc2 (by omega)
        rw [shw_cons rfl (by rw [e0, hy])]
        have := sShow_cons f IH hok h hs hm N' hy hx (by omega) (by omega) (by omega) hlen
        refine this.mono ?_
        rintro e w' ⟨v', h1, h2, h3⟩
        refine ⟨v', h1, h2, ?_⟩
        unfold remL at h3
        rw [if_pos rfl] at h3
        simp only [List.append_assoc] at h3 ⊢
        exact h3
      · subst h7
        rw [shw_rec rfl (by rw [e0, hy])]
        exact sShow_fn h hs (by omega) N' hy (by omega) (by omega)

theorem saidM_all {s : Int} {M len cap : Nat} {ao : Option Addr} {l : List Wrd} (hok : okH s l = true) (hlen : len ≤ 1048576) : ∀ f, ∀ f', f' ≤ f → SaidM M s ao len cap l f'
  | 0, f', h => by
    obtain rfl : f' = 0 := by omega
    intro n x T v w hn
    omega
  | f + 1, f', h => by
    have IH := saidM_all (M := M) (ao := ao) (cap := cap) hok hlen f
    by_cases e : f' ≤ f
    · exact IH f' e
    · obtain rfl : f' = f + 1 := by omega
      exact saidM_step hok hlen f IH

end Go.Proofs.YtaljpbgggembmaaDoor
