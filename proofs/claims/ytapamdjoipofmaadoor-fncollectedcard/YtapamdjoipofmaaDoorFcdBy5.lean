/-
  'others' of a 'shower': the rest of a list as an object.
-/
import Derived.Test.YtapamdjoipofmaaDoorFcdZ28
import Derived.Test.YtapamdjoipofmaaDoorFcdZ7
import Derived.Deep.RegionWith
import Derived.BigQuiet
import Derived.Deep.QuietTactic
namespace Go.Proofs.YtapamdjoipofmaaDoor
open Go.RowKit
set_option linter.unusedVariables false
set_option linter.unusedSimpArgs false

theorem Ws.sg {S : Nat} {w w' : World} {ao : Option Addr} {len : Nat} {l : List Wrd} (hs : Ws 0 S w ao len l) (hg : Sg S w w') : Ws 0 S w' ao len l := hs.keep (fun k _ hk => hg.bel.block k hk) (Nat.le_refl _) (Nat.le_refl _)

/-- A word of an object's slice: two cells. -/
theorem obj_two {S : Nat} {w : World} {b o len : Nat} {l : List Wrd} (hs : Ws 0 S w (some ⟨b, o, none⟩) len l) (a j : Nat) (h : a + j < l.length) : b < S ∧ w.cell? ⟨b, o + a * 2 + j * 2, none⟩ = some (.int .i64 (l.getD (a + j) wz).K) ∧ w.cell? ⟨b, o + a * 2 + j * 2 + 1, none⟩ = some (.int .i64 (l.getD (a + j) wz).N) := by
  obtain ⟨b', o', e, _, h2, h3⟩ := hs.2.2 (a + j) h
  injection e with e
  injection e with e1 e2
  subst e1 e2
  have e3 : l.getD (a + j) wz = l[a + j] := by rw [List.getD_eq_getElem?_getD, List.getElem?_eq_getElem h]; rfl
  have e4 : o + (a + j) * 2 = o + a * 2 + j * 2 := by omega
  rw [e3]
  have c0 := h3.c0
  have c1 := h3.c1
  rw [e4] at c0 c1
  exact ⟨h2, c0, c1⟩

/-- Whether a list goes on. -/
def goesOn (l : List Wrd) (r : Wrd) : Bool := decide (r.K = 4 ∧ (l.getD r.N.toNat wz).K = 6)
def OtEnd (b o : Nat) (l : List Wrd) (r : Wrd) (e : Ending) : Prop := ∃ v, e = .returned (.tuple #[v, .bool (goesOn l r)]) ∧ (goesOn l r = true → v = .slice (some ⟨b, o + r.N.toNat * 2, none⟩) 3 3)

set_option maxRecDepth 100000 in
set_option maxHeartbeats 1000000 in
theorem others_any {s : Int} {w : World} {S b o len cap : Nat} {l : List Wrd} {n : Int} {T : List UInt8} (hok : okH s l = true) (a : Nat) (ha : (a, 2) ∈ allO l) (h : Shw w S (some ⟨b, o, none⟩) len cap n T) (hs : Ws 0 S w (some ⟨b, o, none⟩) len l) (hcap : len ≤ cap) (hl : len ≤ 1048576) :
    Calls Tryd.prog 55 #[.pointer (some ⟨S, 0, none⟩), .slice (some ⟨b, o + a * 2, none⟩) 3 3] w fun e w' => OtEnd b o l (l.getD (a + 2) wz) e ∧ Below w.heap.size w w' := by
  have hlt := h.lt
  have hbd := vis_bound (vis_all l).1 _ ha
  have hle := endO_le l
  simp only at hbd
  obtain ⟨hbS, c0, c1⟩ := obj_two hs a 2 (by omega)
  have hrg : rgt (heads l) (l.getD (a + 2) wz) = true := fld_rgt hok ha 1 (by omega)
  obtain ⟨p, v, hb, _⟩ := h.at_
  obtain ⟨s0, s1, s2, s3⟩ := cells4b hb
  generalize hr : l.getD (a + 2) wz = r at *
  have hnS : ¬ b = w.heap.size := by omega
  have hnS2 : ¬ S = w.heap.size := by omega
  by_cases hk : r.K = 4
  · obtain ⟨a', c', hN, hm, hac, hob, hcn, hkk, hc2⟩ := rg4 hok hrg hk
    have hA : Below w.heap.size w (w.alloc (.cells #[.int .i64 r.K, .int .i64 r.N] 34)) := (Below.refl _ _).alloc (Nat.le_refl _) _
    have hsA : Ws 0 S (w.alloc (.cells #[.int .i64 r.K, .int .i64 r.N] 34)) (some ⟨b, o, none⟩) len l := hs.below hA (by omega)
    have hlenE := hs.1
    have hrA : (w.alloc (.cells #[.int .i64 r.K, .int .i64 r.N] 34)).heap[w.heap.size]? = some (.cells #[.int .i64 r.K, .int .i64 r.N] 34 (0, 0)) := heap_new rfl
    have hbA := (hA.block S hlt).trans hb
    obtain ⟨t0, t1, t2, t3⟩ := cells4b hbA
    obtain ⟨q0, q1⟩ := cells2 hrA
    have KO := objectAt_any 0 S (some ⟨b, o, none⟩) len cap l a' (w.alloc (.cells #[.int .i64 r.K, .int .i64 r.N] 34)).drew (by simp; omega) hsA.drew hl hcap (by omega)
    rw [hob] at KO
    have hHK : w.cell? ⟨b, o + a' * 2, none⟩ = some (.int .i64 (l.getD a' wz).K) := by have := (obj_two hs a' 0 (by omega)).2.1; simpa using this
    have hgo : goesOn l r = decide ((l.getD a' wz).K = 6) := by
      unfold goesOn
      rw [show r.N.toNat = a' by omega]
      simp [hk]
    have hv : goesOn l r = true → (Value.slice (some ⟨b, o + a' * 2, none⟩) (c' + 1) (c' + 1)) = .slice (some ⟨b, o + r.N.toNat * 2, none⟩) 3 3 := by
      intro hg
      rw [hgo, decide_eq_true_eq] at hg
      rw [hc2 (by omega), show r.N.toNat = a' by omega]
    have HGO : Hid (goesOn l r = decide ((l.getD a' wz).K = 6)) := hgo
    have HV : Hid (goesOn l r = true → _) := hv
    have HOE : Hid (∀ e : Ending, OaEnd (some ⟨b, o, none⟩) a' (some c') e → e = .returned (.tuple #[.slice (some ⟨b, o + a' * 2, none⟩) (c' + 1) (c' + 1), .bool true])) := by
      rintro e ⟨b', o', e1, e2⟩
      injection e1 with e1
      injection e1 with e1 e3
      subst e1 e3
      exact e2
    rw [hk] at KO hA hsA hrA hbA t0 t1 t2 t3 q0 q1
    rw [hN] at KO hA hsA hrA hbA t0 t1 t2 t3 q0 q1 c1
    rw [hk] at c0
    generalize (l.getD a' wz).K = hK at *
    clear hgo hv hrg hkk hc2 hcn hob hm hbd hsA hs hr hlenE
    go_enter Tryd.func55, Tryd.ntmps55
    go_wp2_with fail
    go_region_law (go_simp; go_at_call 35; refine KO.mono ?_; rintro e w1 ⟨he, hb1⟩; have he2 := HOE.out e he; subst he2)
    all_goals
      have hkc : w1.cell? ⟨b, o + a' * 2, none⟩ = some (.int .i64 hK) := by
        refine (World.cell?_of_block ?_).trans hHK
        show w1.heap[b]? = w.heap[b]?
        exact (hb1.block b (by show b < (w.alloc _).heap.size; simp; omega)).trans (hA.block b (by omega))
      have hbw : Below w.heap.size w w1 := hA.trans ((show Below (w.alloc (.cells #[.int .i64 4, .int .i64 (a' : Int)] 34)).heap.size (w.alloc (.cells #[.int .i64 4, .int .i64 (a' : Int)] 34)) w1 from ⟨hb1.os, hb1.tape, hb1.output, hb1.size, hb1.block⟩).mono (by simp))
      have hi0 : (0 : Int) < ((c' : Int) + 1) := by omega
      clear KO
      go_wp2_with fail
      go_quiet (fail)
      go_wp2_with fail
      refine bodyPost_ret (v := .tuple #[.slice (some ⟨b, o + a' * 2, none⟩) (c' + 1) (c' + 1), .bool (hK == 6)]) (by simp [results, Tryd.results55, go_sem]) rfl ⟨⟨_, by rw [HGO.out]; rfl, HV.out⟩, below_drewW hbw _⟩
  · have hgo : goesOn l r = false := by unfold goesOn; simp [hk]
    go_enter Tryd.func55, Tryd.ntmps55
    go_wp2_with fail
    refine bodyPost_ret (v := .tuple #[.slice none 0 0, .bool false]) (by simp [results, Tryd.results55, go_sem]) rfl ⟨⟨_, by rw [hgo], fun h => by rw [hgo] at h; cases h⟩, (Below.refl _ _).alloc (Nat.le_refl _) _⟩

end Go.Proofs.YtapamdjoipofmaaDoor
