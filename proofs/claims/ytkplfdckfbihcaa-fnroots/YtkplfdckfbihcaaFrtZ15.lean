/-
  What 'Alloc' answers, as plain values. No walk, no statement.
-/
import Derived.Test.YtkplfdckfbihcaaFrtHo0
import Derived.Test.YtkplfdckfbihcaaFrtHo1
namespace Go.Proofs.Ytkplfdckfbihcaa
open Go.RowKit
set_option linter.unusedVariables false
set_option linter.unusedSimpArgs false

/-- Whether an object can be laid. -/
def alB (s : Int) (l : List Wrd) (x : Wrd) (f : List Wrd) : Bool := okH s l && (decide (cntH x = some f.length) && (f.all (rgt (heads l)) && decide ((l.length : Int) + 1 + f.length ≤ s)))
def alP (q : Bool) (l : List Wrd) (x : Wrd) (f : List Wrd) : List Wrd := if q then l ++ [x] ++ f else l
def alW (q : Bool) (l : List Wrd) : Wrd := if q then ⟨4, (l.length : Int)⟩ else ⟨0, 0⟩
/-- What 'Alloc' comes to. -/
def AlEnd (base : Nat) (s : Int) (l : List Wrd) (x : Wrd) (f : List Wrd) (q : Bool) (e : Ending) (w : World) : Prop :=
  ∃ ao n cap, e = .returned (.tuple #[vH s ao n cap, vW (alW q l), .bool q]) ∧ n = (alP q l x f).length ∧ Wors base w (.slice ao n cap) (alP q l x f)

theorem alB_no1 {s : Int} {l : List Wrd} {x : Wrd} {f : List Wrd} (h : okH s l = false) : alB s l x f = false := by unfold alB; rw [h]; rfl
theorem alB_no2 {s : Int} {l : List Wrd} {x : Wrd} {f : List Wrd} (h : ¬ cntH x = some f.length) : alB s l x f = false := by unfold alB; simp [h]
theorem alB_no3 {s : Int} {l : List Wrd} {x : Wrd} {f : List Wrd} (h : f.all (rgt (heads l)) = false) : alB s l x f = false := by unfold alB; rw [h]; simp
theorem alB_no4 {s : Int} {l : List Wrd} {x : Wrd} {f : List Wrd} (h : ¬ (l.length : Int) + 1 + f.length ≤ s) : alB s l x f = false := by unfold alB; simp [h]
theorem alB_yes {s : Int} {l : List Wrd} {x : Wrd} {f : List Wrd} (h1 : okH s l = true) (h2 : cntH x = some f.length) (h3 : f.all (rgt (heads l)) = true) (h4 : (l.length : Int) + 1 + f.length ≤ s) : alB s l x f = true := by unfold alB; rw [h1, h3]; simp [h2, h4]

/-- Two blocks of two cells are laid. -/
theorem lay_four {W w : World} {R S n : Nat} {t t' : TypeId} {u0 u1 v0 v1 : Value} (hne : R ≠ S) (h : W.heap[R]? = some (.cells #[u0, u1] t (0, 0))) (h' : W.heap[S]? = some (.cells #[v0, v1] t' (0, 0))) (hn : n ≤ R) (hn' : n ≤ S) (hB : Below n w W) (a0 a1 b0 b1 : Value) :
    ∀ Z, (Z = (((W.setCell ⟨R, 0, none⟩ a0).setCell ⟨R, 1, none⟩ a1).setCell ⟨S, 0, none⟩ b0).setCell ⟨S, 1, none⟩ b1 ∨ Z = (((W.setCell ⟨S, 0, none⟩ b0).setCell ⟨S, 1, none⟩ b1).setCell ⟨R, 0, none⟩ a0).setCell ⟨R, 1, none⟩ a1) →
      Z.heap[R]? = some (.cells #[a0, a1] t (0, 0)) ∧ Z.heap[S]? = some (.cells #[b0, b1] t' (0, 0)) ∧ Below n w Z ∧ (∀ k, k ≠ R → k ≠ S → Z.heap[k]? = W.heap[k]?) ∧ Z.heap.size = W.heap.size := by
  intro Z hZ
  rcases hZ with rfl | rfl
  · refine ⟨?_, ?_, (((hB.setCell (p := ⟨R, 0, none⟩) hn _).setCell (p := ⟨R, 1, none⟩) hn _).setCell (p := ⟨S, 0, none⟩) hn' _).setCell (p := ⟨S, 1, none⟩) hn' _, fun k hk hk' => (row_other _ _ _ hk').trans ((row_other _ _ _ hk').trans ((row_other _ _ _ hk).trans (row_other _ _ _ hk))), by simp⟩
    · refine (row_other _ _ _ hne).trans ((row_other _ _ _ hne).trans ?_)
      have := row_set (row_set h 0 a0) 1 a1
      rw [this]
      simp
    · have h2 : ((W.setCell ⟨R, 0, none⟩ a0).setCell ⟨R, 1, none⟩ a1).heap[S]? = _ := ((row_other _ _ _ hne.symm).trans (row_other _ _ _ hne.symm)).trans h'
      have := row_set (row_set h2 0 b0) 1 b1
      rw [this]
      simp
  · refine ⟨?_, ?_, (((hB.setCell (p := ⟨S, 0, none⟩) hn' _).setCell (p := ⟨S, 1, none⟩) hn' _).setCell (p := ⟨R, 0, none⟩) hn _).setCell (p := ⟨R, 1, none⟩) hn _, fun k hk hk' => (row_other _ _ _ hk).trans ((row_other _ _ _ hk).trans ((row_other _ _ _ hk').trans (row_other _ _ _ hk'))), by simp⟩
    · have h2 : ((W.setCell ⟨S, 0, none⟩ b0).setCell ⟨S, 1, none⟩ b1).heap[R]? = _ := ((row_other _ _ _ hne).trans (row_other _ _ _ hne)).trans h
      have := row_set (row_set h2 0 a0) 1 a1
      rw [this]
      simp
    · refine (row_other _ _ _ hne.symm).trans ((row_other _ _ _ hne.symm).trans ?_)
      have := row_set (row_set h' 0 b0) 1 b1
      rw [this]
      simp

end Go.Proofs.Ytkplfdckfbihcaa

/-
  The program's 'right', 'objectAt'.
-/
namespace Go.Proofs.Ytkplfdckfbihcaa
open Go.RowKit
set_option linter.unusedVariables false
set_option linter.unusedSimpArgs false

theorem all_take {α : Type} (p : α → Bool) (l : List α) (k : Nat) (h : k < l.length) : (l.take (k + 1)).all p = ((l.take k).all p && p l[k]) := by
  rw [List.take_succ_eq_append_getElem h, List.all_append]; simp
theorem all_false {α : Type} (p : α → Bool) (l : List α) (k : Nat) (h : k < l.length) (hf : p l[k] = false) : l.all p = false := by
  rw [List.all_eq_false]
  exact ⟨l[k], List.getElem_mem _, by rw [hf]; simp⟩

set_option maxRecDepth 100000 in
set_option maxHeartbeats 1000000 in
theorem right_any (g len cap : Nat) (hs : List Bool) (L B : Nat) (ao : Option Addr) (n c : Nat) (ws : List Wrd) (w : World) (hr : BRow w g hs) (hlen : len = hs.length) (hl : len ≤ 1048576) (hB : B ≤ w.heap.size) (hw : Ws L B w ao n ws) (hn : n ≤ 1048576) :
    Calls Try.prog 26 #[.slice (some ⟨g, 0, none⟩) len cap, .slice ao n c] w fun e w' => e = .returned (.bool (ws.all (rgt hs))) ∧ Below w.heap.size w w' := by
  have HN : Hid (n = ws.length) := hw.1
  have HL : Hid (len = hs.length) := hlen
  clear hlen
  go_enter Try.func26, Try.ntmps26
  go_wp2_with fail
  go_loopw [9] (fun i wr => ∃ k : Nat, k ≤ n ∧ i = .int .i64 k ∧ Hid ((ws.take k).all (rgt hs) = true) ∧ Below w.heap.size w wr) (fun i _ => n - (intOf i).toNat)
  case atStart => exact ⟨0, by omega, rfl, rfl, Below.refl _ _⟩
  case round =>
    obtain ⟨k, hk, rfl, HA, hbr⟩ := hrel
    have hsz := hbr.size
    by_cases hlt : k < n
    · have hlt' : k < ws.length := by have := HN.out; omega
      obtain ⟨b, o, rfl, _, hbB, htw⟩ := hw.2.2 k hlt'
      obtain ⟨e0, e1⟩ := htw.block (hbr.block b (by omega))
      have hwb : b < wr.heap.size := by omega
      have HT := all_take (rgt hs) ws k hlt'
      rw [HA.out, Bool.true_and] at HT
      have HT' : Hid ((ws.take (k + 1)).all (rgt hs) = rgt hs ws[k]) := HT
      have HAF : Hid (rgt hs ws[k] = false → ws.all (rgt hs) = false) := all_false _ _ k hlt'
      clear HT htw
      have hbX : Below w.heap.size w (wr.alloc (.cells #[.int .i64 ws[k].K, .int .i64 ws[k].N] 28)) := hbr.alloc hsz _
      have K := rightWord_any g len cap hs ws[k] _ (hr.bel hbX (hr.lt)) HL.out hl
      generalize ws[k] = x at *
      obtain ⟨q, hq⟩ : ∃ q, rgt hs x = q := ⟨_, rfl⟩
      rw [hq] at K HT' HAF
      clear hq
      go_wp2_with fail
      refine K.mono ?_
      rintro e w1 ⟨rfl, hb1⟩
      have hb1w : Below w.heap.size w w1 := hbX.trans (hb1.mono (by simp; omega))
      clear K
      cases q with
      | true =>
        go_wp2_with fail
        go_roundw
        case rel => exact ⟨k + 1, by omega, by go_num, HT', hb1w⟩
        case measure => simp [intOf]; omega
      | false =>
        go_wp2_with fail
        go_ret
        exact ⟨ret_bool (by rw [HAF.out (by trivial)]), hb1w⟩
    · have HE : Hid (ws.all (rgt hs) = true) := by show _ = _; rw [← HA.out, List.take_of_length_le (by have := HN.out; omega)]
      go_wp2_with fail
      go_ret
      exact ⟨ret_bool (by rw [HE.out]), hbr⟩

/-- What 'objectAt' comes to. -/
def OaEnd (ao : Option Addr) (a : Nat) (r : Option Nat) (e : Ending) : Prop := match r with
  | some c => ∃ b o, ao = some ⟨b, o, none⟩ ∧ e = .returned (.tuple #[.slice (some ⟨b, o + a * 2, none⟩) (c + 1) (c + 1), .bool true])
  | none => e = .returned (.tuple #[.slice none 0 0, .bool false])

set_option maxRecDepth 100000 in
set_option maxHeartbeats 1000000 in
theorem objectAt_any (L B : Nat) (ao : Option Addr) (len cap : Nat) (l : List Wrd) (a : Nat) (w : World) (hB : B ≤ w.heap.size) (hs : Ws L B w ao len l) (hl : len ≤ 1048576) (hcap : len ≤ cap) (ha : a < len) :
    Calls Try.prog 48 #[.slice ao len cap, .int .i64 a] w fun e w' => OaEnd ao a (ob l a) e ∧ Below w.heap.size w w' := by
  have hal : a < l.length := by have := hs.1; omega
  have HL : Hid (len = l.length) := hs.1
  obtain ⟨b, o, rfl, _, hbB, e0, e1⟩ := hs.2.2 a hal
  have K := fieldCount_any l[a] w
  have HO : Hid (∀ x : Wrd, l[a] = x → (cntH x = none → ob l a = none) ∧ (∀ c, cntH x = some c → a + c < l.length → ob l a = some c) ∧ (∀ c, cntH x = some c → l.length ≤ a + c → ob l a = none)) := by
    rintro x rfl
    exact ⟨fun h => ob_no hal h, fun c h1 h2 => ob_mk hal h1 h2, fun c h1 h2 => ob_far hal h1 h2⟩
  obtain ⟨x, hx⟩ : ∃ x, l[a] = x := ⟨_, rfl⟩
  have HO2 := HO.out x hx
  rw [hx] at e0 e1 K
  obtain ⟨r, hr⟩ : ∃ r, ob l a = r := ⟨_, rfl⟩
  rw [hr] at HO2 ⊢
  have HO3 : Hid ((cntH x = none → r = none) ∧ (∀ c, cntH x = some c → a + c < l.length → r = some c) ∧ (∀ c, cntH x = some c → l.length ≤ a + c → r = none)) := HO2
  clear HO HO2 hs hr hx hal
  go_enter Try.func48, Try.ntmps48
  go_wp2_with fail
  refine K.mono ?_
  rintro e w1 ⟨⟨c, ok, rfl, hok, hcn, hc1, hc2⟩, hb1⟩
  clear K
  cases hcx : cntH x with
  | none =>
    rw [hcx] at hok
    obtain rfl : ok = false := hok
    obtain rfl : r = none := HO3.out.1 hcx
    clear hcn
    go_wp2_with fail
    refine bodyPost_ret (results_tmp2 rfl _ _ _) rfl ?_
    exact ⟨rfl, hb1⟩
  | some k =>
    rw [hcx] at hok
    obtain rfl : ok = true := hok
    obtain rfl : c = (k : Int) := hcn k hcx
    by_cases hlt : a + k < len
    · obtain rfl : r = some k := HO3.out.2.1 k hcx (by have := HL.out; omega)
      clear hcn
      go_wp2_with fail
      refine bodyPost_ret (results_tmp2 rfl _ _ _) rfl ?_
      refine ⟨⟨b, o, rfl, ?_⟩, hb1⟩
      rw [show k + 1 = a + 1 + k - a by omega]
      rfl
    · obtain rfl : r = none := HO3.out.2.2 k hcx (by have := HL.out; omega)
      clear hcn
      go_wp2_with fail
      refine bodyPost_ret (results_tmp2 rfl _ _ _) rfl ?_
      exact ⟨rfl, hb1⟩

end Go.Proofs.Ytkplfdckfbihcaa
