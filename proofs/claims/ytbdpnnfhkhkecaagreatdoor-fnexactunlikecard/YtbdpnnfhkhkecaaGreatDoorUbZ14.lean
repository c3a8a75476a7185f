/-
  What the library's functions come to at this program: the numbers that the shelf's own theorems want.
-/
import Derived.Shelf.LaysM
import Derived.Shelf.Strconv.Itoa3
import Derived.Test.YtbdpnnfhkhkecaaGreatDoorProg
import Derived.Test.YtbdpnnfhkhkecaaGreatDoorUbTr
import Derived.Deep.QuietTactic
import Derived.BigQuiet
import Derived.Test.YtbdpnnfhkhkecaaGreatDoorUbZ6
import Derived.Deep.RegionWith
import Derived.Test.YtbdpnnfhkhkecaaGreatDoorUbZ8
import Derived.Deep.RegionHeld3
import Derived.Test.YtbdpnnfhkhkecaaGreatDoorUbUn0
import Derived.Deep.LoopGhost
namespace Go.Proofs.YtbdpnnfhkhkecaaGreatDoor
open Go.Shelf Go.RowKit
set_option linter.unusedVariables false
def Tryz.laysM171_ren : Go.Shelf.Ren := ⟨fun | 171 => 67 | 243 => 94 | 246 => 123 | 283 => 149 | 284 => 150 | 285 => 151 | 286 => 152 | 129 => 170 | 317 => 169 | 318 => 171 | 319 => 172 | 320 => 173 | 337 => 182 | 338 => 183 | n => n, fun | 3 => 3 | 9 => 9 | 2 => 2 | 4 => 4 | 171 => 229 | 0 => 0 | 53 => 230 | 37 => 41 | 5 => 5 | 173 => 233 | 212 => 248 | 51 => 249 | 20 => 20 | 213 => 250 | 46 => 235 | 232 => 258 | 233 => 259 | n => n, fun | 17 => 1 | 18 => 2 | 19 => 3 | n => n⟩
theorem Tryz.laysM171 : Go.Proofs.LaysM.n171 Tryz.prog Tryz.laysM171_ren := {
  mixed := by kernel_rfl
  f129 := Tryz.func170.trans (congrArg some (by kernel_rfl))
  f171 := Tryz.func67.trans (congrArg some (by kernel_rfl))
  f243 := Tryz.func94.trans (congrArg some (by kernel_rfl))
  f246 := Tryz.func123.trans (congrArg some (by kernel_rfl))
  f283 := Tryz.func149.trans (congrArg some (by kernel_rfl))
  f284 := Tryz.func150.trans (congrArg some (by kernel_rfl))
  f285 := Tryz.func151.trans (congrArg some (by kernel_rfl))
  f286 := Tryz.func152.trans (congrArg some (by kernel_rfl))
  f317 := Tryz.func169.trans (congrArg some (by kernel_rfl))
  f318 := Tryz.func171.trans (congrArg some (by kernel_rfl))
  f319 := Tryz.func172.trans (congrArg some (by kernel_rfl))
  f320 := Tryz.func173.trans (congrArg some (by kernel_rfl))
  f337 := Tryz.func182.trans (congrArg some (by kernel_rfl))
  f338 := Tryz.func183.trans (congrArg some (by kernel_rfl))
  t0 := Tryz.underlying0
  a0 := Tryz.isAgg0
  z0 := Tryz.sizeOf0
  v0 := Tryz.zeroValue0
  t2 := Tryz.underlying2
  a2 := Tryz.isAgg2
  z2 := Tryz.sizeOf2
  v2 := Tryz.zeroValue2
  t3 := Tryz.underlying3
  a3 := Tryz.isAgg3
  z3 := Tryz.sizeOf3
  v3 := Tryz.zeroValue3
  t4 := Tryz.underlying4
  a4 := Tryz.isAgg4
  z4 := Tryz.sizeOf4
  v4 := Tryz.zeroValue4
  t5 := Tryz.underlying5
  a5 := Tryz.isAgg5
  z5 := Tryz.sizeOf5
  v5 := Tryz.zeroValue5
  t9 := Tryz.underlying9
  a9 := Tryz.isAgg9
  z9 := Tryz.sizeOf9
  v9 := Tryz.zeroValue9
  t20 := Tryz.underlying20
  a20 := Tryz.isAgg20
  z20 := Tryz.sizeOf20
  v20 := Tryz.zeroValue20
  t37 := Tryz.underlying41
  a37 := Tryz.isAgg41
  z37 := Tryz.sizeOf41
  v37 := Tryz.zeroValue41
  t46 := Tryz.underlying235
  a46 := Tryz.isAgg235
  z46 := Tryz.sizeOf235
  v46 := Tryz.zeroValue235
  t51 := Tryz.underlying249
  a51 := Tryz.isAgg249
  z51 := Tryz.sizeOf249
  v51 := Tryz.zeroValue249
  t53 := Tryz.underlying230
  a53 := Tryz.isAgg230
  z53 := Tryz.sizeOf230
  v53 := Tryz.zeroValue230
  t171 := Tryz.underlying229
  a171 := Tryz.isAgg229
  z171 := Tryz.sizeOf229
  v171 := Tryz.zeroValue229
  t173 := Tryz.underlying233
  a173 := Tryz.isAgg233
  z173 := Tryz.sizeOf233
  v173 := Tryz.zeroValue233
  t212 := Tryz.underlying248
  a212 := Tryz.isAgg248
  z212 := Tryz.sizeOf248
  v212 := Tryz.zeroValue248
  t213 := Tryz.underlying250
  a213 := Tryz.isAgg250
  z213 := Tryz.sizeOf250
  t232 := Tryz.underlying258
  a232 := Tryz.isAgg258
  z232 := Tryz.sizeOf258
  v232 := Tryz.zeroValue258
  t233 := Tryz.underlying259
  a233 := Tryz.isAgg259
  z233 := Tryz.sizeOf259
  v233 := Tryz.zeroValue259
  g17 := by kernel_rfl
  g18 := by kernel_rfl
  g19 := by kernel_rfl
  i0 := by kernel_rfl
  i2 := by kernel_rfl
  i3 := by kernel_rfl
  i4 := by kernel_rfl
  i5 := by kernel_rfl
  i9 := by kernel_rfl
  i20 := by kernel_rfl
  i37 := by kernel_rfl
  i46 := by kernel_rfl
  i51 := by kernel_rfl
  i53 := by kernel_rfl
  i171 := by kernel_rfl
  i173 := by kernel_rfl
  i212 := by kernel_rfl
  i232 := by kernel_rfl
  i233 := by kernel_rfl
  m17 := by kernel_rfl
  m18 := by kernel_rfl
  m19 := by kernel_rfl }
open Go.RowKit Go.Sort Go.Lib in
theorem Tryz.strconv_Itoa (n : Int) (h0 : -9223372036854775808 ≤ n) (h1 : n ≤ 9223372036854775807) (w : World) (htab : Lib.TabIs Tryz.prog w "internal/strconv.uint64pow10" .u64 Lib.pow10Tab) :
    Calls Tryz.prog 67 #[.int .i64 n] w fun e w' => e = .returned (.string ⟨(Lib.itoa n).toArray⟩) ∧ ∃ k os, w' = grow (w.drewN k) os := Any.strconv_Itoa Tryz.laysM171 n h0 h1 w htab
end Go.Proofs.YtbdpnnfhkhkecaaGreatDoor

/-
  'strconv.Itoa' at every number, while the table of powers of ten lies untouched; rows of tokens that grow.
-/
namespace Go.Proofs.YtbdpnnfhkhkecaaGreatDoor
open Go.RowKit Go.Sort
set_option linter.unusedVariables false
set_option linter.unusedSimpArgs false

/-- The table of powers of ten, in every world that keeps what lies below B. -/
def TabB (B : Nat) (w : World) : Prop := ∀ w', Below B w w' → Lib.TabIs Tryz.prog w' "internal/strconv.uint64pow10" .u64 Lib.pow10Tab

theorem TabB.below {B : Nat} {w w' : World} (h : TabB B w) (hb : Below B w w') : TabB B w' := fun w2 h2 => h w2 (hb.trans h2)
theorem TabB.mono {B B' : Nat} {w : World} (h : TabB B w) (hB : B ≤ B') : TabB B' w := fun w2 h2 => h w2 (h2.mono hB)
theorem TabB.of {w : World} (h : Lib.TabIs Tryz.prog w "internal/strconv.uint64pow10" .u64 Lib.pow10Tab) : TabB w.heap.size w := by
  intro w' hb
  unfold Lib.TabIs World.var? at *
  cases hg : Program.globalNamed Tryz.prog "internal/strconv.uint64pow10" with
  | none => simp [hg] at h
  | some g =>
    simp only [hg, Option.bind_some] at h ⊢
    have hlt : g < w.heap.size := by
      rcases Nat.lt_or_ge g w.heap.size with h' | h'
      · exact h'
      · rw [Array.getElem?_eq_none h'] at h; simp at h
    rw [hb.block g hlt]
    exact h

theorem below_growN (w : World) (k : Nat) (os : Array Obj) : Below w.heap.size w (grow (w.drewN k) os) :=
  ⟨rfl, rfl, rfl, by simp [grow], fun q hq => by
    show (w.heap ++ os)[q]? = _
    rw [Array.getElem?_append_left hq]⟩

theorem itoa_any {B : Nat} (n : Int) (h0 : -1000000 ≤ n) (h1 : n ≤ 1000000) (w : World) (h : TabB B w) :
    Calls Tryz.prog 67 #[.int .i64 n] w fun e w' => e = .returned (.string ⟨(Lib.itoa n).toArray⟩) ∧ Below w.heap.size w w' :=
  (Tryz.strconv_Itoa n (by omega) (by omega) w (h w (Below.refl _ _))).mono fun e w' ⟨he, k, os, hw⟩ => ⟨he, by rw [hw]; exact below_growN w k os⟩

end Go.Proofs.YtbdpnnfhkhkecaaGreatDoor

/-
  A region that draws its order, walked in one way where its calls make new memory alone.
-/
namespace Go.Proofs.YtbdpnnfhkhkecaaGreatDoor
open Go.RowKit
set_option linter.unusedVariables false
set_option linter.unusedSimpArgs false

theorem wp_region_below {P : Program} {id : Nat} {Q : Exit → Act → World → Prop} {a : Act} {X : World} {l : List Oper} (hm : P.follows .mixedOrders = true) (hB : Region.lexB .any l.toArray = true)
    (h : wpQuiet P l.toArray (fun w' => Below X.heap.size X w') (fun a' => ∀ w', Below X.heap.size X w' → Q .normal a' w') l a) : (Code.region id l.toArray true).wp P Q a X :=
  wp_region_quiet (C := fun w' => Below X.heap.size X w') hm hB ((Below.refl _ _).drew) (by simpa using h)

end Go.Proofs.YtbdpnnfhkhkecaaGreatDoor

/-
  What 'sameTyNode' comes to, and the two plain ways to hold one type against another: the model's 'SameTy' and the program's 'sameRightTy'.
-/
namespace Go.Proofs.YtbdpnnfhkhkecaaGreatDoor
open Go.RowKit
set_option linter.unusedVariables false
set_option linter.unusedSimpArgs false

/-- Two nodes are alike, but for their parts. -/
def likeN (x y : Tr) : Bool := (x.K == y.K) && (x.N == y.N) && ((x.A.length : Int) == (y.A.length : Int))

set_option maxHeartbeats 1000000 in
theorem sameTyNode_any (k n k' n' : Int) (ao : Option Addr) (len cap : Nat) (ao' : Option Addr) (len' cap' : Nat) (w : World) (hl : len ≤ 9223372036854775807) (hl' : len' ≤ 9223372036854775807) :
    Calls Tryz.prog 121 #[.agg #[.int .i64 k, .int .i64 n, .slice ao len cap], .agg #[.int .i64 k', .int .i64 n', .slice ao' len' cap']] w fun e w' => e = .returned (.bool ((k == k') && (n == n') && ((len : Int) == (len' : Int)))) ∧ Below w.heap.size w w' := by
  have hbel : Below w.heap.size w ((w.alloc (.cells #[.int .i64 k, .int .i64 n, .slice ao len cap] 31)).alloc (.cells #[.int .i64 k', .int .i64 n', .slice ao' len' cap'] 31)) := ((Below.refl _ _).alloc (Nat.le_refl _) _).alloc (by simp) _
  cases h1 : (k == k')
  all_goals cases h2 : (n == n')
  all_goals cases h3 : ((len : Int) == (len' : Int))
  all_goals
    go_enter Tryz.func121, Tryz.ntmps121
    go_wp2_with fail
    go_ret
    exact ⟨rfl, hbel⟩

def likeB (l l' : List Tr) (j : Nat) : Prop := l.take j = l'.take j
theorem like_all {l l' : List Tr} {j : Nat} (h : likeB l l' j) (h1 : l.length ≤ j) (h2 : l'.length ≤ j) : l = l' := by
  unfold likeB at h; rwa [List.take_of_length_le h1, List.take_of_length_le h2] at h
theorem like_next {l l' : List Tr} {j : Nat} (h : likeB l l' j) (h1 : j < l.length) (h2 : j < l'.length) (he : l[j] = l'[j]) : likeB l l' (j + 1) := by
  unfold likeB at *
  rw [List.take_succ_eq_append_getElem h1, List.take_succ_eq_append_getElem h2, h, he]
theorem unlike_at {l l' : List Tr} {j : Nat} (h1 : j < l.length) (h2 : j < l'.length) (he : ¬ l[j] = l'[j]) : ¬ l = l' := by
  intro h; subst h; exact he rfl
theorem tr_ext {x y : Tr} (h1 : x.K = y.K) (h2 : x.N = y.N) (h3 : x.A = y.A) : x = y := by cases x; cases y; simp_all

end Go.Proofs.YtbdpnnfhkhkecaaGreatDoor

/-
  Terms as forms: the value that 'formOf' answers of a term that is right; no memory is in it but that of its types.
-/
namespace Go.Proofs.YtbdpnnfhkhkecaaGreatDoor
open Go.RowKit
set_option linter.unusedVariables false
set_option linter.unusedSimpArgs false

/-- The form of a term, its parts' forms being ps. -/
def fval (nd k n : Int) (s z : ByteArray) (tk tn : Int) (v1 v2 : Value) (p0 p1 p2 : Value) : Value :=
  if k = 1 then .iface 118 (.agg #[.int .i64 n])
  else if k = 2 then .iface 119 (.agg #[.int .i64 n])
  else if k = 3 then .iface 121 (.agg #[.string s, v2])
  else if k = 4 then .iface 124 (.agg #[.int .i64 nd, .string s, .int .i64 tk, .int .i64 tn, v1, p0])
  else if k = 5 then .iface 126 (.agg #[.int .i64 nd, p0, p1])
  else if k = 6 then .iface 128 (.agg #[.string s, .int .i64 n, p0, p1])
  else if k = 7 then .iface 130 (.agg #[.string s, .int .i64 n, .int .i64 tk, .int .i64 tn, v1, p0, p1])
  else if k = 8 then .iface 132 (.agg #[p0, p1, p2])
  else if k = 9 then .iface 134 (.agg #[p0, p1])
  else if k = 10 then .iface 136 (.agg #[p0])
  else if k = 11 then .iface 137 (.agg #[p0])
  else if k = 12 then .iface 139 (.agg #[.int .i64 tk, .int .i64 tn, v1])
  else if k = 13 then .iface 141 (.agg #[p0, p1])
  else if k = 14 then .iface 143 (.agg #[.string s, .string z, p0, p1, p2])
  else if k = 15 then .iface 145 (.agg #[.int .i64 n, p0, p1])
  else if k = 16 then .iface 147 (.agg #[.int .i64 tk, .int .i64 tn, v1, p0])
  else .iface 149 (.agg #[.string s, p0, p1])

/-- v is the form of t. -/
def Fv (L B : Nat) (w : World) (D : Nat) : Nat → Tm → Value → Prop
  | 0, _, _ => False
  | l + 1, t, v => ∃ (nd : Int) (a1 : Option Addr) (l1 c1 : Nat) (a2 : Option Addr) (l2 c2 : Nat) (p : Nat → Value), Hs L B w D a1 l1 t.T.A ∧ Hs L B w D a2 l2 t.Ts ∧ (∀ i (h : i < t.A.length), Fv L B w D l t.A[i] (p i)) ∧ v = fval nd t.K t.N t.S t.Z t.T.K t.T.N (.slice a1 l1 c1) (.slice a2 l2 c2) (p 0) (p 1) (p 2)

theorem Fv.iface {L B : Nat} {w : World} {D l : Nat} {t : Tm} {v : Value} (h : Fv L B w D l t v) : ∃ τ u, v = .iface τ u := by
  cases l with
  | zero => exact h.elim
  | succ l =>
    obtain ⟨nd, a1, l1, c1, a2, l2, c2, p, _, _, _, hx⟩ := h
    rw [hx]
    unfold fval
    by_cases h1 : t.K = 1
    · rw [if_pos h1]; exact ⟨_, _, rfl⟩
    rw [if_neg h1]
    by_cases h2 : t.K = 2
    · rw [if_pos h2]; exact ⟨_, _, rfl⟩
    rw [if_neg h2]
    by_cases h3 : t.K = 3
    · rw [if_pos h3]; exact ⟨_, _, rfl⟩
    rw [if_neg h3]
    by_cases h4 : t.K = 4
    · rw [if_pos h4]; exact ⟨_, _, rfl⟩
    rw [if_neg h4]
    by_cases h5 : t.K = 5
    · rw [if_pos h5]; exact ⟨_, _, rfl⟩
    rw [if_neg h5]
    by_cases h6 : t.K = 6
    · rw [if_pos h6]; exact ⟨_, _, rfl⟩
    rw [if_neg h6]
    by_cases h7 : t.K = 7
    · rw [if_pos h7]; exact ⟨_, _, rfl⟩
    rw [if_neg h7]
    by_cases h8 : t.K = 8
    · rw [if_pos h8]; exact ⟨_, _, rfl⟩
    rw [if_neg h8]
    by_cases h9 : t.K = 9
    · rw [if_pos h9]; exact ⟨_, _, rfl⟩
    rw [if_neg h9]
    by_cases h10 : t.K = 10
    · rw [if_pos h10]; exact ⟨_, _, rfl⟩
    rw [if_neg h10]
    by_cases h11 : t.K = 11
    · rw [if_pos h11]; exact ⟨_, _, rfl⟩
    rw [if_neg h11]
    by_cases h12 : t.K = 12
    · rw [if_pos h12]; exact ⟨_, _, rfl⟩
    rw [if_neg h12]
    by_cases h13 : t.K = 13
    · rw [if_pos h13]; exact ⟨_, _, rfl⟩
    rw [if_neg h13]
    by_cases h14 : t.K = 14
    · rw [if_pos h14]; exact ⟨_, _, rfl⟩
    rw [if_neg h14]
    by_cases h15 : t.K = 15
    · rw [if_pos h15]; exact ⟨_, _, rfl⟩
    rw [if_neg h15]
    by_cases h16 : t.K = 16
    · rw [if_pos h16]; exact ⟨_, _, rfl⟩
    rw [if_neg h16]
    exact ⟨_, _, rfl⟩

/-- From w to w' nothing has changed but what lies at p, and there is c. -/
structure Nx (p : Nat) (w w' : World) (c : Int) : Prop where
  kf : Kf (fun k => k = p) w (fun k => k = p) w'
  is : w'.heap[p]? = some (.cells #[.int .i64 c] 3 (0, 0))

theorem Nx.trans {p : Nat} {w w' w'' : World} {c c' : Int} (h : Nx p w w' c) (k : Nx p w' w'' c') : Nx p w w'' c' := ⟨h.kf.trans k.kf, k.is⟩
theorem Nx.lt {p : Nat} {w w' : World} {c : Int} (h : Nx p w w' c) : p < w'.heap.size := (Array.getElem?_eq_some_iff.1 h.is).1
theorem Nx.fm {p : Nat} {w w' : World} {c : Int} {L B D d : Nat} {t : Tm} {a1 a2 a3 : Option Addr} {l1 l2 l3 : Nat} (h : Nx p w w' c) (hB : B ≤ p) (hw : B ≤ w.heap.size) (hf : Fm L B w D d t a1 l1 a2 l2 a3 l3) : Fm L B w' D d t a1 l1 a2 l2 a3 l3 :=
  Fm.keep (fun k _ hk => h.kf.block k (by omega) (by omega)) (Nat.le_refl _) (Nat.le_refl _) hf

theorem Nx.drew {p : Nat} {w w' : World} {c : Int} (h : Nx p w w' c) : Nx p w w'.drew c := ⟨h.kf.trans (Kf.of_below ((Below.refl _ w').drew)), h.is⟩
theorem Nx.undrew {p : Nat} {w w' : World} {c : Int} (h : Nx p w.drew w' c) : Nx p w w' c := ⟨(Kf.of_below ((Below.refl _ w).drew)).trans h.kf, h.is⟩

end Go.Proofs.YtbdpnnfhkhkecaaGreatDoor

/-
  'countedNames' and what it hands out; scopes of names: 'find', 'with'.
-/
namespace Go.Proofs.YtbdpnnfhkhkecaaGreatDoor
open Go.RowKit
set_option linter.unusedVariables false
set_option linter.unusedSimpArgs false

/-- A scope: the innermost name first, each in a block of its own that is not p. -/
def Sc (p : Nat) (w : World) : Env → Value → Prop
  | [], v => v = .pointer none
  | (n, o) :: E, v => ∃ b a, v = .pointer (some ⟨b, 0, none⟩) ∧ b ≠ p ∧ w.heap[b]? = some (.cells #[.string n, .string o, .pointer a] 178 (0, 0)) ∧ Sc p w E (.pointer a)

theorem Sc.ptr {p : Nat} {w : World} {E : Env} {v : Value} (h : Sc p w E v) : ∃ a, v = .pointer a := by
  cases E with
  | nil => exact ⟨none, h⟩
  | cons q E => obtain ⟨n, o⟩ := q; obtain ⟨b, a, e, _⟩ := h; exact ⟨_, e⟩
theorem Sc.keep {p : Nat} {w w' : World} (hb : ∀ k, k < w.heap.size → k ≠ p → w'.heap[k]? = w.heap[k]?) : ∀ {E : Env} {v : Value}, Sc p w E v → Sc p w' E v := by
  intro E
  induction E with
  | nil => intro v h; exact h
  | cons q E ih =>
    intro v h
    obtain ⟨n, o⟩ := q
    obtain ⟨b, a, e, hp, hh, hs⟩ := h
    exact ⟨b, a, e, hp, (hb b (Array.getElem?_eq_some_iff.1 hh).1 hp).trans hh, ih hs⟩
theorem Sc.nx {p : Nat} {w w' : World} {c : Int} (hN : Nx p w w' c) {E : Env} {v : Value} (h : Sc p w E v) : Sc p w' E v := h.keep fun k hk hp => hN.kf.block k hk hp
theorem Sc.below {p : Nat} {w w' : World} (hb : Below w.heap.size w w') {E : Env} {v : Value} (h : Sc p w E v) : Sc p w' E v := h.keep fun k hk _ => hb.block k hk

set_option maxRecDepth 100000 in
set_option maxHeartbeats 1000000 in
theorem find_any (p : Nat) (E : Env) (s : ByteArray) (v : Value) (w : World) (h : Sc p w E v) (hm : ∃ q ∈ E, q.1 = s) :
    Calls Tryz.prog 63 #[v, .string s] w fun e w' => e = .returned (.string (fnd E s)) ∧ w' = w := by
  obtain ⟨a, rfl⟩ := h.ptr
  have HF : Hid (fnd E s = fnd E s) := rfl
  go_enter Tryz.func63, Tryz.ntmps63
  go_wp2_with fail
  go_loopg [0] E.length (fun k v wr => ∃ (E' : Env) (a' : Option Addr), k = E'.length ∧ wr = w ∧ v = .pointer a' ∧ Sc p w E' (.pointer a') ∧ (∃ q ∈ E', q.1 = s) ∧ fnd E' s = fnd E s)
  case atStart => exact ⟨E, a, rfl, rfl, rfl, h, hm, rfl⟩
  case round =>
    obtain ⟨E', a', rfl, rfl, rfl, hs, hq, hfe⟩ := hrel
    cases E' with
    | nil => obtain ⟨q, hq, _⟩ := hq; simp at hq
    | cons q E'' =>
      obtain ⟨n, o⟩ := q
      obtain ⟨b, a2, e, hp, hh, hs2⟩ := hs
      injection e with e
      subst e
      have k0 := row_cell hh 0
      have k1 := row_cell hh 1
      have k2 := row_cell hh 2
      simp only [List.getElem?_toArray, List.getElem?_cons_zero, List.getElem?_cons_succ] at k0 k1 k2
      by_cases hns : n = s
      · subst hns
        have HF2 : Hid (fnd E n = o) := by show _ = _; rw [← hfe]; simp [fnd]
        clear hfe hq HF
        go_wp2_with fail
        go_ret
        exact ⟨by rw [HF2.out]; rfl, rfl⟩
      · have hb : (n.toList == s.toList) = false := by
          rw [beq_eq_false_iff_ne]
          intro e
          apply hns
          rw [ByteArray.toList_eq, ByteArray.toList_eq] at e
          exact bs_inj e
        have HF2 : Hid (fnd E'' s = fnd E s) := by show _ = _; rw [← hfe]; simp [fnd, hns]
        have HQ : Hid (∃ q ∈ E'', q.1 = s) := by
          obtain ⟨q, hq, e⟩ := hq
          rcases List.mem_cons.1 hq with rfl | hq
          · exact (hns e).elim
          · exact ⟨q, hq, e⟩
        have HS2 : Hid (Sc p wr E'' (.pointer a2)) := hs2
        clear hfe hq HF hns hs2
        go_wp2_with fail
        go_roundg E''.length
        case measure => simp
        case rel => exact ⟨E'', a2, rfl, rfl, rfl, HS2.out, HQ.out, HF2.out⟩

theorem with_any (p : Nat) (E : Env) (n o : ByteArray) (v : Value) (w : World) (h : Sc p w E v) (hp : p < w.heap.size) :
    Calls Tryz.prog 65 #[v, .string n, .string o] w fun e w' => ∃ a, e = .returned (.pointer a) ∧ Below w.heap.size w w' ∧ Sc p w' ((n, o) :: E) (.pointer a) := by
  obtain ⟨a, rfl⟩ := h.ptr
  have hb : Below w.heap.size w (w.alloc (.cells #[.string n, .string o, .pointer a] 178)) := (Below.refl _ _).alloc (Nat.le_refl _) _
  go_enter Tryz.func65, Tryz.ntmps65
  go_wp2_with fail
  go_ret
  exact ⟨_, rfl, hb, w.heap.size, a, rfl, by omega, heap_new rfl, h.below hb⟩

theorem app97 (T : List UInt8) : (⟨#[97]⟩ : ByteArray) ++ ⟨T.toArray⟩ = ⟨(97 :: T).toArray⟩ := by
  apply ByteArray.ext
  rw [ByteArray.data_append]
  simp

theorem next_any (B p : Nat) (c : Int) (w : World) (hB : B ≤ p) (hp : w.heap[p]? = some (.cells #[.int .i64 c] 3 (0, 0))) (h0 : 0 ≤ c) (h1 : c ≤ 100000) (hT : TabB B w) :
    Calls Tryz.prog 66 #[.pointer (some ⟨p, 0, none⟩)] w fun e w' => e = .returned (.string (nm (c + 1))) ∧ Nx p w w' (c + 1) := by
  have hpl := (Array.getElem?_eq_some_iff.1 hp).1
  have r0 := cell_1 hp
  have r1 := row_free hp 0
  have hw1 : IntKind.i64.wrap (c + 1) = c + 1 := by rw [IntKind.wrap_i64]; omega
  have hbS : Below B w (w.setCell ⟨p, 0, none⟩ (.int .i64 (c + 1))) := (Below.refl _ _).setCell (p := ⟨p, 0, none⟩) hB _
  have hN : Nx p w (w.setCell ⟨p, 0, none⟩ (.int .i64 (c + 1))) (c + 1) := ⟨⟨hbS.os, hbS.tape, hbS.output, by simp, fun i hi hne => row_other _ _ _ hne, fun i hi => Or.inl hi⟩, by rw [row_set hp]; rfl⟩
  have K := itoa_any (B := B) (c + 1) (by omega) (by omega) (w.setCell ⟨p, 0, none⟩ (.int .i64 (c + 1))) (hT.below hbS)
  have hil := Lib.itoa_length_le (c + 1) (by omega) (by omega)
  have HN : Hid (nm (c + 1) = ⟨(97 :: Lib.itoa (c + 1)).toArray⟩) := rfl
  obtain ⟨T, hT2⟩ : ∃ T, Lib.itoa (c + 1) = T := ⟨_, rfl⟩
  rw [hT2] at K hil HN
  clear hT2
  go_enter Tryz.func66, Tryz.ntmps66
  go_wp2_with fail
  refine K.mono ?_
  rintro e w2 ⟨rfl, hb2⟩
  have hfin : Nx p w w2 (c + 1) := ⟨hN.kf.trans (Kf.of_below hb2), (hb2.block p (by simpa using hpl)).trans hN.is⟩
  go_wp2_with fail
  go_ret
  exact ⟨by rw [HN.out]; simp; exact app97 T, hfin⟩

theorem counted_any (w : World) :
    Calls Tryz.prog 31 #[] w fun e w' => e = .returned (.func (Fn.func 66) #[] #[.pointer (some ⟨w.heap.size, 0, none⟩)]) ∧ w' = w.alloc (.cells #[.int .i64 0] 3) := by
  go_enter Tryz.func31, Tryz.ntmps31
  go_wp2_with fail
  go_ret
  exact ⟨rfl, rfl⟩

end Go.Proofs.YtbdpnnfhkhkecaaGreatDoor
