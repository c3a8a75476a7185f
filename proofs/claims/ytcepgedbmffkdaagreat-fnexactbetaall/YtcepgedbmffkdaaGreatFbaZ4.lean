/-
  The library's 'slices.Concat' of two rows of names: the names of both, in a row of their own.
-/
import Derived.Test.YtcepgedbmffkdaaGreatFbaZ2
import Derived.Test.YtcepgedbmffkdaaGreatFbaZ3
import Derived.Test.YtcepgedbmffkdaaGreatFbaZ1
import Derived.Lib.AppendZeros
import Derived.Deep.Upon
import Derived.Shelf.Strings.Search1
import Derived.Shelf.Strings.Search2
import Derived.Shelf.Strings.Search3
import Derived.Shelf.LaysM
import Derived.Shelf.Strings.Shaped
import Derived.Shelf.Slices.Turned
import Derived.Test.YtcepgedbmffkdaaGreatProg
namespace Go.Proofs.YtcepgedbmffkdaaGreat
open Go.RowKit
set_option linter.unusedVariables false
set_option linter.unusedSimpArgs false
def Nsl (w:World) (ao:Option Addr) (n:Nat) (N:List (List UInt8)):Prop:=n=N.length∧∀ j (_:j < N.length),∃ b,ao=some ⟨b,0,none⟩∧(∃ cs,w.heap[b]?=some (.cells cs 9 (0,0)))∧w.cell? ⟨b,0+j,none⟩=some (tk N[j])
theorem Nsl.below {w w':World} {ao:Option Addr} {n:Nat} {N:List (List UInt8)} (h:Nsl w ao n N) (hb:Below w.heap.size w w'):Nsl w' ao n N :=
  ⟨h.1,fun j hj=>by obtain ⟨b,e,⟨cs,hh⟩,hc⟩:=h.2 j hj;have hl:=(Array.getElem?_eq_some_iff.1 hh).1;exact ⟨b,e,⟨cs,(hb.block b hl).trans hh⟩,(bcell hb hl _).trans hc⟩⟩
theorem Nsl.of_toks {base:Nat} {w:World} {ao:Option Addr} {n c:Nat} {P:List (List UInt8)} (h:Toks base w (.slice ao n c) P):Nsl w ao n P:=by
  obtain ⟨ao',cap,e⟩:=toks_form h
  injection e with e1 e2 e3
  subst e2
  refine ⟨rfl,fun j hj=>?_⟩
  obtain ⟨g,cap,ev,h1,h2,h3⟩:=toks_at h j hj
  injection ev with ev1 _ _
  subst ev1
  refine ⟨g,rfl,?_,h3⟩
  rcases h.2 with ⟨e4,_⟩ | ⟨g',cap',cur,e4,_,hh,_⟩
  · cases e4
  · injection e4 with e5 _ _
    injection e5 with e5
    injection e5 with e6 _ _
    subst e6
    exact ⟨cur,hh⟩
theorem Nsl.of_nm {w:World} {xo:Option Addr} {N:List (List UInt8)} (h:0 < N.length→∃ sb,xo=some ⟨sb,0,none⟩∧w.heap[sb]?=some (.cells (N.map tk).toArray 9 (0,0))):Nsl w xo N.length N:=by
  refine ⟨rfl,fun j hj=>?_⟩
  obtain ⟨sb,e,hh⟩:=h (by omega)
  refine ⟨sb,e,⟨_,hh⟩,?_⟩
  rw [Nat.zero_add,row_cell hh j]
  simp [hj]
theorem toks_app {base:Nat} {wr:World} {v:Value} {P:List (List UInt8)} (h:Toks base wr v P) (hb:base≤wr.heap.size) {ao:Option Addr} {n:Nat} (c:Nat) {N:List (List UInt8)} (hs:Nsl wr ao n N) (hl:P.length+n≤1048577) :
    ∃ ao2 cap w2,(Builtin.append_ #[60,60] 60 #[v,.slice ao n c]).run Tryz.prog wr=.ok (.slice ao2 (P.length+n) cap) w2 ∧
      Toks base w2 (.slice ao2 (P.length+n) cap) (P ++ N)∧wr.grownBy w2 v.ownBlock:=by
  by_cases hn:n=0
  · subst hn
    have hN:N=[]:=List.length_eq_zero_iff.1 hs.1.symm
    subst hN
    obtain ⟨i0,hi,hz0,hz1,hz2⟩:=info_parts Tryz.infoStr
    have hv:∃ a2 cap,v=.slice a2 P.length cap∧P.length≤cap:=by
      rcases h.2 with ⟨rfl,hn⟩ | ⟨g,cap,cur,rfl,hg,hh,h1,h2,h3,h4⟩
      · exact ⟨none,0,by rw [hn],by omega⟩
      · exact ⟨_,cap,rfl,h1⟩
    obtain ⟨a2,cap,rfl,hcap⟩:=hv
    refine ⟨a2,cap,wr,?_,by rw [List.append_nil,Nat.add_zero];exact h,⟨rfl,rfl,rfl,Nat.le_refl _,fun _ _ _=>rfl⟩⟩
    rw [Nat.add_zero]
    refine run_append_nothing (P:=Tryz.prog) wr 60 60 60 9 i0 Tryz.underlying60 hi a2 P.length cap hcap _ ?_
    cases ao with
    | none=>exact Src.ofNil _ Tryz.underlying60 c
    | some a=>exact Src.ofSlice _ Tryz.underlying60 a 0 c [] (by simp) (by simp) (by simp)
  · have hn0:0 < N.length:=by have:=hs.1;omega
    obtain ⟨b,rfl,_,_⟩:=hs.2 0 hn0
    have hnl:=hs.1
    subst hnl
    obtain ⟨g,cap,w2,r1,r2,r3,_,_⟩:=toks_grow h hb N hn0 (by omega) b c (fun j u hu=>by
      rw [List.getElem?_map] at hu
      have hj:j < N.length:=by
        rcases Nat.lt_or_ge j N.length with h | h
        · exact h
        · rw [List.getElem?_eq_none h] at hu;simp at hu
      rw [List.getElem?_eq_getElem hj] at hu
      simp at hu
      obtain ⟨b',e,_,hc⟩:=hs.2 j hj
      cases e
      rw [hc,hu])
    exact ⟨_,cap,w2,r1,r2,r3⟩
set_option maxRecDepth 100000 in
set_option maxHeartbeats 400000 in
theorem grow_noneS (n:Nat) (h0:0 < n) (hl:n≤1048600) (m:Int) (hm:m=(n:Int)) (w:World) :
    Calls Tryz.prog 123 #[.slice none 0 0,.int .i64 m] w fun e w'=>∃ ao cap,e=.returned (.slice ao 0 cap)∧Toks w.heap.size w' (.slice ao 0 cap) []∧Below w.heap.size w w':=by
  obtain ⟨i0,hi,hz0,hz1,hz2⟩:=info_parts Tryz.infoStr
  have hrun:=Lib.run_append_nil_zeros (P:=Tryz.prog) w 60 3 60 9 i0 _ .i64 .i64 Tryz.underlying60 Tryz.underlying3 hi hz0 n h0 (by omega) (by omega) (by rw [hz2];omega)
  subst hm
  have hneg:¬ (n:Int) < 0:=by omega
  have hpos:0 < (n:Int):=by omega
  go_enter Tryz.func123,Tryz.ntmps123
  go_wp2_with (first | (at_builtin;refine Lib.wpList_append_run _ (by rfl) _ _ _ _ (by rfl) _ _ (by rfl) (by rfl) _ _ hrun ?_))
  go_ret
  have hge:=grownCap_ge w n 0 9
  refine ⟨_,_,rfl,⟨rfl,Or.inr ⟨_,_,_,rfl,Nat.le_refl _,heap_alloc_new _ _,Nat.zero_le _,grownCap_le_maxLen w n 0 9 (by unfold maxLen;omega),?_,rfl⟩⟩,((Below.refl _ _).alloc (Nat.le_refl _) _).drew⟩
  simp only [Array.size_append,size_zeroCells]
  simp
  omega
set_option maxRecDepth 100000 in
set_option maxHeartbeats 400000 in
theorem grow_zeroS (w:World) :
    Calls Tryz.prog 123 #[.slice none 0 0,.int .i64 0] w fun e w'=>∃ ao cap,e=.returned (.slice ao 0 cap)∧Toks w.heap.size w' (.slice ao 0 cap) []∧Below w.heap.size w w':=by
  go_enter Tryz.func123,Tryz.ntmps123
  go_wp2_with fail
  go_ret
  exact ⟨_,_,rfl,⟨rfl,Or.inl ⟨rfl,rfl⟩⟩,Below.refl _ _⟩
theorem growS (n:Nat) (hl:n≤1048600) (m:Int) (hm:m=(n:Int)) (w:World) :
    Calls Tryz.prog 123 #[.slice none 0 0,.int .i64 m] w fun e w'=>∃ ao cap,e=.returned (.slice ao 0 cap)∧Toks w.heap.size w' (.slice ao 0 cap) []∧Below w.heap.size w w':=by
  by_cases h0:n=0
  · subst h0
    subst hm
    exact grow_zeroS w
  · exact grow_noneS n (by omega) hl m hm w
set_option maxRecDepth 100000 in
set_option maxHeartbeats 1000000 in
theorem concat_names (p:Nat) (a1:Option Addr) (n1 c1:Nat) (a2:Option Addr) (n2 c2:Nat) (l1 l2:List (List UInt8)) (w:World) (hp:p < w.heap.size)
    (x1:w.cell? ⟨p,0,none⟩=some (.slice a1 n1 c1)) (x2:w.cell? ⟨p,1,none⟩=some (.slice a2 n2 c2)) (h1:Nsl w a1 n1 l1) (h2:Nsl w a2 n2 l2) (hl:n1+n2≤1048577) :
    Calls Tryz.prog 103 #[.slice (some ⟨p,0,none⟩) 2 2] w fun e w'=>∃ v,e=.returned v∧Toks w.heap.size w' v (l1 ++ l2)∧Below w.heap.size w w':=by
  have w1:¬ (n1:Int) < 0:=by omega
  have w2:¬ ((n1:Int)+(n2:Int)) < 0:=by omega
  go_enter Tryz.func103,Tryz.ntmps103
  go_wp2_with fail
  refine wp_loop_rounds 3 ?_
  rw [rounds_succ]
  go_wp2_with fail
  rw [rounds_succ]
  go_wp2_with fail
  rw [rounds_succ]
  go_wp2_with fail
  refine (growS (n1+n2) (by omega) _ (by omega) _).mono ?_
  rintro e wA ⟨g,cap,rfl,hNA,hbA⟩
  have hzA:=hbA.size
  obtain ⟨ao1,cap1,wB,r1,hNB,hgB⟩:=toks_app hNA hzA c1 (h1.below hbA) (by simp;omega)
  have HbB:Hid (Below w.heap.size w wB):=⟨hgB.os.trans hbA.os,hgB.tape.trans hbA.tape,hgB.output.trans hbA.output,Nat.le_trans hzA hgB.size,fun q hq=>(hgB.block q (by omega) (fun e=>by have:=(toks_own hNA e.symm).1;omega)).trans (hbA.block q hq)⟩
  have hbB:=HbB.out
  have hzB:=hbB.size
  simp only [List.nil_append,List.length_nil,Nat.zero_add] at hNB r1
  have hlB:Hid (l1.length=n1):=h1.1.symm
  obtain ⟨ao2,cap2,wC,r2,hNC,hgC⟩:=toks_app hNB hzB c2 (h2.below hbB) (by rw [hlB.out];omega)
  have HbC:Hid (Below w.heap.size w wC):=⟨hgC.os.trans hbB.os,hgC.tape.trans hbB.tape,hgC.output.trans hbB.output,Nat.le_trans hzB hgC.size,fun q hq=>(hgC.block q (by omega) (fun e=>by have:=(toks_own hNB e.symm).1;omega)).trans (hbB.block q hq)⟩
  have y1:=(bcell hbA hp 0).trans x1
  have y2:=(bcell hbB hp 1).trans x2
  have HNC:Hid (Toks w.heap.size wC (.slice ao2 (l1.length+n2) cap2) (l1 ++ l2)):=hNC
  rw [hlB.out] at r2
  rw [hlB.out] at HNC
  clear hNA hNB hNC hgB hgC hbB HbB h1 h2 hbA hzA hzB x1 x2
  have HR1:Hid (_=_):=r1
  have HR2:Hid (_=_):=r2
  clear r1 r2
  go_wp2_with fail
  refine wp_loop_rounds 3 ?_
  rw [rounds_succ]
  go_wp2_with (first | (at_builtin;refine list_run HR1.out (by rfl) _ _ (by rfl) (by rfl) (by rfl) (by rfl) ?_))
  rw [rounds_succ]
  go_wp2_with (first | (at_builtin;refine list_run HR2.out (by rfl) _ _ (by rfl) (by rfl) (by rfl) (by rfl) ?_))
  rw [rounds_succ]
  go_wp2_with fail
  go_ret
  exact ⟨_,rfl,HNC.out,HbC.out⟩
end Go.Proofs.YtcepgedbmffkdaaGreat

/-
  What the library's functions come to at this program: the numbers that the shelf's own theorems want.
-/
namespace Go.Proofs.YtcepgedbmffkdaaGreat
open Go.Shelf Go.RowKit
set_option linter.unusedVariables false
def Tryz.lays110_ren:Go.Shelf.Ren:=⟨fun | 110=>102 | 109=>122 | n=>n,fun | 31=>60 | 9=>9 | 4=>4 | 3=>3 | 0=>0 | n=>n,fun | n=>n⟩
theorem Tryz.lays110:Go.Proofs.Lays.n110 Tryz.prog Tryz.lays110_ren:={
  mixed:=by kernel_rfl
  f109:=Tryz.func122.trans (congrArg some (by kernel_rfl))
  f110:=Tryz.func102.trans (congrArg some (by kernel_rfl))
  t0:=Tryz.underlying0
  a0:=Tryz.isAgg0
  z0:=Tryz.sizeOf0
  v0:=Tryz.zeroValue0
  t3:=Tryz.underlying3
  a3:=Tryz.isAgg3
  z3:=Tryz.sizeOf3
  v3:=Tryz.zeroValue3
  t4:=Tryz.underlying4
  a4:=Tryz.isAgg4
  z4:=Tryz.sizeOf4
  v4:=Tryz.zeroValue4
  t9:=Tryz.underlying9
  a9:=Tryz.isAgg9
  z9:=Tryz.sizeOf9
  v9:=Tryz.zeroValue9
  t31:=Tryz.underlying60
  a31:=Tryz.isAgg60
  z31:=Tryz.sizeOf60
  v31:=Tryz.zeroValue60 }
open Go.Lib in
theorem Tryz.slices_Contains_string (b off n c:Nat) (zs:List ByteArray) (x:ByteArray) (w:World) (hz:n≤zs.length) (hbig:n≤9223372036854775807) (hc:∀ j,j < zs.length→w.cell? ⟨b,off+j,none⟩=some (.string (zs.getD j ByteArray.empty))) :
    Calls Tryz.prog 102 #[.slice (some ⟨b,off,none⟩) n c,.string x] w fun e w'=>e=.returned (.bool (Lib.containsS (zs.take n) x))∧w'=w:=Any.slices_Contains_string Tryz.lays110 b off n c zs x w hz hbig hc
open Go.Lib in
theorem Tryz.slices_Contains_string_empty (a:Option Addr) (c:Nat) (x:ByteArray) (w:World) :
    Calls Tryz.prog 102 #[.slice a 0 c,.string x] w fun e w'=>e=.returned (.bool false)∧w'=w:=Any.slices_Contains_string_empty Tryz.lays110 a c x w
end Go.Proofs.YtcepgedbmffkdaaGreat

/-
  Free names: 'gatherBound', and free names in plain words.
-/
namespace Go.Proofs.YtcepgedbmffkdaaGreat
open Go.RowKit
set_option linter.unusedVariables false
set_option linter.unusedSimpArgs false
def bindsW (k:Int) (s z:List UInt8) (i:Nat):List (List UInt8):=if k=4∨k=7∨(k=6∧i=1)∨(k=17∧i=1) then [s] else if k=14∧i=2 then [s,z] else []
def freeF (f:Tm→List (List UInt8)→List (List UInt8)→List (List UInt8)) (k:Int) (s z:List UInt8):Nat→List Tm→List (List UInt8)→List (List UInt8)→List (List UInt8)
  | _,[],_,Fr=>Fr
  | i,t :: ts,Bd,Fr=>freeF f k s z (i+1) ts Bd (f t (Bd ++ bindsW k s z i) Fr)
def freeW:Nat→Tm→List (List UInt8)→List (List UInt8)→List (List UInt8)
  | 0,_,_,Fr=>Fr
  | l+1,t,Bd,Fr=>freeF (freeW l) t.K (bs t.S) (bs t.Z) 0 t.A Bd (if t.K=3 then meetW Bd Fr (bs t.S) else Fr)
theorem meetW_len (Bd Fr:List (List UInt8)) (x:List UInt8):(meetW Bd Fr x).length≤Fr.length+1:=by
  unfold meetW;split <;> simp
theorem freeF_len {f:Tm→List (List UInt8)→List (List UInt8)→List (List UInt8)} {g:Tm→Option Nat} (hf:∀ t m Bd Fr,g t=some m→(f t Bd Fr).length≤Fr.length+m) (k:Int) (s z:List UInt8):∀ (ts:List Tm) (i:Nat) (Bd Fr:List (List UInt8)) (m:Nat),nodesG g ts=some m→(freeF f k s z i ts Bd Fr).length≤Fr.length+m:=by
  intro ts
  induction ts with
  | nil=>intro i Bd Fr m h;simp [freeF]
  | cons t ts ih =>
    intro i Bd Fr m h
    simp only [nodesG] at h
    cases ht:g t with
    | none=>simp [ht] at h
    | some a =>
      cases hz:nodesG g ts with
      | none=>simp [ht,hz] at h
      | some b =>
        simp [ht,hz] at h
        have h1:=hf t a (Bd ++ bindsW k s z i) Fr ht
        have h2:=ih (i+1) Bd (f t (Bd ++ bindsW k s z i) Fr) b hz
        simp only [freeF]
        omega
theorem freeW_len:∀ (l:Nat) (t:Tm) (m:Nat) (Bd Fr:List (List UInt8)),nodesM l t=some m→(freeW l t Bd Fr).length≤Fr.length+m:=by
  intro l
  induction l with
  | zero=>intro t m Bd Fr h;simp [nodesM] at h
  | succ l ih =>
    intro t m Bd Fr h
    have hn:=(nodesM_inv h).1
    simp only [nodesM,hn,if_true] at h
    cases hz:nodesG (nodesM l) t.A with
    | none=>simp [hz] at h
    | some b =>
      simp [hz] at h
      have h1:=freeF_len (f:=freeW l) (g:=nodesM l) (fun t m Bd Fr h=>ih t m Bd Fr h) t.K (bs t.S) (bs t.Z) t.A 0 Bd (if t.K=3 then meetW Bd Fr (bs t.S) else Fr) b hz
      have h2:(if t.K=3 then meetW Bd Fr (bs t.S) else Fr).length≤Fr.length+1:=by
        split
        · exact meetW_len _ _ _
        · omega
      simp only [freeW]
      omega
end Go.Proofs.YtcepgedbmffkdaaGreat

/-
  What the model's 'l1Args', 'l1In', 'l1Look', 'TyOk', 'TyNodes' come to.
-/
namespace Go.Proofs.YtcepgedbmffkdaaGreat
open Go.RowKit
set_option linter.unusedVariables false
set_option linter.unusedSimpArgs false
set_option maxHeartbeats 400000 in
theorem l1Args_any (k:Int) (w:World):Calls Tryz.prog 127 #[.int .i64 k] w fun e w'=>e=.returned (.int .i64 (parts k))∧w'=w:=by
  by_cases h1:k=1
  · subst h1;go_enter Tryz.func127,Tryz.ntmps127;go_wp2;go_ret;exact ⟨rfl,rfl⟩
  by_cases h2:k=2
  · subst h2;go_enter Tryz.func127,Tryz.ntmps127;go_wp2;go_ret;exact ⟨rfl,rfl⟩
  by_cases h3:k=3
  · subst h3;go_enter Tryz.func127,Tryz.ntmps127;go_wp2;go_ret;exact ⟨rfl,rfl⟩
  by_cases h4:k=4
  · subst h4;go_enter Tryz.func127,Tryz.ntmps127;go_wp2;go_ret;exact ⟨rfl,rfl⟩
  by_cases h5:k=5
  · subst h5;go_enter Tryz.func127,Tryz.ntmps127;go_wp2;go_ret;exact ⟨rfl,rfl⟩
  by_cases h6:k=6
  · subst h6;go_enter Tryz.func127,Tryz.ntmps127;go_wp2;go_ret;exact ⟨rfl,rfl⟩
  have e:parts k=-1:=by unfold parts;rw [if_neg (by omega),if_neg (by omega),if_neg (by omega)]
  rw [e]
  have b1:(k == 1)=false:=beq_eq_false_iff_ne.2 h1
  have b2:(k == 2)=false:=beq_eq_false_iff_ne.2 h2
  have b3:(k == 3)=false:=beq_eq_false_iff_ne.2 h3
  have b4:(k == 4)=false:=beq_eq_false_iff_ne.2 h4
  have b5:(k == 5)=false:=beq_eq_false_iff_ne.2 h5
  have b6:(k == 6)=false:=beq_eq_false_iff_ne.2 h6
  clear e h1 h2 h3 h4 h5 h6
  go_enter Tryz.func127,Tryz.ntmps127;go_wp2;go_ret;exact ⟨rfl,rfl⟩
def in01 (x:Int):Bool:=decide (0≤x∧x≤1)
set_option maxHeartbeats 400000 in
theorem l1In_any (x:Int) (w:World):Calls Tryz.prog 106 #[.int .i64 x,.int .i64 0,.int .i64 1] w fun e w'=>e=.returned (.bool (in01 x))∧w'=w:=by
  by_cases h:0≤x
  all_goals
    go_enter Tryz.func106,Tryz.ntmps106
    go_wp2
    go_ret
    exact ⟨ret_bool (by unfold in01;rw [Bool.eq_iff_iff];simp;try omega),rfl⟩
def lookOk (l c:Nat) (t:Tr):Bool:=match nodesW l t with | some m=>decide (c+m≤60) | none=>false
def SaidLk (l:Nat):Prop:=∀ (d L B p c:Nat) (k n:Int) (ao:Option Addr) (len cap:Nat) (ts:List Tr) (w:World),B≤p→p < w.heap.size→w.heap[p]?=some (.cells #[.int .i64 c] 3 (0,0))→c≤60→Hs L B w d ao len ts →
    Calls Tryz.prog 107 #[.agg #[.int .i64 k,.int .i64 n,.slice ao len cap],.int .i64 l,.pointer (some ⟨p,0,none⟩)] w fun e w' =>
      e=.returned (.bool (lookOk l c ⟨k,n,ts⟩))∧w.grownBy w' (some p)∧∃ c':Int,w'.heap[p]?=some (.cells #[.int .i64 c'] 3 (0,0))∧(∀ m,nodesW l ⟨k,n,ts⟩=some m→c+m≤60→c'=c+m)
theorem gcell {w w':World} {p b:Nat} (hg:w.grownBy w' (some p)) (hb:b < w.heap.size) (hp:b≠p) (o:Nat):w'.cell? ⟨b,o,none⟩=w.cell? ⟨b,o,none⟩ :=
  World.cell?_of_block (hg.block b hb (by simpa using hp))
theorem grown_trans {a b c:World} {r:Option Nat} (h:a.grownBy b r) (k:b.grownBy c r):a.grownBy c r :=
  ⟨k.os.trans h.os,k.tape.trans h.tape,k.output.trans h.output,Nat.le_trans h.size k.size,fun i hi hr=>(k.block i (Nat.lt_of_lt_of_le hi h.size) hr).trans (h.block i hi hr)⟩
theorem Hs.grown {L B p:Nat} {w w':World} (hg:w.grownBy w' (some p)) (hB:B≤p) (hp:p < w.heap.size) {d:Nat} {ao:Option Addr} {len:Nat} {ts:List Tr} (h:Hs L B w d ao len ts):Hs L B w' d ao len ts :=
  h.keep (fun k _ hk=>hg.block k (by omega) (by simp;omega)) (Nat.le_refl _) (Nat.le_refl _)
theorem lk_world {w:World} {p:Nat} {v:Value} {t:TypeId} (hcell:w.heap[p]?=some (.cells #[v] t (0,0))) (hp:p < w.heap.size) (u:Value) (cs:Array Value) (t':TypeId) (nq:Nat) :
    w.grownBy (((w.setCell ⟨p,0,none⟩ u).alloc (.cells cs t')).drewN nq) (some p)∧(((w.setCell ⟨p,0,none⟩ u).alloc (.cells cs t')).drewN nq).heap[p]?=some (.cells #[u] t (0,0)) ∧
    (((w.setCell ⟨p,0,none⟩ u).alloc (.cells cs t')).drewN nq).heap[w.heap.size]?=some (.cells cs t' (0,0)):=by
  refine ⟨⟨rfl,rfl,rfl,?_,?_⟩,?_,?_⟩
  · show w.heap.size≤((w.setCell ⟨p,0,none⟩ u).alloc (.cells cs t')).heap.size
    simp
  · intro k hk hr
    show ((w.setCell ⟨p,0,none⟩ u).alloc (.cells cs t')).heap[k]?=_
    rw [Below.heap_alloc _ _ _ (by simpa using hk),row_other _ _ _ (by simpa using hr)]
  · show ((w.setCell ⟨p,0,none⟩ u).alloc (.cells cs t')).heap[p]?=_
    rw [Below.heap_alloc _ _ _ (by simpa using hp),row_set hcell]
    rfl
  · show ((w.setCell ⟨p,0,none⟩ u).alloc (.cells cs t')).heap[w.heap.size]?=_
    exact heap_new (by simp)
theorem lookOk_no {l c:Nat} {t:Tr} (h:lookOk l c t=false):∀ m,nodesW l t=some m→c+m≤60→False:=by
  intro m hm hle
  simp only [lookOk,hm,decide_eq_false_iff_not] at h
  exact h hle
set_option maxHeartbeats 400000 in
theorem lk_zero:SaidLk 0:=by
  intro d L B p c k n ao len cap ts w hBp hp hcell hc hs
  have f:=row_cell hcell 0
  have r:=row_free hcell 0
  simp at f
  have hpn:¬ w.heap.size=p:=by omega
  have HW:=lk_world hcell hp (.int .i64 ((c:Int)+1)) #[.int .i64 k,.int .i64 n,.slice ao len cap] 31
  have HWW:Hid (∀ nq,_):=HW
  clear HW hcell
  go_enter Tryz.func107,Tryz.ntmps107
  go_wp2_with fail
  go_quiet ((first | (go_at_call 127;exact Calls.quiet_of_same (l1Args_any _ _)) | (go_at_call 106;exact Calls.quiet_of_same (l1In_any _ _))))
  go_wp2
  go_ret
  exact ⟨ret_bool rfl,(HWW.out nq).1,_,(HWW.out nq).2.1,fun m hm=>by simp [nodesW] at hm⟩
theorem nodeOk_parts {k n:Int} {len:Nat} (h:nodeOk k n len=true):(len:Int)=parts k∧((k=3∧in01 n=true)∨(¬ k=3∧n=0)):=by
  simp only [nodeOk,Bool.and_eq_true,decide_eq_true_eq] at h
  refine ⟨h.1,?_⟩
  by_cases hk:k=3
  · left
    rw [if_pos hk] at h
    exact ⟨hk,by unfold in01;simp at h ⊢;omega⟩
  · right
    rw [if_neg hk] at h
    exact ⟨hk,by simpa using h.2⟩
theorem lookOk_deep {l c:Nat} {k n:Int} {ts:List Tr} (h:nodeOk k n ts.length=false):lookOk (l+1) c ⟨k,n,ts⟩=false:=by simp [lookOk,nodesW,h]
theorem lookOk_full {l c:Nat} {t:Tr} (h:60 < c+1):lookOk l c t=false:=by
  unfold lookOk
  split
  · rename_i m hm
    have:=nodesW_pos _ _ _ hm
    simp;omega
  · rfl
set_option maxHeartbeats 1000000 in
theorem lk_no (l:Nat) (d L B p c:Nat) (k n:Int) (ao:Option Addr) (len cap:Nat) (ts:List Tr) (w:World) (hBp:B≤p) (hp:p < w.heap.size) (hcell:w.heap[p]?=some (.cells #[.int .i64 c] 3 (0,0))) (hc:c≤60) (hl6:l < 6) (hs:Hs L B w d ao len ts)
    (hno:60 < c+1∨nodeOk k n len=false) :
    Calls Tryz.prog 107 #[.agg #[.int .i64 k,.int .i64 n,.slice ao len cap],.int .i64 ((l:Int)+1),.pointer (some ⟨p,0,none⟩)] w fun e w' =>
      e=.returned (.bool (lookOk (l+1) c ⟨k,n,ts⟩))∧w.grownBy w' (some p)∧∃ c':Int,w'.heap[p]?=some (.cells #[.int .i64 c'] 3 (0,0))∧(∀ m,nodesW (l+1) ⟨k,n,ts⟩=some m→c+m≤60→c'=c+m):=by
  have HO:Hid (lookOk (l+1) c ⟨k,n,ts⟩=false):=by
    rcases hno with h | h
    · exact lookOk_full h
    · exact lookOk_deep (by rw [← hs.len.1];exact h)
  have hll:=hs.len.2
  have f:=row_cell hcell 0
  have r:=row_free hcell 0
  simp at f
  have hpn:¬ w.heap.size=p:=by omega
  have hp0:=parts_bd k
  have HW:=lk_world hcell hp (.int .i64 ((c:Int)+1)) #[.int .i64 k,.int .i64 n,.slice ao len cap] 31
  have HWW:Hid (∀ nq,_):=HW
  clear HW hcell
  have hl0:(((l:Int)+1) == 0)=false:=by simp;omega
  by_cases hfull:60 < c+1
  · have h60:decide (60 < (c:Int)+1)=true:=by simp;omega
    clear hno hfull
    go_enter Tryz.func107,Tryz.ntmps107
    go_wp2_with fail
    go_quiet ((first | (go_at_call 127;exact Calls.quiet_of_same (l1Args_any _ _)) | (go_at_call 106;exact Calls.quiet_of_same (l1In_any _ _))))
    go_wp2
    go_ret
    exact ⟨ret_bool HO.out.symm,(HWW.out nq).1,_,(HWW.out nq).2.1,fun m hm hle=>(lookOk_no HO.out m hm hle).elim⟩
  have h60:decide (60 < (c:Int)+1)=false:=by simp;omega
  replace hno:nodeOk k n len=false:=by rcases hno with h | h;exact absurd h hfull;exact h
  by_cases hlen:(len:Int)=parts k
  · have hb:((len:Int) != parts k)=false:=by simp [hlen]
    by_cases hk:k=3
    · have hk3:(k == 3)=true:=by simp [hk]
      have hkn:(k != 3)=false:=by simp [hk]
      have hin:in01 n=false:=by
        rw [nodeOk_var hk hlen] at hno
        unfold in01;simp at hno ⊢;omega
      clear hk hlen hno
      go_enter Tryz.func107,Tryz.ntmps107
      go_wp2_with fail
      go_quiet ((first | (go_at_call 127;exact Calls.quiet_of_same (l1Args_any _ _)) | (go_at_call 106;exact Calls.quiet_of_same (l1In_any _ _))))
      go_wp2
      go_ret
      exact ⟨ret_bool HO.out.symm,(HWW.out nq).1,_,(HWW.out nq).2.1,fun m hm hle=>(lookOk_no HO.out m hm hle).elim⟩
    · have hk3:(k == 3)=false:=by simp [hk]
      have hkn:(k != 3)=true:=by simp [hk]
      have hn:(n != 0)=true:=by
        rw [nodeOk_else hk hlen] at hno
        simpa using hno
      clear hk hlen hno
      go_enter Tryz.func107,Tryz.ntmps107
      go_wp2_with fail
      go_quiet ((first | (go_at_call 127;exact Calls.quiet_of_same (l1Args_any _ _)) | (go_at_call 106;exact Calls.quiet_of_same (l1In_any _ _))))
      go_wp2
      go_ret
      exact ⟨ret_bool HO.out.symm,(HWW.out nq).1,_,(HWW.out nq).2.1,fun m hm hle=>(lookOk_no HO.out m hm hle).elim⟩
  · have hb:((len:Int) != parts k)=true:=by simp [hlen]
    clear hlen hno
    go_enter Tryz.func107,Tryz.ntmps107
    go_wp2_with fail
    go_quiet ((first | (go_at_call 127;exact Calls.quiet_of_same (l1Args_any _ _)) | (go_at_call 106;exact Calls.quiet_of_same (l1In_any _ _))))
    go_wp2
    go_ret
    exact ⟨ret_bool HO.out.symm,(HWW.out nq).1,_,(HWW.out nq).2.1,fun m hm hle=>(lookOk_no HO.out m hm hle).elim⟩
end Go.Proofs.YtcepgedbmffkdaaGreat

/-
  Terms that own their memory: no walk.
-/
namespace Go.Proofs.YtcepgedbmffkdaaGreat
open Go.RowKit
set_option linter.unusedVariables false
set_option linter.unusedSimpArgs false
def FldO (w:World) (D:Nat) (rM:Option Addr→Nat→List Tm→List Nat→Prop) (t:Tm) (a1:Option Addr) (l1:Nat) (a2:Option Addr) (l2:Nat) (a3:Option Addr) (l3:Nat) (bs:List Nat):Prop :=
  ∃ p1 p2 p3,bs=p1 ++ p2 ++ p3∧t.S.size≤9223372036854775807∧t.Z.size≤9223372036854775807∧Ow w D a1 l1 t.T.A p1∧Ow w D a2 l2 t.Ts p2∧rM a3 l3 t.A p3
def OwM (w:World) (D:Nat):Nat→Option Addr→Nat→List Tm→List Nat→Prop
  | 0,_,len,ts,bs=>len=0∧ts=[]∧bs=[]
  | d+1,ao,len,ts,bs=>(len=0∧ts=[]∧bs=[]) ∨
      ∃ (g:Nat) (cs:Array Value) (bss:List (List Nat)),ao=some ⟨g,0,none⟩∧len=ts.length∧len≤9223372036854775807∧w.heap[g]?=some (.cells cs 34 (0,0))∧len * 9≤cs.size∧bss.length=ts.length∧bs=g :: bss.flatten ∧
        ∀ i (_:i < ts.length) (_:i < bss.length),∃ a1 l1 c1 a2 l2 c2 a3 l3 c3,Nine w g (i * 9) ts[i].K ts[i].N ts[i].S ts[i].Z ts[i].T.K ts[i].T.N (.slice a1 l1 c1) (.slice a2 l2 c2) (.slice a3 l3 c3)∧FldO w D (OwM w D d) ts[i] a1 l1 a2 l2 a3 l3 bss[i]
theorem FldO.map {w w':World} {D D':Nat} {rM rM':Option Addr→Nat→List Tm→List Nat→Prop} {t:Tm} {a1 a2 a3:Option Addr} {l1 l2 l3:Nat} {bs:List Nat} (h:FldO w D rM t a1 l1 a2 l2 a3 l3 bs)
    (kT:∀ ao len ts p,(∀ b ∈ p,b ∈ bs)→Ow w D ao len ts p→Ow w' D' ao len ts p) (kM:∀ ao len ts p,(∀ b ∈ p,b ∈ bs)→rM ao len ts p→rM' ao len ts p):FldO w' D' rM' t a1 l1 a2 l2 a3 l3 bs:=by
  obtain ⟨p1,p2,p3,rfl,h1,h2,h3,h4,h5⟩:=h
  exact ⟨p1,p2,p3,rfl,h1,h2,kT _ _ _ _ (fun b hb=>by simp [hb]) h3,kT _ _ _ _ (fun b hb=>by simp [hb]) h4,kM _ _ _ _ (fun b hb=>by simp [hb]) h5⟩
theorem OwM.keep {w w':World} {D:Nat}:∀ {d:Nat} {ao:Option Addr} {len:Nat} {ts:List Tm} {bs:List Nat},(∀ b ∈ bs,w'.heap[b]?=w.heap[b]?)→OwM w D d ao len ts bs→OwM w' D d ao len ts bs:=by
  intro d
  induction d with
  | zero=>intro ao len ts bs _ h;exact h
  | succ d ih =>
    intro ao len ts bs hb h
    rcases h with h | ⟨g,cs,bss,e,hl,hm,hg,hc,hbl,rfl,hE⟩
    · exact Or.inl h
    · have hgg:=hb g (by simp)
      refine Or.inr ⟨g,cs,bss,e,hl,hm,hgg.trans hg,hc,hbl,rfl,fun i hi hi'=>?_⟩
      obtain ⟨a1,l1,c1,a2,l2,c2,a3,l3,c3,h9,hf⟩:=hE i hi hi'
      have hin:∀ b ∈ bss[i],w'.heap[b]?=w.heap[b]?:=fun b hb'=>hb b (List.mem_cons_of_mem _ (mem_part hi' hb'))
      exact ⟨a1,l1,c1,a2,l2,c2,a3,l3,c3,h9.world hgg,hf.map (fun _ _ _ p hp hr=>hr.keep fun b hb'=>hin b (hp b hb')) (fun _ _ _ p hp hr=>ih (fun b hb'=>hin b (hp b hb')) hr)⟩
theorem FldO.keep {w w':World} {D d:Nat} {t:Tm} {a1 a2 a3:Option Addr} {l1 l2 l3:Nat} {bs:List Nat} (hb:∀ b ∈ bs,w'.heap[b]?=w.heap[b]?) (h:FldO w D (OwM w D d) t a1 l1 a2 l2 a3 l3 bs):FldO w' D (OwM w' D d) t a1 l1 a2 l2 a3 l3 bs :=
  h.map (fun _ _ _ p hp hr=>hr.keep fun b hb'=>hb b (hp b hb')) (fun _ _ _ p hp hr=>hr.keep fun b hb'=>hb b (hp b hb'))
theorem OwM.hm {w:World} {L B D:Nat}:∀ {d:Nat} {ao:Option Addr} {len:Nat} {ts:List Tm} {bs:List Nat},(∀ b ∈ bs,L≤b∧b < B)→OwM w D d ao len ts bs→Hm L B w D d ao len ts:=by
  intro d
  induction d with
  | zero=>intro ao len ts bs _ h;exact ⟨h.1,h.2.1⟩
  | succ d ih =>
    intro ao len ts bs hb h
    rcases h with ⟨rfl,rfl,_⟩ | ⟨g,cs,bss,e,hl,hm,hg,hc,hbl,rfl,hE⟩
    · exact ⟨rfl,by omega,fun i hi=>by simp at hi⟩
    · refine ⟨hl,hm,fun i hi=>⟨g,0,e,(hb g (by simp)).1,(hb g (by simp)).2,?_⟩⟩
      rw [Nat.zero_add]
      obtain ⟨a1,l1,c1,a2,l2,c2,a3,l3,c3,h9,p1,p2,p3,hp,h1,h2,h3,h4,h5⟩:=hE i hi (by omega)
      have hin:∀ b ∈ bss[i]'(by omega),L≤b∧b < B:=fun b hb'=>hb b (List.mem_cons_of_mem _ (mem_part (by omega) hb'))
      rw [hp] at hin
      exact ⟨a1,l1,c1,a2,l2,c2,a3,l3,c3,h9,h1,h2,h3.hs fun b hb'=>hin b (by simp [hb']),h4.hs fun b hb'=>hin b (by simp [hb']),ih (fun b hb'=>hin b (by simp [hb'])) h5⟩
def FmO (L B:Nat) (w:World) (D d:Nat) (t:Tm) (a1:Option Addr) (l1:Nat) (a2:Option Addr) (l2:Nat) (a3:Option Addr) (l3:Nat):Prop:=∃ bs,FldO w D (OwM w D d) t a1 l1 a2 l2 a3 l3 bs∧bs.Nodup∧∀ b ∈ bs,L≤b∧b < B
def OwMR (L B:Nat) (w:World) (D d:Nat) (ao:Option Addr) (len:Nat) (ts:List Tm):Prop:=∃ bs,OwM w D d ao len ts bs∧bs.Nodup∧∀ b ∈ bs,L≤b∧b < B
theorem FmO.fm {L B:Nat} {w:World} {D d:Nat} {t:Tm} {a1 a2 a3:Option Addr} {l1 l2 l3:Nat} (h:FmO L B w D d t a1 l1 a2 l2 a3 l3):Fm L B w D d t a1 l1 a2 l2 a3 l3:=by
  obtain ⟨bs,⟨p1,p2,p3,rfl,h1,h2,h3,h4,h5⟩,_,hin⟩:=h
  exact ⟨h1,h2,h3.hs fun b hb'=>hin b (by simp [hb']),h4.hs fun b hb'=>hin b (by simp [hb']),h5.hm fun b hb'=>hin b (by simp [hb'])⟩
theorem FmO.keep {L B L' B':Nat} {w w':World} {D d:Nat} {t:Tm} {a1 a2 a3:Option Addr} {l1 l2 l3:Nat} (h:FmO L B w D d t a1 l1 a2 l2 a3 l3) (hb:∀ k,L≤k→k < B→w'.heap[k]?=w.heap[k]?) (hL:L'≤L) (hB:B≤B'):FmO L' B' w' D d t a1 l1 a2 l2 a3 l3:=by
  obtain ⟨bs,h1,h2,h3⟩:=h
  exact ⟨bs,h1.keep (fun b hb'=>hb b (h3 b hb').1 (h3 b hb').2),h2,fun b hb'=>⟨Nat.le_trans hL (h3 b hb').1,Nat.lt_of_lt_of_le (h3 b hb').2 hB⟩⟩
theorem FmO.below {L B:Nat} {w w':World} {D d:Nat} {t:Tm} {a1 a2 a3:Option Addr} {l1 l2 l3:Nat} (h:FmO L B w D d t a1 l1 a2 l2 a3 l3) (hb:Below w.heap.size w w') (hB:B≤w.heap.size):FmO L B w' D d t a1 l1 a2 l2 a3 l3 :=
  h.keep (fun k _ hk=>hb.block k (by omega)) (Nat.le_refl _) (Nat.le_refl _)
theorem OwMR.keep {L B L' B':Nat} {w w':World} {D d:Nat} {ao:Option Addr} {len:Nat} {ts:List Tm} (h:OwMR L B w D d ao len ts) (hb:∀ k,L≤k→k < B→w'.heap[k]?=w.heap[k]?) (hL:L'≤L) (hB:B≤B'):OwMR L' B' w' D d ao len ts:=by
  obtain ⟨bs,h1,h2,h3⟩:=h
  exact ⟨bs,h1.keep (fun b hb'=>hb b (h3 b hb').1 (h3 b hb').2),h2,fun b hb'=>⟨Nat.le_trans hL (h3 b hb').1,Nat.lt_of_lt_of_le (h3 b hb').2 hB⟩⟩
theorem OwMR.nil (L B:Nat) (w:World) (D d:Nat) (ao:Option Addr):OwMR L B w D d ao 0 []:=by
  refine ⟨[],?_,by simp,by simp⟩
  cases d with
  | zero=>exact ⟨rfl,rfl,rfl⟩
  | succ d=>exact Or.inl ⟨rfl,rfl,rfl⟩
theorem FmO.mk {L M1 M2 B:Nat} {w:World} {D d:Nat} {t:Tm} {a1 a2 a3:Option Addr} {l1 l2 l3:Nat} (h1:t.S.size≤9223372036854775807) (h2:t.Z.size≤9223372036854775807) (hT:OwR L M1 w D a1 l1 t.T.A) (hTs:OwR M1 M2 w D a2 l2 t.Ts) (hA:OwMR M2 B w D d a3 l3 t.A) (hm1:L≤M1) (hm2:M1≤M2) (hm3:M2≤B):FmO L B w D d t a1 l1 a2 l2 a3 l3:=by
  obtain ⟨p1,q1,n1,r1⟩:=hT
  obtain ⟨p2,q2,n2,r2⟩:=hTs
  obtain ⟨p3,q3,n3,r3⟩:=hA
  refine ⟨p1 ++ p2 ++ p3,⟨p1,p2,p3,rfl,h1,h2,q1,q2,q3⟩,?_,?_⟩
  · rw [List.nodup_append,List.nodup_append]
    refine ⟨⟨n1,n2,fun a ha b hb=>?_⟩,n3,fun a ha b hb=>?_⟩
    · have:=(r1 a ha).2;have:=(r2 b hb).1;omega
    · have h3:=(r3 b hb).1
      rw [List.mem_append] at ha
      rcases ha with ha | ha
      · have:=(r1 a ha).2;omega
      · have:=(r2 a ha).2;omega
  · intro b hb
    rw [List.mem_append,List.mem_append] at hb
    rcases hb with (hb | hb) | hb
    · have:=r1 b hb;omega
    · have:=r2 b hb;omega
    · have:=r3 b hb;omega
structure RowRelM (w wr:World) (D d len k:Nat) (ts:List Tm):Prop where
  bel:Below w.heap.size w wr
  row:∃ cs:Array Value,wr.heap[w.heap.size]?=some (.cells cs 34 (0,0))∧cs.size=len * 9
  els:∃ bss:List (List Nat),bss.length=k∧bss.flatten.Nodup∧(∀ b ∈ bss.flatten,w.heap.size < b∧b < wr.heap.size) ∧
    ∀ i (_:i < bss.length) (_:i < ts.length),∃ a1 l1 c1 a2 l2 c2 a3 l3 c3,Nine wr w.heap.size (i * 9) ts[i].K ts[i].N ts[i].S ts[i].Z ts[i].T.K ts[i].T.N (.slice a1 l1 c1) (.slice a2 l2 c2) (.slice a3 l3 c3)∧FldO wr D (OwM wr D d) ts[i] a1 l1 a2 l2 a3 l3 bss[i]
theorem rrm_lt {w wr:World} {D d len k:Nat} {ts:List Tm} (h:RowRelM w wr D d len k ts):w.heap.size < wr.heap.size:=by
  obtain ⟨cs,hr,_⟩:=h.row
  exact (Array.getElem?_eq_some_iff.1 hr).1
theorem rrm_row {w wr w1:World} {D d len k:Nat} {ts:List Tm} (h:RowRelM w wr D d len k ts) (hb:Below wr.heap.size wr w1):∃ cs:Array Value,w1.heap[w.heap.size]?=some (.cells cs 34 (0,0))∧cs.size=len * 9:=by
  obtain ⟨cs,hr,hc⟩:=h.row
  exact ⟨cs,(hb.block _ (rrm_lt h)).trans hr,hc⟩
theorem rrm_start {w:World} {C:Array Value} {D d len:Nat} {ts:List Tm} (hC:C.size=len * 9):RowRelM w (w.alloc (.cells C 34)) D d len 0 ts :=
  ⟨(Below.refl _ _).alloc (Nat.le_refl _) _,⟨C,heap_alloc_new _ _,hC⟩,[],rfl,by simp,by simp,fun i hi=>by simp at hi⟩
theorem rrm_next {w wr w1:World} {D d len k:Nat} {ts:List Tm} (h:RowRelM w wr D d len k ts) (hk:k < len) (hk':k < ts.length) (hb:Below wr.heap.size wr w1) {a1 a2 a3:Option Addr} {l1 l2 l3 c1 c2 c3:Nat}
    (hs:FmO wr.heap.size w1.heap.size w1 D d ts[k] a1 l1 a2 l2 a3 l3) :
    RowRelM w (set9 w1 w.heap.size (k * 9) (.int .i64 ts[k].K) (.int .i64 ts[k].N) (.string ts[k].S) (.string ts[k].Z) (.int .i64 ts[k].T.K) (.int .i64 ts[k].T.N) (.slice a1 l1 c1) (.slice a2 l2 c2) (.slice a3 l3 c3)) D d len (k+1) ts:=by
  obtain ⟨cs,hr,hc⟩:=rrm_row h hb
  have hlt:=rrm_lt h
  have hsz:=hb.size
  obtain ⟨bss,hbl,hnd,hrng,hE⟩:=h.els
  obtain ⟨bs,ho,hnd2,hrng2⟩:=hs
  obtain ⟨Y,hY⟩:∃ Y,Y=set9 w1 w.heap.size (k * 9) (.int .i64 ts[k].K) (.int .i64 ts[k].N) (.string ts[k].S) (.string ts[k].Z) (.int .i64 ts[k].T.K) (.int .i64 ts[k].T.N) (.slice a1 l1 c1) (.slice a2 l2 c2) (.slice a3 l3 c3):=⟨_,rfl⟩
  have hoth:∀ j,j≠w.heap.size→Y.heap[j]?=w1.heap[j]?:=fun j hj=>by rw [hY];exact set9_other j hj
  have hYs:Y.heap.size=w1.heap.size:=by rw [hY];exact set9_size _ _ _ _ _ _ _ _ _ _ _ _
  have h9:Nine Y w.heap.size (k * 9) ts[k].K ts[k].N ts[k].S ts[k].Z ts[k].T.K ts[k].T.N (.slice a1 l1 c1) (.slice a2 l2 c2) (.slice a3 l3 c3):=by rw [hY];exact set9_cells hr (by omega)
  have hrow:∃ cs:Array Value,Y.heap[w.heap.size]?=some (.cells cs 34 (0,0))∧cs.size=len * 9:=by
    rw [hY];obtain ⟨cs',e1,e2⟩:=set9_row (o:=k * 9) (a0:=.int .i64 ts[k].K) (a1:=.int .i64 ts[k].N) (a2:=.string ts[k].S) (a3:=.string ts[k].Z) (a4:=.int .i64 ts[k].T.K) (a5:=.int .i64 ts[k].T.N) (a6:=.slice a1 l1 c1) (a7:=.slice a2 l2 c2) (a8:=.slice a3 l3 c3) hr
    exact ⟨cs',e1,e2.trans hc⟩
  have hbel:Below w.heap.size w Y:=by rw [hY];exact set9_below (h.bel.trans (hb.mono (by omega))) (Nat.le_refl _)
  have far:∀ p,p < k * 9→Y.cell? ⟨w.heap.size,p,none⟩=wr.cell? ⟨w.heap.size,p,none⟩ :=
    fun p hp=>by rw [hY];exact (set9_far hr p (Or.inl hp)).trans (bcell hb hlt p)
  rw [← hY]
  clear hY
  refine ⟨hbel,hrow,bss ++ [bs],by simp [hbl],nodup_snoc hnd hnd2 (fun b hb'=>(hrng b hb').2) (fun b hb'=>(hrng2 b hb').1),?_,?_⟩
  · intro b hb'
    rw [hYs]
    rw [List.flatten_append,List.mem_append] at hb'
    rcases hb' with hb' | hb'
    · exact ⟨(hrng b hb').1,Nat.lt_of_lt_of_le (hrng b hb').2 hsz⟩
    · have:=hrng2 b (by simpa using hb')
      exact ⟨by omega,this.2⟩
  · intro i hi hi'
    by_cases hik:i=k
    · subst hik
      have e:(bss ++ [bs])[i]=bs:=by simp [List.getElem_append_right,hbl]
      rw [e]
      exact ⟨_,_,_,_,_,_,_,_,_,h9,ho.keep fun b hb'=>hoth b (by have:=(hrng2 b hb').1;omega)⟩
    · have hik':i < bss.length:=by simp at hi;omega
      obtain ⟨b1,m1,d1,b2,m2,d2,b3,m3,d3,g9,hh⟩:=hE i hik' hi'
      have e:(bss ++ [bs])[i]=bss[i]:=by simp [List.getElem_append_left,hik']
      rw [e]
      refine ⟨b1,m1,d1,b2,m2,d2,b3,m3,d3,g9.of_cells fun j hj=>far _ (by omega),hh.keep fun b hb'=>?_⟩
      have hb2:=hrng b (mem_part hik' hb')
      rw [hoth b (by omega)]
      exact hb.block b hb2.2
theorem rrm_done {w wr:World} {D d len:Nat} {ts:List Tm} (h:RowRelM w wr D d len len ts) (hl:len=ts.length) (hm:len≤9223372036854775807):OwMR w.heap.size wr.heap.size wr D (d+1) (some ⟨w.heap.size,0,none⟩) len ts:=by
  obtain ⟨cs,hr,hc⟩:=h.row
  obtain ⟨bss,hbl,hnd,hrng,hE⟩:=h.els
  refine ⟨w.heap.size :: bss.flatten,Or.inr ⟨w.heap.size,cs,bss,rfl,hl,hm,hr,by omega,by omega,rfl,fun i hi hi'=>hE i hi' hi⟩,?_,?_⟩
  · rw [List.nodup_cons]
    exact ⟨fun hmem=>by have:=(hrng _ hmem).1;omega,hnd⟩
  · intro b hb
    rw [List.mem_cons] at hb
    rcases hb with rfl | hb
    · exact ⟨Nat.le_refl _,rrm_lt h⟩
    · exact ⟨Nat.le_of_lt (hrng b hb).1,(hrng b hb).2⟩
end Go.Proofs.YtcepgedbmffkdaaGreat
