/-
  A sorted row without two alike is not made shorter by 'Compact'. No program.
-/
import Derived.Test.YtcepgedbmffkdaaGreatFbaZ3
import Derived.Lib.SlicesCompact
import Derived.Shelf.LaysM
import Derived.Shelf.Sort.Plain
import Derived.Shelf.Slices.CompactS
import Derived.Shelf.Slices.In.SortNone
import Derived.Test.YtcepgedbmffkdaaGreatProg
import Derived.Test.YtcepgedbmffkdaaGreatFbaZ1
namespace Go.Proofs.YtcepgedbmffkdaaGreat
open Go.RowKit
set_option linter.unusedVariables false
set_option linter.unusedSimpArgs false
theorem compact_len_iff (zs:List (List UInt8)):(Lib.compact zs).length=zs.length ↔ ∀ j,j < zs.length→Lib.keeps zs.toArray j=true:=by
  constructor
  · intro h j hj
    unfold Lib.compact Lib.compactUpTo at h
    rw [List.length_map] at h
    have h2:((List.range zs.length).filter (Lib.keeps zs.toArray)).length=(List.range zs.length).length:=by rw [h,List.length_range]
    rw [List.length_filter_eq_length_iff] at h2
    exact h2 j (List.mem_range.2 hj)
  · intro h
    rw [Lib.compact_all zs h]
theorem compact_le (zs:List (List UInt8)):(Lib.compact zs).length≤zs.length:=by
  unfold Lib.compact Lib.compactUpTo
  rw [List.length_map]
  exact Nat.le_trans (List.length_filter_le _ _) (by simp)
theorem leB_trans (a b c:List UInt8) (h1:decide (a≤b)=true) (h2:decide (b≤c)=true):decide (a≤c)=true:=by
  simp only [decide_eq_true_eq] at *
  exact List.le_trans h1 h2
theorem leB_total (a b:List UInt8):(decide (a≤b) || decide (b≤a))=true:=by
  simp only [Bool.or_eq_true,decide_eq_true_eq]
  exact List.le_total a b
theorem keeps_iff (zs:List (List UInt8)) (hp:zs.Pairwise fun a b=>decide (a≤b)=true):(∀ j,j < zs.length→Lib.keeps zs.toArray j=true) ↔ zs.Nodup:=by
  constructor
  · intro h
    rw [List.nodup_iff_pairwise_ne,List.pairwise_iff_getElem]
    intro i j hi hj hij e
    have h1:=h (i+1) (by omega)
    have hp2:=List.pairwise_iff_getElem.1 hp
    have a1:zs[i]≤zs[i+1]:=of_decide_eq_true (hp2 i (i+1) hi (by omega) (by omega))
    have a2:zs[i+1]≤zs[j]:=by
      by_cases e2:i+1=j
      · subst e2;exact List.le_refl _
      · exact of_decide_eq_true (hp2 (i+1) j (by omega) hj (by omega))
    rw [← e] at a2
    have a3:=List.le_antisymm a1 a2
    unfold Lib.keeps at h1
    simp only [decide_eq_true_eq] at h1
    rcases h1 with h1 | h1
    · omega
    · apply h1
      have b1:i+1 < zs.toArray.size:=by simp;omega
      have b2:i < zs.toArray.size:=by simp;omega
      rw [Nat.add_sub_cancel,getElem!_pos zs.toArray (i+1) b1,getElem!_pos zs.toArray i b2]
      simp [a3]
  · intro h j hj
    unfold Lib.keeps
    rw [decide_eq_true_eq]
    by_cases h0:j=0
    · exact Or.inl h0
    · right
      have b1:j < zs.toArray.size:=by simp;omega
      have b2:j - 1 < zs.toArray.size:=by simp;omega
      rw [getElem!_pos zs.toArray j b1,getElem!_pos zs.toArray (j - 1) b2]
      rw [List.nodup_iff_pairwise_ne,List.pairwise_iff_getElem] at h
      intro e
      exact h (j - 1) j (by omega) hj (by omega) (by simpa using e.symm)
theorem sorted_compact (B:List (List UInt8)):((Lib.compact (B.mergeSort fun x y=>decide (x≤y))).length=B.length) ↔ B.Nodup:=by
  have h1:=List.pairwise_mergeSort (le:=fun x y:List UInt8=>decide (x≤y)) leB_trans leB_total B
  have h2:(B.mergeSort fun x y=>decide (x≤y)).length=B.length:=List.length_mergeSort B
  rw [← h2,compact_len_iff,keeps_iff _ h1]
  exact (List.mergeSort_perm B _).nodup_iff
def auM (t:Tm):Bool:=okM t && decide (bndT t).Nodup
end Go.Proofs.YtcepgedbmffkdaaGreat

/-
  What the library's functions come to at this program: the numbers that the shelf's own theorems want.
-/
namespace Go.Proofs.YtcepgedbmffkdaaGreat
open Go.Shelf Go.RowKit
set_option linter.unusedVariables false
def Tryz.lays190_ren:Go.Shelf.Ren:=⟨fun | 190=>69 | 125=>96 | 258=>95 | 128=>119 | 129=>120 | 302=>110 | 303=>111 | 304=>112 | 305=>113 | 306=>114 | 307=>115 | 308=>116 | 309=>117 | 310=>118 | 333=>129 | 329=>130 | 330=>131 | 334=>132 | 335=>133 | 336=>134 | 344=>138 | n=>n,fun | 31=>60 | 9=>9 | 3=>3 | 46=>160 | 0=>0 | 51=>187 | 53=>189 | 4=>4 | 183=>180 | 182=>179 | 131=>136 | 5=>5 | 218=>204 | 222=>63 | 228=>211 | 229=>212 | n=>n,fun | n=>n⟩
theorem Tryz.lays190:Go.Proofs.Lays.n190 Tryz.prog Tryz.lays190_ren:={
  mixed:=by kernel_rfl
  f125:=Tryz.func96.trans (congrArg some (by kernel_rfl))
  f128:=Tryz.func119.trans (congrArg some (by kernel_rfl))
  f129:=Tryz.func120.trans (congrArg some (by kernel_rfl))
  f190:=Tryz.func69.trans (congrArg some (by kernel_rfl))
  f258:=Tryz.func95.trans (congrArg some (by kernel_rfl))
  f302:=Tryz.func110.trans (congrArg some (by kernel_rfl))
  f303:=Tryz.func111.trans (congrArg some (by kernel_rfl))
  f304:=Tryz.func112.trans (congrArg some (by kernel_rfl))
  f305:=Tryz.func113.trans (congrArg some (by kernel_rfl))
  f306:=Tryz.func114.trans (congrArg some (by kernel_rfl))
  f307:=Tryz.func115.trans (congrArg some (by kernel_rfl))
  f308:=Tryz.func116.trans (congrArg some (by kernel_rfl))
  f309:=Tryz.func117.trans (congrArg some (by kernel_rfl))
  f310:=Tryz.func118.trans (congrArg some (by kernel_rfl))
  f329:=Tryz.func130.trans (congrArg some (by kernel_rfl))
  f330:=Tryz.func131.trans (congrArg some (by kernel_rfl))
  f333:=Tryz.func129.trans (congrArg some (by kernel_rfl))
  f334:=Tryz.func132.trans (congrArg some (by kernel_rfl))
  f335:=Tryz.func133.trans (congrArg some (by kernel_rfl))
  f336:=Tryz.func134.trans (congrArg some (by kernel_rfl))
  f344:=Tryz.func138.trans (congrArg some (by kernel_rfl))
  t0:=Tryz.underlying0
  a0:=Tryz.isAgg0
  z0:=Tryz.sizeOf0
  v0:=Tryz.zeroValue0
  t3:=Tryz.underlying3
  a3:=Tryz.isAgg3
  z3:=Tryz.sizeOf3
  v3:=Tryz.zeroValue3
  t4:=Tryz.underlying4
  a4:=Tryz.isAgg4
  z4:=Tryz.sizeOf4
  v4:=Tryz.zeroValue4
  t5:=Tryz.underlying5
  a5:=Tryz.isAgg5
  z5:=Tryz.sizeOf5
  v5:=Tryz.zeroValue5
  t9:=Tryz.underlying9
  a9:=Tryz.isAgg9
  z9:=Tryz.sizeOf9
  v9:=Tryz.zeroValue9
  t31:=Tryz.underlying60
  a31:=Tryz.isAgg60
  z31:=Tryz.sizeOf60
  v31:=Tryz.zeroValue60
  t46:=Tryz.underlying160
  a46:=Tryz.isAgg160
  z46:=Tryz.sizeOf160
  v46:=Tryz.zeroValue160
  t51:=Tryz.underlying187
  a51:=Tryz.isAgg187
  z51:=Tryz.sizeOf187
  v51:=Tryz.zeroValue187
  t53:=Tryz.underlying189
  a53:=Tryz.isAgg189
  z53:=Tryz.sizeOf189
  v53:=Tryz.zeroValue189
  t131:=Tryz.underlying136
  a131:=Tryz.isAgg136
  z131:=Tryz.sizeOf136
  v131:=Tryz.zeroValue136
  t182:=Tryz.underlying179
  a182:=Tryz.isAgg179
  z182:=Tryz.sizeOf179
  v182:=Tryz.zeroValue179
  t183:=Tryz.underlying180
  a183:=Tryz.isAgg180
  z183:=Tryz.sizeOf180
  v183:=Tryz.zeroValue180
  t218:=Tryz.underlying204
  a218:=Tryz.isAgg204
  z218:=Tryz.sizeOf204
  v218:=Tryz.zeroValue204
  t222:=Tryz.underlying63
  a222:=Tryz.isAgg63
  z222:=Tryz.sizeOf63
  v222:=Tryz.zeroValue63
  t228:=Tryz.underlying211
  a228:=Tryz.isAgg211
  z228:=Tryz.sizeOf211
  v228:=Tryz.zeroValue211
  t229:=Tryz.underlying212
  a229:=Tryz.isAgg212
  z229:=Tryz.sizeOf212
  v229:=Tryz.zeroValue212 }
open Go.Sort Go.RowKit in
theorem Tryz.slices_Sort_string (blk off cap:Nat) (ss:List (List UInt8)) (w:World) (hH:Holds encStr w blk off ss.toArray) (hblk:blk < w.heap.size) (hsz:ss.length < 4611686018427387904) :
    Calls Tryz.prog 69 #[.slice (some ⟨blk,off,none⟩) ss.length cap] w fun e w' =>
      e=.returned (.tuple #[])∧∃ n os,w'=grow (putRow encStr (Sort.ahead w n) blk off (ss.mergeSort fun x y=>decide (x≤y)).toArray) os:=Any.slices_Sort_string Tryz.lays190 blk off cap ss w hH hblk hsz
def Tryz.lays194_ren:Go.Shelf.Ren:=⟨fun | 194=>70 | n=>n,fun | 31=>60 | 9=>9 | 3=>3 | 4=>4 | 0=>0 | n=>n,fun | n=>n⟩
theorem Tryz.lays194:Go.Proofs.Lays.n194 Tryz.prog Tryz.lays194_ren:={
  mixed:=by kernel_rfl
  f194:=Tryz.func70.trans (congrArg some (by kernel_rfl))
  t0:=Tryz.underlying0
  a0:=Tryz.isAgg0
  z0:=Tryz.sizeOf0
  v0:=Tryz.zeroValue0
  t3:=Tryz.underlying3
  a3:=Tryz.isAgg3
  z3:=Tryz.sizeOf3
  v3:=Tryz.zeroValue3
  t4:=Tryz.underlying4
  a4:=Tryz.isAgg4
  z4:=Tryz.sizeOf4
  v4:=Tryz.zeroValue4
  t9:=Tryz.underlying9
  a9:=Tryz.isAgg9
  z9:=Tryz.sizeOf9
  v9:=Tryz.zeroValue9
  t31:=Tryz.underlying60
  a31:=Tryz.isAgg60
  z31:=Tryz.sizeOf60
  v31:=Tryz.zeroValue60 }
open Go.RowKit Go.Lib Go.Sort in
theorem Tryz.slices_Compact_string (blk off cap:Nat) (zs:List (List UInt8)) (w:World) (hH:Holds encStr w blk off zs.toArray) (hsz:zs.length≤9223372036854775807) (hcap:zs.length≤cap) :
    Calls Tryz.prog 70 #[.slice (some ⟨blk,off,none⟩) zs.length cap] w fun e w'=>e=.returned (.slice (some ⟨blk,off,none⟩) (Lib.compact zs).length cap)∧∃ q,w'=putRow encStr (Sort.ahead w q) blk off (Lib.compact zs ++ List.replicate (zs.length - (Lib.compact zs).length) []).toArray:=Any.slices_Compact_string Tryz.lays194 blk off cap zs w hH hsz hcap
open Go.RowKit Go.Lib Go.Sort in
theorem Tryz.slices_Compact_string_empty (a:Option Addr) (cap:Nat) (w:World) :
    Calls Tryz.prog 70 #[.slice a 0 cap] w fun e w'=>e=.returned (.slice a 0 cap)∧w'=w:=Any.slices_Compact_string_empty Tryz.lays194 a cap w
open Go.RowKit Go.Sort in
theorem Tryz.slices_Sort_string_none (p:Option Addr) (cap:Nat) (w:World) :
    Calls Tryz.prog 69 #[.slice p 0 cap] w fun e w'=>e=.returned (.tuple #[])∧w'=w:=Any.slices_Sort_string_none Tryz.lays190 p cap w
end Go.Proofs.YtcepgedbmffkdaaGreat

/-
  What 'szTy', 'szTyS' (the count of parts against a bound) come to.
-/
namespace Go.Proofs.YtcepgedbmffkdaaGreat
open Go.RowKit
set_option linter.unusedVariables false
set_option linter.unusedSimpArgs false
def SaidSz (d:Nat):Prop:=∀ (L B:Nat) (k n:Int) (ao:Option Addr) (len cap:Nat) (ts:List Tr) (left:Int) (w:World),B≤w.heap.size→Hs L B w d ao len ts→0≤left→left≤1048576 →
    Calls Tryz.prog 14 #[.agg #[.int .i64 k,.int .i64 n,.slice ao len cap],.int .i64 left] w fun e w'=>e=.returned (.int .i64 (szL ts left))∧Below w.heap.size w w'
def SaidSzS (d:Nat):Prop:=∀ (L B:Nat) (ao:Option Addr) (len cap:Nat) (ts:List Tr) (left:Int) (w:World),B≤w.heap.size→Hs L B w d ao len ts→0≤left→left≤1048576 →
    Calls Tryz.prog 15 #[.slice ao len cap,.int .i64 left] w fun e w'=>e=.returned (.int .i64 (szL ts left))∧Below w.heap.size w w'
set_option maxHeartbeats 400000 in
theorem szTyS_succ (d:Nat) (IH:SaidSz d):SaidSzS (d+1):=by
  intro L B ao len cap ts left w hB hs h1 h2
  have hl:=hs.2.1
  have HL:Hid (len=ts.length):=hs.1
  have HC:Hid (cntS ts=ts.length+subS ts):=cntS_eq ts
  by_cases hneg:left - len < 0
  · go_enter Tryz.func15,Tryz.ntmps15
    go_wp2_with fail
    go_ret
    exact ⟨ret_int (by rw [szL_neg (by rw [HC.out];have:=HL.out;omega)]),Below.refl _ _⟩
  · go_enter Tryz.func15,Tryz.ntmps15
    go_wp2_with fail
    go_loopw [1,5] (fun l i wr=>∃ k:Nat,k≤len∧i=.int .i64 k∧((len:Int)+subS (ts.take k))≤left∧l=.int .i64 (left - len - subS (ts.take k))∧Below w.heap.size w wr) (fun _ i _=>len - (intOf i).toNat)
    case atStart=>exact ⟨0,by omega,rfl,by simp [subS];omega,by simp [subS],Below.refl _ _⟩
    case round =>
      obtain ⟨k,hk,rfl,hle,rfl,hbel⟩:=hrel
      have hsz:=hbel.size
      by_cases hlt:k < len
      · have hlt':k < ts.length:=by have:=HL.out;omega
        obtain ⟨b,o,rfl,_,hbB,ao',len',cap',c0,c1,c2,hs'⟩:=hs.2.2 k hlt'
        have e0:=(bcell hbel (by omega) _).trans c0
        have e1:=(bcell hbel (by omega) _).trans c1
        have e2:=(bcell hbel (by omega) _).trans c2
        have hs2:=hs'.below hbel hB
        have HT:Hid (subS (ts.take (k+1))=subS (ts.take k)+cntS ts[k].A):=subS_take ts k hlt'
        have HTL:Hid (subS (ts.take (k+1))≤subS ts):=subS_take_le ts _
        go_wp2_with fail
        refine (IH _ _ _ _ _ _ _ _ _ _ (by omega) hs2 (by omega) (by omega)).mono ?_
        rintro e w1 ⟨rfl,hb1⟩
        have hbel1:Below w.heap.size w w1:=hbel.trans (hb1.mono hsz)
        by_cases hc:(cntS ts[k].A:Int)≤left - len - subS (ts.take k)
        · rw [szL_pos hc]
          go_wp2_with fail
          go_roundw
          case rel=>exact ⟨k+1,by omega,by go_num,by rw [HT.out];omega,by rw [HT.out];go_num,hbel1⟩
          case measure=>simp [intOf];omega
        · rw [szL_neg hc]
          go_wp2_with fail
          go_ret
          exact ⟨ret_int (by rw [szL_neg (by have:=HT.out;have:=HTL.out;have:=HC.out;have:=HL.out;omega)]),hbel1⟩
      · have hke:k=len:=by omega
        have HK:Hid (subS (ts.take k)=subS ts):=by have:=HL.out;show subS _=_;rw [List.take_of_length_le (by omega)]
        clear hke
        go_wp2_with fail
        go_ret
        exact ⟨ret_int (by have:=HK.out;have:=HC.out;have:=HL.out;rw [szL_pos (by omega)];omega),hbel⟩
set_option maxHeartbeats 400000 in
theorem szTyS_zero:SaidSzS 0:=by
  intro L B ao len cap ts left w _ hs h1 h2
  obtain ⟨rfl,rfl⟩:=hs
  go_enter Tryz.func15,Tryz.ntmps15
  go_wp2_with fail
  refine wp_loop_rounds 1 ?_;rw [rounds_succ]
  go_wp2_with fail
  go_ret
  exact ⟨ret_int (by rw [szL_pos (by simp [cntS];omega)];simp [cntS]),Below.refl _ _⟩
set_option maxHeartbeats 400000 in
theorem szTy_of (d:Nat) (h:SaidSzS d):SaidSz d:=by
  intro L B k n ao len cap ts left w hB hs h1 h2
  have hs1:Hs L B (w.alloc (.cells #[.int .i64 k,.int .i64 n,.slice ao len cap] 24)) d ao len ts:=hs.below ((Below.refl _ _).alloc (Nat.le_refl _) _) hB
  by_cases hc:(cntS ts:Int)≤left
  · go_enter Tryz.func14,Tryz.ntmps14
    go_wp2_with fail
    refine (h _ _ _ _ _ _ _ _ (by simp;omega) hs1 h1 h2).mono ?_
    rintro e w1 ⟨rfl,hb1⟩
    rw [szL_pos hc]
    go_wp2_with fail
    go_ret
    exact ⟨ret_int (by rw [szL_pos hc]),((Below.refl _ _).alloc (Nat.le_refl _) _).trans (hb1.mono (by simp))⟩
  · go_enter Tryz.func14,Tryz.ntmps14
    go_wp2_with fail
    refine (h _ _ _ _ _ _ _ _ (by simp;omega) hs1 h1 h2).mono ?_
    rintro e w1 ⟨rfl,hb1⟩
    rw [szL_neg (by omega)]
    go_wp2_with fail
    go_ret
    exact ⟨ret_int (by rw [szL_neg (by omega)]),((Below.refl _ _).alloc (Nat.le_refl _) _).trans (hb1.mono (by simp))⟩
theorem szTyS_any:∀ d,SaidSzS d:=by
  intro d
  induction d with
  | zero=>exact szTyS_zero
  | succ d ih=>exact szTyS_succ d (szTy_of d ih)
theorem szTy_any (d:Nat):SaidSz d:=szTy_of d (szTyS_any d)
end Go.Proofs.YtcepgedbmffkdaaGreat

/-
  What 'szTerm', 'szTermS' (the count of parts against a bound) come to.
-/
namespace Go.Proofs.YtcepgedbmffkdaaGreat
open Go.RowKit
set_option linter.unusedVariables false
set_option linter.unusedSimpArgs false
def SaidSzM (D d:Nat):Prop:=∀ (L B:Nat) (t:Tm) (a1:Option Addr) (l1 c1:Nat) (a2:Option Addr) (l2 c2:Nat) (a3:Option Addr) (l3 c3:Nat) (left:Int) (w:World),B≤w.heap.size→Fm L B w D d t a1 l1 a2 l2 a3 l3→0≤left→left≤1048576 →
    Calls Tryz.prog 5 #[.agg #[.int .i64 t.K,.int .i64 t.N,.string t.S,.string t.Z,.int .i64 t.T.K,.int .i64 t.T.N,.slice a1 l1 c1,.slice a2 l2 c2,.slice a3 l3 c3],.int .i64 left] w fun e w'=>e=.returned (.int .i64 (szN (cntM t) left))∧Below w.heap.size w w'
def SaidSzMS (D d:Nat):Prop:=∀ (L B:Nat) (ao:Option Addr) (len cap:Nat) (ts:List Tm) (left:Int) (w:World),B≤w.heap.size→Hm L B w D d ao len ts→0≤left→left≤1048576 →
    Calls Tryz.prog 16 #[.slice ao len cap,.int .i64 left] w fun e w'=>e=.returned (.int .i64 (szN (cntMS ts) left))∧Below w.heap.size w w'
set_option maxHeartbeats 400000 in
theorem szTermS_succ (D d:Nat) (IH:SaidSzM D d):SaidSzMS D (d+1):=by
  intro L B ao len cap ts left w hB hs h1 h2
  have hl:=hs.2.1
  have HL:Hid (len=ts.length):=hs.1
  have HC:Hid (cntMS ts=ts.length+subMS ts):=cntMS_eq ts
  by_cases hneg:left - len < 0
  · go_enter Tryz.func16,Tryz.ntmps16
    go_wp2_with fail
    go_ret
    exact ⟨ret_int (by rw [szN_neg (by rw [HC.out];have:=HL.out;omega)]),Below.refl _ _⟩
  · go_enter Tryz.func16,Tryz.ntmps16
    go_wp2_with fail
    go_loopw [1,5] (fun l i wr=>∃ k:Nat,k≤len∧i=.int .i64 k∧((len:Int)+subMS (ts.take k))≤left∧l=.int .i64 (left - len - subMS (ts.take k))∧Below w.heap.size w wr) (fun _ i _=>len - (intOf i).toNat)
    case atStart=>exact ⟨0,by omega,rfl,by simp [subMS];omega,by simp [subMS],Below.refl _ _⟩
    case round =>
      obtain ⟨k,hk,rfl,hle,rfl,hbel⟩:=hrel
      have hsz:=hbel.size
      by_cases hlt:k < len
      · have hlt':k < ts.length:=by have:=HL.out;omega
        obtain ⟨b,o,rfl,_,hbB,a1,l1,c1,a2,l2,c2,a3,l3,c3,h9,hf⟩:=hs.2.2 k hlt'
        obtain ⟨e0,e1,e2,e3,e4,e5,e6,e7,e8⟩:=h9.below hbel (by omega)
        have hf2:=Fm.below hbel hB hf
        have HT:Hid (subMS (ts.take (k+1))=subMS (ts.take k)+cntM ts[k]):=subMS_take ts k hlt'
        have HTL:Hid (subMS (ts.take (k+1))≤subMS ts):=subMS_take_le ts _
        go_wp2_with fail
        refine (IH L B ts[k] _ _ _ _ _ _ _ _ _ _ _ (by omega) hf2 (by omega) (by omega)).mono ?_
        rintro e w1 ⟨rfl,hb1⟩
        have hbel1:Below w.heap.size w w1:=hbel.trans (hb1.mono hsz)
        by_cases hc:(cntM ts[k]:Int)≤left - len - subMS (ts.take k)
        · rw [szN_pos hc]
          go_wp2_with fail
          go_roundw
          case rel=>exact ⟨k+1,by omega,by go_num,by rw [HT.out];omega,by rw [HT.out];go_num,hbel1⟩
          case measure=>simp [intOf];omega
        · rw [szN_neg hc]
          go_wp2_with fail
          go_ret
          exact ⟨ret_int (by rw [szN_neg (by have:=HT.out;have:=HTL.out;have:=HC.out;have:=HL.out;omega)]),hbel1⟩
      · have hke:k=len:=by omega
        have HK:Hid (subMS (ts.take k)=subMS ts):=by have:=HL.out;show subMS _=_;rw [List.take_of_length_le (by omega)]
        clear hke
        go_wp2_with fail
        go_ret
        exact ⟨ret_int (by have:=HK.out;have:=HC.out;have:=HL.out;rw [szN_pos (by omega)];omega),hbel⟩
set_option maxHeartbeats 400000 in
theorem szTermS_zero (D:Nat):SaidSzMS D 0:=by
  intro L B ao len cap ts left w _ hs h1 h2
  obtain ⟨rfl,rfl⟩:=hs
  go_enter Tryz.func16,Tryz.ntmps16
  go_wp2_with fail
  refine wp_loop_rounds 1 ?_;rw [rounds_succ]
  go_wp2_with fail
  go_ret
  exact ⟨ret_int (by rw [szN_pos (by simp [cntMS];omega)];simp [cntMS]),Below.refl _ _⟩
set_option maxHeartbeats 800000 in
theorem szTerm_of (D d:Nat) (h:SaidSzMS D d):SaidSzM D d:=by
  intro L B t a1 l1 c1 a2 l2 c2 a3 l3 c3 left w hB hf h1 h2
  have hb0:Below w.heap.size w (w.alloc (.cells #[.int .i64 t.K,.int .i64 t.N,.string t.S,.string t.Z,.int .i64 t.T.K,.int .i64 t.T.N,.slice a1 l1 c1,.slice a2 l2 c2,.slice a3 l3 c3] 27)):=(Below.refl _ _).alloc (Nat.le_refl _) _
  have hs:=hf.s
  have hz:=hf.z
  have HC:Hid (cntM t=t.S.size+t.Z.size+cntS t.T.A+cntS t.Ts+cntMS t.A):=cntM_eq t
  by_cases e1:left - t.S.size < 0
  · go_enter Tryz.func5,Tryz.ntmps5
    go_wp2_with fail
    go_ret
    exact ⟨ret_int (by rw [szN_neg (by rw [HC.out];omega)]),hb0⟩
  by_cases e2:left - t.S.size - t.Z.size < 0
  · go_enter Tryz.func5,Tryz.ntmps5
    go_wp2_with fail
    go_ret
    exact ⟨ret_int (by rw [szN_neg (by rw [HC.out];omega)]),hb0⟩
  go_enter Tryz.func5,Tryz.ntmps5
  go_wp2_with fail
  have hf1:=Fm.below hb0 hB hf
  refine (szTy_any D L B _ _ _ _ _ t.T.A _ _ (by simp;omega) hf1.t1 (by omega) (by omega)).mono ?_
  rintro e w1 ⟨rfl,hb1⟩
  have hX1:=(hb1.block w.heap.size (by simp)).trans (heap_new rfl)
  have hbw1:Below w.heap.size w w1:=hb0.trans (hb1.mono (by simp))
  have hsz1:w.heap.size < w1.heap.size:=by have:=hb1.size;simp at this;omega
  by_cases e3:(cntS t.T.A:Int)≤left - t.S.size - t.Z.size
  · rw [szL_pos e3]
    obtain ⟨f0,f1,f2,f3,f4,f5,f6,f7,f8⟩:=Nine.box hX1
    go_wp2_with fail
    have hf2:=Fm.below hbw1 hB hf
    refine (szTyS_any D L B _ _ _ t.Ts _ _ (by omega) hf2.t2 (by omega) (by omega)).mono ?_
    rintro e w2 ⟨rfl,hb2⟩
    have hX2:=(hb2.block w.heap.size hsz1).trans hX1
    have hbw2:Below w.heap.size w w2:=hbw1.trans (hb2.mono (by omega))
    have hsz2:w.heap.size < w2.heap.size:=by have:=hb2.size;omega
    by_cases e4:(cntS t.Ts:Int)≤left - t.S.size - t.Z.size - cntS t.T.A
    · rw [szL_pos e4]
      clear f0 f1 f2 f3 f4 f5 f6 f7 f8
      obtain ⟨f0,f1,f2,f3,f4,f5,f6,f7,f8⟩:=Nine.box hX2
      go_wp2_with fail
      have hf3:=Fm.below hbw2 hB hf
      refine (h L B _ _ _ t.A _ _ (by omega) hf3.m (by omega) (by omega)).mono ?_
      rintro e w3 ⟨rfl,hb3⟩
      by_cases e5:(cntMS t.A:Int)≤left - t.S.size - t.Z.size - cntS t.T.A - cntS t.Ts
      · rw [szN_pos e5]
        go_wp2_with fail
        go_ret
        exact ⟨ret_int (by have:=HC.out;rw [szN_pos (by omega)];omega),hbw2.trans (hb3.mono (by omega))⟩
      · rw [szN_neg e5]
        go_wp2_with fail
        go_ret
        exact ⟨ret_int (by have:=HC.out;rw [szN_neg (by omega)]),hbw2.trans (hb3.mono (by omega))⟩
    · rw [szL_neg e4]
      go_wp2_with fail
      go_ret
      exact ⟨ret_int (by have:=HC.out;rw [szN_neg (by omega)]),hbw2⟩
  · rw [szL_neg e3]
    go_wp2_with fail
    go_ret
    exact ⟨ret_int (by have:=HC.out;rw [szN_neg (by omega)]),hbw1⟩
theorem szTermS_any (D:Nat):∀ d,SaidSzMS D d:=by
  intro d
  induction d with
  | zero=>exact szTermS_zero D
  | succ d ih=>exact szTermS_succ D d (szTerm_of D d ih)
theorem szTerm_any (D d:Nat):SaidSzM D d:=szTerm_of D d (szTermS_any D d)
end Go.Proofs.YtcepgedbmffkdaaGreat
