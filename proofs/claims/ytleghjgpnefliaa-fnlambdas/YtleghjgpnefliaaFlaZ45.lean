/-
  The functions of a term, in plain words.
-/
import Derived.Test.YtleghjgpnefliaaFlaZ44
import Derived.Test.YtleghjgpnefliaaFlaZ8
import Derived.Test.YtleghjgpnefliaaFlaZ3
import Derived.Test.YtleghjgpnefliaaFlaZ9
import Derived.Test.YtleghjgpnefliaaFlaZ21
import Derived.Test.YtleghjgpnefliaaFlaZ5
import Derived.Test.YtleghjgpnefliaaFlaOw
import Derived.Deep.RegionHeld3
namespace Go.Proofs.Ytleghjgpnefliaa
open Go.RowKit
set_option linter.unusedVariables false
set_option linter.unusedSimpArgs false
def isFn (t:Tm):Bool:=t.K == 4
def lamT (t:Tm):List Tm:=if okM t=true then (allW t).filter isFn else []
theorem lamT_len (t:Tm):(lamT t).length≤150:=by
  unfold lamT
  split
  · rename_i h
    obtain ⟨m,hm,h6⟩:=okM_some h
    have h1:=allW_len 24 t m hm
    have h2:=List.length_filter_le isFn (allW t)
    omega
  · simp
theorem Fm.deeperM {L B:Nat} {w:World} {D d d':Nat} {t:Tm} {a1 a2 a3:Option Addr} {l1 l2 l3:Nat} (hd:d≤d') (h:Fm L B w D d t a1 l1 a2 l2 a3 l3):Fm L B w D d' t a1 l1 a2 l2 a3 l3 :=
  h.wider (fun _ _ _ hr=>hr) (fun _ _ _ hr=>hr.deeper hd (Nat.le_refl _))
end Go.Proofs.Ytleghjgpnefliaa

/-
  The n-th of a row of terms, in plain words.
-/
namespace Go.Proofs.Ytleghjgpnefliaa
open Go.RowKit
set_option linter.unusedVariables false
set_option linter.unusedSimpArgs false
def zTm:Tm:=⟨0,0,⟨#[]⟩,⟨#[]⟩,⟨0,0,[]⟩,[],[]⟩
theorem zTm_fmO (L B:Nat) (w:World) (D d:Nat) (hLB:L≤B):FmO L B w D d zTm none 0 none 0 none 0 :=
  FmO.mk (M1:=L) (M2:=L) (by show (0:Nat)≤9223372036854775807;omega) (by show (0:Nat)≤9223372036854775807;omega) (OwR.nil _ _ _ _ _) (OwR.nil _ _ _ _ _) (OwMR.nil _ _ _ _ _ _) (Nat.le_refl _) (Nat.le_refl _) hLB
theorem sub_le {l:List Tm} {x:Tm} (h:x ∈ l):cntM x≤subMS l:=by
  obtain ⟨i,hi,e⟩:=List.getElem_of_mem h
  have h1:=subMS_take l i hi
  have h2:=subMS_take_le l (i+1)
  rw [← e]
  omega
theorem allW_cnt:∀ (n:Nat) (t:Tm),cntM t≤n→∀ r ∈ allW t,cntM r≤cntM t:=by
  intro n
  induction n with
  | zero =>
    intro t ht r hr
    have h1:=cntM_eq t
    have h2:=cntMS_eq t.A
    have hA:t.A=[]:=List.length_eq_zero_iff.1 (by omega)
    rw [allW_eq,hA] at hr
    simp at hr
    rw [hr];omega
  | succ n ih =>
    intro t ht r hr
    rw [allW_eq,List.mem_cons] at hr
    rcases hr with rfl | hr
    · omega
    · rw [List.mem_flatten] at hr
      obtain ⟨l,hl,hrl⟩:=hr
      rw [List.mem_map] at hl
      obtain ⟨x,hx,rfl⟩:=hl
      have h1:=cntM_eq t
      have h2:=cntMS_eq t.A
      have h3:=sub_le hx
      have h4:0 < t.A.length:=List.length_pos_of_mem hx
      have h5:=ih x (by omega) r hrl
      omega
theorem lamT_cnt {t r:Tm} (hm:r ∈ lamT t):cntM r≤cntM t:=by
  unfold lamT at hm
  split at hm
  · exact allW_cnt _ t (Nat.le_refl _) _ (List.mem_filter.1 hm).1
  · simp at hm
def nthM (A:List Tm) (n:Int):Tm × Bool:=if 0≤n then (match A[n.toNat]? with | some r=>(r,true) | none=>(zTm,false)) else (zTm,false)
theorem nthM_at {A:List Tm} {i:Nat} (h:i < A.length):nthM A (i:Int)=(A[i],true):=by
  unfold nthM
  rw [if_pos (by omega),Int.toNat_natCast,List.getElem?_eq_getElem h]
theorem nthM_no {A:List Tm} {n:Int} (h:¬ (0≤n∧n < A.length)):nthM A n=(zTm,false):=by
  unfold nthM
  by_cases h0:0≤n
  · rw [if_pos h0,List.getElem?_eq_none (by omega)]
  · rw [if_neg h0]
def latM (t:Tm) (n:Int):Tm × Bool:=nthM (lamT t) n
def TellM (w w':World) (D d:Nat) (e:Ending) (R:Tm) (b:Bool):Prop :=
  ∃ b1 m1 e1 b2 m2 e2 b3 m3 e3,e=.returned (.tuple #[.agg #[.int .i64 R.K,.int .i64 R.N,.string R.S,.string R.Z,.int .i64 R.T.K,.int .i64 R.T.N,.slice b1 m1 e1,.slice b2 m2 e2,.slice b3 m3 e3],.bool b])∧Below w.heap.size w w'∧FmO w.heap.size w'.heap.size w' D d R b1 m1 b2 m2 b3 m3
end Go.Proofs.Ytleghjgpnefliaa

/-
  The laws FnLambdas and FnNodes, in plain words.
-/
namespace Go.Proofs.Ytleghjgpnefliaa
open Go.RowKit
set_option linter.unusedVariables false
set_option linter.unusedSimpArgs false
theorem nthM_ok (A:List Tm) (n:Int):(nthM A n).2=decide (0≤n∧n < (A.length:Int)):=by
  by_cases h:0≤n∧n < (A.length:Int)
  · obtain ⟨i,rfl⟩:∃ i:Nat,n=i:=⟨n.toNat,by omega⟩
    rw [nthM_at (show i < A.length by omega)]
    simp [h]
  · rw [nthM_no (by omega)]
    simp [h]
theorem nthM_false {A:List Tm} {n:Int} (h:(nthM A n).2=false):(nthM A n).1=zTm:=by
  rw [nthM_ok,decide_eq_false_iff_not] at h
  rw [nthM_no h]
theorem nthM_mem {A:List Tm} {n:Int} (h:(nthM A n).2=true):(nthM A n).1 ∈ A:=by
  rw [nthM_ok,decide_eq_true_eq] at h
  obtain ⟨i,rfl⟩:∃ i:Nat,n=i:=⟨n.toNat,by omega⟩
  rw [nthM_at (show i < A.length by omega)]
  exact List.getElem_mem _
theorem latM_ok (t:Tm) (n:Int):(latM t n).2=decide (0≤n∧n < ((lamT t).length:Int)):=nthM_ok _ _
theorem latM_no {t:Tm} {n:Int} (h:(latM t n).2=false):(latM t n).1.K=0:=by
  have:(latM t n).1=zTm:=nthM_false h
  rw [this];rfl
theorem latM_fn {t:Tm} {n:Int} (h:(latM t n).2=true):(latM t n).1.K=4:=by
  have hm:(latM t n).1 ∈ lamT t:=nthM_mem h
  generalize (latM t n).1=x at hm ⊢
  unfold lamT at hm
  split at hm
  · have h2:=(List.mem_filter.1 hm).2
    simpa [isFn] using h2
  · simp at hm
end Go.Proofs.Ytleghjgpnefliaa

/-
  What the program's 'mapTys' comes to: a new row, each element what the function that was handed in makes of the old one; and 'copyTy'.
-/
namespace Go.Proofs.Ytleghjgpnefliaa
open Go.RowKit
set_option linter.unusedVariables false
set_option linter.unusedSimpArgs false
def MapCall0 (w:World) (L B d d':Nat) (ts R:List Tr):Prop:=∀ i (hi:i < ts.length) (hr:i < R.length) (ao1:Option Addr) (len1 cap1:Nat) (w':World),Below w.heap.size w w'→Hs L B w' d ao1 len1 ts[i].A →
    Calls Try.prog 73 #[.agg #[.int .i64 ts[i].K,.int .i64 ts[i].N,.slice ao1 len1 cap1]] w' fun e w''=>∃ ao2 len2 cap2,e=.returned (.agg #[.int .i64 R[i].K,.int .i64 R[i].N,.slice ao2 len2 cap2])∧Below w'.heap.size w' w''∧OwR w'.heap.size w''.heap.size w'' d' ao2 len2 R[i].A
set_option maxHeartbeats 800000 in
theorem mapTys0_any (L B d d':Nat) (ao:Option Addr) (len cap:Nat) (ts R:List Tr) (w:World) (hB:B≤w.heap.size) (hs:Hs L B w (d+1) ao len ts) (hl:len≤1048576) (hR:R.length=ts.length) (hcall:MapCall0 w L B d d' ts R) :
    Calls Try.prog 74 #[.slice ao len cap,.func (Fn.func 73) #[] #[]] w fun e w'=>∃ ao2 cap2,e=.returned (.slice ao2 len cap2)∧Below w.heap.size w w'∧OwR w.heap.size w'.heap.size w' (d'+1) ao2 len R:=by
  have HL:Hid (len=ts.length):=hs.1
  have HR:Hid (R.length=ts.length):=hR
  clear hR
  by_cases h0:len=0
  · have hb0:((len:Int) == 0)=true:=by simp [h0]
    have H0:Hid (len=0):=h0
    clear h0
    go_enter Try.func74,Try.ntmps74
    go_wp2_with fail
    go_ret
    have e0:=H0.out
    have eR:R=[]:=List.length_eq_zero_iff.1 (by rw [HR.out,← HL.out];exact e0)
    subst eR
    subst e0
    exact ⟨none,0,rfl,Below.refl _ _,OwR.nil _ _ _ _ _⟩
  have hb0:((len:Int) == 0)=false:=by simp [h0]
  clear h0
  obtain ⟨C,hC,hmk⟩:=make_ty len hl
  go_enter Try.func74,Try.ntmps74
  go_wp2_with fail
  clear hb0 hmk
  go_loopw [16] (fun i wr=>∃ k:Nat,k≤len∧i=.int .i64 k∧RowRel w wr d' len k R) (fun i _=>len - (intOf i).toNat)
  case atStart=>exact ⟨0,by omega,rfl,rr_start hC⟩
  case round =>
    obtain ⟨k,hk,rfl,hR⟩:=hrel
    by_cases hlt:k < len
    · have hlt':k < ts.length:=by have:=HL.out;omega
      have hltR:k < R.length:=by have:=HR.out;omega
      have hbel:=hR.bel
      have hsz:=hbel.size
      obtain ⟨b,o,rfl,_,hbB,ao1,len1,cap1,c0,c1,c2,hs1⟩:=hs.2.2 k hlt'
      have e0:=(bcell hbel (by omega) _).trans c0
      have e1:=(bcell hbel (by omega) _).trans c1
      have e2:=(bcell hbel (by omega) _).trans c2
      have hba:Below wr.heap.size wr (wr.alloc (.cells #[.int .i64 ts[k].K,.int .i64 ts[k].N,.slice ao1 len1 cap1] 26)):=(Below.refl _ _).alloc (Nat.le_refl _) _
      have hs2:=(hs1.below hbel hB).below hba (by omega)
      go_wp2_with fail
      refine (hcall k hlt' hltR ao1 len1 cap1 _ (hbel.trans (hba.mono hsz)) hs2).mono ?_
      rintro e w1 ⟨ao2,len2,cap2,rfl,hb1,hs3⟩
      have hb1':Below wr.heap.size wr w1:=hba.trans (hb1.mono (by simp))
      have hN:=rr_next (cap1:=cap2) hR hlt hltR hb1' (hs3.keep (fun _ _ _=>rfl) (by simp) (Nat.le_refl _))
      obtain ⟨cs,hrow,hcsz⟩:=rr_row hR hb1'
      have f0:=row_cell hrow (k * 3)
      have f1:=row_cell hrow (k * 3+1)
      have f2:=row_cell hrow (k * 3+2)
      rw [Array.getElem?_eq_getElem (by omega)] at f0 f1 f2
      have r0:=row_free hrow (k * 3)
      have r1:=row_free hrow (k * 3+1)
      have r2:=row_free hrow (k * 3+2)
      clear hrow hs3 hR e0 e1 e2
      go_wp2_with fail
      go_roundw
      case rel=>exact ⟨k+1,by omega,by go_num,hN⟩
      case measure=>simp [intOf];omega
    · go_wp2_with fail
      go_ret
      obtain rfl:k=len:=by omega
      exact ⟨_,_,rfl,hR.bel,rr_done hR (by rw [HR.out];exact HL.out) (by omega)⟩
def SaidCp (d:Nat):Prop:=∀ (L B:Nat) (k n:Int) (ao:Option Addr) (len cap:Nat) (ts:List Tr) (w:World),B≤w.heap.size→Hs L B w d ao len ts→cntS ts≤1048576 →
    Calls Try.prog 73 #[.agg #[.int .i64 k,.int .i64 n,.slice ao len cap]] w fun e w'=>∃ ao2 len2 cap2,e=.returned (.agg #[.int .i64 k,.int .i64 n,.slice ao2 len2 cap2])∧Below w.heap.size w w'∧OwR w.heap.size w'.heap.size w' d ao2 len2 ts
set_option maxHeartbeats 800000 in
theorem copy_of (d d1:Nat) (hd:d1=d+1) (L B:Nat) (k n:Int) (ao:Option Addr) (len cap:Nat) (ts:List Tr) (w:World) (hB:B≤w.heap.size) (hs:Hs L B w d1 ao len ts) (hcnt:cntS ts≤1048576)
    (hcall:∀ w0:World,Below w.heap.size w w0→MapCall0 w0 L B d d ts ts) :
    Calls Try.prog 73 #[.agg #[.int .i64 k,.int .i64 n,.slice ao len cap]] w fun e w'=>∃ ao2 len2 cap2,e=.returned (.agg #[.int .i64 k,.int .i64 n,.slice ao2 len2 cap2])∧Below w.heap.size w w'∧OwR w.heap.size w'.heap.size w' d1 ao2 len2 ts:=by
  subst hd
  have hl:len≤1048576:=by have:=hs.1;have:=cntS_eq ts;omega
  obtain ⟨X,hX⟩:∃ X,X=((w.alloc (.cells #[.int .i64 k,.int .i64 n,.slice ao len cap] 26)).alloc (.cells #[.int .i64 0,.int .i64 0,.slice none 0 0] 26)):=⟨_,rfl⟩
  have hXs:X.heap.size=w.heap.size+2:=by rw [hX];simp
  have hXb:Below w.heap.size w X:=by rw [hX];exact ((Below.refl _ _).alloc (Nat.le_refl _) _).alloc (by simp) _
  have hX0:X.heap[w.heap.size]?=some (.cells #[.int .i64 k,.int .i64 n,.slice ao len cap] 26 (0,0)):=by rw [hX,Below.heap_alloc _ _ _ (by simp)];exact heap_new rfl
  have hX1:X.heap[w.heap.size+1]?=some (.cells #[.int .i64 0,.int .i64 0,.slice none 0 0] 26 (0,0)):=by rw [hX];exact heap_new (by simp)
  have hs1:=(hs.below hXb hB).drew
  have HX:Hid (X=_):=hX
  have HC:Hid (MapCall0 X.drew L B d d ts ts):=hcall _ hXb.drew
  clear hX hcall
  obtain ⟨p0,p1,p2⟩:=box_cells hX0
  go_enter Try.func73,Try.ntmps73
  go_wp2_with fail
  rw [← HX.out]
  go_region_held3 (fun w'=>w'.cell? ⟨w.heap.size,0,none⟩=some (.int .i64 k)∧w'.cell? ⟨w.heap.size,1,none⟩=some (.int .i64 n)∧w'.cell? ⟨w.heap.size,2,none⟩=some (.slice ao len cap)) (first | (refine ⟨?_,?_,?_⟩;exact p0;exact p1;exact p2) | (refine ⟨?_,?_,?_⟩;exact z0;exact z1;exact z2) | (refine ⟨?_,?_,?_⟩ <;> simp [World.cell?_setCell_other,z0,z1,z2])) ((go_at_call 74;refine (mapTys0_any L B d d _ _ _ ts ts _ ?_ hs1 hl rfl HC.out).mono ?_;(show B≤X.heap.size;omega);rintro e w1 ⟨ao2,cap2,rfl,hb1,hs2⟩;have z0:=(bcell hb1 (show w.heap.size < X.heap.size by omega) 0).trans p0;have z1:=(bcell hb1 (show w.heap.size < X.heap.size by omega) 1).trans p1;have z2:=(bcell hb1 (show w.heap.size < X.heap.size by omega) 2).trans p2;obtain ⟨y0,y1,y2⟩:=box_cells ((hb1.block (w.heap.size+1) (show w.heap.size+1 < X.heap.size by omega)).trans hX1);have y3:=row_free ((hb1.block (w.heap.size+1) (show w.heap.size+1 < X.heap.size by omega)).trans hX1)))
  all_goals
    have hbw:Below w.heap.size w w1:=hXb.drew.trans (hb1.mono (show w.heap.size≤X.heap.size by omega))
    go_wp2_with fail
    refine bodyPost_ret (v:=.agg #[.int .i64 k,.int .i64 n,.slice ao2 len cap2]) (by simp [results,Try.results73,go_sem,y0,y1,y2]) rfl ⟨ao2,len,cap2,rfl,?_,?_⟩
    · exact set3_below hbw (by omega)
    · refine hs2.keep (fun j hj _=>?_) (show w.heap.size≤X.heap.size by omega) (by simp)
      have hj':X.heap.size≤j:=hj
      rw [row_other _ _ _ (by omega),row_other _ _ _ (by omega),row_other _ _ _ (by omega)]
theorem copyP_any:∀ d,SaidCp d:=by
  intro d
  induction d with
  | zero =>
    intro L B k n ao len cap ts w hB hs hcnt
    have hts:=hs.2
    subst hts
    refine (copy_of 0 1 rfl L B k n ao len cap [] w hB hs.up hcnt (fun w0 _ i hi=>by simp at hi)).mono ?_
    rintro e w' ⟨ao2,len2,cap2,he,hb,ho⟩
    have h0:=ho.len0
    subst h0
    exact ⟨ao2,0,cap2,he,hb,OwR.nil _ _ _ _ _⟩
  | succ d ih =>
    intro L B k n ao len cap ts w hB hs hcnt
    refine copy_of d (d+1) rfl L B k n ao len cap ts w hB hs hcnt (fun w0 hb0 i hi hr ao1 len1 cap1 w' hb' hs'=>?_)
    have hc:=cntS_get ts i hi
    exact ih L B _ _ _ _ _ _ _ (by have:=hb0.size;have:=hb'.size;omega) hs' (by omega)
end Go.Proofs.Ytleghjgpnefliaa
