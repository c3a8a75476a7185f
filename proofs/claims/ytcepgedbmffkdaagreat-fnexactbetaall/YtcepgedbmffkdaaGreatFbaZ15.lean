/-
  What the program's 'FreeOf' comes to: the free names of a term that is right, in a row of their own.
-/
import Derived.Test.YtcepgedbmffkdaaGreatFbaGa4
import Derived.Test.YtcepgedbmffkdaaGreatFbaZ13
import Derived.Test.YtcepgedbmffkdaaGreatFbaZ14
import Derived.Test.YtcepgedbmffkdaaGreatFbaZ5
import Derived.Test.YtcepgedbmffkdaaGreatFbaZ1
import Derived.Deep.RegionHeld3
import Derived.Test.YtcepgedbmffkdaaGreatFbaZ3
import Derived.Test.YtcepgedbmffkdaaGreatFbaZ4
import Derived.Deep.RegionLaw
import Derived.Sort.AtCall
import Derived.LoopN
namespace Go.Proofs.YtcepgedbmffkdaaGreat
open Go.RowKit
set_option linter.unusedVariables false
set_option linter.unusedSimpArgs false
def freeT (t:Tm):List (List UInt8):=if okM t=true then freeW 24 t [] [] else []
set_option maxRecDepth 100000 in
set_option maxHeartbeats 1000000 in
theorem freeOf_any (D d L B:Nat) (t:Tm) (a1:Option Addr) (l1 c1:Nat) (a2:Option Addr) (l2 c2:Nat) (a3:Option Addr) (l3 c3:Nat) (w:World) (hB:B≤w.heap.size) (hf:Fm L B w D d t a1 l1 a2 l2 a3 l3) :
    Calls Tryz.prog 48 #[.agg #[.int .i64 t.K,.int .i64 t.N,.string t.S,.string t.Z,.int .i64 t.T.K,.int .i64 t.T.N,.slice a1 l1 c1,.slice a2 l2 c2,.slice a3 l3 c3]] w fun e w'=>∃ v,e=.returned v∧Below w.heap.size w w'∧Toks w.heap.size w' v (freeT t):=by
  obtain ⟨X,hX⟩:∃ X,X=w.alloc (.cells #[.int .i64 t.K,.int .i64 t.N,.string t.S,.string t.Z,.int .i64 t.T.K,.int .i64 t.T.N,.slice a1 l1 c1,.slice a2 l2 c2,.slice a3 l3 c3] 34):=⟨_,rfl⟩
  have hXs:X.heap.size=w.heap.size+1:=by rw [hX];simp
  have hXb:Below w.heap.size w X:=by rw [hX];exact (Below.refl _ _).alloc (Nat.le_refl _) _
  have hX1:X.heap[w.heap.size]?=some (.cells #[.int .i64 t.K,.int .i64 t.N,.string t.S,.string t.Z,.int .i64 t.T.K,.int .i64 t.T.N,.slice a1 l1 c1,.slice a2 l2 c2,.slice a3 l3 c3] 34 (0,0)):=by rw [hX];exact heap_new rfl
  have hf1:=Fm.below hXb hB hf
  have HX:Hid (X=_):=hX
  clear hX
  cases hok:okM t with
  | false =>
    have HE:Hid (freeT t=[]):=by show _=_;simp [freeT,hok]
    have HF:Hid (okM t=false):=hok
    clear hok
    go_enter Tryz.func48,Tryz.ntmps48
    go_wp2_with fail
    rw [← HX.out]
    refine (termOk_any D d L B t _ _ _ _ _ _ _ _ _ _ (by omega) hf1).mono ?_
    rintro e w1 ⟨rfl,hb1⟩
    rw [HF.out]
    go_wp2_with fail
    go_ret
    exact ⟨_,rfl,hXb.trans (hb1.mono (by omega)),by rw [HE.out];exact ⟨rfl,Or.inl ⟨rfl,rfl⟩⟩⟩
  | true =>
    obtain ⟨m,hm,hm6⟩:=okM_some hok
    have HE:Hid (freeT t=freeW 24 t [] []):=by show _=_;simp [freeT,hok]
    have HF:Hid (okM t=true):=hok
    obtain ⟨v,hv,hcall⟩:=fo_any 24 D d L B t a1 l1 c1 a2 l2 c2 a3 l3 c3 m w hB hf hm (by omega)
    have HC:Hid (∀ w':World,_):=hcall
    have HV:Hid (Fv L B w D 24 t v):=hv
    have HM:Hid (nodesM 24 t=some m):=hm
    obtain ⟨τ,u,rfl⟩:=hv.iface
    clear hok hcall hv hm
    go_enter Tryz.func48,Tryz.ntmps48
    go_wp2_with fail
    rw [← HX.out]
    refine (termOk_any D d L B t _ _ _ _ _ _ _ _ _ _ (by omega) hf1).mono ?_
    rintro e w1 ⟨rfl,hb1⟩
    rw [HF.out]
    have hz1:=hb1.size
    have hbw1:Below w.heap.size w w1:=hXb.trans (hb1.mono (by omega))
    have y1:=(hb1.block _ (by omega)).trans hX1
    obtain ⟨f0,f1,f2,f3,f4,f5,f6,f7,f8⟩:=Nine.box y1
    have hlt1:w.heap.size < w1.heap.size:=by omega
    have hA:Below w1.heap.size w1 (w1.alloc (.cells #[.slice none 0 0,.slice none 0 0] 93)):=(Below.refl _ _).alloc (Nat.le_refl _) _
    have hbA:Below w.heap.size w (w1.alloc (.cells #[.slice none 0 0,.slice none 0 0] 93)):=hbw1.trans (hA.mono (by omega))
    go_wp2_with fail
    refine (HC.out _ hbA).mono ?_
    rintro e w2 ⟨rfl,hb2⟩
    have hz2:=hb2.size
    simp only [World.size_alloc] at hz2
    have hbx:w2.heap[w1.heap.size]?=some (.cells #[.slice none 0 0,.slice none 0 0] 93 (0,0)):=(hb2.block _ (by simp)).trans (heap_new rfl)
    have hS:FnSt w1.heap.size w2 (.slice none 0 0) (.slice none 0 0) [] []:=⟨hbx,⟨rfl,Or.inl ⟨rfl,rfl⟩⟩,⟨rfl,Or.inl ⟨rfl,rfl⟩⟩,fun g hg=>by cases hg⟩
    have hbw2:Below w.heap.size w w2:=hbA.trans (hb2.mono (by simp;omega))
    go_wp2_with fail
    refine (ga_any 24 L B D w t _ w1.heap.size _ _ [] [] m w2 HV.out HM.out hS (by simp) (by simp;omega)).mono ?_
    rintro e w3 ⟨vb3,vf3,rfl,hk3,hS3⟩
    have hb3:=hk3.below hS
    obtain ⟨g0,g1⟩:=two_cells hS3.box
    go_wp2_with fail
    go_ret
    exact ⟨_,rfl,hbw2.trans (hb3.mono (by omega)),by rw [HE.out];exact toks_le hS3.free (by omega)⟩
end Go.Proofs.YtcepgedbmffkdaaGreat

/-
  'copyTerm' of the program: the same term in memory of its own.
-/
namespace Go.Proofs.YtcepgedbmffkdaaGreat
open Go.RowKit
set_option linter.unusedVariables false
set_option linter.unusedSimpArgs false
theorem OwR.one {L B L' B':Nat} {w w':World} {d d':Nat} {ao:Option Addr} {len:Nat} {ts:List Tr} (h:OwR L B w d ao len ts) (hd:d≤d') (hb:∀ k,L≤k→k < B→w'.heap[k]?=w.heap[k]?) (hL:L'≤L) (hB:B≤B'):OwR L' B' w' d' ao len ts:=(h.deeper hd).keep hb hL hB
theorem pos_d {L B:Nat} {w:World} {D d:Nat} {ao:Option Addr} {len:Nat} {ts:List Tm} (h:Hm L B w D d ao len ts) {j:Nat} (hj:j < ts.length):d - 1 < d:=by
  cases d with
  | zero=>obtain ⟨_,rfl⟩:=h;simp at hj
  | succ d=>omega
theorem apm_whole {L B base:Nat} {w wr:World} {D D' d:Nat} {ao:Option Addr} {len:Nat} {v:Value} {ts:List Tm} (h:ApRelM base wr D' (d - 1) v len ts) (hm:Hm L B w D d ao len ts):∃ a c,v=.slice a len c∧OwMR base wr.heap.size wr D' d a len ts:=by
  obtain ⟨h1,h2⟩:=hm.len
  obtain ⟨a,c,e,ho⟩:=apm_done h h1 h2
  refine ⟨a,c,e,?_⟩
  cases d with
  | zero =>
    obtain ⟨h3,h4⟩:=hm
    subst h3
    subst h4
    exact OwMR.nil _ _ _ _ _ _
  | succ d=>exact ho
end Go.Proofs.YtcepgedbmffkdaaGreat

/-
  What the program's 'mapTys' comes to: a new row, each element what the function that was handed in makes of the old one; and 'copyTy'.
-/
namespace Go.Proofs.YtcepgedbmffkdaaGreat
open Go.RowKit
set_option linter.unusedVariables false
set_option linter.unusedSimpArgs false
def MapCall0 (w:World) (L B d d':Nat) (ts R:List Tr):Prop:=∀ i (hi:i < ts.length) (hr:i < R.length) (ao1:Option Addr) (len1 cap1:Nat) (w':World),Below w.heap.size w w'→Hs L B w' d ao1 len1 ts[i].A →
    Calls Tryz.prog 72 #[.agg #[.int .i64 ts[i].K,.int .i64 ts[i].N,.slice ao1 len1 cap1]] w' fun e w''=>∃ ao2 len2 cap2,e=.returned (.agg #[.int .i64 R[i].K,.int .i64 R[i].N,.slice ao2 len2 cap2])∧Below w'.heap.size w' w''∧OwR w'.heap.size w''.heap.size w'' d' ao2 len2 R[i].A
set_option maxHeartbeats 800000 in
theorem mapTys0_any (L B d d':Nat) (ao:Option Addr) (len cap:Nat) (ts R:List Tr) (w:World) (hB:B≤w.heap.size) (hs:Hs L B w (d+1) ao len ts) (hl:len≤1048576) (hR:R.length=ts.length) (hcall:MapCall0 w L B d d' ts R) :
    Calls Tryz.prog 73 #[.slice ao len cap,.func (Fn.func 72) #[] #[]] w fun e w'=>∃ ao2 cap2,e=.returned (.slice ao2 len cap2)∧Below w.heap.size w w'∧OwR w.heap.size w'.heap.size w' (d'+1) ao2 len R:=by
  have HL:Hid (len=ts.length):=hs.1
  have HR:Hid (R.length=ts.length):=hR
  clear hR
  by_cases h0:len=0
  · have hb0:((len:Int) == 0)=true:=by simp [h0]
    have H0:Hid (len=0):=h0
    clear h0
    go_enter Tryz.func73,Tryz.ntmps73
    go_wp2_with fail
    go_ret
    have e0:=H0.out
    have eR:R=[]:=List.length_eq_zero_iff.1 (by rw [HR.out,← HL.out];exact e0)
    subst eR
    subst e0
    exact ⟨none,0,rfl,Below.refl _ _,OwR.nil _ _ _ _ _⟩
  have hb0:((len:Int) == 0)=false:=by simp [h0]
  clear h0
  obtain ⟨C,hC,hmk⟩:=make_ty len hl
  go_enter Tryz.func73,Tryz.ntmps73
  go_wp2_with fail
  clear hb0 hmk
  go_loopw [16] (fun i wr=>∃ k:Nat,k≤len∧i=.int .i64 k∧RowRel w wr d' len k R) (fun i _=>len - (intOf i).toNat)
  case atStart=>exact ⟨0,by omega,rfl,rr_start hC⟩
  case round =>
    obtain ⟨k,hk,rfl,hR⟩:=hrel
    by_cases hlt:k < len
    · have hlt':k < ts.length:=by have:=HL.out;omega
      have hltR:k < R.length:=by have:=HR.out;omega
      have hbel:=hR.bel
      have hsz:=hbel.size
      obtain ⟨b,o,rfl,_,hbB,ao1,len1,cap1,c0,c1,c2,hs1⟩:=hs.2.2 k hlt'
      have e0:=(bcell hbel (by omega) _).trans c0
      have e1:=(bcell hbel (by omega) _).trans c1
      have e2:=(bcell hbel (by omega) _).trans c2
      have hba:Below wr.heap.size wr (wr.alloc (.cells #[.int .i64 ts[k].K,.int .i64 ts[k].N,.slice ao1 len1 cap1] 31)):=(Below.refl _ _).alloc (Nat.le_refl _) _
      have hs2:=(hs1.below hbel hB).below hba (by omega)
      go_wp2_with fail
      refine (hcall k hlt' hltR ao1 len1 cap1 _ (hbel.trans (hba.mono hsz)) hs2).mono ?_
      rintro e w1 ⟨ao2,len2,cap2,rfl,hb1,hs3⟩
      have hb1':Below wr.heap.size wr w1:=hba.trans (hb1.mono (by simp))
      have hN:=rr_next (cap1:=cap2) hR hlt hltR hb1' (hs3.keep (fun _ _ _=>rfl) (by simp) (Nat.le_refl _))
      obtain ⟨cs,hrow,hcsz⟩:=rr_row hR hb1'
      have f0:=row_cell hrow (k * 3)
      have f1:=row_cell hrow (k * 3+1)
      have f2:=row_cell hrow (k * 3+2)
      rw [Array.getElem?_eq_getElem (by omega)] at f0 f1 f2
      have r0:=row_free hrow (k * 3)
      have r1:=row_free hrow (k * 3+1)
      have r2:=row_free hrow (k * 3+2)
      clear hrow hs3 hR e0 e1 e2
      go_wp2_with fail
      go_roundw
      case rel=>exact ⟨k+1,by omega,by go_num,hN⟩
      case measure=>simp [intOf];omega
    · go_wp2_with fail
      go_ret
      obtain rfl:k=len:=by omega
      exact ⟨_,_,rfl,hR.bel,rr_done hR (by rw [HR.out];exact HL.out) (by omega)⟩
def SaidCp (d:Nat):Prop:=∀ (L B:Nat) (k n:Int) (ao:Option Addr) (len cap:Nat) (ts:List Tr) (w:World),B≤w.heap.size→Hs L B w d ao len ts→cntS ts≤1048576 →
    Calls Tryz.prog 72 #[.agg #[.int .i64 k,.int .i64 n,.slice ao len cap]] w fun e w'=>∃ ao2 len2 cap2,e=.returned (.agg #[.int .i64 k,.int .i64 n,.slice ao2 len2 cap2])∧Below w.heap.size w w'∧OwR w.heap.size w'.heap.size w' d ao2 len2 ts
set_option maxHeartbeats 800000 in
theorem copy_of (d d1:Nat) (hd:d1=d+1) (L B:Nat) (k n:Int) (ao:Option Addr) (len cap:Nat) (ts:List Tr) (w:World) (hB:B≤w.heap.size) (hs:Hs L B w d1 ao len ts) (hcnt:cntS ts≤1048576)
    (hcall:∀ w0:World,Below w.heap.size w w0→MapCall0 w0 L B d d ts ts) :
    Calls Tryz.prog 72 #[.agg #[.int .i64 k,.int .i64 n,.slice ao len cap]] w fun e w'=>∃ ao2 len2 cap2,e=.returned (.agg #[.int .i64 k,.int .i64 n,.slice ao2 len2 cap2])∧Below w.heap.size w w'∧OwR w.heap.size w'.heap.size w' d1 ao2 len2 ts:=by
  subst hd
  have hl:len≤1048576:=by have:=hs.1;have:=cntS_eq ts;omega
  obtain ⟨X,hX⟩:∃ X,X=((w.alloc (.cells #[.int .i64 k,.int .i64 n,.slice ao len cap] 31)).alloc (.cells #[.int .i64 0,.int .i64 0,.slice none 0 0] 31)):=⟨_,rfl⟩
  have hXs:X.heap.size=w.heap.size+2:=by rw [hX];simp
  have hXb:Below w.heap.size w X:=by rw [hX];exact ((Below.refl _ _).alloc (Nat.le_refl _) _).alloc (by simp) _
  have hX0:X.heap[w.heap.size]?=some (.cells #[.int .i64 k,.int .i64 n,.slice ao len cap] 31 (0,0)):=by rw [hX,Below.heap_alloc _ _ _ (by simp)];exact heap_new rfl
  have hX1:X.heap[w.heap.size+1]?=some (.cells #[.int .i64 0,.int .i64 0,.slice none 0 0] 31 (0,0)):=by rw [hX];exact heap_new (by simp)
  have hs1:=(hs.below hXb hB).drew
  have HX:Hid (X=_):=hX
  have HC:Hid (MapCall0 X.drew L B d d ts ts):=hcall _ hXb.drew
  clear hX hcall
  obtain ⟨p0,p1,p2⟩:=box_cells hX0
  go_enter Tryz.func72,Tryz.ntmps72
  go_wp2_with fail
  rw [← HX.out]
  go_region_held3 (fun w'=>w'.cell? ⟨w.heap.size,0,none⟩=some (.int .i64 k)∧w'.cell? ⟨w.heap.size,1,none⟩=some (.int .i64 n)∧w'.cell? ⟨w.heap.size,2,none⟩=some (.slice ao len cap)) (first | (refine ⟨?_,?_,?_⟩;exact p0;exact p1;exact p2) | (refine ⟨?_,?_,?_⟩;exact z0;exact z1;exact z2) | (refine ⟨?_,?_,?_⟩ <;> simp [World.cell?_setCell_other,z0,z1,z2])) ((go_at_call 73;refine (mapTys0_any L B d d _ _ _ ts ts _ ?_ hs1 hl rfl HC.out).mono ?_;(show B≤X.heap.size;omega);rintro e w1 ⟨ao2,cap2,rfl,hb1,hs2⟩;have z0:=(bcell hb1 (show w.heap.size < X.heap.size by omega) 0).trans p0;have z1:=(bcell hb1 (show w.heap.size < X.heap.size by omega) 1).trans p1;have z2:=(bcell hb1 (show w.heap.size < X.heap.size by omega) 2).trans p2;obtain ⟨y0,y1,y2⟩:=box_cells ((hb1.block (w.heap.size+1) (show w.heap.size+1 < X.heap.size by omega)).trans hX1);have y3:=row_free ((hb1.block (w.heap.size+1) (show w.heap.size+1 < X.heap.size by omega)).trans hX1)))
  all_goals
    have hbw:Below w.heap.size w w1:=hXb.drew.trans (hb1.mono (show w.heap.size≤X.heap.size by omega))
    go_wp2_with fail
    refine bodyPost_ret (v:=.agg #[.int .i64 k,.int .i64 n,.slice ao2 len cap2]) (by simp [results,Tryz.results72,go_sem,y0,y1,y2]) rfl ⟨ao2,len,cap2,rfl,?_,?_⟩
    · exact set3_below hbw (by omega)
    · refine hs2.keep (fun j hj _=>?_) (show w.heap.size≤X.heap.size by omega) (by simp)
      have hj':X.heap.size≤j:=hj
      rw [row_other _ _ _ (by omega),row_other _ _ _ (by omega),row_other _ _ _ (by omega)]
theorem copyP_any:∀ d,SaidCp d:=by
  intro d
  induction d with
  | zero =>
    intro L B k n ao len cap ts w hB hs hcnt
    have hts:=hs.2
    subst hts
    refine (copy_of 0 1 rfl L B k n ao len cap [] w hB hs.up hcnt (fun w0 _ i hi=>by simp at hi)).mono ?_
    rintro e w' ⟨ao2,len2,cap2,he,hb,ho⟩
    have h0:=ho.len0
    subst h0
    exact ⟨ao2,0,cap2,he,hb,OwR.nil _ _ _ _ _⟩
  | succ d ih =>
    intro L B k n ao len cap ts w hB hs hcnt
    refine copy_of d (d+1) rfl L B k n ao len cap ts w hB hs hcnt (fun w0 hb0 i hi hr ao1 len1 cap1 w' hb' hs'=>?_)
    have hc:=cntS_get ts i hi
    exact ih L B _ _ _ _ _ _ _ (by have:=hb0.size;have:=hb'.size;omega) hs' (by omega)
end Go.Proofs.YtcepgedbmffkdaaGreat

/-
  Free names in the model: 'l2Free'.
-/
namespace Go.Proofs.YtcepgedbmffkdaaGreat
open Go.RowKit
set_option linter.unusedVariables false
set_option linter.unusedSimpArgs false
theorem freeF_snoc (f:Tm→List (List UInt8)→List (List UInt8)→List (List UInt8)) (k:Int) (s z:List UInt8) (x:Tm) (Bd:List (List UInt8)):∀ (xs:List Tm) (i:Nat) (Fr:List (List UInt8)),freeF f k s z i (xs ++ [x]) Bd Fr=f x (Bd ++ bindsW k s z (i+xs.length)) (freeF f k s z i xs Bd Fr):=by
  intro xs
  induction xs with
  | nil=>intro i Fr;rfl
  | cons y xs ih =>
    intro i Fr
    show freeF f k s z (i+1) (xs ++ [x]) Bd _=_
    rw [ih]
    have e:i+1+xs.length=i+(y :: xs).length:=by simp;omega
    rw [e]
    rfl
theorem app_none {base:Nat} {w:World} {v:Value} {P:List (List UInt8)} (h:Toks base w v P) (xo:Option Addr) (c:Nat):(Builtin.append_ #[60,60] 60 #[v,.slice xo 0 c]).run Tryz.prog w=.ok v w:=by
  obtain ⟨i0,hi,hz0,hz1,hz2⟩:=info_parts Tryz.infoStr
  rcases h.2 with ⟨rfl,hn⟩ | ⟨g,cap,cur,rfl,_,_,hnc,_⟩
  · cases xo <;> simp [Builtin.append_,run_underlying Tryz.underlying60,sizeOf,typeInfo,hi,Builtin.lenOf,Builtin.firstCells,loadCells,loadCellsFrom]
  · cases xo <;> simp [Builtin.append_,run_underlying Tryz.underlying60,sizeOf,typeInfo,hi,Builtin.lenOf,Builtin.firstCells,hnc,storeCells,loadCells,loadCellsFrom]
theorem toks_join {base:Nat} {wr:World} {v:Value} {P:List (List UInt8)} (h:Toks base wr v P) (hb:base≤wr.heap.size) (N:List (List UInt8)) (hl:P.length+N.length≤1048577) (xo:Option Addr) (c:Nat)
    (hs:0 < N.length→∃ sb,xo=some ⟨sb,0,none⟩∧∀ j u,(N.map tk)[j]?=some u→wr.cell? ⟨sb,0+j,none⟩=some u) :
    ∃ v' w2,(Builtin.append_ #[60,60] 60 #[v,.slice xo N.length c]).run Tryz.prog wr=.ok v' w2∧Toks base w2 v' (P ++ N)∧wr.grownBy w2 v.ownBlock∧(∀ k,v'.ownBlock=some k→v.ownBlock=some k∨k=wr.heap.size):=by
  by_cases hN:0 < N.length
  · obtain ⟨sb,rfl,hc⟩:=hs hN
    obtain ⟨g,cap,w2,hrun,hT,hg,hat,_⟩:=toks_grow h hb N hN hl sb c hc
    refine ⟨_,w2,hrun,by rw [← List.length_append]  at hT;simpa using hT,hg,fun k hk=>?_⟩
    have e:g=k:=by simpa [Value.ownBlock] using hk
    subst e
    exact hat
  · have e:N=[]:=List.length_eq_zero_iff.1 (by omega)
    subst e
    exact ⟨v,wr,app_none h xo c,by simpa using h,⟨rfl,rfl,rfl,Nat.le_refl _,fun _ _ _=>rfl⟩,fun k hk=>Or.inl hk⟩
theorem toks_src {base:Nat} {w:World} {ao:Option Addr} {cap:Nat} {P:List (List UInt8)} (h:Toks base w (.slice ao P.length cap) P) (hp:0 < P.length):∃ sb,ao=some ⟨sb,0,none⟩∧∀ j u,(P.map tk)[j]?=some u→w.cell? ⟨sb,0+j,none⟩=some u:=by
  obtain ⟨g,cp,e,_,_,_⟩:=toks_at h 0 hp
  injection e with e1 e2 e3
  subst e1
  refine ⟨g,rfl,fun j u hu=>?_⟩
  have hj:j < P.length:=by have:=(List.getElem?_eq_some_iff.1 hu).1;simpa using this
  obtain ⟨g',cp',e',_,_,hc⟩:=toks_at h j hj
  injection e' with e1 e2 e3
  injection e1 with e1
  injection e1 with e1
  subst e1
  rw [hc]
  have:(P.map tk)[j]?=some (tk P[j]):=by simp [hj]
  rw [← this,hu]
theorem ko_grown {vo:Value} {w W w2:World} {g n cap:Nat} (hW:Below w.heap.size w W) (hg:W.grownBy w2 vo.ownBlock) (hat:vo.ownBlock=some g∨g=W.heap.size):Ko vo w (.slice (some ⟨g,0,none⟩) n cap) w2:=by
  have hz:=hW.size
  refine ⟨hg.os.trans hW.os,hg.tape.trans hW.tape,hg.output.trans hW.output,Nat.le_trans hW.size hg.size,fun k hk hne=>(hg.block k (by omega) (fun e=>hne e.symm)).trans (hW.block k hk),fun k hk=>?_⟩
  have e:g=k:=by simpa [Value.ownBlock] using hk
  subst e
  rcases hat with e | e
  · exact Or.inl e
  · exact Or.inr (by omega)
end Go.Proofs.YtcepgedbmffkdaaGreat

/-
  'copyHead', 'copyTerm' of the program: the same term in memory of its own.
-/
namespace Go.Proofs.YtcepgedbmffkdaaGreat
open Go.RowKit
set_option linter.unusedVariables false
set_option linter.unusedSimpArgs false
set_option maxRecDepth 100000 in
set_option maxHeartbeats 2000000 in
theorem copyHead_any (D d L B:Nat) (t:Tm) (a1:Option Addr) (l1 c1:Nat) (a2:Option Addr) (l2 c2:Nat) (a3:Option Addr) (l3 c3:Nat) (w:World) (hB:B≤w.heap.size) (hf:Fm L B w D d t a1 l1 a2 l2 a3 l3) (hc:cntM t≤1048576) :
    Calls Tryz.prog 49 #[.agg #[.int .i64 t.K,.int .i64 t.N,.string t.S,.string t.Z,.int .i64 t.T.K,.int .i64 t.T.N,.slice a1 l1 c1,.slice a2 l2 c2,.slice a3 l3 c3]] w fun e w'=>∃ b1 m1 e1 b2 e2 M,e=.returned (.agg #[.int .i64 t.K,.int .i64 t.N,.string t.S,.string t.Z,.int .i64 t.T.K,.int .i64 t.T.N,.slice b1 m1 e1,.slice b2 l2 e2,.slice none 0 0])∧Below w.heap.size w w'∧w.heap.size≤M∧M≤w'.heap.size∧OwR w.heap.size M w' (D+1) b1 m1 t.T.A∧OwR M w'.heap.size w' (D+1) b2 l2 t.Ts:=by
  have hce:=cntM_eq t
  unfold ownM at hce
  have hcT:cntS t.T.A≤1048576:=by omega
  have hcS:cntS t.Ts≤1048576:=by omega
  have hl2:l2≤1048576:=by have:=hf.t2.len.1;have:=cntS_eq t.Ts;omega
  obtain ⟨X,hX⟩:∃ X,X=((w.alloc (.cells #[.int .i64 t.K,.int .i64 t.N,.string t.S,.string t.Z,.int .i64 t.T.K,.int .i64 t.T.N,.slice a1 l1 c1,.slice a2 l2 c2,.slice a3 l3 c3] 34)).alloc (.cells #[.int .i64 0,.int .i64 0,.string ⟨#[]⟩,.string ⟨#[]⟩,.int .i64 0,.int .i64 0,.slice none 0 0,.slice none 0 0,.slice none 0 0] 34)):=⟨_,rfl⟩
  have hXs:X.heap.size=w.heap.size+2:=by rw [hX];simp
  have hXb:Below w.heap.size w X:=by rw [hX];exact ((Below.refl _ _).alloc (Nat.le_refl _) _).alloc (by simp) _
  have hX0:X.heap[w.heap.size]?=some (.cells #[.int .i64 t.K,.int .i64 t.N,.string t.S,.string t.Z,.int .i64 t.T.K,.int .i64 t.T.N,.slice a1 l1 c1,.slice a2 l2 c2,.slice a3 l3 c3] 34 (0,0)):=by rw [hX,Below.heap_alloc _ _ _ (by simp)];exact heap_new rfl
  have hX1:X.heap[w.heap.size+1]?=some (.cells #[.int .i64 0,.int .i64 0,.string ⟨#[]⟩,.string ⟨#[]⟩,.int .i64 0,.int .i64 0,.slice none 0 0,.slice none 0 0,.slice none 0 0] 34 (0,0)):=by rw [hX];exact heap_new (by simp)
  have hfX:Fm L B X.drew D d t a1 l1 a2 l2 a3 l3:=Fm.drew (Fm.below hXb hB hf)
  have hs1:Hs L B X.drew D a1 l1 t.T.A:=hfX.t1
  have HX:Hid (X=_):=hX
  have H2:Hid (∀ w1,Below X.drew.heap.size X.drew w1→B≤w1.heap.size∧Hs L B w1 (D+1) a2 l2 t.Ts∧MapCall0 w1 L B D D t.Ts t.Ts):=fun w1 hb1=>by
    have hz:X.heap.size≤w1.heap.size:=hb1.size
    refine ⟨by omega,(hfX.t2.below hb1 (show B≤X.heap.size by omega)).deeper (by omega),fun i hi hr ao1 len1 cap1 w' hb' hs'=>?_⟩
    have hq:=cntS_get t.Ts i hi
    exact copyP_any D L B _ _ _ _ _ _ _ (by have:=hb'.size;omega) hs' (by omega)
  have hlt0:w.heap.size < X.heap.size:=by omega
  have hlt1:w.heap.size+1 < X.heap.size:=by omega
  have HXS:Hid (X.heap.size=w.heap.size+2):=hXs
  have HXB:Hid (Below w.heap.size w X):=hXb
  have hBX:B≤X.heap.size:=by omega
  obtain ⟨p0,p1,p2,p3,p4,p5,p6,p7,p8⟩:=Nine.box (w:=X.drew) hX0
  clear hX hce hXs hfX hf hXb
  go_enter Tryz.func49,Tryz.ntmps49
  go_wp2_with fail
  rw [← HX.out]
  go_region_held3 (fun w'=>w'.cell? ⟨w.heap.size,0,none⟩=some (.int .i64 t.K)∧w'.cell? ⟨w.heap.size,1,none⟩=some (.int .i64 t.N)∧w'.cell? ⟨w.heap.size,2,none⟩=some (.string t.S)∧w'.cell? ⟨w.heap.size,3,none⟩=some (.string t.Z)∧w'.cell? ⟨w.heap.size,4,none⟩=some (.int .i64 t.T.K)∧w'.cell? ⟨w.heap.size,5,none⟩=some (.int .i64 t.T.N)∧w'.cell? ⟨w.heap.size,6,none⟩=some (.slice a1 l1 c1)∧w'.cell? ⟨w.heap.size,7,none⟩=some (.slice a2 l2 c2))
    (first | (refine ⟨?_,?_,?_,?_,?_,?_,?_,?_⟩;with_reducible exact u0;with_reducible exact u1;with_reducible exact u2;with_reducible exact u3;with_reducible exact u4;with_reducible exact u5;with_reducible exact u6;with_reducible exact u7) | (refine ⟨?_,?_,?_,?_,?_,?_,?_,?_⟩;with_reducible exact z0;with_reducible exact z1;with_reducible exact z2;with_reducible exact z3;with_reducible exact z4;with_reducible exact z5;with_reducible exact z6;with_reducible exact z7) | (refine ⟨?_,?_,?_,?_,?_,?_,?_,?_⟩;with_reducible exact p0;with_reducible exact p1;with_reducible exact p2;with_reducible exact p3;with_reducible exact p4;with_reducible exact p5;with_reducible exact p6;with_reducible exact p7) | (refine ⟨?_,?_,?_,?_,?_,?_,?_,?_⟩ <;> simp [World.cell?_setCell_other,u0,u1,u2,u3,u4,u5,u6,u7]))
    (first
      | (go_at_call 73;refine (mapTys0_any L B D D _ _ _ t.Ts t.Ts w1 hBw hs2 hl2 rfl hmc).mono ?_;rintro e w2 ⟨b2,e2,rfl,hb2,ho2⟩;have hlu:w.heap.size < w1.heap.size:=Nat.lt_of_lt_of_le hlt0 hb1.size;have hlv:w.heap.size+1 < w1.heap.size:=Nat.lt_of_lt_of_le hlt1 hb1.size;have u0:=(bcell hb2 hlu 0).trans z0;have u1:=(bcell hb2 hlu 1).trans z1;have u2:=(bcell hb2 hlu 2).trans z2;have u3:=(bcell hb2 hlu 3).trans z3;have u4:=(bcell hb2 hlu 4).trans z4;have u5:=(bcell hb2 hlu 5).trans z5;have u6:=(bcell hb2 hlu 6).trans z6;have u7:=(bcell hb2 hlu 7).trans z7;have hY:=(hb2.block (w.heap.size+1) hlv).trans hY1;obtain ⟨y0,y1,y2,y3,y4,y5,y6,y7,y8⟩:=Nine.box hY;have yf:=row_free hY)
      | (go_at_call 72;refine (copyP_any D L B _ _ _ _ _ t.T.A X.drew hBX hs1 hcT).mono ?_;rintro e w1 ⟨b1,m1,e1,rfl,hb1,ho1⟩;have z0:=(bcell hb1 hlt0 0).trans p0;have z1:=(bcell hb1 hlt0 1).trans p1;have z2:=(bcell hb1 hlt0 2).trans p2;have z3:=(bcell hb1 hlt0 3).trans p3;have z4:=(bcell hb1 hlt0 4).trans p4;have z5:=(bcell hb1 hlt0 5).trans p5;have z6:=(bcell hb1 hlt0 6).trans p6;have z7:=(bcell hb1 hlt0 7).trans p7;have hY1:=(hb1.block (w.heap.size+1) hlt1).trans hX1;obtain ⟨hBw,hs2,hmc⟩:=H2.out w1 hb1))
  all_goals
    have hXs:=HXS.out
    have hz1:X.heap.size≤w1.heap.size:=hb1.size
    have hz2:=hb2.size
    have hbw:Below w.heap.size w w2:=(HXB.out.drew.trans (hb1.mono (show w.heap.size≤X.heap.size by omega))).trans (hb2.mono (by omega))
    go_wp2_with fail
    obtain ⟨Y,hYe⟩:∃ Y,Y=set9 w2 (w.heap.size+1) 0 (.int .i64 t.K) (.int .i64 t.N) (.string t.S) (.string t.Z) (.int .i64 t.T.K) (.int .i64 t.T.N) (.slice b1 m1 e1) (.slice b2 l2 e2) (.slice none 0 0):=⟨_,rfl⟩
    have hYb:Below w.heap.size w Y:=by rw [hYe];exact set9_below hbw (by omega)
    have hYs:Y.heap.size=w2.heap.size:=by rw [hYe];exact set9_size _ _ _ _ _ _ _ _ _ _ _ _
    have hYo:∀ j,j≠w.heap.size+1→Y.heap[j]?=w2.heap[j]?:=fun j hj=>by rw [hYe];exact set9_other j hj
    refine bodyPost_ret (v:=.agg #[.int .i64 t.K,.int .i64 t.N,.string t.S,.string t.Z,.int .i64 t.T.K,.int .i64 t.T.N,.slice b1 m1 e1,.slice b2 l2 e2,.slice none 0 0]) (by simp [results,Tryz.results49,go_sem,y0,y1,y2,y3,y4,y5,y6,y7,y8]) rfl ?_
    have hfin:∃ b1' m1' e1' b2' e2' M,Ending.returned (.agg #[.int .i64 t.K,.int .i64 t.N,.string t.S,.string t.Z,.int .i64 t.T.K,.int .i64 t.T.N,.slice b1 m1 e1,.slice b2 l2 e2,.slice none 0 0])=.returned (.agg #[.int .i64 t.K,.int .i64 t.N,.string t.S,.string t.Z,.int .i64 t.T.K,.int .i64 t.T.N,.slice b1' m1' e1',.slice b2' l2 e2',.slice none 0 0])∧Below w.heap.size w Y∧w.heap.size≤M∧M≤Y.heap.size∧OwR w.heap.size M Y (D+1) b1' m1' t.T.A∧OwR M Y.heap.size Y (D+1) b2' l2 t.Ts:=by
      refine ⟨b1,m1,e1,b2,e2,w1.heap.size,rfl,hYb,by omega,by omega,?_,?_⟩
      · exact ho1.one (by omega) (fun k hk1 hk2=>by have hk3:X.heap.size≤k:=hk1;exact (hYo k (by omega)).trans (hb2.block k hk2)) (show w.heap.size≤X.heap.size by omega) (Nat.le_refl _)
      · exact ho2.one (Nat.le_refl _) (fun k hk1 hk2=>hYo k (by omega)) (Nat.le_refl _) (by omega)
    rw [hYe] at hfin
    exact hfin
end Go.Proofs.YtcepgedbmffkdaaGreat
