/-
  What the model's 'l2Look', 'TermOk', 'NodesOf' come to.
-/
import Derived.Test.YtcepgedbmffkdaaGreatFbaOne
import Derived.Test.YtcepgedbmffkdaaGreatFbaZ14
import Derived.Test.YtcepgedbmffkdaaGreatFbaZ5
import Derived.Test.YtcepgedbmffkdaaGreatFbaZ6
import Derived.Deep.RegionLaw
import Derived.Deep.Cut
import Derived.Deep.CutRange
import Derived.Test.YtcepgedbmffkdaaGreatFbaZ16
import Derived.Test.YtcepgedbmffkdaaGreatFbaZ13
import Derived.Test.YtcepgedbmffkdaaGreatFbaZ1
import Derived.Deep.RegionWith
import Derived.Test.YtcepgedbmffkdaaGreatFbaZ15
namespace Go.Proofs.YtcepgedbmffkdaaGreat
open Go.RowKit Go.PlainAid
set_option linter.unusedVariables false
set_option linter.unusedSimpArgs false
def lookM (l c:Nat) (t:Tm):Bool:=match nodesM l t with | some m=>decide (c+m≤150) | none=>false
theorem Fm.grown {L B p:Nat} {w w':World} {D d:Nat} (hg:w.grownBy w' (some p)) (hB:B≤p) (hp:p < w.heap.size) {t:Tm} {a1 a2 a3:Option Addr} {l1 l2 l3:Nat} (h:Fm L B w D d t a1 l1 a2 l2 a3 l3):Fm L B w' D d t a1 l1 a2 l2 a3 l3 :=
  Fm.keep (fun k _ hk=>hg.block k (by omega) (by simp;omega)) (Nat.le_refl _) (Nat.le_refl _) h
theorem grown_then {w w' w'':World} {p:Nat} (hg:w.grownBy w' (some p)) (hb:Below w'.heap.size w' w''):w.grownBy w'' (some p) :=
  ⟨hb.os.trans hg.os,hb.tape.trans hg.tape,hb.output.trans hg.output,Nat.le_trans hg.size hb.size,fun i hi hr=>(hb.block i (Nat.lt_of_lt_of_le hi hg.size)).trans (hg.block i hi hr)⟩
theorem lkm_world {w:World} {p:Nat} {v:Value} {t:TypeId} (hcell:w.heap[p]?=some (.cells #[v] t (0,0))) (hp:p < w.heap.size) (u:Value) (cs:Array Value) (t':TypeId) :
    w.grownBy ((w.setCell ⟨p,0,none⟩ u).alloc (.cells cs t')) (some p)∧((w.setCell ⟨p,0,none⟩ u).alloc (.cells cs t')).heap[p]?=some (.cells #[u] t (0,0)) ∧
    ((w.setCell ⟨p,0,none⟩ u).alloc (.cells cs t')).heap[w.heap.size]?=some (.cells cs t' (0,0)):=by
  refine ⟨⟨rfl,rfl,rfl,?_,?_⟩,?_,?_⟩
  · simp
  · intro k hk hr
    rw [Below.heap_alloc _ _ _ (by simpa using hk),row_other _ _ _ (by simpa using hr)]
  · rw [Below.heap_alloc _ _ _ (by simpa using hp),row_set hcell]
    rfl
  · exact heap_new (by simp)
def SaidLkM (l:Nat):Prop:=∀ (D d L B p c:Nat) (t:Tm) (a1:Option Addr) (l1 c1:Nat) (a2:Option Addr) (l2 c2:Nat) (a3:Option Addr) (l3 c3:Nat) (w:World),B≤p→p < w.heap.size→w.heap[p]?=some (.cells #[.int .i64 c] 3 (0,0))→c≤150→Fm L B w D d t a1 l1 a2 l2 a3 l3 →
    Calls Tryz.prog 43 #[.agg #[.int .i64 t.K,.int .i64 t.N,.string t.S,.string t.Z,.int .i64 t.T.K,.int .i64 t.T.N,.slice a1 l1 c1,.slice a2 l2 c2,.slice a3 l3 c3],.int .i64 l,.pointer (some ⟨p,0,none⟩)] w fun e w' =>
      e=.returned (.bool (lookM l c t))∧w.grownBy w' (some p)∧∃ c':Int,w'.heap[p]?=some (.cells #[.int .i64 c'] 3 (0,0))∧(∀ m,nodesM l t=some m→c+m≤150→c'=c+m)
theorem lookM_no {l c:Nat} {t:Tm} (h:lookM l c t=false):∀ m,nodesM l t=some m→c+m≤150→False:=by
  intro m hm hle
  simp only [lookM,hm,decide_eq_false_iff_not] at h
  exact h hle
theorem lookM_some {l c m:Nat} {t:Tm} (h:nodesM l t=some m):lookM l c t=decide (c+m≤150):=by simp [lookM,h]
theorem lookM_deep {l c:Nat} {t:Tm} (h:nodeM t=false):lookM (l+1) c t=false:=by simp [lookM,nodesM,h]
theorem lookM_full {l c:Nat} {t:Tm} (h:150 < c+1):lookM l c t=false:=by
  unfold lookM
  split
  · rename_i m hm
    have:=nodesM_pos _ _ _ hm
    simp;omega
  · rfl
set_option maxHeartbeats 400000 in
theorem lkm_zero:SaidLkM 0:=by
  intro D d L B p c t a1 l1 c1 a2 l2 c2 a3 l3 c3 w hBp hp hcell hc hf
  have f:=row_cell hcell 0
  have r:=row_free hcell 0
  simp at f
  have hpn:¬ w.heap.size=p:=by omega
  have HWW:Hid (_∧_∧_):=lkm_world hcell hp (.int .i64 ((c:Int)+1)) #[.int .i64 t.K,.int .i64 t.N,.string t.S,.string t.Z,.int .i64 t.T.K,.int .i64 t.T.N,.slice a1 l1 c1,.slice a2 l2 c2,.slice a3 l3 c3] 34
  clear hcell
  go_enter Tryz.func43,Tryz.ntmps43
  go_wp2_with fail
  go_ret
  exact ⟨ret_bool rfl,HWW.out.1,_,HWW.out.2.1,fun m hm=>by simp [nodesM] at hm⟩
structure LkRelM (w wr:World) (l p c j:Nat) (cs:Array Value) (m:Nat) (ts:List Tm):Prop where
  grown:w.grownBy wr (some p)
  box:wr.heap[w.heap.size]?=some (.cells cs 34 (0,0))
  cell:wr.heap[p]?=some (.cells #[.int .i64 ((c:Int)+1+m)] 3 (0,0))
  nodes:nodesG (nodesM l) (ts.take j)=some m
set_option maxHeartbeats 1000000 in
theorem lkm_succ (l:Nat) (hl24:l < 24) (IH:SaidLkM l):SaidLkM (l+1):=by
  intro D d L B p c t a1 l1 c1 a2 l2 c2 a3 l3 c3 w hBp hp hcell hc hf
  have hll:=hf.m.len.2
  have HL:Hid (l3=t.A.length):=hf.m.len.1
  have f:=row_cell hcell 0
  have r:=row_free hcell 0
  simp at f
  have hpn:¬ w.heap.size=p:=by omega
  obtain ⟨X,hX⟩:∃ X,X=(w.setCell ⟨p,0,none⟩ (.int .i64 ((c:Int)+1))).alloc (.cells #[.int .i64 t.K,.int .i64 t.N,.string t.S,.string t.Z,.int .i64 t.T.K,.int .i64 t.T.N,.slice a1 l1 c1,.slice a2 l2 c2,.slice a3 l3 c3] 34):=⟨_,rfl⟩
  have hXW:=lkm_world hcell hp (.int .i64 ((c:Int)+1)) #[.int .i64 t.K,.int .i64 t.N,.string t.S,.string t.Z,.int .i64 t.T.K,.int .i64 t.T.N,.slice a1 l1 c1,.slice a2 l2 c2,.slice a3 l3 c3] 34
  rw [← hX] at hXW
  have hXs:X.heap.size=w.heap.size+1:=by rw [hX];simp
  have HWW:Hid (_∧_∧_):=hXW
  have HX:Hid (X=_):=hX
  have HXs:Hid (_=_):=hXs
  clear hcell hX hXW hXs
  have hl0:(((l:Int)+1) == 0)=false:=by simp;omega
  by_cases hfull:150 < c+1
  · have HO:Hid (lookM (l+1) c t=false):=lookM_full hfull
    have h150:decide (150 < (c:Int)+1)=true:=by simp;omega
    go_enter Tryz.func43,Tryz.ntmps43
    go_wp2_with fail
    go_ret
    rw [← HX.out]
    exact ⟨ret_bool HO.out.symm,HWW.out.1,_,HWW.out.2.1,fun m hm hle=>(lookM_no HO.out m hm hle).elim⟩
  have h150:decide (150 < (c:Int)+1)=false:=by simp;omega
  have hfX:=Fm.grown HWW.out.1 hBp hp hf
  cases hok:nodeM t with
  | false =>
    have HO:Hid (lookM (l+1) c t=false):=lookM_deep hok
    have HK:Hid (nodeM t=false):=hok
    clear hok
    go_enter Tryz.func43,Tryz.ntmps43
    go_wp2_with fail
    rw [← HX.out]
    refine (l2One_any D d L B t _ _ _ _ _ _ _ _ _ _ (by have:=HXs.out;omega) hfX).mono ?_
    rintro e w1 ⟨rfl,hb1⟩
    rw [HK.out]
    go_wp2_with fail
    go_ret
    exact ⟨ret_bool HO.out.symm,grown_then HWW.out.1 hb1,_,(hb1.block p (by have:=HXs.out;omega)).trans HWW.out.2.1,fun m hm hle=>(lookM_no HO.out m hm hle).elim⟩
  | true =>
    have HO:Hid (nodesM (l+1) t=(nodesG (nodesM l) t.A).map (1+·)):=by show _=_;simp only [nodesM];rw [hok];rfl
    have hlen3:=nodeM_len hok
    have HK:Hid (nodeM t=true):=hok
    clear hok
    go_enter Tryz.func43,Tryz.ntmps43
    go_wp2_with fail
    rw [← HX.out]
    refine (l2One_any D d L B t _ _ _ _ _ _ _ _ _ _ (by have:=HXs.out;omega) hfX).mono ?_
    rintro e w1 ⟨rfl,hb1⟩
    rw [HK.out]
    have hR0:LkRelM w w1 l p c 0 #[.int .i64 t.K,.int .i64 t.N,.string t.S,.string t.Z,.int .i64 t.T.K,.int .i64 t.T.N,.slice a1 l1 c1,.slice a2 l2 c2,.slice a3 l3 c3] 0 t.A:=⟨grown_then HWW.out.1 hb1,(hb1.block _ (by have:=HXs.out;omega)).trans HWW.out.2.2,by have:=(hb1.block p (by have:=HXs.out;omega)).trans HWW.out.2.1;simpa using this,rfl⟩
    clear f r hfX h150 hl0 hb1
    have xx:=(Nine.box hR0.box).c8
    simp only [Nat.zero_add] at xx
    go_wp2_with fail
    clear xx
    go_loopw [7] (fun i wr=>∃ j m:Nat,j≤l3∧i=.int .i64 j∧c+1+m≤150∧LkRelM w wr l p c j #[.int .i64 t.K,.int .i64 t.N,.string t.S,.string t.Z,.int .i64 t.T.K,.int .i64 t.T.N,.slice a1 l1 c1,.slice a2 l2 c2,.slice a3 l3 c3] m t.A) (fun i _=>l3 - (intOf i).toNat)
    case atStart=>exact ⟨0,0,by omega,rfl,by omega,hR0⟩
    case round =>
      obtain ⟨j,m,hj,rfl,hm,hR⟩:=hrel
      have hg:=hR.grown
      have hsz:=hg.size
      have x8:=(Nine.box hR.box).c8
      simp only [Nat.zero_add] at x8
      clear hR0
      by_cases hlt:j < l3
      · have hlt':j < t.A.length:=by have:=HL.out;omega
        obtain ⟨b,o,rfl,_,hbB,b1,m1,d1,b2,m2,d2,b3,m3,d3,h9,hf1⟩:=hf.m.get j hlt'
        obtain ⟨e0,e1,e2,e3,e4,e5,e6,e7,e8⟩:=h9.world (hg.block b (by omega) (by simp;omega))
        have hf2:=Fm.grown hg hBp hp hf1
        have hcl:=hR.cell
        have hcl':wr.heap[p]?=some (.cells #[.int .i64 ((c+1+m:Nat):Int)] 3 (0,0)):=by rw [hcl];simp
        have HF:Hid (_=_):=nodesG_take (nodesM l) t.A j hlt' m hR.nodes
        clear hcl
        go_wp2_with fail
        refine (IH D (d - 1) L B p (c+1+m) t.A[j] _ _ _ _ _ _ _ _ _ _ hBp (by omega) hcl' (by omega) hf2).mono ?_
        rintro e w2 ⟨rfl,hg2,c',hc2,hc3⟩
        have hg3:=grown_trans hg hg2
        have hbox2:w2.heap[w.heap.size]?=_:=(hg2.block _ (by have:=(Array.getElem?_eq_some_iff.1 hR.box).1;exact this) (by simp;omega)).trans hR.box
        cases hv:lookM l (c+1+m) t.A[j] with
        | false =>
          clear hc3 hcl'
          go_wp2_with fail
          go_ret
          have hno:lookM (l+1) c t=false:=by
            unfold lookM
            rw [HO.out]
            cases hnl:nodesG (nodesM l) t.A with
            | none=>rfl
            | some s =>
              cases hq:nodesM l t.A[j] with
              | none=>rw [nodesG_none _ _ j hlt' hq] at hnl;cases hnl
              | some a =>
                have h1:=nodesG_part _ _ j hlt' m a s hR.nodes hq hnl
                rw [lookM_some hq] at hv
                simp at hv ⊢
                omega
          exact ⟨ret_bool hno.symm,hg3,_,hc2,fun m hm hle=>(lookM_no hno m hm hle).elim⟩
        | true =>
          have hN:∃ a,nodesM l t.A[j]=some a∧c+1+m+a≤150∧c'=((c+1+m:Nat):Int)+a:=by
            have hv':=hv
            cases hq:nodesM l t.A[j] with
            | none=>simp [lookM,hq] at hv'
            | some a =>
              rw [lookM_some hq] at hv'
              have hle:c+1+m+a≤150:=by simpa using hv'
              exact ⟨a,rfl,hle,hc3 a hq hle⟩
          obtain ⟨a,hfa,hle,hce⟩:=hN
          have hT:nodesG (nodesM l) (t.A.take (j+1))=some (m+a):=by rw [HF.out,hfa];rfl
          have hR2:LkRelM w w2 l p c (j+1) _ (m+a) t.A:=⟨hg3,hbox2,by rw [hc2,hce];simp;omega,hT⟩
          clear hc3 hce hT hfa hcl' hc2 hbox2 x8 hR
          go_wp2_with fail
          go_roundw
          case rel=>exact ⟨j+1,m+a,by omega,by go_num,by omega,hR2⟩
          case measure=>simp [intOf];omega
      · have hNn:nodesG (nodesM l) t.A=some m:=by have h1:=HL.out;have h2:=hR.nodes;rw [List.take_of_length_le (by omega)] at h2;exact h2
        have HN:Hid (nodesG (nodesM l) t.A=some m):=hNn
        clear hNn
        have hcl:Hid (_=_):=hR.cell
        go_wp2_with fail
        go_ret
        have hw:nodesM (l+1) t=some (1+m):=by rw [HO.out,HN.out];rfl
        refine ⟨ret_bool (by rw [lookM_some hw];simp;omega),hg,_,hcl.out,fun m' hm' _=>?_⟩
        rw [hw] at hm'
        cases hm'
        omega
theorem lkm_any:∀ l,l≤24→SaidLkM l:=by
  intro l
  induction l with
  | zero=>intro _;exact lkm_zero
  | succ l ih=>intro h;exact lkm_succ l (by omega) (ih (by omega))
theorem lookM_ok (t:Tm):lookM 24 0 t=okM t:=by
  unfold lookM okM
  cases h:nodesM 24 t with
  | none=>rfl
  | some m=>by_cases h6:m≤150 <;> simp [lid,h6]
set_option maxHeartbeats 400000 in
theorem sTermOk_any (D d L B:Nat) (t:Tm) (a1:Option Addr) (l1 c1:Nat) (a2:Option Addr) (l2 c2:Nat) (a3:Option Addr) (l3 c3:Nat) (w:World) (hB:B≤w.heap.size) (hf:Fm L B w D d t a1 l1 a2 l2 a3 l3) :
    Calls Tryz.prog 19 #[.agg #[.int .i64 t.K,.int .i64 t.N,.string t.S,.string t.Z,.int .i64 t.T.K,.int .i64 t.T.N,.slice a1 l1 c1,.slice a2 l2 c2,.slice a3 l3 c3]] w fun e w'=>e=.returned (.bool (okM t))∧Below w.heap.size w w':=by
  obtain ⟨X,hX⟩:∃ X,X=((w.alloc (.cells #[.int .i64 t.K,.int .i64 t.N,.string t.S,.string t.Z,.int .i64 t.T.K,.int .i64 t.T.N,.slice a1 l1 c1,.slice a2 l2 c2,.slice a3 l3 c3] 34)).alloc (.cells #[.int .i64 0] 3)):=⟨_,rfl⟩
  have hXs:X.heap.size=w.heap.size+2:=by rw [hX];simp
  have hXb:Below w.heap.size w X:=by rw [hX];exact ((Below.refl _ _).alloc (Nat.le_refl _) _).alloc (by simp) _
  have hX1:X.heap[w.heap.size+1]?=some (.cells #[.int .i64 ((0:Nat):Int)] 3 (0,0)):=by rw [hX];exact heap_new (by simp)
  have hf1:=Fm.below hXb hB hf
  have HX:Hid (X=_):=hX
  have HX1:Hid (_=_):=hX1
  clear hX hX1
  go_enter Tryz.func19,Tryz.ntmps19
  go_wp2_with fail
  rw [← HX.out]
  refine (lkm_any 24 (by omega) D d L B _ 0 t _ _ _ _ _ _ _ _ _ _ (by omega) (by omega) HX1.out (by omega) hf1).mono ?_
  rintro e w1 ⟨rfl,hg,_⟩
  rw [lookM_ok]
  have hb2:Below w.heap.size w w1:=hXb.grown hg (by omega) (by simp)
  go_wp2_with fail
  go_ret
  exact ⟨rfl,hb2⟩
end Go.Proofs.YtcepgedbmffkdaaGreat

/-
  What the model's 'l18Uses' and 'UsesOf' come to.
-/
namespace Go.Proofs.YtcepgedbmffkdaaGreat
open Go.RowKit
set_option linter.unusedVariables false
set_option linter.unusedSimpArgs false
theorem toks_of_lit {w w':World} {e:Ending} {N:List (List UInt8)} (h:LitE w w' e N) (hN:N.length≤1000):∃ g,e=.returned (.slice (some ⟨g,0,none⟩) N.length N.length)∧Below w.heap.size w w'∧Toks w.heap.size w' (.slice (some ⟨g,0,none⟩) N.length N.length) N:=by
  obtain ⟨g,e1,hb,hg,hh⟩:=h
  refine ⟨g,e1,hb,⟨by simp,Or.inr ⟨g,N.length,_,rfl,hg,hh,Nat.le_refl _,(by unfold maxLen;omega),by simp,by simp [List.take_of_length_le]⟩⟩⟩
def SaidSu (l:Nat):Prop:=∀ (D d L B:Nat) (t:Tm) (a1:Option Addr) (l1 c1:Nat) (a2:Option Addr) (l2 c2:Nat) (a3:Option Addr) (l3 c3:Nat) (m:Nat) (s:ByteArray) (w:World),B≤w.heap.size→Fm L B w D d t a1 l1 a2 l2 a3 l3→nodesM l t=some m→m≤1000 →
    Calls Tryz.prog 64 #[.agg #[.int .i64 t.K,.int .i64 t.N,.string t.S,.string t.Z,.int .i64 t.T.K,.int .i64 t.T.N,.slice a1 l1 c1,.slice a2 l2 c2,.slice a3 l3 c3],.string s] w fun e w'=>e=.returned (.int .i64 (usesN (bs s) l t:Int))∧Below w.heap.size w w'
set_option maxRecDepth 100000 in
set_option maxHeartbeats 4000000 in
theorem su_step (l:Nat) (IH:SaidSu l):SaidSu (l+1):=by
  intro D d L B t a1 l1 c1 a2 l2 c2 a3 l3 c3 m s w hB hf hm hm1
  have hHM:Hid (nodesM (l+1) t=some m):=hm
  have HU:=usesN_nodes (bs s) (l+1) t m hm
  have HL:Hid (l3=t.A.length):=hf.m.len.1
  have hl3:=hf.m.len.2
  have hnl:=nodeM_len (nodesM_get hm).1
  obtain ⟨X,hX⟩:∃ X,X=w.alloc (.cells #[.int .i64 t.K,.int .i64 t.N,.string t.S,.string t.Z,.int .i64 t.T.K,.int .i64 t.T.N,.slice a1 l1 c1,.slice a2 l2 c2,.slice a3 l3 c3] 34):=⟨_,rfl⟩
  have hXs:X.heap.size=w.heap.size+1:=by rw [hX];simp
  have hXb:Below w.heap.size w X:=by rw [hX];exact (Below.refl _ _).alloc (Nat.le_refl _) _
  have hX1:X.heap[w.heap.size]?=some (.cells #[.int .i64 t.K,.int .i64 t.N,.string t.S,.string t.Z,.int .i64 t.T.K,.int .i64 t.T.N,.slice a1 l1 c1,.slice a2 l2 c2,.slice a3 l3 c3] 34 (0,0)):=by rw [hX];exact heap_new rfl
  have HX:Hid (X=_):=hX
  clear hX
  have hstr:(t.S.toList == s.toList)=decide (bs t.S=bs s):=by
    rw [Bool.eq_iff_iff,beq_iff_eq,decide_eq_true_eq]
    rw [ByteArray.toList_eq,ByteArray.toList_eq]
    exact Iff.rfl
  obtain ⟨x0,x1,x2,x3,x4,x5,x6,x7,x8⟩:=Nine.box hX1
  by_cases hv:t.K=3∧bs t.S=bs s
  · have HE:Hid (usesN (bs s) (l+1) t=1):=usesN_var hv
    have hq:(t.S.toList == s.toList)=true:=by rw [hstr];simpa using hv.2
    have hK:=hv.1
    rw [HE.out]
    clear hv hstr HU hm
    rw [hK] at x0
    go_enter Tryz.func64,Tryz.ntmps64
    go_wp2_with fail
    go_ret
    exact ⟨rfl,(Below.refl _ _).alloc (Nat.le_refl _) _⟩
  · have HE:Hid (usesN (bs s) (l+1) t=sumU (partU (bs s) l t) t.A.length):=usesN_not hv
    rw [HE.out]
    rw [HE.out] at HU
    have hcase:(¬ t.K=3)∨((t.K == 3)=true∧(t.S.toList == s.toList)=false):=by
      by_cases h3:t.K=3
      · exact Or.inr ⟨by simpa using h3,by rw [hstr];simp;exact fun h=>hv ⟨h3,h⟩⟩
      · exact Or.inl h3
    clear hv hstr hm
    rcases hcase with h3 | ⟨h3,hq⟩
    all_goals
      go_enter Tryz.func64,Tryz.ntmps64
      go_upto_region 3 with fail
      clear h3
      go_wp2_with fail
      go_loopw [5,6] (fun v i wr=>∃ (j mm:Nat),j≤l3∧i=.int .i64 j∧v=.int .i64 mm∧Hid (mm=sumU (partU (bs s) l t) j)∧mm≤1000∧Below X.heap.size X wr) (fun _ i _=>l3 - (intOf i).toNat)
      case atStart=>exact ⟨0,0,by omega,rfl,rfl,rfl,by omega,by rw [HX.out];exact Below.refl _ _⟩
      case round =>
        obtain ⟨j,mm,hj,rfl,rfl,hmm,hm0,hbr⟩:=hrel
        have hzr:=hbr.size
        have y1:=(hbr.block w.heap.size (by omega)).trans hX1
        obtain ⟨z0,z1,z2,z3,z4,z5,z6,z7,z8⟩:=Nine.box y1
        by_cases hlt:j < l3
        · have hlt':j < t.A.length:=by have:=HL.out;omega
          obtain ⟨g,og,rfl,_,hgB,q1,n1,k1,q2,n2,k2,q3,n3,k3,y9,hf1⟩:=hf.m.get j hlt'
          have KN:=l2Binds_any t a1 l1 c1 a2 l2 c2 (some ⟨g,og,none⟩) l3 c3 j (by have:=HL.out;omega) wr
          obtain ⟨N,hN⟩:∃ N,bindsW t.K (bs t.S) (bs t.Z) j=N:=⟨_,rfl⟩
          rw [hN] at KN
          have hNl:N.length≤2:=by rw [← hN];exact bindsW_len _ _ _ _
          have HN:Hid (bindsW t.K (bs t.S) (bs t.Z) j=N):=hN
          obtain ⟨nn,hnn⟩:∃ nn,N.length=nn:=⟨_,rfl⟩
          have hbw:Below w.heap.size w wr:=hXb.trans (hbr.mono (by omega))
          have hjl:(j:Int) < (l3:Int):=by omega
          clear hN
          go_wp2_with fail
          refine KN.mono ?_
          intro e w3 hlit
          obtain ⟨g3,rfl,hb3,ht3⟩:=toks_of_lit hlit (by omega)
          have hz3:=hb3.size
          have KH:=l2Has_any _ N s w3 ht3 (by omega)
          rw [hnn] at KH ⊢
          have y3:=(hb3.block w.heap.size (by omega)).trans y1
          have hb3X:Below X.heap.size X w3:=hbr.trans (hb3.mono hzr)
          clear hlit ht3 KN z0 z1 z2 z3 z4 z5 z6 z7 z8
          obtain ⟨z0,z1,z2,z3,z4,z5,z6,z7,z8⟩:=Nine.box y3
          go_wp2_with fail
          refine KH.mono ?_
          rintro e w4 ⟨rfl,hw⟩
          subst hw
          by_cases hmem:bs s ∈ N
          · have HT:decide (bs s ∈ N)=true:=by simpa using hmem
            have HM2:Hid (mm=sumU (partU (bs s) l t) (j+1)):=by
              show mm=sumU (partU (bs s) l t) j+partU (bs s) l t j
              rw [partU_in hlt' (by rw [HN.out];exact hmem),Nat.add_zero]
              exact hmm.out
            rw [HT]
            clear hmem
            go_wp2_with fail
            go_roundw
            case rel=>exact ⟨j+1,mm,by omega,by go_num,rfl,HM2,hm0,hb3X⟩
            case measure=>simp [intOf];omega
          · have HT:decide (bs s ∈ N)=false:=by simpa using hmem
            rw [HT]
            obtain ⟨mj,hmj⟩:=(nodesM_get hHM.out).2 j hlt'
            have hpu:partU (bs s) l t j=usesN (bs s) l t.A[j]:=partU_out hlt' (by rw [HN.out];exact hmem)
            have hsum:sumU (partU (bs s) l t) (j+1)≤m:=by
              have h1:=sumU_le (partU (bs s) l t) (j+1) (t.A.length - (j+1))
              rw [show j+1+(t.A.length - (j+1))=t.A.length by omega] at h1
              omega
            have HSUM:Hid (sumU (partU (bs s) l t) (j+1)=mm+usesN (bs s) l t.A[j]):=by
              show sumU (partU (bs s) l t) j+partU (bs s) l t j=_
              rw [hpu]
              have:=hmm.out
              omega
            have hb3w:Below w.heap.size w w4:=hbw.trans (hb3.mono hbw.size)
            obtain ⟨e0,e1,e2,e3,e4,e5,e6,e7,e8⟩:=y9.below hb3w (by omega)
            have hf3:=Fm.below hb3w hB hf1
            have KI:=IH D (d - 1) L B t.A[j] q1 n1 k1 q2 n2 k2 q3 n3 k3 mj s w4 (by omega) hf3 hmj.1 (by omega)
            obtain ⟨u9,hu9⟩:∃ u9,usesN (bs s) l t.A[j]=u9:=⟨_,rfl⟩
            rw [hu9] at KI HSUM
            have hm9:mm+u9≤1000:=by have:=HSUM.out;omega
            clear hmem hpu hsum hu9 hmj hf3 y9 hf1
            go_wp2_with fail
            refine KI.mono ?_
            rintro e w5 ⟨rfl,hb5⟩
            have hb5X:Below X.heap.size X w5:=hb3X.trans (hb5.mono hb3X.size)
            go_wp2_with fail
            go_roundw
            case rel=>exact ⟨j+1,mm+u9,by omega,by go_num,by go_num,HSUM.out.symm,hm9,hb5X⟩
            case measure=>simp [intOf];omega
        · have hjl:j=t.A.length:=by have:=HL.out;omega
          have HR:Hid ((mm:Int)=(sumU (partU (bs s) l t) t.A.length:Int)):=by show _=_;rw [hmm.out,hjl]
          clear hjl
          go_wp2_with fail
          go_ret
          exact ⟨congrArg (fun x:Int=>Ending.returned (.int .i64 x)) HR.out,hXb.trans (hbr.mono (by omega))⟩
theorem su_any:∀ l,SaidSu l:=by
  intro l
  induction l with
  | zero =>
    intro D d L B t a1 l1 c1 a2 l2 c2 a3 l3 c3 m s w _ _ hm
    simp [nodesM] at hm
  | succ l ih=>exact su_step l ih
end Go.Proofs.YtcepgedbmffkdaaGreat

/-
  What the model's 'l1Copy' comes to: the same tree in new memory.
-/
namespace Go.Proofs.YtcepgedbmffkdaaGreat
open Go.RowKit
set_option linter.unusedVariables false
set_option linter.unusedSimpArgs false
def SaidLc (d:Nat):Prop:=∀ (L B:Nat) (k n:Int) (ao:Option Addr) (len cap:Nat) (ts:List Tr) (w:World),B≤w.heap.size→Hs L B w d ao len ts→cntS ts≤1048576 →
    Calls Tryz.prog 44 #[.agg #[.int .i64 k,.int .i64 n,.slice ao len cap]] w fun e w'=>∃ ao2 len2 cap2,e=.returned (.agg #[.int .i64 k,.int .i64 n,.slice ao2 len2 cap2])∧Below w.heap.size w w'∧OwR w.heap.size w'.heap.size w' d ao2 len2 ts
structure LcRel (w wr:World) (d kk:Nat) (box out:Array Value) (v:Value) (K N:Int) (g0 go:Nat) (ts:List Tr):Prop where
  bel:Below w.heap.size w wr
  hbox:wr.heap[g0]?=some (.cells box 31 (0,0))
  hout:wr.heap[go]?=some (.cells #[.int .i64 K,.int .i64 N,v] 31 (0,0))
  ap:ApRel (go+1) wr d v kk ts
set_option maxRecDepth 100000 in
set_option maxHeartbeats 2000000 in
theorem lc_succ (d:Nat) (IH:SaidLc d):SaidLc (d+1):=by
  intro L B k n ao len capA ts w hB hs hcnt
  have hl:len≤1048576:=by have:=hs.1;have:=cntS_eq ts;omega
  have HL:Hid (len=ts.length):=hs.1
  obtain ⟨X,hX⟩:∃ X,X=(((w.alloc (.cells #[.int .i64 k,.int .i64 n,.slice ao len capA] 31)).alloc (.cells #[.int .i64 0,.int .i64 0,.slice none 0 0] 31)).alloc (.cells #[.int .i64 k,.int .i64 n,.slice none 0 0] 31)):=⟨_,rfl⟩
  have hXs:X.heap.size=w.heap.size+3:=by rw [hX];simp
  have hXb:Below w.heap.size w X:=by rw [hX];exact (((Below.refl _ _).alloc (Nat.le_refl _) _).alloc (by simp) _).alloc (by simp;omega) _
  have hX0:X.heap[w.heap.size]?=some (.cells #[.int .i64 k,.int .i64 n,.slice ao len capA] 31 (0,0)):=by rw [hX,Below.heap_alloc _ _ _ (by simp only [World.size_alloc];omega),Below.heap_alloc _ _ _ (by simp only [World.size_alloc];omega)];exact heap_new rfl
  have hX2:X.heap[w.heap.size+1+1]?=some (.cells #[.int .i64 k,.int .i64 n,.slice none 0 0] 31 (0,0)):=by rw [hX];exact heap_new (by simp)
  have hX1:X.heap[w.heap.size+1]?=some (.cells #[.int .i64 0,.int .i64 0,.slice none 0 0] 31 (0,0)):=by rw [hX,Below.heap_alloc _ _ _ (by simp only [World.size_alloc];omega)];exact heap_new (by simp)
  have HX:Hid (X=_):=hX
  have hStart:LcRel w X d 0 #[.int .i64 k,.int .i64 n,.slice ao len capA] #[] (.slice none 0 0) k n w.heap.size (w.heap.size+1+1) ts:=⟨hXb,hX0,hX2,ap_nil _ _ _ _⟩
  have HX1:Hid (_=_):=hX1
  clear hX hX0 hX1 hX2
  go_enter Tryz.func44,Tryz.ntmps44
  go_wp2_with fail
  rw [← HX.out]
  go_loopw [4] (fun i wr=>∃ (j:Nat) (v:Value),j≤len∧i=.int .i64 j∧Below (w.heap.size+1+1) X wr∧LcRel w wr d j #[.int .i64 k,.int .i64 n,.slice ao len capA] #[] v k n w.heap.size (w.heap.size+1+1) ts) (fun i _=>len - (intOf i).toNat)
  case atStart=>exact ⟨0,_,by omega,rfl,Below.refl _ _,hStart⟩
  case round =>
    obtain ⟨j,v,hj,rfl,hbX,hR⟩:=hrel
    have hbel:=hR.bel
    have hszr:w.heap.size+3≤wr.heap.size:=by have:=hbX.size;omega
    obtain ⟨x0,x1,x2⟩:=box_cells hR.hbox
    obtain ⟨y0,y1,y2⟩:=box_cells hR.hout
    clear x0 x1
    by_cases hlt:j < len
    · have hlt':j < ts.length:=by have:=HL.out;omega
      obtain ⟨b,o,rfl,_,hbB,ao1,len1,cap1,c0,c1,c2,hs1⟩:=hs.2.2 j hlt'
      have e0:=(bcell hbel (by omega) _).trans c0
      have e1:=(bcell hbel (by omega) _).trans c1
      have e2:=(bcell hbel (by omega) _).trans c2
      have hs2:=(hs1.below hbel hB).drew
      have hc1:=cntS_get ts j hlt'
      have hapd:ApRel (w.heap.size+1+1+1) wr.drew d v j ts:=ap_below hR.ap (Below.refl _ _).drew
      have APR:Hid (∀ (w1:World) (ao3:Option Addr) (len3 cap3:Nat),Below wr.drew.heap.size wr.drew w1→OwR wr.drew.heap.size w1.heap.size w1 d ao3 len3 ts[j].A→∃ g cap w2,(Builtin.append_ #[29,29] 29 #[v,.slice (some ⟨w1.heap.size,0,none⟩) 1 1]).run Tryz.prog (w1.alloc (.cells #[.int .i64 ts[j].K,.int .i64 ts[j].N,.slice ao3 len3 cap3] 31))=.ok (.slice (some ⟨g,0,none⟩) (j+1) cap) w2 ∧
          LcRel w (w2.setCell ⟨w.heap.size+1+1,2,none⟩ (.slice (some ⟨g,0,none⟩) (j+1) cap)) d (j+1) #[.int .i64 k,.int .i64 n,.slice (some ⟨b,o,none⟩) len capA] #[] (.slice (some ⟨g,0,none⟩) (j+1) cap) k n w.heap.size (w.heap.size+1+1) ts∧Below (w.heap.size+1+1) X (w2.setCell ⟨w.heap.size+1+1,2,none⟩ (.slice (some ⟨g,0,none⟩) (j+1) cap)) ∧
          w2.cell? ⟨w.heap.size+1+1,2,none⟩=some v∧w2.frozen? ⟨w.heap.size+1+1,2,none⟩=false):=by
        intro w1 ao3 len3 cap3 hb1 ho1
        obtain ⟨g,cp,w2,hrun,hap2,hbe2⟩:=ap_run hapd hlt' (by have:=HL.out;omega) hb1 (show w.heap.size+1+1+1≤wr.heap.size by omega) ho1
        have hbe3:Below (w.heap.size+1+1+1) wr w2:=(Below.refl _ _).drew.trans hbe2
        have q:=(hbe3.block (w.heap.size+1+1) (by omega)).trans hR.hout
        refine ⟨g,cp,w2,hrun,⟨(hbel.trans (hbe3.mono (by omega))).setCell (p:=⟨w.heap.size+1+1,2,none⟩) (show w.heap.size≤w.heap.size+1+1 by omega) _,?_,?_,ap_set hap2 (by omega) _⟩,(hbX.trans (hbe3.mono (by omega))).setCell (p:=⟨w.heap.size+1+1,2,none⟩) (Nat.le_refl _) _,(box_cells q).2.2,row_free q 2⟩
        · rw [row_other _ _ _ (by omega)]
          exact (hbe3.block w.heap.size (by omega)).trans hR.hbox
        · rw [row_set q]
          rfl
      clear c0 c1 c2
      go_wp2_with fail
      go_region_law (first | (refine step_run hrun (by rfl) _ _ (by rfl) (by rfl) (by rfl) (by rfl) ?_) | (go_simp;go_at_call 44;refine (IH L B _ _ _ _ _ (ts[j]'hlt').A _ ?_ hs2 ?_).mono ?_;(show B≤wr.heap.size;omega);omega;rintro e w1 ⟨ao3,len3,cap3,rfl,hb1,ho1⟩;have hz1:w.heap.size+1+1 < w1.heap.size:=Nat.lt_of_lt_of_le (show w.heap.size+1+1 < wr.heap.size by omega) hb1.size;have a2:=(bcell hb1 (show w.heap.size+1+1 < wr.heap.size by omega) 2).trans y2;have a3:(w1.alloc (.cells #[.int .i64 ts[j].K,.int .i64 ts[j].N,.slice ao3 len3 cap3] 31)).cell? ⟨w.heap.size+1+1,2,none⟩=some v:=(World.cell?_of_block (Below.heap_alloc _ _ _ hz1)).trans a2;obtain ⟨g,cp,w2,hrun,hN,hbX2,q2,q3⟩:=APR.out w1 ao3 len3 cap3 hb1 ho1))
      all_goals
        clear e0 e1 e2 y0 y1 y2 x2 a2 a3 hrun q2 q3
        go_wp2_with fail
        go_roundw
        case rel=>exact ⟨j+1,_,by omega,by go_num,hbX2,hN⟩
        case measure=>simp [intOf];omega
    · obtain ⟨ao2,cap2,rfl,ho2⟩:=ap_done hR.ap (by have:=HL.out;omega) (by omega)
      have r:=(hbX.block (w.heap.size+1) (by omega)).trans HX1.out
      obtain ⟨r0,r1,r2⟩:=box_cells r
      have r3:=row_free r
      clear r
      go_wp2_with fail
      obtain rfl:j=len:=by omega
      refine bodyPost_ret (v:=.agg #[.int .i64 k,.int .i64 n,.slice ao2 j cap2]) (by simp [results,Tryz.results44,go_sem,r0,r1,r2]) rfl ⟨ao2,j,cap2,rfl,?_,?_⟩
      · exact set3_below hbel (by omega)
      · refine ho2.keep (fun q hq _=>?_) (by omega) (by simp)
        rw [row_other _ _ _ (by omega),row_other _ _ _ (by omega),row_other _ _ _ (by omega)]
set_option maxHeartbeats 400000 in
theorem lc_zero:SaidLc 0:=by
  intro L B k n ao len cap ts w hB hs hcnt
  obtain ⟨rfl,rfl⟩:=hs
  go_enter Tryz.func44,Tryz.ntmps44
  go_wp2_with fail
  refine wp_loop_rounds 1 ?_;rw [rounds_succ]
  go_wp2_with fail
  refine bodyPost_ret (v:=.agg #[.int .i64 k,.int .i64 n,.slice none 0 0]) (by simp [results,Tryz.results44,go_sem]) rfl ⟨none,0,0,rfl,?_,OwR.nil _ _ _ _ _⟩
  exact (((Below.refl _ _).alloc (Nat.le_refl _) _).alloc (by simp) _).alloc (by simp;omega) _
theorem lc_any:∀ d,SaidLc d:=by
  intro d
  induction d with
  | zero=>exact lc_zero
  | succ d ih=>exact lc_succ d ih
end Go.Proofs.YtcepgedbmffkdaaGreat

/-
  The model's 'l2CopyTys', 'l2Copy': the same in memory of its own.
-/
namespace Go.Proofs.YtcepgedbmffkdaaGreat
open Go.RowKit
set_option linter.unusedVariables false
set_option linter.unusedSimpArgs false
theorem ap_emp {base:Nat} {w:World} {d b:Nat} (ts:List Tr) (h:w.heap[b]?=some (.cells #[] 31 (0,0))) (hb:base≤b):ApRel base w d (.slice (some ⟨b,0,none⟩) 0 0) 0 ts :=
  ⟨[],⟨by simp,Or.inr ⟨b,0,#[],by simp,hb,h,by simp,by simp,by simp,by simp⟩⟩,[],rfl,by simp,by simp,fun i hi=>by simp at hi⟩
set_option maxRecDepth 100000 in
set_option maxHeartbeats 2000000 in
theorem l2CopyTys_any (D L B:Nat) (ao:Option Addr) (len cap:Nat) (ts:List Tr) (w:World) (hB:B≤w.heap.size) (hs0:Hs L B w D ao len ts) (hcnt:cntS ts≤1048576) :
    Calls Tryz.prog 45 #[.slice ao len cap] w fun e w'=>∃ ao2 cap2,e=.returned (.slice ao2 len cap2)∧Below w.heap.size w w'∧OwR w.heap.size w'.heap.size w' (D+1) ao2 len ts:=by
  have hs:Hs L B w (D+1) ao len ts:=hs0.deeper (by omega)
  have hl:len≤1048576:=by have:=hs.1;have:=cntS_eq ts;omega
  have HL:Hid (len=ts.length):=hs.1
  obtain ⟨W,hW⟩:∃ W,W=w.alloc (.cells #[] 31):=⟨_,rfl⟩
  have hWb:Below w.heap.size w W:=by rw [hW];exact (Below.refl _ _).alloc (Nat.le_refl _) _
  have hW0:W.heap[w.heap.size]?=some (.cells #[] 31 (0,0)):=by rw [hW];exact heap_new rfl
  have HW:Hid (W=_):=hW
  clear hW hs0
  go_enter Tryz.func45,Tryz.ntmps45
  go_wp2_with fail
  rw [← HW.out]
  go_loopw [3,4] (fun v i wr=>∃ (j:Nat) (aj:Option Addr) (cj:Nat),j≤len∧i=.int .i64 j∧v=.slice aj j cj∧ApRel w.heap.size wr D (.slice aj j cj) j ts∧Below w.heap.size w wr) (fun _ i _=>len - (intOf i).toNat)
  case atStart=>exact ⟨0,_,_,by omega,rfl,rfl,ap_emp ts hW0 (Nat.le_refl _),hWb⟩
  case round =>
    obtain ⟨j,aj,cj,hj,rfl,rfl,hap,hbr⟩:=hrel
    have hszr:=hbr.size
    by_cases hlt:j < len
    · have hlt':j < ts.length:=by have:=HL.out;omega
      obtain ⟨b,o,rfl,_,hbB,ao1,len1,cap1,c0,c1,c2,hs1⟩:=hs.2.2 j hlt'
      have e0:=(bcell hbr (by omega) _).trans c0
      have e1:=(bcell hbr (by omega) _).trans c1
      have e2:=(bcell hbr (by omega) _).trans c2
      have hs2:=hs1.below hbr hB
      have hc1:=cntS_get ts j hlt'
      have APR:Hid (∀ (w1:World) (ao3:Option Addr) (len3 cap3:Nat),Below wr.heap.size wr w1→OwR wr.heap.size w1.heap.size w1 D ao3 len3 ts[j].A→∃ g cap w2,(Builtin.append_ #[29,29] 29 #[.slice aj j cj,.slice (some ⟨w1.heap.size,0,none⟩) 1 1]).run Tryz.prog (w1.alloc (.cells #[.int .i64 ts[j].K,.int .i64 ts[j].N,.slice ao3 len3 cap3] 31))=.ok (.slice (some ⟨g,0,none⟩) (j+1) cap) w2∧ApRel w.heap.size w2 D (.slice (some ⟨g,0,none⟩) (j+1) cap) (j+1) ts∧Below w.heap.size w w2):=by
        intro w1 ao3 len3 cap3 hb1 ho1
        obtain ⟨g,cp,w2,hrun,hap2,hbe2⟩:=ap_run hap hlt' (by have:=HL.out;omega) hb1 (by omega) ho1
        exact ⟨g,cp,w2,hrun,hap2,hbr.trans hbe2⟩
      clear c0 c1 c2 hs1
      go_wp2_with fail
      refine (lc_any D L B _ _ _ _ _ ts[j].A wr (by omega) hs2 (by omega)).mono ?_
      rintro e w1 ⟨ao3,len3,cap3,rfl,hb1,ho1⟩
      obtain ⟨g,cp,w2,hrun,hap2,hbr2⟩:=APR.out w1 ao3 len3 cap3 hb1 ho1
      clear e0 e1 e2
      go_wp2_with (at_builtin;refine list_run hrun (by rfl) _ _ (by rfl) (by rfl) (by rfl) (by rfl) ?_)
      clear hrun
      go_roundw
      case rel=>exact ⟨j+1,_,_,by omega,by go_num,rfl,hap2,hbr2⟩
      case measure=>simp [intOf];omega
    · have hjl:j=len:=by omega
      have HJ:Hid (j=len):=hjl
      clear hjl
      go_wp2_with fail
      go_ret
      have hjl:=HJ.out
      subst hjl
      obtain ⟨a',c',ev,ho⟩:=ap_done hap HL.out (by omega)
      injection ev with ev1 _ ev3
      subst ev1
      subst ev3
      exact ⟨_,_,rfl,hbr,ho⟩
end Go.Proofs.YtcepgedbmffkdaaGreat
