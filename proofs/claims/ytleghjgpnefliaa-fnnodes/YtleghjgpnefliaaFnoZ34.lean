/-
  What the program's 'termNodesWithin', 'NodesOf', 'TermOk' come to.
-/
import Derived.Test.YtleghjgpnefliaaFnoZ32
import Derived.Test.YtleghjgpnefliaaFnoOne
import Derived.Test.YtleghjgpnefliaaFnoZ15
import Derived.Test.YtleghjgpnefliaaFnoZ2
namespace Go.Proofs.Ytleghjgpnefliaa
open Go.RowKit Go.PlainAid
set_option linter.unusedVariables false
set_option linter.unusedSimpArgs false
def SaidNM (l:Nat):Prop:=∀ (D d L B:Nat) (t:Tm) (a1:Option Addr) (l1 c1:Nat) (a2:Option Addr) (l2 c2:Nat) (a3:Option Addr) (l3 c3:Nat) (most:Nat) (w:World),B≤w.heap.size->Fm L B w D d t a1 l1 a2 l2 a3 l3->most≤150 →
    Calls Try.prog 27 #[.agg #[.int .i64 t.K,.int .i64 t.N,.string t.S,.string t.Z,.int .i64 t.T.K,.int .i64 t.T.N,.slice a1 l1 c1,.slice a2 l2 c2,.slice a3 l3 c3],.int .i64 l,.int .i64 most] w fun e w' =>
     e=.returned (.tuple #[.int .i64 ((lid most (Qan l t)).getD 0),.bool (lid most (Qan l t)).isSome])∧Below w.heap.size w w'
theorem lid_zero (l:Nat) (t:Tm):lid 0 (Qan l t)=none:=by
 cases h:Qan l t with
 | none=>rfl
 | some m=>have:=nodesM_pos l t m h;simp [lid];omega
theorem lid_no {most:Nat} {o:Option Nat} (h:∀ m,o=some m->most<m):lid most o=none:=by
 cases o with
 | none=>rfl
 | some m=>have:=h m rfl;simp [lid];omega
theorem lid_yes {most m:Nat} {o:Option Nat} (h:o=some m) (hm:m≤most):lid most o=some m:=by subst h;simp [lid,hm]
set_option maxHeartbeats 400000 in
theorem nm_zero:SaidNM 0:=by
 intro D d L B t a1 l1 c1 a2 l2 c2 a3 l3 c3 most w hB hf hm
 go_enter Try.func27,Try.ntmps27
 go_wp2_with fail
 go_ret2
 exact⟨rfl,(Below.refl _ _).alloc (Nat.le_refl _) _⟩
set_option maxHeartbeats 800000 in
theorem nm_succ (l:Nat) (hl24:l<24) (IH:SaidNM l):SaidNM (l+1):=by
 intro D d L B t a1 l1 c1 a2 l2 c2 a3 l3 c3 most w hB hf hm
 have hl:=hf.m.len.2
 have HL:Hid (l3=t.A.length):=hf.m.len.1
 have hbel:Below w.heap.size w (w.alloc (.cells #[.int .i64 t.K,.int .i64 t.N,.string t.S,.string t.Z,.int .i64 t.T.K,.int .i64 t.T.N,.slice a1 l1 c1,.slice a2 l2 c2,.slice a3 l3 c3] 29)):=(Below.refl _ _).alloc (Nat.le_refl _) _
 have hfa:=Fm.below hbel hB hf
 have hl0:(((l:Int)+1)==0)=false:=by simp;omega
 by_cases hm0:most=0
 · subst hm0
   have HO:Hid (lid 0 (Qan (l+1) t)=none):=lid_zero _ _
   go_enter Try.func27,Try.ntmps27
   go_wp2_with fail
   go_ret2
   rw [HO.out]
   exact⟨rfl,hbel⟩
 have hmb:((most:Int)==0)=false:=by rw [beq_eq_false_iff_ne];omega
 cases hok:Qaz t with
 | false =>
   have HO:Hid (lid most (Qan (l+1) t)=none):=by show _=_;simp only [Qan];rw [hok];rfl
   have HK:Hid (Qaz t=false):=hok
   clear hok
   go_enter Try.func27,Try.ntmps27
   go_wp2_with fail
   refine (termNodeOk_any D d L B t _ _ _ _ _ _ _ _ _ _ (by simp;omega) hfa).mono ?_
   rintro e w1 ⟨rfl,hb1⟩
   rw [HK.out]
   go_wp2_with fail
   go_ret2
   rw [HO.out]
   exact⟨rfl,hbel.trans (hb1.mono (by simp))⟩
 | true =>
   have HO:Hid (Qan (l+1) t=(Qax (Qan l) t.A).map (1+·)):=by show _=_;simp only [Qan];rw [hok];rfl
   have hlen3:=nodeM_len hok
   have HK:Hid (Qaz t=true):=hok
   clear hok
   go_enter Try.func27,Try.ntmps27
   go_wp2_with fail
   refine (termNodeOk_any D d L B t _ _ _ _ _ _ _ _ _ _ (by simp;omega) hfa).mono ?_
   rintro e w1 ⟨rfl,hb1⟩
   rw [HK.out]
   have hbelw:Below w.heap.size w w1:=hbel.trans (hb1.mono (by simp))
   have hsz1:=hb1.size
   have f8:=(Nine.box ((hb1.block w.heap.size (by simp)).trans (Qac rfl))).c8
   simp only [World.size_alloc,Nat.zero_add] at hsz1 f8
   clear hbel hfa
   go_wp2_with fail
   go_loopw [8,27] (fun v i wr=>∃ j m:Nat,j≤l3∧i=.int .i64 j∧Hid (Qax (Qan l) (t.A.take j)=some m)∧v=.int .i64 (1+m)∧1+m≤most∧Below w1.heap.size w1 wr) (fun _ i _=>l3 - (intOf i).toNat)
   case atStart=>exact⟨0,0,by omega,rfl,rfl,rfl,by omega,Below.refl _ _⟩
   case round =>
    obtain⟨j,m,hj,rfl,HM,rfl,hmm,hbr⟩:=hrel
    have hszr:=hbr.size
    by_cases hlt:j<l3
    · have hlt':j<t.A.length:=by have:=HL.out;omega
      obtain⟨b,o,rfl,_,hbB,b1,m1,d1,b2,m2,d2,b3,m3,d3,h9,hf1⟩:=hf.m.get j hlt'
      have hbw:Below w.heap.size w wr:=hbelw.trans (hbr.mono (by omega))
      obtain⟨e0,e1,e2,e3,e4,e5,e6,e7,e8⟩:=h9.below hbw (by omega)
      have hba:Below w.heap.size w (wr.alloc (.cells #[.int .i64 t.A[j].K,.int .i64 t.A[j].N,.string t.A[j].S,.string t.A[j].Z,.int .i64 t.A[j].T.K,.int .i64 t.A[j].T.N,.slice b1 m1 d1,.slice b2 m2 d2,.slice b3 m3 d3] 29)):=hbw.alloc (by omega) _
      have hf2:=Fm.below hba hB hf1
      have HF0:=nodesG_take (Qan l) t.A j hlt' m HM.out
      obtain⟨mo,hmo⟩:∃ mo:Nat,mo=most - (1+m):=⟨_,rfl⟩
      have hmo2:(most:Int) - (1+m)=mo:=by omega
      have HMO:Hid (mo=most - (1+m)):=hmo
      have hmo150:mo≤150:=by omega
      clear hmo
      cases hf:lid mo (Qan l t.A[j]) with
      | none =>
        have HN:Hid (lid most (Qan (l+1) t)=none):=by
         show _=_
         rw [HO.out]
         cases hq:Qan l t.A[j] with
         | none=>rw [Qej _ _ j hlt' hq];rfl
         | some a =>
           have ha:mo<a:=by
            rw [hq] at hf
            simp only [lid] at hf
            split at hf
            · cases hf
            · omega
           refine lid_no fun m' hm'=>?_
           cases hs:Qax (Qan l) t.A with
           | none=>rw [hs] at hm';cases hm'
           | some s =>
             rw [hs] at hm'
             simp only [Option.map_some,Option.some.injEq] at hm'
             have:=nodesG_part _ _ j hlt' m a s HM.out hq hs
             have:=HMO.out
             omega
        have HF:Hid (lid mo (Qan l t.A[j])=none):=hf
        clear hf HF0
        go_wp2_with fail
        refine (IH D (d - 1) L B t.A[j] _ _ _ _ _ _ _ _ _ mo _ (by simp;omega) hf2 hmo150).mono ?_
        rintro e w2 ⟨rfl,hb2⟩
        rw [HF.out]
        simp only [Option.getD_none,Option.isSome_none]
        go_wp2_with fail
        go_ret2
        rw [HN.out]
        exact⟨rfl,hba.trans (hb2.mono (by simp;omega))⟩
      | some a =>
        have ha:Qan l t.A[j]=some a∧a≤mo:=by
         cases hq:Qan l t.A[j] with
         | none=>rw [hq] at hf;cases hf
         | some a' =>
           rw [hq] at hf
           simp only [lid] at hf
           split at hf
           · simp only [Option.some.injEq] at hf;subst hf;exact⟨rfl,by assumption⟩
           · cases hf
        rw [ha.1] at HF0
        have HF2:Hid (Qax (Qan l) (t.A.take (j+1))=some (m+a)):=HF0
        have HF:Hid (lid mo (Qan l t.A[j])=some a):=hf
        have hamo:a≤mo:=ha.2
        have hle:1+m+a≤most:=by have:=HMO.out;omega
        clear hf HF0 ha
        go_wp2_with fail
        refine (IH D (d - 1) L B t.A[j] _ _ _ _ _ _ _ _ _ mo _ (by simp;omega) hf2 hmo150).mono ?_
        rintro e w2 ⟨rfl,hb2⟩
        rw [HF.out]
        have hbr2:Below w1.heap.size w1 w2:=(hbr.alloc (by omega) _).trans (hb2.mono (by simp;omega))
        simp only [Option.getD_some,Option.isSome_some]
        go_wp2_with fail
        go_roundw
        case rel=>exact⟨j+1,m+a,by omega,by go_num,HF2,by go_num,by omega,hbr2⟩
        case measure=>simp [intOf];omega
    · have HK2:Hid (lid most (Qan (l+1) t)=some (1+m)):=by
       have h1:=HL.out
       have h2:=HM.out
       rw [List.take_of_length_le (by omega)] at h2
       exact lid_yes (by rw [HO.out,h2];rfl) hmm
      go_wp2_with fail
      go_ret2
      rw [HK2.out]
      exact⟨rfl,hbelw.trans (hbr.mono (by omega))⟩
theorem nm_any:∀ l,l≤24->SaidNM l:=by
 intro l
 induction l with
 | zero=>intro _;exact nm_zero
 | succ l ih=>intro h;exact nm_succ l (by omega) (ih (by omega))
set_option maxHeartbeats 400000 in
theorem nodesOf_any (D d L B:Nat) (t:Tm) (a1:Option Addr) (l1 c1:Nat) (a2:Option Addr) (l2 c2:Nat) (a3:Option Addr) (l3 c3:Nat) (w:World) (hB:B≤w.heap.size) (hf:Fm L B w D d t a1 l1 a2 l2 a3 l3) :
 Calls Try.prog 14 #[.agg #[.int .i64 t.K,.int .i64 t.N,.string t.S,.string t.Z,.int .i64 t.T.K,.int .i64 t.T.N,.slice a1 l1 c1,.slice a2 l2 c2,.slice a3 l3 c3]] w fun e w'=>e=.returned (.int .i64 (Qcp t))∧Below w.heap.size w w':=by
 have hbel:Below w.heap.size w (w.alloc (.cells #[.int .i64 t.K,.int .i64 t.N,.string t.S,.string t.Z,.int .i64 t.T.K,.int .i64 t.T.N,.slice a1 l1 c1,.slice a2 l2 c2,.slice a3 l3 c3] 29)):=(Below.refl _ _).alloc (Nat.le_refl _) _
 have hf1:=Fm.below hbel hB hf
 cases hq:lid 150 (Qan 24 t) with
 | none =>
   have HN:Hid (Qcp t=0):=by show _=_;simp [Qcp,hq]
   have HF:Hid (lid 150 (Qan 24 t)=none):=hq
   clear hq
   go_enter Try.func14,Try.ntmps14
   go_wp2_with fail
   refine (nm_any 24 (by omega) D d L B t _ _ _ _ _ _ _ _ _ 150 _ (by simp;omega) hf1 (by omega)).mono ?_
   rintro e w2 ⟨rfl,hb2⟩
   rw [HF.out]
   simp only [Option.getD_none,Option.isSome_none]
   go_wp2_with fail
   go_ret
   rw [HN.out]
   exact⟨rfl,hbel.trans (hb2.mono (by simp))⟩
 | some m =>
   have HN:Hid (Qcp t=m):=by show _=_;simp [Qcp,hq]
   have HF:Hid (lid 150 (Qan 24 t)=some m):=hq
   clear hq
   go_enter Try.func14,Try.ntmps14
   go_wp2_with fail
   refine (nm_any 24 (by omega) D d L B t _ _ _ _ _ _ _ _ _ 150 _ (by simp;omega) hf1 (by omega)).mono ?_
   rintro e w2 ⟨rfl,hb2⟩
   rw [HF.out]
   simp only [Option.getD_some,Option.isSome_some]
   go_wp2_with fail
   go_ret
   rw [HN.out]
   exact⟨rfl,hbel.trans (hb2.mono (by simp))⟩
theorem okM_pos (t:Tm):okM t=decide (0<(Qcp t:Int)):=by
 unfold okM Qcp
 cases hq:Qan 24 t with
 | none=>rfl
 | some m =>
   have:=nodesM_pos 24 t m hq
   simp only [lid]
   split
   · simp;omega
   · rfl
set_option maxHeartbeats 400000 in
theorem termOk_any (D d L B:Nat) (t:Tm) (a1:Option Addr) (l1 c1:Nat) (a2:Option Addr) (l2 c2:Nat) (a3:Option Addr) (l3 c3:Nat) (w:World) (hB:B≤w.heap.size) (hf:Fm L B w D d t a1 l1 a2 l2 a3 l3) :
 Calls Try.prog 22 #[.agg #[.int .i64 t.K,.int .i64 t.N,.string t.S,.string t.Z,.int .i64 t.T.K,.int .i64 t.T.N,.slice a1 l1 c1,.slice a2 l2 c2,.slice a3 l3 c3]] w fun e w'=>e=.returned (.bool (okM t))∧Below w.heap.size w w':=by
 have hbel:Below w.heap.size w (w.alloc (.cells #[.int .i64 t.K,.int .i64 t.N,.string t.S,.string t.Z,.int .i64 t.T.K,.int .i64 t.T.N,.slice a1 l1 c1,.slice a2 l2 c2,.slice a3 l3 c3] 29)):=(Below.refl _ _).alloc (Nat.le_refl _) _
 have hf1:=Fm.below hbel hB hf
 have HP:Hid (okM t=decide (0<(Qcp t:Int))):=okM_pos t
 go_enter Try.func22,Try.ntmps22
 go_wp2_with fail
 refine (nodesOf_any D d L B t _ _ _ _ _ _ _ _ _ _ (by simp;omega) hf1).mono ?_
 rintro e w2 ⟨rfl,hb2⟩
 go_wp2_with fail
 go_ret
 exact⟨Qak (by rw [HP.out];try simp),hbel.trans (hb2.mono (by simp))⟩
def lookM (l c:Nat) (t:Tm):Bool:=match Qan l t with|some m=>decide (c+m≤150)|none=>false
theorem Fm.grown {L B p:Nat} {w w':World} {D d:Nat} (hg:w.grownBy w' (some p)) (hB:B≤p) (hp:p<w.heap.size) {t:Tm} {a1 a2 a3:Option Addr} {l1 l2 l3:Nat} (h:Fm L B w D d t a1 l1 a2 l2 a3 l3):Fm L B w' D d t a1 l1 a2 l2 a3 l3 :=
 Fm.keep (fun k _ hk=>hg.block k (by omega) (by simp;omega)) (Nat.le_refl _) (Nat.le_refl _) h
theorem grown_then {w w' w'':World} {p:Nat} (hg:w.grownBy w' (some p)) (hb:Below w'.heap.size w' w''):w.grownBy w'' (some p) :=
 ⟨hb.os.trans hg.os,hb.tape.trans hg.tape,hb.output.trans hg.output,Nat.le_trans hg.size hb.size,fun i hi hr=>(hb.block i (Nat.lt_of_lt_of_le hi hg.size)).trans (hg.block i hi hr)⟩
theorem lkm_world {w:World} {p:Nat} {v:Value} {t:TypeId} (hcell:w.heap[p]?=some (.cells #[v] t (0,0))) (hp:p<w.heap.size) (u:Value) (cs:Array Value) (t':TypeId) :
 w.grownBy ((w.setCell ⟨p,0,none⟩ u).alloc (.cells cs t')) (some p)∧((w.setCell ⟨p,0,none⟩ u).alloc (.cells cs t')).heap[p]?=some (.cells #[u] t (0,0)) ∧
 ((w.setCell ⟨p,0,none⟩ u).alloc (.cells cs t')).heap[w.heap.size]?=some (.cells cs t' (0,0)):=by
 refine⟨⟨rfl,rfl,rfl,?_,?_⟩,?_,?_⟩
 · simp
 · intro k hk hr
   rw [Below.heap_alloc _ _ _ (by simpa using hk),Qah _ _ _ (by simpa using hr)]
 · rw [Below.heap_alloc _ _ _ (by simpa using hp),Qas hcell]
   rfl
 · exact Qac (by simp)
def SaidLkM (l:Nat):Prop:=∀ (D d L B p c:Nat) (t:Tm) (a1:Option Addr) (l1 c1:Nat) (a2:Option Addr) (l2 c2:Nat) (a3:Option Addr) (l3 c3:Nat) (w:World),B≤p->p<w.heap.size->w.heap[p]?=some (.cells #[.int .i64 c] 3 (0,0))->c≤150->Fm L B w D d t a1 l1 a2 l2 a3 l3 →
    Calls Try.prog 53 #[.agg #[.int .i64 t.K,.int .i64 t.N,.string t.S,.string t.Z,.int .i64 t.T.K,.int .i64 t.T.N,.slice a1 l1 c1,.slice a2 l2 c2,.slice a3 l3 c3],.int .i64 l,.pointer (some ⟨p,0,none⟩)] w fun e w' =>
     e=.returned (.bool (lookM l c t))∧w.grownBy w' (some p)∧∃ c':Int,w'.heap[p]?=some (.cells #[.int .i64 c'] 3 (0,0))∧(∀ m,Qan l t=some m->c+m≤150->c'=c+m)
theorem lookM_no {l c:Nat} {t:Tm} (h:lookM l c t=false):∀ m,Qan l t=some m->c+m≤150->False:=by
 intro m hm hle
 simp only [lookM,hm,decide_eq_false_iff_not] at h
 exact h hle
theorem lookM_some {l c m:Nat} {t:Tm} (h:Qan l t=some m):lookM l c t=decide (c+m≤150):=by simp [lookM,h]
theorem lookM_deep {l c:Nat} {t:Tm} (h:Qaz t=false):lookM (l+1) c t=false:=by simp [lookM,Qan,h]
theorem lookM_full {l c:Nat} {t:Tm} (h:150<c+1):lookM l c t=false:=by
 unfold lookM
 split
 · rename_i m hm
   have:=nodesM_pos _ _ _ hm
   simp;omega
 · rfl
set_option maxHeartbeats 400000 in
theorem lkm_zero:SaidLkM 0:=by
 intro D d L B p c t a1 l1 c1 a2 l2 c2 a3 l3 c3 w hBp hp hcell hc hf
 have f:=Qaa hcell 0
 have r:=Qad hcell 0
 simp at f
 have hpn:¬ w.heap.size=p:=by omega
 have HWW:Hid (_∧_∧_):=lkm_world hcell hp (.int .i64 ((c:Int)+1)) #[.int .i64 t.K,.int .i64 t.N,.string t.S,.string t.Z,.int .i64 t.T.K,.int .i64 t.T.N,.slice a1 l1 c1,.slice a2 l2 c2,.slice a3 l3 c3] 29
 clear hcell
 go_enter Try.func53,Try.ntmps53
 go_wp2_with fail
 go_ret
 exact⟨Qak rfl,HWW.out.1,_,HWW.out.2.1,fun m hm=>by simp [Qan] at hm⟩
structure LkRelM (w wr:World) (l p c j:Nat) (cs:Array Value) (m:Nat) (ts:List Tm):Prop where
 grown:w.grownBy wr (some p)
 box:wr.heap[w.heap.size]?=some (.cells cs 29 (0,0))
 cell:wr.heap[p]?=some (.cells #[.int .i64 ((c:Int)+1+m)] 3 (0,0))
 nodes:Qax (Qan l) (ts.take j)=some m
set_option maxHeartbeats 1000000 in
theorem lkm_succ (l:Nat) (hl24:l<24) (IH:SaidLkM l):SaidLkM (l+1):=by
 intro D d L B p c t a1 l1 c1 a2 l2 c2 a3 l3 c3 w hBp hp hcell hc hf
 have hll:=hf.m.len.2
 have HL:Hid (l3=t.A.length):=hf.m.len.1
 have f:=Qaa hcell 0
 have r:=Qad hcell 0
 simp at f
 have hpn:¬ w.heap.size=p:=by omega
 obtain⟨X,hX⟩:∃ X,X=(w.setCell ⟨p,0,none⟩ (.int .i64 ((c:Int)+1))).alloc (.cells #[.int .i64 t.K,.int .i64 t.N,.string t.S,.string t.Z,.int .i64 t.T.K,.int .i64 t.T.N,.slice a1 l1 c1,.slice a2 l2 c2,.slice a3 l3 c3] 29):=⟨_,rfl⟩
 have hXW:=lkm_world hcell hp (.int .i64 ((c:Int)+1)) #[.int .i64 t.K,.int .i64 t.N,.string t.S,.string t.Z,.int .i64 t.T.K,.int .i64 t.T.N,.slice a1 l1 c1,.slice a2 l2 c2,.slice a3 l3 c3] 29
 rw [← hX] at hXW
 have hXs:X.heap.size=w.heap.size+1:=by rw [hX];simp
 have HWW:Hid (_∧_∧_):=hXW
 have HX:Hid (X=_):=hX
 have HXs:Hid (_=_):=hXs
 clear hcell hX hXW hXs
 have hl0:(((l:Int)+1)==0)=false:=by simp;omega
 by_cases hfull:150<c+1
 · have HO:Hid (lookM (l+1) c t=false):=lookM_full hfull
   have h150:decide (150<(c:Int)+1)=true:=by simp;omega
   go_enter Try.func53,Try.ntmps53
   go_wp2_with fail
   go_ret
   rw [← HX.out]
   exact⟨Qak HO.out.symm,HWW.out.1,_,HWW.out.2.1,fun m hm hle=>(lookM_no HO.out m hm hle).elim⟩
 have h150:decide (150<(c:Int)+1)=false:=by simp;omega
 have hfX:=Fm.grown HWW.out.1 hBp hp hf
 cases hok:Qaz t with
 | false =>
   have HO:Hid (lookM (l+1) c t=false):=lookM_deep hok
   have HK:Hid (Qaz t=false):=hok
   clear hok
   go_enter Try.func53,Try.ntmps53
   go_wp2_with fail
   rw [← HX.out]
   refine (l2One_any D d L B t _ _ _ _ _ _ _ _ _ _ (by have:=HXs.out;omega) hfX).mono ?_
   rintro e w1 ⟨rfl,hb1⟩
   rw [HK.out]
   go_wp2_with fail
   go_ret
   exact⟨Qak HO.out.symm,grown_then HWW.out.1 hb1,_,(hb1.block p (by have:=HXs.out;omega)).trans HWW.out.2.1,fun m hm hle=>(lookM_no HO.out m hm hle).elim⟩
 | true =>
   have HO:Hid (Qan (l+1) t=(Qax (Qan l) t.A).map (1+·)):=by show _=_;simp only [Qan];rw [hok];rfl
   have hlen3:=nodeM_len hok
   have HK:Hid (Qaz t=true):=hok
   clear hok
   go_enter Try.func53,Try.ntmps53
   go_wp2_with fail
   rw [← HX.out]
   refine (l2One_any D d L B t _ _ _ _ _ _ _ _ _ _ (by have:=HXs.out;omega) hfX).mono ?_
   rintro e w1 ⟨rfl,hb1⟩
   rw [HK.out]
   have hR0:LkRelM w w1 l p c 0 #[.int .i64 t.K,.int .i64 t.N,.string t.S,.string t.Z,.int .i64 t.T.K,.int .i64 t.T.N,.slice a1 l1 c1,.slice a2 l2 c2,.slice a3 l3 c3] 0 t.A:=⟨grown_then HWW.out.1 hb1,(hb1.block _ (by have:=HXs.out;omega)).trans HWW.out.2.2,by have:=(hb1.block p (by have:=HXs.out;omega)).trans HWW.out.2.1;simpa using this,rfl⟩
   clear f r hfX h150 hl0 hb1
   have xx:=(Nine.box hR0.box).c8
   simp only [Nat.zero_add] at xx
   go_wp2_with fail
   clear xx
   go_loopw [7] (fun i wr=>∃ j m:Nat,j≤l3∧i=.int .i64 j∧c+1+m≤150∧LkRelM w wr l p c j #[.int .i64 t.K,.int .i64 t.N,.string t.S,.string t.Z,.int .i64 t.T.K,.int .i64 t.T.N,.slice a1 l1 c1,.slice a2 l2 c2,.slice a3 l3 c3] m t.A) (fun i _=>l3 - (intOf i).toNat)
   case atStart=>exact⟨0,0,by omega,rfl,by omega,hR0⟩
   case round =>
    obtain⟨j,m,hj,rfl,hm,hR⟩:=hrel
    have hg:=hR.grown
    have hsz:=hg.size
    have x8:=(Nine.box hR.box).c8
    simp only [Nat.zero_add] at x8
    clear hR0
    by_cases hlt:j<l3
    · have hlt':j<t.A.length:=by have:=HL.out;omega
      obtain⟨b,o,rfl,_,hbB,b1,m1,d1,b2,m2,d2,b3,m3,d3,h9,hf1⟩:=hf.m.get j hlt'
      obtain⟨e0,e1,e2,e3,e4,e5,e6,e7,e8⟩:=h9.world (hg.block b (by omega) (by simp;omega))
      have hf2:=Fm.grown hg hBp hp hf1
      have hcl:=hR.cell
      have hcl':wr.heap[p]?=some (.cells #[.int .i64 ((c+1+m:Nat):Int)] 3 (0,0)):=by rw [hcl];simp
      have HF:Hid (_=_):=nodesG_take (Qan l) t.A j hlt' m hR.nodes
      clear hcl
      go_wp2_with fail
      refine (IH D (d - 1) L B p (c+1+m) t.A[j] _ _ _ _ _ _ _ _ _ _ hBp (by omega) hcl' (by omega) hf2).mono ?_
      rintro e w2 ⟨rfl,hg2,c',hc2,hc3⟩
      have hg3:=grown_trans hg hg2
      have hbox2:w2.heap[w.heap.size]?=_:=(hg2.block _ (by have:=(Array.getElem?_eq_some_iff.1 hR.box).1;exact this) (by simp;omega)).trans hR.box
      cases hv:lookM l (c+1+m) t.A[j] with
      | false =>
        clear hc3 hcl'
        go_wp2_with fail
        go_ret
        have hno:lookM (l+1) c t=false:=by
         unfold lookM
         rw [HO.out]
         cases hnl:Qax (Qan l) t.A with
         | none=>rfl
         | some s =>
           cases hq:Qan l t.A[j] with
           | none=>rw [Qej _ _ j hlt' hq] at hnl;cases hnl
           | some a =>
             have h1:=nodesG_part _ _ j hlt' m a s hR.nodes hq hnl
             rw [lookM_some hq] at hv
             simp at hv ⊢
             omega
        exact⟨Qak hno.symm,hg3,_,hc2,fun m hm hle=>(lookM_no hno m hm hle).elim⟩
      | true =>
        have hN:∃ a,Qan l t.A[j]=some a∧c+1+m+a≤150∧c'=((c+1+m:Nat):Int)+a:=by
         have hv':=hv
         cases hq:Qan l t.A[j] with
         | none=>simp [lookM,hq] at hv'
         | some a =>
           rw [lookM_some hq] at hv'
           have hle:c+1+m+a≤150:=by simpa using hv'
           exact⟨a,rfl,hle,hc3 a hq hle⟩
        obtain⟨a,hfa,hle,hce⟩:=hN
        have hT:Qax (Qan l) (t.A.take (j+1))=some (m+a):=by rw [HF.out,hfa];rfl
        have hR2:LkRelM w w2 l p c (j+1) _ (m+a) t.A:=⟨hg3,hbox2,by rw [hc2,hce];simp;omega,hT⟩
        clear hc3 hce hT hfa hcl' hc2 hbox2 x8 hR
        go_wp2_with fail
        go_roundw
        case rel=>exact⟨j+1,m+a,by omega,by go_num,by omega,hR2⟩
        case measure=>simp [intOf];omega
    · have hNn:Qax (Qan l) t.A=some m:=by have h1:=HL.out;have h2:=hR.nodes;rw [List.take_of_length_le (by omega)] at h2;exact h2
      have HN:Hid (Qax (Qan l) t.A=some m):=hNn
      clear hNn
      have hcl:Hid (_=_):=hR.cell
      go_wp2_with fail
      go_ret
      have hw:Qan (l+1) t=some (1+m):=by rw [HO.out,HN.out];rfl
      refine⟨Qak (by rw [lookM_some hw];simp;omega),hg,_,hcl.out,fun m' hm' _=>?_⟩
      rw [hw] at hm'
      cases hm'
      omega
theorem lkm_any:∀ l,l≤24->SaidLkM l:=by
 intro l
 induction l with
 | zero=>intro _;exact lkm_zero
 | succ l ih=>intro h;exact lkm_succ l (by omega) (ih (by omega))
theorem lookM_ok (t:Tm):lookM 24 0 t=okM t:=by
 unfold lookM okM
 cases h:Qan 24 t with
 | none=>rfl
 | some m=>by_cases h6:m≤150 <;> simp [lid,h6]
set_option maxHeartbeats 400000 in
theorem sTermOk_any (D d L B:Nat) (t:Tm) (a1:Option Addr) (l1 c1:Nat) (a2:Option Addr) (l2 c2:Nat) (a3:Option Addr) (l3 c3:Nat) (w:World) (hB:B≤w.heap.size) (hf:Fm L B w D d t a1 l1 a2 l2 a3 l3) :
 Calls Try.prog 33 #[.agg #[.int .i64 t.K,.int .i64 t.N,.string t.S,.string t.Z,.int .i64 t.T.K,.int .i64 t.T.N,.slice a1 l1 c1,.slice a2 l2 c2,.slice a3 l3 c3]] w fun e w'=>e=.returned (.bool (okM t))∧Below w.heap.size w w':=by
 obtain⟨X,hX⟩:∃ X,X=((w.alloc (.cells #[.int .i64 t.K,.int .i64 t.N,.string t.S,.string t.Z,.int .i64 t.T.K,.int .i64 t.T.N,.slice a1 l1 c1,.slice a2 l2 c2,.slice a3 l3 c3] 29)).alloc (.cells #[.int .i64 0] 3)):=⟨_,rfl⟩
 have hXs:X.heap.size=w.heap.size+2:=by rw [hX];simp
 have hXb:Below w.heap.size w X:=by rw [hX];exact ((Below.refl _ _).alloc (Nat.le_refl _) _).alloc (by simp) _
 have hX1:X.heap[w.heap.size+1]?=some (.cells #[.int .i64 ((0:Nat):Int)] 3 (0,0)):=by rw [hX];exact Qac (by simp)
 have hf1:=Fm.below hXb hB hf
 have HX:Hid (X=_):=hX
 have HX1:Hid (_=_):=hX1
 clear hX hX1
 go_enter Try.func33,Try.ntmps33
 go_wp2_with fail
 rw [← HX.out]
 refine (lkm_any 24 (by omega) D d L B _ 0 t _ _ _ _ _ _ _ _ _ _ (by omega) (by omega) HX1.out (by omega) hf1).mono ?_
 rintro e w1 ⟨rfl,hg,_⟩
 rw [lookM_ok]
 have hb2:Below w.heap.size w w1:=hXb.grown hg (by omega) (by simp)
 go_wp2_with fail
 go_ret
 exact⟨rfl,hb2⟩
theorem lv_none (d L B:Nat) (ao:Option Addr) (len cap:Nat) (t:Tr) (hz:zeroT t=true) (w:World) (hB:B≤w.heap.size) (hs:Hs L B w d ao len t.A) :
 Calls Try.prog 89 #[.agg #[.int .i64 t.K,.int .i64 t.N,.slice ao len cap]] w fun e w'=>e=.returned (.int .i64 0)∧Below w.heap.size w w':=by
 have hbel:Below w.heap.size w (w.alloc (.cells #[.int .i64 t.K,.int .i64 t.N,.slice ao len cap] 26)):=(Below.refl _ _).alloc (Nat.le_refl _) _
 have hl:=hs.len.1
 have hk:t.K=0:=by unfold zeroT at hz;simp only [Bool.and_eq_true,beq_iff_eq] at hz;exact hz.1.1
 have hn:len=0:=by unfold zeroT at hz;simp only [Bool.and_eq_true,beq_iff_eq] at hz;omega
 rw [hk,hn]
 clear hl hs
 go_enter Try.func89,Try.ntmps89
 go_wp2_with fail
 go_loopw [3,4] (fun v i wr=>i=.int .i64 0∧v=.int .i64 0∧Below w.heap.size w wr∧wr.heap[w.heap.size]?=some (.cells #[.int .i64 0,.int .i64 t.N,.slice ao 0 cap] 26 (0,0))) (fun _ _ _=>0)
 case atStart=>exact⟨rfl,rfl,(Below.refl _ _).alloc (Nat.le_refl _) _,Qac rfl⟩
 case round =>
  obtain⟨rfl,rfl,hbr,hx⟩:=hrel
  obtain⟨x0,x1,x2⟩:=Qaf hx
  go_wp2_with fail
  go_ret
  exact⟨rfl,hbr⟩
theorem lv_own (D L B:Nat) (k:Int) (t:Tr) (ts:List Tr) (ht:Qdh k t ts=true) (ao:Option Addr) (len cap:Nat) (w:World) (hB:B≤w.heap.size) (hs:Hs L B w D ao len t.A) :
 Calls Try.prog 89 #[.agg #[.int .i64 t.K,.int .i64 t.N,.slice ao len cap]] w fun e w'=>e=.returned (.int .i64 (varsT t))∧Below w.heap.size w w':=by
 unfold Qdh at ht
 simp only [Bool.and_eq_true] at ht
 have h1:=ht.1.1
 split at h1
 · obtain⟨m,hm⟩:=Qcx h1
   have e:varsT t=Qce 6 t:=by simp [varsT,h1]
   rw [e]
   have:=lv_any 6 D L B t.K t.N ao len cap t.A m w hB hs (by rw [Qap];exact hm)
   rw [Qap] at this
   exact this
 · have e:varsT t=0:=by
    have hk:t.K=0:=by unfold zeroT at h1;simp only [Bool.and_eq_true,beq_iff_eq] at h1;exact h1.1.1
    have:okT t=false:=by
     cases t with|mk K N A=>simp at hk;subst hk;simp [okT,Qcq,Qai,Qbk,parts]
    simp [varsT,this]
   rw [e]
   exact lv_none D L B ao len cap t h1 w hB hs
open Go.RowKit
def isVal (k:Int):Bool:=k==1 || k==2 || k==3 || k==4 || k==12
set_option maxHeartbeats 1000000 in
theorem sIsValue_any (D d L B:Nat) (t:Tm) (a1:Option Addr) (l1 c1:Nat) (a2:Option Addr) (l2 c2:Nat) (a3:Option Addr) (l3 c3:Nat) (w:World) (hB:B≤w.heap.size) (hf:Fm L B w D d t a1 l1 a2 l2 a3 l3) :
 Calls Try.prog 92 #[.agg #[.int .i64 t.K,.int .i64 t.N,.string t.S,.string t.Z,.int .i64 t.T.K,.int .i64 t.T.N,.slice a1 l1 c1,.slice a2 l2 c2,.slice a3 l3 c3]] w fun e w'=>e=.returned (.bool (isVal t.K))∧Below w.heap.size w w':=by
 have hbel:Below w.heap.size w (w.alloc (.cells #[.int .i64 t.K,.int .i64 t.N,.string t.S,.string t.Z,.int .i64 t.T.K,.int .i64 t.T.N,.slice a1 l1 c1,.slice a2 l2 c2,.slice a3 l3 c3] 29)):=(Below.refl _ _).alloc (Nat.le_refl _) _
 unfold isVal
 cases h1:(t.K==1)
 all_goals cases h2:(t.K==2)
 all_goals cases h3:(t.K==3)
 all_goals cases h4:(t.K==4)
 all_goals cases h5:(t.K==12)
 all_goals
  go_enter Try.func92,Try.ntmps92
  go_wp2_with fail
  go_ret
  exact⟨rfl,hbel⟩
end Go.Proofs.Ytleghjgpnefliaa
