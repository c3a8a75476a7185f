/-
  The laws FnLambdas and FnNodes, in plain words.
-/
import Derived.Test.YtleghjgpnefliaaFnoZ40
import Derived.Test.YtleghjgpnefliaaFnoZ19
import Derived.Test.YtleghjgpnefliaaFnoZ4
import Derived.Deep.RegionHeld3
import Derived.Test.YtleghjgpnefliaaFnoZ10
import Derived.Test.YtleghjgpnefliaaFnoZ6
import Derived.Test.YtleghjgpnefliaaFnoZ3
import Derived.Deep.RegionLaw
import Derived.Sort.AtCall
import Derived.LoopN
namespace Go.Proofs.Ytleghjgpnefliaa
open Go.RowKit
set_option linter.unusedVariables false
set_option linter.unusedSimpArgs false
theorem nthM_ok (A:List Tm) (n:Int):(nthM A n).2=decide (0≤n∧n<(A.length:Int)):=by
 by_cases h:0≤n∧n<(A.length:Int)
 · obtain⟨i,rfl⟩:∃ i:Nat,n=i:=⟨n.toNat,by omega⟩
   rw [nthM_at (show i<A.length by omega)]
   simp [h]
 · rw [nthM_no (by omega)]
   simp [h]
theorem nthM_false {A:List Tm} {n:Int} (h:(nthM A n).2=false):(nthM A n).1=zTm:=by
 rw [nthM_ok,decide_eq_false_iff_not] at h
 rw [nthM_no h]
theorem nthM_mem {A:List Tm} {n:Int} (h:(nthM A n).2=true):(nthM A n).1∈A:=by
 rw [nthM_ok,decide_eq_true_eq] at h
 obtain⟨i,rfl⟩:∃ i:Nat,n=i:=⟨n.toNat,by omega⟩
 rw [nthM_at (show i<A.length by omega)]
 exact List.getElem_mem _
theorem nodT_nodes (t:Tm):(nodT t).length=Qcp t:=by
 unfold nodT Qcp okM
 cases h:Qan 24 t with
 | none=>simp [lid]
 | some m =>
   simp only [lid]
   split
   · simp;exact allW_len 24 t m h
   · simp
theorem natM_ok (t:Tm) (n:Int):(natM t n).2=decide (0≤n∧n<(Qcp t:Int)):=by
 unfold natM
 rw [nthM_ok,nodT_nodes]
theorem natM_no {t:Tm} {n:Int} (h:(natM t n).2=false):(natM t n).1.K=0:=by
 have:(natM t n).1=zTm:=nthM_false h
 rw [this];rfl
theorem natM_zero {t:Tm} (h:okM t=true):natM t 0=(t,true):=by
 have e:nodT t=allW t:=by unfold nodT;rw [if_pos h]
 have e2:=Qdn t
 unfold natM
 have hl:0<(nodT t).length:=by rw [e,e2];simp
 have:=nthM_at hl
 rw [show ((0:Nat):Int)=0 from rfl] at this
 rw [this]
 simp only [e,e2,List.getElem_cons_zero]
theorem allW_right:∀ (l:Nat) (t:Tm) (m:Nat),Qan l t=some m->∀ x∈allW t,∃ a,Qan l x=some a∧a≤m:=by
 intro l
 induction l with
 | zero=>intro t m h;simp [Qan] at h
 | succ l ih =>
   intro t m h x hx
   rw [Qdn] at hx
   rcases List.mem_cons.1 hx with rfl|hx
   · exact⟨m,h,Nat.le_refl _⟩
   · obtain⟨y,hy,hxy⟩:=List.mem_flatten.1 hx
     obtain⟨u,hu,rfl⟩:=List.mem_map.1 hy
     obtain⟨i,hi,rfl⟩:=List.getElem_of_mem hu
     obtain⟨a,h1,h2⟩:=(nodesM_get h).2 i hi
     obtain⟨b,h3,h4⟩:=ih _ a h1 x hxy
     exact⟨b,nodesM_more _ _ _ h3,by omega⟩
theorem natM_right {t:Tm} {n:Int} (h:(natM t n).2=true):okM (natM t n).1=true:=by
 have hm:=nthM_mem (A:=nodT t) h
 change (natM t n).1∈nodT t at hm
 unfold nodT at hm
 split at hm
 · rename_i hok
   obtain⟨m,h1,h2⟩:=Qeh hok
   obtain⟨a,h3,h4⟩:=allW_right 24 t m h1 _ hm
   unfold okM
   rw [h3]
   simp only [lid]
   rw [if_pos (by omega)]
   rfl
 · simp at hm
theorem natM_leaf {t:Tm} {n:Int} (h:(natM t n).2=true) (hA:(natM t n).1.A=[]):Qcp (natM t n).1=1:=by
 have h1:=natM_right h
 have h2:=nodT_nodes (natM t n).1
 have e:nodT (natM t n).1=allW (natM t n).1:=by unfold nodT;rw [if_pos h1]
 rw [e,Qdn,hA] at h2
 simpa using h2.symm
theorem allW_next:∀ (d:Nat) (t:Tm),cntM t≤d->∀ (i:Nat) (hi:i<(allW t).length) (a:Tm) (r:List Tm),(allW t)[i].A=a::r->(allW t)[i+1]?=some a:=by
 intro d
 induction d with
 | zero =>
   intro t ht i hi a r hA
   have hc:=Qav t
   have:t.A=[]:=by
    cases h:t.A with
    | nil=>rfl
    | cons x l =>
      have:=Qdb t.A
      rw [h] at this
      simp at this
      rw [h] at hc
      omega
   have e:allW t=[t]:=by rw [Qdn,this];rfl
   have hi':i=0:=by have:=hi;rw [e] at this;simpa using this
   subst hi'
   simp only [e,List.getElem_cons_zero] at hA
   rw [this] at hA
   cases hA
 | succ d ih =>
   intro t ht i hi a r hA
   cases i with
   | zero =>
     have e:=Qdn t
     simp only [e,List.getElem_cons_zero] at hA
     rw [e,hA]
     simp only [List.map_cons,List.flatten_cons,List.getElem?_cons_succ]
     rw [Qdn a]
     rfl
   | succ i =>
     have e:=Qdn t
     have key:∀ (L:List Tm),(∀ x∈L,cntM x≤d)->∀ (i:Nat) (hi:i<((L.map allW).flatten).length),((L.map allW).flatten)[i].A=a::r->((L.map allW).flatten)[i+1]?=some a:=by
      intro L
      induction L with
      | nil=>intro _ i hi;simp at hi
      | cons x L ihL =>
        intro hL i hi hAi
        simp only [List.map_cons,List.flatten_cons] at hi hAi ⊢
        by_cases hlt:i<(allW x).length
        · rw [List.getElem_append_left hlt] at hAi
          have h1:=ih x (hL x (by simp)) i hlt a r hAi
          have h2:i+1<(allW x).length:=by
           rcases Nat.lt_or_ge (i+1) (allW x).length with h|h
           · exact h
           · rw [List.getElem?_eq_none h] at h1;cases h1
          rw [List.getElem?_append_left h2]
          exact h1
        · rw [List.getElem_append_right (by omega)] at hAi
          have h1:=ihL (fun y hy=>hL y (by simp [hy])) (i - (allW x).length) (by simp at hi ⊢;omega) hAi
          rw [List.getElem?_append_right (by omega)]
          have e:i+1 - (allW x).length=i - (allW x).length+1:=by omega
          rw [e]
          exact h1
     have hiL:i<((t.A.map allW).flatten).length:=by rw [e] at hi;simpa using hi
     have hA2:((t.A.map allW).flatten)[i].A=a::r:=by
      have:(allW t)[i+1]=((t.A.map allW).flatten)[i]:=by simp only [e,List.getElem_cons_succ]
      rw [← this];exact hA
     have:=key t.A (fun x hx=>by
      have h1:=sub_le hx
      have h2:=Qav t
      have h3:=Qdb t.A
      have h4:0<t.A.length:=List.length_pos_of_mem hx
      omega) i hiL hA2
     rw [e,List.getElem?_cons_succ]
     exact this
theorem natM_next {t:Tm} {n:Int} (h:(natM t n).2=true) {a:Tm} {r:List Tm} (hA:(natM t n).1.A=a::r):natM t (n+1)=(a,true):=by
 unfold natM at *
 rw [nthM_ok,decide_eq_true_eq] at h
 obtain⟨i,rfl⟩:∃ i:Nat,n=i:=⟨n.toNat,by omega⟩
 have hi:i<(nodT t).length:=by omega
 rw [nthM_at hi] at hA
 unfold nodT at hi hA ⊢
 split at hi
 · rename_i hok
   simp only [hok,if_true] at hA ⊢
   have h1:=allW_next _ t (Nat.le_refl _) i hi a r hA
   unfold nthM
   rw [if_pos (by omega),show ((i:Int)+1).toNat=i+1 by omega,h1]
 · simp at hi
def MapCall0 (w:World) (L B d d':Nat) (ts R:List Tr):Prop:=∀ i (hi:i<ts.length) (hr:i<R.length) (ao1:Option Addr) (len1 cap1:Nat) (w':World),Below w.heap.size w w'->Hs L B w' d ao1 len1 ts[i].A →
    Calls Try.prog 73 #[.agg #[.int .i64 ts[i].K,.int .i64 ts[i].N,.slice ao1 len1 cap1]] w' fun e w''=>∃ ao2 len2 cap2,e=.returned (.agg #[.int .i64 R[i].K,.int .i64 R[i].N,.slice ao2 len2 cap2])∧Below w'.heap.size w' w''∧OwR w'.heap.size w''.heap.size w'' d' ao2 len2 R[i].A
set_option maxHeartbeats 800000 in
theorem mapTys0_any (L B d d':Nat) (ao:Option Addr) (len cap:Nat) (ts R:List Tr) (w:World) (hB:B≤w.heap.size) (hs:Hs L B w (d+1) ao len ts) (hl:len≤1048576) (hR:R.length=ts.length) (hcall:MapCall0 w L B d d' ts R) :
 Calls Try.prog 74 #[.slice ao len cap,.func (Fn.func 73) #[] #[]] w fun e w'=>∃ ao2 cap2,e=.returned (.slice ao2 len cap2)∧Below w.heap.size w w'∧OwR w.heap.size w'.heap.size w' (d'+1) ao2 len R:=by
 have HL:Hid (len=ts.length):=hs.1
 have HR:Hid (R.length=ts.length):=hR
 clear hR
 by_cases h0:len=0
 · have hb0:((len:Int)==0)=true:=by simp [h0]
   have H0:Hid (len=0):=h0
   clear h0
   go_enter Try.func74,Try.ntmps74
   go_wp2_with fail
   go_ret
   have e0:=H0.out
   have eR:R=[]:=List.length_eq_zero_iff.1 (by rw [HR.out,← HL.out];exact e0)
   subst eR
   subst e0
   exact⟨none,0,rfl,Below.refl _ _,OwR.nil _ _ _ _ _⟩
 have hb0:((len:Int)==0)=false:=by simp [h0]
 clear h0
 obtain⟨C,hC,hmk⟩:=make_ty len hl
 go_enter Try.func74,Try.ntmps74
 go_wp2_with fail
 clear hb0 hmk
 go_loopw [16] (fun i wr=>∃ k:Nat,k≤len∧i=.int .i64 k∧RowRel w wr d' len k R) (fun i _=>len - (intOf i).toNat)
 case atStart=>exact⟨0,by omega,rfl,rr_start hC⟩
 case round =>
  obtain⟨k,hk,rfl,hR⟩:=hrel
  by_cases hlt:k<len
  · have hlt':k<ts.length:=by have:=HL.out;omega
    have hltR:k<R.length:=by have:=HR.out;omega
    have hbel:=hR.bel
    have hsz:=hbel.size
    obtain⟨b,o,rfl,_,hbB,ao1,len1,cap1,c0,c1,c2,hs1⟩:=hs.2.2 k hlt'
    have e0:=(Qag hbel (by omega) _).trans c0
    have e1:=(Qag hbel (by omega) _).trans c1
    have e2:=(Qag hbel (by omega) _).trans c2
    have hba:Below wr.heap.size wr (wr.alloc (.cells #[.int .i64 ts[k].K,.int .i64 ts[k].N,.slice ao1 len1 cap1] 26)):=(Below.refl _ _).alloc (Nat.le_refl _) _
    have hs2:=(hs1.below hbel hB).below hba (by omega)
    go_wp2_with fail
    refine (hcall k hlt' hltR ao1 len1 cap1 _ (hbel.trans (hba.mono hsz)) hs2).mono ?_
    rintro e w1 ⟨ao2,len2,cap2,rfl,hb1,hs3⟩
    have hb1':Below wr.heap.size wr w1:=hba.trans (hb1.mono (by simp))
    have hN:=rr_next (cap1:=cap2) hR hlt hltR hb1' (hs3.keep (fun _ _ _=>rfl) (by simp) (Nat.le_refl _))
    obtain⟨cs,hrow,hcsz⟩:=rr_row hR hb1'
    have f0:=Qaa hrow (k*3)
    have f1:=Qaa hrow (k*3+1)
    have f2:=Qaa hrow (k*3+2)
    rw [Array.getElem?_eq_getElem (by omega)] at f0 f1 f2
    have r0:=Qad hrow (k*3)
    have r1:=Qad hrow (k*3+1)
    have r2:=Qad hrow (k*3+2)
    clear hrow hs3 hR e0 e1 e2
    go_wp2_with fail
    go_roundw
    case rel=>exact⟨k+1,by omega,by go_num,hN⟩
    case measure=>simp [intOf];omega
  · go_wp2_with fail
    go_ret
    obtain rfl:k=len:=by omega
    exact⟨_,_,rfl,hR.bel,rr_done hR (by rw [HR.out];exact HL.out) (by omega)⟩
def SaidCp (d:Nat):Prop:=∀ (L B:Nat) (k n:Int) (ao:Option Addr) (len cap:Nat) (ts:List Tr) (w:World),B≤w.heap.size->Hs L B w d ao len ts->cntS ts≤1048576 →
    Calls Try.prog 73 #[.agg #[.int .i64 k,.int .i64 n,.slice ao len cap]] w fun e w'=>∃ ao2 len2 cap2,e=.returned (.agg #[.int .i64 k,.int .i64 n,.slice ao2 len2 cap2])∧Below w.heap.size w w'∧OwR w.heap.size w'.heap.size w' d ao2 len2 ts
set_option maxHeartbeats 800000 in
theorem copy_of (d d1:Nat) (hd:d1=d+1) (L B:Nat) (k n:Int) (ao:Option Addr) (len cap:Nat) (ts:List Tr) (w:World) (hB:B≤w.heap.size) (hs:Hs L B w d1 ao len ts) (hcnt:cntS ts≤1048576)
 (hcall:∀ w0:World,Below w.heap.size w w0->MapCall0 w0 L B d d ts ts) :
 Calls Try.prog 73 #[.agg #[.int .i64 k,.int .i64 n,.slice ao len cap]] w fun e w'=>∃ ao2 len2 cap2,e=.returned (.agg #[.int .i64 k,.int .i64 n,.slice ao2 len2 cap2])∧Below w.heap.size w w'∧OwR w.heap.size w'.heap.size w' d1 ao2 len2 ts:=by
 subst hd
 have hl:len≤1048576:=by have:=hs.1;have:=Qem ts;omega
 obtain⟨X,hX⟩:∃ X,X=((w.alloc (.cells #[.int .i64 k,.int .i64 n,.slice ao len cap] 26)).alloc (.cells #[.int .i64 0,.int .i64 0,.slice none 0 0] 26)):=⟨_,rfl⟩
 have hXs:X.heap.size=w.heap.size+2:=by rw [hX];simp
 have hXb:Below w.heap.size w X:=by rw [hX];exact ((Below.refl _ _).alloc (Nat.le_refl _) _).alloc (by simp) _
 have hX0:X.heap[w.heap.size]?=some (.cells #[.int .i64 k,.int .i64 n,.slice ao len cap] 26 (0,0)):=by rw [hX,Below.heap_alloc _ _ _ (by simp)];exact Qac rfl
 have hX1:X.heap[w.heap.size+1]?=some (.cells #[.int .i64 0,.int .i64 0,.slice none 0 0] 26 (0,0)):=by rw [hX];exact Qac (by simp)
 have hs1:=(hs.below hXb hB).drew
 have HX:Hid (X=_):=hX
 have HC:Hid (MapCall0 X.drew L B d d ts ts):=hcall _ hXb.drew
 clear hX hcall
 obtain⟨p0,p1,p2⟩:=Qaf hX0
 go_enter Try.func73,Try.ntmps73
 go_wp2_with fail
 rw [← HX.out]
 go_region_held3 (fun w'=>w'.cell? ⟨w.heap.size,0,none⟩=some (.int .i64 k)∧w'.cell? ⟨w.heap.size,1,none⟩=some (.int .i64 n)∧w'.cell? ⟨w.heap.size,2,none⟩=some (.slice ao len cap)) (first|(refine⟨?_,?_,?_⟩;exact p0;exact p1;exact p2)|(refine⟨?_,?_,?_⟩;exact z0;exact z1;exact z2)|(refine⟨?_,?_,?_⟩ <;> simp [World.cell?_setCell_other,z0,z1,z2])) ((go_at_call 74;refine (mapTys0_any L B d d _ _ _ ts ts _ ?_ hs1 hl rfl HC.out).mono ?_;(show B≤X.heap.size;omega);rintro e w1 ⟨ao2,cap2,rfl,hb1,hs2⟩;have z0:=(Qag hb1 (show w.heap.size<X.heap.size by omega) 0).trans p0;have z1:=(Qag hb1 (show w.heap.size<X.heap.size by omega) 1).trans p1;have z2:=(Qag hb1 (show w.heap.size<X.heap.size by omega) 2).trans p2;obtain⟨y0,y1,y2⟩:=Qaf ((hb1.block (w.heap.size+1) (show w.heap.size+1<X.heap.size by omega)).trans hX1);have y3:=Qad ((hb1.block (w.heap.size+1) (show w.heap.size+1<X.heap.size by omega)).trans hX1)))
 all_goals
  have hbw:Below w.heap.size w w1:=hXb.drew.trans (hb1.mono (show w.heap.size≤X.heap.size by omega))
  go_wp2_with fail
  refine bodyPost_ret (v:=.agg #[.int .i64 k,.int .i64 n,.slice ao2 len cap2]) (by simp [results,Try.results73,go_sem,y0,y1,y2]) rfl ⟨ao2,len,cap2,rfl,?_,?_⟩
  · exact Qbg hbw (by omega)
  · refine hs2.keep (fun j hj _=>?_) (show w.heap.size≤X.heap.size by omega) (by simp)
    have hj':X.heap.size≤j:=hj
    rw [Qah _ _ _ (by omega),Qah _ _ _ (by omega),Qah _ _ _ (by omega)]
theorem copyP_any:∀ d,SaidCp d:=by
 intro d
 induction d with
 | zero =>
   intro L B k n ao len cap ts w hB hs hcnt
   have hts:=hs.2
   subst hts
   refine (copy_of 0 1 rfl L B k n ao len cap [] w hB hs.up hcnt (fun w0 _ i hi=>by simp at hi)).mono ?_
   rintro e w' ⟨ao2,len2,cap2,he,hb,ho⟩
   have h0:=ho.len0
   subst h0
   exact⟨ao2,0,cap2,he,hb,OwR.nil _ _ _ _ _⟩
 | succ d ih =>
   intro L B k n ao len cap ts w hB hs hcnt
   refine copy_of d (d+1) rfl L B k n ao len cap ts w hB hs hcnt (fun w0 hb0 i hi hr ao1 len1 cap1 w' hb' hs'=>?_)
   have hc:=Qcn ts i hi
   exact ih L B _ _ _ _ _ _ _ (by have:=hb0.size;have:=hb'.size;omega) hs' (by omega)
set_option maxRecDepth 100000 in
set_option maxHeartbeats 2000000 in
theorem copyHead_any (D d L B:Nat) (t:Tm) (a1:Option Addr) (l1 c1:Nat) (a2:Option Addr) (l2 c2:Nat) (a3:Option Addr) (l3 c3:Nat) (w:World) (hB:B≤w.heap.size) (hf:Fm L B w D d t a1 l1 a2 l2 a3 l3) (hc:cntM t≤1048576) :
 Calls Try.prog 52 #[.agg #[.int .i64 t.K,.int .i64 t.N,.string t.S,.string t.Z,.int .i64 t.T.K,.int .i64 t.T.N,.slice a1 l1 c1,.slice a2 l2 c2,.slice a3 l3 c3]] w fun e w'=>∃ b1 m1 e1 b2 e2 M,e=.returned (.agg #[.int .i64 t.K,.int .i64 t.N,.string t.S,.string t.Z,.int .i64 t.T.K,.int .i64 t.T.N,.slice b1 m1 e1,.slice b2 l2 e2,.slice none 0 0])∧Below w.heap.size w w'∧w.heap.size≤M∧M≤w'.heap.size∧OwR w.heap.size M w' (D+1) b1 m1 t.T.A∧OwR M w'.heap.size w' (D+1) b2 l2 t.Ts:=by
 have hce:=Qav t
 unfold ownM at hce
 have hcT:cntS t.T.A≤1048576:=by omega
 have hcS:cntS t.Ts≤1048576:=by omega
 have hl2:l2≤1048576:=by have:=hf.t2.len.1;have:=Qem t.Ts;omega
 obtain⟨X,hX⟩:∃ X,X=((w.alloc (.cells #[.int .i64 t.K,.int .i64 t.N,.string t.S,.string t.Z,.int .i64 t.T.K,.int .i64 t.T.N,.slice a1 l1 c1,.slice a2 l2 c2,.slice a3 l3 c3] 29)).alloc (.cells #[.int .i64 0,.int .i64 0,.string ⟨#[]⟩,.string ⟨#[]⟩,.int .i64 0,.int .i64 0,.slice none 0 0,.slice none 0 0,.slice none 0 0] 29)):=⟨_,rfl⟩
 have hXs:X.heap.size=w.heap.size+2:=by rw [hX];simp
 have hXb:Below w.heap.size w X:=by rw [hX];exact ((Below.refl _ _).alloc (Nat.le_refl _) _).alloc (by simp) _
 have hX0:X.heap[w.heap.size]?=some (.cells #[.int .i64 t.K,.int .i64 t.N,.string t.S,.string t.Z,.int .i64 t.T.K,.int .i64 t.T.N,.slice a1 l1 c1,.slice a2 l2 c2,.slice a3 l3 c3] 29 (0,0)):=by rw [hX,Below.heap_alloc _ _ _ (by simp)];exact Qac rfl
 have hX1:X.heap[w.heap.size+1]?=some (.cells #[.int .i64 0,.int .i64 0,.string ⟨#[]⟩,.string ⟨#[]⟩,.int .i64 0,.int .i64 0,.slice none 0 0,.slice none 0 0,.slice none 0 0] 29 (0,0)):=by rw [hX];exact Qac (by simp)
 have hfX:Fm L B X.drew D d t a1 l1 a2 l2 a3 l3:=Fm.drew (Fm.below hXb hB hf)
 have hs1:Hs L B X.drew D a1 l1 t.T.A:=hfX.t1
 have HX:Hid (X=_):=hX
 have H2:Hid (∀ w1,Below X.drew.heap.size X.drew w1->B≤w1.heap.size∧Hs L B w1 (D+1) a2 l2 t.Ts∧MapCall0 w1 L B D D t.Ts t.Ts):=fun w1 hb1=>by
  have hz:X.heap.size≤w1.heap.size:=hb1.size
  refine⟨by omega,(hfX.t2.below hb1 (show B≤X.heap.size by omega)).deeper (by omega),fun i hi hr ao1 len1 cap1 w' hb' hs'=>?_⟩
  have hq:=Qcn t.Ts i hi
  exact copyP_any D L B _ _ _ _ _ _ _ (by have:=hb'.size;omega) hs' (by omega)
 have hlt0:w.heap.size<X.heap.size:=by omega
 have hlt1:w.heap.size+1<X.heap.size:=by omega
 have HXS:Hid (X.heap.size=w.heap.size+2):=hXs
 have HXB:Hid (Below w.heap.size w X):=hXb
 have hBX:B≤X.heap.size:=by omega
 obtain⟨p0,p1,p2,p3,p4,p5,p6,p7,p8⟩:=Nine.box (w:=X.drew) hX0
 clear hX hce hXs hfX hf hXb
 go_enter Try.func52,Try.ntmps52
 go_wp2_with fail
 rw [← HX.out]
 go_region_held3 (fun w'=>w'.cell? ⟨w.heap.size,0,none⟩=some (.int .i64 t.K)∧w'.cell? ⟨w.heap.size,1,none⟩=some (.int .i64 t.N)∧w'.cell? ⟨w.heap.size,2,none⟩=some (.string t.S)∧w'.cell? ⟨w.heap.size,3,none⟩=some (.string t.Z)∧w'.cell? ⟨w.heap.size,4,none⟩=some (.int .i64 t.T.K)∧w'.cell? ⟨w.heap.size,5,none⟩=some (.int .i64 t.T.N)∧w'.cell? ⟨w.heap.size,6,none⟩=some (.slice a1 l1 c1)∧w'.cell? ⟨w.heap.size,7,none⟩=some (.slice a2 l2 c2))
  (first|(refine⟨?_,?_,?_,?_,?_,?_,?_,?_⟩;with_reducible exact u0;with_reducible exact u1;with_reducible exact u2;with_reducible exact u3;with_reducible exact u4;with_reducible exact u5;with_reducible exact u6;with_reducible exact u7)|(refine⟨?_,?_,?_,?_,?_,?_,?_,?_⟩;with_reducible exact z0;with_reducible exact z1;with_reducible exact z2;with_reducible exact z3;with_reducible exact z4;with_reducible exact z5;with_reducible exact z6;with_reducible exact z7)|(refine⟨?_,?_,?_,?_,?_,?_,?_,?_⟩;with_reducible exact p0;with_reducible exact p1;with_reducible exact p2;with_reducible exact p3;with_reducible exact p4;with_reducible exact p5;with_reducible exact p6;with_reducible exact p7)|(refine⟨?_,?_,?_,?_,?_,?_,?_,?_⟩ <;> simp [World.cell?_setCell_other,u0,u1,u2,u3,u4,u5,u6,u7]))
  (first
    | (go_at_call 74;refine (mapTys0_any L B D D _ _ _ t.Ts t.Ts w1 hBw hs2 hl2 rfl hmc).mono ?_;rintro e w2 ⟨b2,e2,rfl,hb2,ho2⟩;have hlu:w.heap.size<w1.heap.size:=Nat.lt_of_lt_of_le hlt0 hb1.size;have hlv:w.heap.size+1<w1.heap.size:=Nat.lt_of_lt_of_le hlt1 hb1.size;have u0:=(Qag hb2 hlu 0).trans z0;have u1:=(Qag hb2 hlu 1).trans z1;have u2:=(Qag hb2 hlu 2).trans z2;have u3:=(Qag hb2 hlu 3).trans z3;have u4:=(Qag hb2 hlu 4).trans z4;have u5:=(Qag hb2 hlu 5).trans z5;have u6:=(Qag hb2 hlu 6).trans z6;have u7:=(Qag hb2 hlu 7).trans z7;have hY:=(hb2.block (w.heap.size+1) hlv).trans hY1;obtain⟨y0,y1,y2,y3,y4,y5,y6,y7,y8⟩:=Nine.box hY;have yf:=Qad hY)
    | (go_at_call 73;refine (copyP_any D L B _ _ _ _ _ t.T.A X.drew hBX hs1 hcT).mono ?_;rintro e w1 ⟨b1,m1,e1,rfl,hb1,ho1⟩;have z0:=(Qag hb1 hlt0 0).trans p0;have z1:=(Qag hb1 hlt0 1).trans p1;have z2:=(Qag hb1 hlt0 2).trans p2;have z3:=(Qag hb1 hlt0 3).trans p3;have z4:=(Qag hb1 hlt0 4).trans p4;have z5:=(Qag hb1 hlt0 5).trans p5;have z6:=(Qag hb1 hlt0 6).trans p6;have z7:=(Qag hb1 hlt0 7).trans p7;have hY1:=(hb1.block (w.heap.size+1) hlt1).trans hX1;obtain⟨hBw,hs2,hmc⟩:=H2.out w1 hb1))
 all_goals
  have hXs:=HXS.out
  have hz1:X.heap.size≤w1.heap.size:=hb1.size
  have hz2:=hb2.size
  have hbw:Below w.heap.size w w2:=(HXB.out.drew.trans (hb1.mono (show w.heap.size≤X.heap.size by omega))).trans (hb2.mono (by omega))
  go_wp2_with fail
  obtain⟨Y,hYe⟩:∃ Y,Y=set9 w2 (w.heap.size+1) 0 (.int .i64 t.K) (.int .i64 t.N) (.string t.S) (.string t.Z) (.int .i64 t.T.K) (.int .i64 t.T.N) (.slice b1 m1 e1) (.slice b2 l2 e2) (.slice none 0 0):=⟨_,rfl⟩
  have hYb:Below w.heap.size w Y:=by rw [hYe];exact Qcf hbw (by omega)
  have hYs:Y.heap.size=w2.heap.size:=by rw [hYe];exact Qcu _ _ _ _ _ _ _ _ _ _ _ _
  have hYo:∀ j,j≠w.heap.size+1->Y.heap[j]?=w2.heap[j]?:=fun j hj=>by rw [hYe];exact Qby j hj
  refine bodyPost_ret (v:=.agg #[.int .i64 t.K,.int .i64 t.N,.string t.S,.string t.Z,.int .i64 t.T.K,.int .i64 t.T.N,.slice b1 m1 e1,.slice b2 l2 e2,.slice none 0 0]) (by simp [results,Try.results52,go_sem,y0,y1,y2,y3,y4,y5,y6,y7,y8]) rfl ?_
  have hfin:∃ b1' m1' e1' b2' e2' M,Ending.returned (.agg #[.int .i64 t.K,.int .i64 t.N,.string t.S,.string t.Z,.int .i64 t.T.K,.int .i64 t.T.N,.slice b1 m1 e1,.slice b2 l2 e2,.slice none 0 0])=.returned (.agg #[.int .i64 t.K,.int .i64 t.N,.string t.S,.string t.Z,.int .i64 t.T.K,.int .i64 t.T.N,.slice b1' m1' e1',.slice b2' l2 e2',.slice none 0 0])∧Below w.heap.size w Y∧w.heap.size≤M∧M≤Y.heap.size∧OwR w.heap.size M Y (D+1) b1' m1' t.T.A∧OwR M Y.heap.size Y (D+1) b2' l2 t.Ts:=by
   refine⟨b1,m1,e1,b2,e2,w1.heap.size,rfl,hYb,by omega,by omega,?_,?_⟩
   · exact ho1.one (by omega) (fun k hk1 hk2=>by have hk3:X.heap.size≤k:=hk1;exact (hYo k (by omega)).trans (hb2.block k hk2)) (show w.heap.size≤X.heap.size by omega) (Nat.le_refl _)
   · exact ho2.one (Nat.le_refl _) (fun k hk1 hk2=>hYo k (by omega)) (Nat.le_refl _) (by omega)
  rw [hYe] at hfin
  exact hfin
def SaidCt (D d:Nat):Prop:=∀ (L B:Nat) (t:Tm) (a1:Option Addr) (l1 c1:Nat) (a2:Option Addr) (l2 c2:Nat) (a3:Option Addr) (l3 c3:Nat) (w:World),B≤w.heap.size->Fm L B w D d t a1 l1 a2 l2 a3 l3->cntM t≤1048576 →
    Calls Try.prog 32 #[.agg #[.int .i64 t.K,.int .i64 t.N,.string t.S,.string t.Z,.int .i64 t.T.K,.int .i64 t.T.N,.slice a1 l1 c1,.slice a2 l2 c2,.slice a3 l3 c3]] w fun e w'=>∃ b1 m1 e1 b2 e2 b3 e3,e=.returned (.agg #[.int .i64 t.K,.int .i64 t.N,.string t.S,.string t.Z,.int .i64 t.T.K,.int .i64 t.T.N,.slice b1 m1 e1,.slice b2 l2 e2,.slice b3 l3 e3])∧Below w.heap.size w w'∧FmO w.heap.size w'.heap.size w' (D+1) d t b1 m1 b2 l2 b3 l3
set_option maxRecDepth 100000 in
set_option maxHeartbeats 4000000 in
theorem ct_step (D d:Nat) (IH:∀ e,e<d->SaidCt D e):SaidCt D d:=by
 intro L B t a1 l1 c1 a2 l2 c2 a3 l3 c3 w hB hf hc
 obtain⟨hl3,hl3m⟩:=hf.m.len
 have HL:Hid (l3=t.A.length):=hl3
 have hce:=Qav t
 have hc3:l3≤1048576:=by have:=Qdb t.A;omega
 have HCA:Hid (Qci t.A≤1048576):=by show _≤_;omega
 obtain⟨X,hX⟩:∃ X,X=((w.alloc (.cells #[.int .i64 t.K,.int .i64 t.N,.string t.S,.string t.Z,.int .i64 t.T.K,.int .i64 t.T.N,.slice a1 l1 c1,.slice a2 l2 c2,.slice a3 l3 c3] 29)).alloc (.cells #[.int .i64 0,.int .i64 0,.string ⟨#[]⟩,.string ⟨#[]⟩,.int .i64 0,.int .i64 0,.slice none 0 0,.slice none 0 0,.slice none 0 0] 29)):=⟨_,rfl⟩
 have hXs:X.heap.size=w.heap.size+2:=by rw [hX];simp
 have hXb:Below w.heap.size w X:=by rw [hX];exact ((Below.refl _ _).alloc (Nat.le_refl _) _).alloc (by simp) _
 have hX0:X.heap[w.heap.size]?=some (.cells #[.int .i64 t.K,.int .i64 t.N,.string t.S,.string t.Z,.int .i64 t.T.K,.int .i64 t.T.N,.slice a1 l1 c1,.slice a2 l2 c2,.slice a3 l3 c3] 29 (0,0)):=by rw [hX,Below.heap_alloc _ _ _ (by simp)];exact Qac rfl
 have hX1:X.heap[w.heap.size+1]?=some (.cells #[.int .i64 0,.int .i64 0,.string ⟨#[]⟩,.string ⟨#[]⟩,.int .i64 0,.int .i64 0,.slice none 0 0,.slice none 0 0,.slice none 0 0] 29 (0,0)):=by rw [hX];exact Qac (by simp)
 have hfX:=Fm.below hXb hB hf
 have HX:Hid (X=_):=hX
 have HXS:Hid (X.heap.size=w.heap.size+2):=hXs
 clear hX hce hl3
 go_enter Try.func32,Try.ntmps32
 go_wp2_with fail
 rw [← HX.out]
 refine (copyHead_any D d L B t _ _ _ _ _ _ _ _ _ X (by omega) hfX hc).mono ?_
 rintro e w1 ⟨b1,m1,e1,b2,e2,M,rfl,hb1,hM1,hM2,ho1,ho2⟩
 have hz1:=hb1.size
 have hbw1:Below w.heap.size w w1:=hXb.trans (hb1.mono (by omega))
 have x0:=(hb1.block w.heap.size (by omega)).trans hX0
 have x1:=(hb1.block (w.heap.size+1) (by omega)).trans hX1
 obtain⟨h,hh⟩:∃ h,h=w1.heap.size:=⟨_,rfl⟩
 have hhz:w.heap.size+2≤h:=by omega
 obtain⟨W,hW⟩:∃ W,W=w1.alloc (.cells #[.int .i64 t.K,.int .i64 t.N,.string t.S,.string t.Z,.int .i64 t.T.K,.int .i64 t.T.N,.slice b1 m1 e1,.slice b2 l2 e2,.slice none 0 0] 29):=⟨_,rfl⟩
 have hWb:Below w1.heap.size w1 W:=by rw [hW];exact (Below.refl _ _).alloc (Nat.le_refl _) _
 have hW0:W.heap[h]?=some (.cells #[.int .i64 t.K,.int .i64 t.N,.string t.S,.string t.Z,.int .i64 t.T.K,.int .i64 t.T.N,.slice b1 m1 e1,.slice b2 l2 e2,.slice none 0 0] 29 (0,0)):=by rw [hW];exact Qac hh
 have hWs:W.heap.size=h+1:=by rw [hW,hh];simp
 have HW:Hid (W=_):=hW
 have HH:Hid (h=w1.heap.size):=hh
 have xw0:=(hWb.block w.heap.size (by omega)).trans x0
 have hWh:Below h w1 W:=by rw [hh];exact hWb
 have HO:Hid (OwR X.heap.size M w1 (D+1) b1 m1 t.T.A∧OwR M w1.heap.size w1 (D+1) b2 l2 t.Ts∧X.heap.size≤M∧M≤w1.heap.size):=⟨ho1,ho2,hM1,hM2⟩
 have HX01:Hid (w1.heap[w.heap.size]?=some (.cells #[.int .i64 t.K,.int .i64 t.N,.string t.S,.string t.Z,.int .i64 t.T.K,.int .i64 t.T.N,.slice a1 l1 c1,.slice a2 l2 c2,.slice a3 l3 c3] 29 (0,0))∧w1.heap[w.heap.size+1]?=some (.cells #[.int .i64 0,.int .i64 0,.string ⟨#[]⟩,.string ⟨#[]⟩,.int .i64 0,.int .i64 0,.slice none 0 0,.slice none 0 0,.slice none 0 0] 29 (0,0))):=⟨x0,x1⟩
 obtain⟨f0,f1,f2,f3,f4,f5,f6,f7,f8⟩:=Nine.box x0
 have hltx:w.heap.size<w1.heap.size:=by omega
 clear hW hh ho1 ho2 hX0 hX1 x1 hfX
 go_wp2_with fail
 rw [← HW.out,← HH.out]
 clear f0 f1 f2 f3 f4 f5 f6 f7 f8
 have hAp:Qbr (h+1) W (D+1) (d - 1) (.slice none 0 0) 0 t.A:=apm_nil _ _ _ _ _
 go_loopw [11] (fun i wr=>∃ (j:Nat) (aj:Option Addr) (cj:Nat),j≤l3∧i=.int .i64 j∧wr.heap[h]?=some (.cells #[.int .i64 t.K,.int .i64 t.N,.string t.S,.string t.Z,.int .i64 t.T.K,.int .i64 t.T.N,.slice b1 m1 e1,.slice b2 l2 e2,.slice aj j cj] 29 (0,0))∧Qbr (h+1) wr (D+1) (d - 1) (.slice aj j cj) j t.A∧Below h w1 wr) (fun i _=>l3 - (intOf i).toNat)
 case atStart =>
  exact⟨0,none,0,by omega,by first|rfl|simp [HH.out],hW0,hAp,hWh⟩
 case round =>
  obtain⟨j,aj,cj,hj,rfl,hrow,hap,hbr⟩:=hrel
  have hhr:=(Array.getElem?_eq_some_iff.1 hrow).1
  by_cases hlt:j<l3
  · have hlt':j<t.A.length:=by have:=HL.out;omega
    have hbw:Below w.heap.size w wr:=hbw1.trans (hbr.mono (by omega))
    obtain⟨b,o,rfl,_,hbB,q1,n1,k1,q2,n2,k2,q3,n3,k3,h9,hf1⟩:=hf.m.get j hlt'
    obtain⟨e0,e1',e2',e3,e4,e5,e6,e7,e8⟩:=h9.below hbw (by omega)
    obtain⟨P,hP⟩:∃ P,P=wr.alloc (.cells #[.int .i64 t.A[j].K,.int .i64 t.A[j].N,.string t.A[j].S,.string t.A[j].Z,.int .i64 t.A[j].T.K,.int .i64 t.A[j].T.N,.slice q1 n1 k1,.slice q2 n2 k2,.slice q3 n3 k3] 29):=⟨_,rfl⟩
    have hPb:Below wr.heap.size wr P:=by rw [hP];exact (Below.refl _ _).alloc (Nat.le_refl _) _
    have hPs:P.heap.size=wr.heap.size+1:=by rw [hP];simp
    have hP0:P.heap[wr.heap.size]?=some (.cells #[.int .i64 t.A[j].K,.int .i64 t.A[j].N,.string t.A[j].S,.string t.A[j].Z,.int .i64 t.A[j].T.K,.int .i64 t.A[j].T.N,.slice q1 n1 k1,.slice q2 n2 k2,.slice q3 n3 k3] 29 (0,0)):=by rw [hP];exact Qac rfl
    have hPh:=(hPb.block h hhr).trans hrow
    have hfP:Fm L B P.drew D (d - 1) t.A[j] q1 n1 q2 n2 q3 n3:=Fm.drew (Fm.below hPb (by omega) (Fm.below hbw hB hf1))
    have hcj:cntM t.A[j]≤1048576:=by have:=cntMS_get t.A j hlt';have:=HCA.out;omega
    have hapP:Qbr (h+1) P.drew (D+1) (d - 1) (.slice aj j cj) j t.A:=apm_below hap (hPb.drew)
    have hPw1:Below h w1 P.drew:=(hbr.trans (hPb.mono (by omega))).drew
    have APR:Hid (∀ (w2:World) (r1:Option Addr) (s1 u1:Nat) (r2:Option Addr) (s2 u2:Nat) (r3:Option Addr) (s3 u3:Nat),Below P.drew.heap.size P.drew w2->FmO P.drew.heap.size w2.heap.size w2 (D+1) (d - 1) t.A[j] r1 s1 r2 s2 r3 s3 →
     ∃ g cp w3,(Builtin.append_ #[27,27] 27 #[.slice aj j cj,.slice (some ⟨w2.heap.size,0,none⟩) 1 1]).run Try.prog (w2.alloc (.cells #[.int .i64 t.A[j].K,.int .i64 t.A[j].N,.string t.A[j].S,.string t.A[j].Z,.int .i64 t.A[j].T.K,.int .i64 t.A[j].T.N,.slice r1 s1 u1,.slice r2 s2 u2,.slice r3 s3 u3] 29))=.ok (.slice (some ⟨g,0,none⟩) (j+1) cp) w3 ∧
       w3.cell? ⟨h,8,none⟩=some (.slice aj j cj)∧w3.frozen? ⟨h,8,none⟩=false ∧
       (w3.setCell ⟨h,8,none⟩ (.slice (some ⟨g,0,none⟩) (j+1) cp)).heap[h]?=some (.cells #[.int .i64 t.K,.int .i64 t.N,.string t.S,.string t.Z,.int .i64 t.T.K,.int .i64 t.T.N,.slice b1 m1 e1,.slice b2 l2 e2,.slice (some ⟨g,0,none⟩) (j+1) cp] 29 (0,0)) ∧
       Qbr (h+1) (w3.setCell ⟨h,8,none⟩ (.slice (some ⟨g,0,none⟩) (j+1) cp)) (D+1) (d - 1) (.slice (some ⟨g,0,none⟩) (j+1) cp) (j+1) t.A∧Below h w1 (w3.setCell ⟨h,8,none⟩ (.slice (some ⟨g,0,none⟩) (j+1) cp))):=by
     intro w2 r1 s1 u1 r2 s2 u2 r3 s3 u3 hb2 ho2
     obtain⟨g,cp,w3,hrun,hap3,hbe3⟩:=apm_run (c1:=u1) (c2:=u2) (c3:=u3) hapP hlt' (by omega) hb2 (show h+1≤P.heap.size by omega) ho2
     have hq:w3.heap[h]?=_:=(hbe3.block h (by omega)).trans hPh
     refine⟨g,cp,w3,hrun,Qaa hq 8,Qad hq 8,?_,apm_set hap3 (by omega) _,(hPw1.trans (hbe3.mono (by omega))).setCell (p:=⟨h,8,none⟩) (Nat.le_refl _) _⟩
     rw [Qas hq]
     rfl
    have y8:P.cell? ⟨h,8,none⟩=some (.slice aj j cj):=Qaa hPh 8
    obtain⟨g0,g1,g2,g3,g4,g5,g6,g7,g8⟩:=Nine.box hP0
    have HP:Hid (P=_):=hP
    have hBP:B≤P.heap.size:=by omega
    have hhP:h<P.heap.size:=by omega
    have hrP:wr.heap.size<P.heap.size:=by omega
    have IHj:=IH (d - 1) (pos_d hf.m hlt') L B t.A[j]
    clear hP h9 hf1 hapP hPw1 hap hrow hPh hP0 hPs IH
    go_wp2_with fail
    rw [← HP.out]
    clear e0 e1' e2' e3 e4 e5 e6 e7 e8
    go_region_law (first|(refine Qbs hrun (by rfl) _ _ (by rfl) (by rfl) (by rfl) (by rfl) ?_)|(go_simp;go_at_call 32;refine (IHj _ _ _ _ _ _ _ _ _ P.drew hBP hfP hcj).mono ?_;rintro e w2 ⟨r1,s1,u1,r2,u2,r3,u3,rfl,hb2,ho2⟩;have hz2:h<w2.heap.size:=Nat.lt_of_lt_of_le hhP hb2.size;have v8:=(Qag hb2 hhP 8).trans y8;have v9:(w2.alloc (.cells #[.int .i64 t.A[j].K,.int .i64 t.A[j].N,.string t.A[j].S,.string t.A[j].Z,.int .i64 t.A[j].T.K,.int .i64 t.A[j].T.N,.slice r1 s1 u1,.slice r2 n2 u2,.slice r3 n3 u3] 29)).cell? ⟨h,8,none⟩=some (.slice aj j cj):=(World.cell?_of_block (Below.heap_alloc _ _ _ hz2)).trans v8;obtain⟨g,cp,w3,hrun,hc8,hf8,hrow3,hap3,hbr3⟩:=APR.out w2 r1 s1 u1 r2 n2 u2 r3 n3 u3 hb2 ho2))
    all_goals
     clear g0 g1 g2 g3 g4 g5 g6 g7 g8 y8 v8 v9 hrun hc8 hf8
     go_wp2_with fail
     go_roundw
     case rel=>exact⟨j+1,_,_,by omega,by go_num,hrow3,hap3,hbr3⟩
     case measure=>simp [intOf];omega
  · have hjl:j=l3:=by omega
    have HJ:Hid (j=l3):=hjl
    have hbw:Below w.heap.size w wr:=hbw1.trans (hbr.mono (by omega))
    have xr:=(hbr.block (w.heap.size+1) (by omega)).trans HX01.out.2
    obtain⟨p0,p1,p2,p3,p4,p5,p6,p7,p8⟩:=Nine.box xr
    have pf:=Qad xr
    obtain⟨q0,q1,q2,q3,q4,q5,q6,q7,q8⟩:=Nine.box hrow
    clear hjl
    go_wp2_with fail
    obtain⟨Y,hYe⟩:∃ Y,Y=set9 wr (w.heap.size+1) 0 (.int .i64 t.K) (.int .i64 t.N) (.string t.S) (.string t.Z) (.int .i64 t.T.K) (.int .i64 t.T.N) (.slice b1 m1 e1) (.slice b2 l2 e2) (.slice aj j cj):=⟨_,rfl⟩
    have hYb:Below w.heap.size w Y:=by rw [hYe];exact Qcf hbw (by omega)
    have hYs:Y.heap.size=wr.heap.size:=by rw [hYe];exact Qcu _ _ _ _ _ _ _ _ _ _ _ _
    have hYo:∀ k,k≠w.heap.size+1->Y.heap[k]?=wr.heap[k]?:=fun k hk=>by rw [hYe];exact Qby k hk
    refine bodyPost_ret (v:=.agg #[.int .i64 t.K,.int .i64 t.N,.string t.S,.string t.Z,.int .i64 t.T.K,.int .i64 t.T.N,.slice b1 m1 e1,.slice b2 l2 e2,.slice aj j cj]) (by simp [results,Try.results32,go_sem,p0,p1,p2,p3,p4,p5,p6,p7,p8]) rfl ?_
    have hfin:∃ b1' m1' e1' b2' e2' b3' e3',Ending.returned (.agg #[.int .i64 t.K,.int .i64 t.N,.string t.S,.string t.Z,.int .i64 t.T.K,.int .i64 t.T.N,.slice b1 m1 e1,.slice b2 l2 e2,.slice aj j cj])=.returned (.agg #[.int .i64 t.K,.int .i64 t.N,.string t.S,.string t.Z,.int .i64 t.T.K,.int .i64 t.T.N,.slice b1' m1' e1',.slice b2' l2 e2',.slice b3' l3 e3'])∧Below w.heap.size w Y∧FmO w.heap.size Y.heap.size Y (D+1) d t b1' m1' b2' l2 b3' l3:=by
     have hjl:=HJ.out
     subst hjl
     obtain⟨o1,o2,oM1,oM2⟩:=HO.out
     have hh:=HH.out
     obtain⟨a',c',ev,hoA⟩:=apm_whole hap hf.m
     injection ev with ev1 _ ev3
     subst ev1
     subst ev3
     have hXs:=HXS.out
     refine⟨b1,m1,e1,b2,e2,aj,cj,rfl,hYb,FmO.mk (L:=w.heap.size) (M1:=M) (M2:=w1.heap.size) hf.s hf.z ?_ ?_ ?_ (by omega) (by omega) (by omega)⟩
     · exact o1.keep (fun k hk1 hk2=>(hYo k (by omega)).trans (hbr.block k (by omega))) (by omega) (Nat.le_refl _)
     · exact o2.keep (fun k hk1 hk2=>(hYo k (by omega)).trans (hbr.block k (by omega))) (Nat.le_refl _) (Nat.le_refl _)
     · exact hoA.keep (fun k hk1 hk2=>hYo k (by omega)) (by omega) (by omega)
    rw [hYe] at hfin
    exact hfin
theorem ct_any (D:Nat):∀ d,SaidCt D d:=by
 intro d
 induction d using Nat.strongRecOn with
 | ind d ih=>exact ct_step D d ih
end Go.Proofs.Ytleghjgpnefliaa
