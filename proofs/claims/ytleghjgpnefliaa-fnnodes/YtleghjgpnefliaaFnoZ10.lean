/-
  'copyTerm' of the program: the same term in memory of its own.
-/
import Derived.Test.YtleghjgpnefliaaFnoZ7
import Derived.Test.YtleghjgpnefliaaFnoZ4
import Derived.Test.YtleghjgpnefliaaFnoZ1
import Derived.Deep.RegionWith
import Derived.Deep.RegionLaw
namespace Go.Proofs.Ytleghjgpnefliaa
open Go.RowKit
set_option linter.unusedVariables false
set_option linter.unusedSimpArgs false
theorem OwR.one {L B L' B':Nat} {w w':World} {d d':Nat} {ao:Option Addr} {len:Nat} {ts:List Tr} (h:OwR L B w d ao len ts) (hd:d≤d') (hb:∀ k,L≤k->k<B->w'.heap[k]?=w.heap[k]?) (hL:L'≤L) (hB:B≤B'):OwR L' B' w' d' ao len ts:=(h.deeper hd).keep hb hL hB
theorem pos_d {L B:Nat} {w:World} {D d:Nat} {ao:Option Addr} {len:Nat} {ts:List Tm} (h:Hm L B w D d ao len ts) {j:Nat} (hj:j<ts.length):d - 1<d:=by
 cases d with
 | zero=>obtain⟨_,rfl⟩:=h;simp at hj
 | succ d=>omega
theorem apm_whole {L B base:Nat} {w wr:World} {D D' d:Nat} {ao:Option Addr} {len:Nat} {v:Value} {ts:List Tm} (h:Qbr base wr D' (d - 1) v len ts) (hm:Hm L B w D d ao len ts):∃ a c,v=.slice a len c∧OwMR base wr.heap.size wr D' d a len ts:=by
 obtain⟨h1,h2⟩:=hm.len
 obtain⟨a,c,e,ho⟩:=apm_done h h1 h2
 refine⟨a,c,e,?_⟩
 cases d with
 | zero =>
   obtain⟨h3,h4⟩:=hm
   subst h3
   subst h4
   exact OwMR.nil _ _ _ _ _ _
 | succ d=>exact ho
def SaidLc (d:Nat):Prop:=∀ (L B:Nat) (k n:Int) (ao:Option Addr) (len cap:Nat) (ts:List Tr) (w:World),B≤w.heap.size->Hs L B w d ao len ts->cntS ts≤1048576 →
    Calls Try.prog 63 #[.agg #[.int .i64 k,.int .i64 n,.slice ao len cap]] w fun e w'=>∃ ao2 len2 cap2,e=.returned (.agg #[.int .i64 k,.int .i64 n,.slice ao2 len2 cap2])∧Below w.heap.size w w'∧OwR w.heap.size w'.heap.size w' d ao2 len2 ts
structure LcRel (w wr:World) (d kk:Nat) (box out:Array Value) (v:Value) (K N:Int) (g0 go:Nat) (ts:List Tr):Prop where
 bel:Below w.heap.size w wr
 hbox:wr.heap[g0]?=some (.cells box 26 (0,0))
 hout:wr.heap[go]?=some (.cells #[.int .i64 K,.int .i64 N,v] 26 (0,0))
 ap:Qbu (go+1) wr d v kk ts
set_option maxRecDepth 100000 in
set_option maxHeartbeats 2000000 in
theorem lc_succ (d:Nat) (IH:SaidLc d):SaidLc (d+1):=by
 intro L B k n ao len capA ts w hB hs hcnt
 have hl:len≤1048576:=by have:=hs.1;have:=Qem ts;omega
 have HL:Hid (len=ts.length):=hs.1
 obtain⟨X,hX⟩:∃ X,X=(((w.alloc (.cells #[.int .i64 k,.int .i64 n,.slice ao len capA] 26)).alloc (.cells #[.int .i64 0,.int .i64 0,.slice none 0 0] 26)).alloc (.cells #[.int .i64 k,.int .i64 n,.slice none 0 0] 26)):=⟨_,rfl⟩
 have hXs:X.heap.size=w.heap.size+3:=by rw [hX];simp
 have hXb:Below w.heap.size w X:=by rw [hX];exact (((Below.refl _ _).alloc (Nat.le_refl _) _).alloc (by simp) _).alloc (by simp;omega) _
 have hX0:X.heap[w.heap.size]?=some (.cells #[.int .i64 k,.int .i64 n,.slice ao len capA] 26 (0,0)):=by rw [hX,Below.heap_alloc _ _ _ (by simp only [World.size_alloc];omega),Below.heap_alloc _ _ _ (by simp only [World.size_alloc];omega)];exact Qac rfl
 have hX2:X.heap[w.heap.size+1+1]?=some (.cells #[.int .i64 k,.int .i64 n,.slice none 0 0] 26 (0,0)):=by rw [hX];exact Qac (by simp)
 have hX1:X.heap[w.heap.size+1]?=some (.cells #[.int .i64 0,.int .i64 0,.slice none 0 0] 26 (0,0)):=by rw [hX,Below.heap_alloc _ _ _ (by simp only [World.size_alloc];omega)];exact Qac (by simp)
 have HX:Hid (X=_):=hX
 have hStart:LcRel w X d 0 #[.int .i64 k,.int .i64 n,.slice ao len capA] #[] (.slice none 0 0) k n w.heap.size (w.heap.size+1+1) ts:=⟨hXb,hX0,hX2,ap_nil _ _ _ _⟩
 have HX1:Hid (_=_):=hX1
 clear hX hX0 hX1 hX2
 go_enter Try.func63,Try.ntmps63
 go_wp2_with fail
 rw [← HX.out]
 go_loopw [4] (fun i wr=>∃ (j:Nat) (v:Value),j≤len∧i=.int .i64 j∧Below (w.heap.size+1+1) X wr∧LcRel w wr d j #[.int .i64 k,.int .i64 n,.slice ao len capA] #[] v k n w.heap.size (w.heap.size+1+1) ts) (fun i _=>len - (intOf i).toNat)
 case atStart=>exact⟨0,_,by omega,rfl,Below.refl _ _,hStart⟩
 case round =>
  obtain⟨j,v,hj,rfl,hbX,hR⟩:=hrel
  have hbel:=hR.bel
  have hszr:w.heap.size+3≤wr.heap.size:=by have:=hbX.size;omega
  obtain⟨x0,x1,x2⟩:=Qaf hR.hbox
  obtain⟨y0,y1,y2⟩:=Qaf hR.hout
  clear x0 x1
  by_cases hlt:j<len
  · have hlt':j<ts.length:=by have:=HL.out;omega
    obtain⟨b,o,rfl,_,hbB,ao1,len1,cap1,c0,c1,c2,hs1⟩:=hs.2.2 j hlt'
    have e0:=(Qag hbel (by omega) _).trans c0
    have e1:=(Qag hbel (by omega) _).trans c1
    have e2:=(Qag hbel (by omega) _).trans c2
    have hs2:=(hs1.below hbel hB).drew
    have hc1:=Qcn ts j hlt'
    have hapd:Qbu (w.heap.size+1+1+1) wr.drew d v j ts:=ap_below hR.ap (Below.refl _ _).drew
    have APR:Hid (∀ (w1:World) (ao3:Option Addr) (len3 cap3:Nat),Below wr.drew.heap.size wr.drew w1->OwR wr.drew.heap.size w1.heap.size w1 d ao3 len3 ts[j].A->∃ g cap w2,(Builtin.append_ #[24,24] 24 #[v,.slice (some ⟨w1.heap.size,0,none⟩) 1 1]).run Try.prog (w1.alloc (.cells #[.int .i64 ts[j].K,.int .i64 ts[j].N,.slice ao3 len3 cap3] 26))=.ok (.slice (some ⟨g,0,none⟩) (j+1) cap) w2 ∧
     LcRel w (w2.setCell ⟨w.heap.size+1+1,2,none⟩ (.slice (some ⟨g,0,none⟩) (j+1) cap)) d (j+1) #[.int .i64 k,.int .i64 n,.slice (some ⟨b,o,none⟩) len capA] #[] (.slice (some ⟨g,0,none⟩) (j+1) cap) k n w.heap.size (w.heap.size+1+1) ts∧Below (w.heap.size+1+1) X (w2.setCell ⟨w.heap.size+1+1,2,none⟩ (.slice (some ⟨g,0,none⟩) (j+1) cap)) ∧
     w2.cell? ⟨w.heap.size+1+1,2,none⟩=some v∧w2.frozen? ⟨w.heap.size+1+1,2,none⟩=false):=by
     intro w1 ao3 len3 cap3 hb1 ho1
     obtain⟨g,cp,w2,hrun,hap2,hbe2⟩:=ap_run hapd hlt' (by have:=HL.out;omega) hb1 (show w.heap.size+1+1+1≤wr.heap.size by omega) ho1
     have hbe3:Below (w.heap.size+1+1+1) wr w2:=(Below.refl _ _).drew.trans hbe2
     have q:=(hbe3.block (w.heap.size+1+1) (by omega)).trans hR.hout
     refine⟨g,cp,w2,hrun,⟨(hbel.trans (hbe3.mono (by omega))).setCell (p:=⟨w.heap.size+1+1,2,none⟩) (show w.heap.size≤w.heap.size+1+1 by omega) _,?_,?_,Qdw hap2 (by omega) _⟩,(hbX.trans (hbe3.mono (by omega))).setCell (p:=⟨w.heap.size+1+1,2,none⟩) (Nat.le_refl _) _,(Qaf q).2.2,Qad q 2⟩
     · rw [Qah _ _ _ (by omega)]
       exact (hbe3.block w.heap.size (by omega)).trans hR.hbox
     · rw [Qas q]
       rfl
    clear c0 c1 c2
    go_wp2_with fail
    go_region_law (first|(refine Qbs hrun (by rfl) _ _ (by rfl) (by rfl) (by rfl) (by rfl) ?_)|(go_simp;go_at_call 63;refine (IH L B _ _ _ _ _ (ts[j]'hlt').A _ ?_ hs2 ?_).mono ?_;(show B≤wr.heap.size;omega);omega;rintro e w1 ⟨ao3,len3,cap3,rfl,hb1,ho1⟩;have hz1:w.heap.size+1+1<w1.heap.size:=Nat.lt_of_lt_of_le (show w.heap.size+1+1<wr.heap.size by omega) hb1.size;have a2:=(Qag hb1 (show w.heap.size+1+1<wr.heap.size by omega) 2).trans y2;have a3:(w1.alloc (.cells #[.int .i64 ts[j].K,.int .i64 ts[j].N,.slice ao3 len3 cap3] 26)).cell? ⟨w.heap.size+1+1,2,none⟩=some v:=(World.cell?_of_block (Below.heap_alloc _ _ _ hz1)).trans a2;obtain⟨g,cp,w2,hrun,hN,hbX2,q2,q3⟩:=APR.out w1 ao3 len3 cap3 hb1 ho1))
    all_goals
     clear e0 e1 e2 y0 y1 y2 x2 a2 a3 hrun q2 q3
     go_wp2_with fail
     go_roundw
     case rel=>exact⟨j+1,_,by omega,by go_num,hbX2,hN⟩
     case measure=>simp [intOf];omega
  · obtain⟨ao2,cap2,rfl,ho2⟩:=Qdm hR.ap (by have:=HL.out;omega) (by omega)
    have r:=(hbX.block (w.heap.size+1) (by omega)).trans HX1.out
    obtain⟨r0,r1,r2⟩:=Qaf r
    have r3:=Qad r
    clear r
    go_wp2_with fail
    obtain rfl:j=len:=by omega
    refine bodyPost_ret (v:=.agg #[.int .i64 k,.int .i64 n,.slice ao2 j cap2]) (by simp [results,Try.results63,go_sem,r0,r1,r2]) rfl ⟨ao2,j,cap2,rfl,?_,?_⟩
    · exact Qbg hbel (by omega)
    · refine ho2.keep (fun q hq _=>?_) (by omega) (by simp)
      rw [Qah _ _ _ (by omega),Qah _ _ _ (by omega),Qah _ _ _ (by omega)]
set_option maxHeartbeats 400000 in
theorem lc_zero:SaidLc 0:=by
 intro L B k n ao len cap ts w hB hs hcnt
 obtain⟨rfl,rfl⟩:=hs
 go_enter Try.func63,Try.ntmps63
 go_wp2_with fail
 refine wp_loop_rounds 1 ?_;rw [rounds_succ]
 go_wp2_with fail
 refine bodyPost_ret (v:=.agg #[.int .i64 k,.int .i64 n,.slice none 0 0]) (by simp [results,Try.results63,go_sem]) rfl ⟨none,0,0,rfl,?_,OwR.nil _ _ _ _ _⟩
 exact (((Below.refl _ _).alloc (Nat.le_refl _) _).alloc (by simp) _).alloc (by simp;omega) _
theorem Qed:∀ d,SaidLc d:=by
 intro d
 induction d with
 | zero=>exact lc_zero
 | succ d ih=>exact lc_succ d ih
theorem ap_emp {base:Nat} {w:World} {d b:Nat} (ts:List Tr) (h:w.heap[b]?=some (.cells #[] 26 (0,0))) (hb:base≤b):Qbu base w d (.slice (some ⟨b,0,none⟩) 0 0) 0 ts :=
 ⟨[],⟨by simp,Or.inr ⟨b,0,#[],by simp,hb,h,by simp,by simp,by simp,by simp⟩⟩,[],rfl,by simp,by simp,fun i hi=>by simp at hi⟩
set_option maxRecDepth 100000 in
set_option maxHeartbeats 2000000 in
theorem l2CopyTys_any (D L B:Nat) (ao:Option Addr) (len cap:Nat) (ts:List Tr) (w:World) (hB:B≤w.heap.size) (hs0:Hs L B w D ao len ts) (hcnt:cntS ts≤1048576) :
 Calls Try.prog 64 #[.slice ao len cap] w fun e w'=>∃ ao2 cap2,e=.returned (.slice ao2 len cap2)∧Below w.heap.size w w'∧OwR w.heap.size w'.heap.size w' (D+1) ao2 len ts:=by
 have hs:Hs L B w (D+1) ao len ts:=hs0.deeper (by omega)
 have hl:len≤1048576:=by have:=hs.1;have:=Qem ts;omega
 have HL:Hid (len=ts.length):=hs.1
 obtain⟨W,hW⟩:∃ W,W=w.alloc (.cells #[] 26):=⟨_,rfl⟩
 have hWb:Below w.heap.size w W:=by rw [hW];exact (Below.refl _ _).alloc (Nat.le_refl _) _
 have hW0:W.heap[w.heap.size]?=some (.cells #[] 26 (0,0)):=by rw [hW];exact Qac rfl
 have HW:Hid (W=_):=hW
 clear hW hs0
 go_enter Try.func64,Try.ntmps64
 go_wp2_with fail
 rw [← HW.out]
 go_loopw [3,4] (fun v i wr=>∃ (j:Nat) (aj:Option Addr) (cj:Nat),j≤len∧i=.int .i64 j∧v=.slice aj j cj∧Qbu w.heap.size wr D (.slice aj j cj) j ts∧Below w.heap.size w wr) (fun _ i _=>len - (intOf i).toNat)
 case atStart=>exact⟨0,_,_,by omega,rfl,rfl,ap_emp ts hW0 (Nat.le_refl _),hWb⟩
 case round =>
  obtain⟨j,aj,cj,hj,rfl,rfl,hap,hbr⟩:=hrel
  have hszr:=hbr.size
  by_cases hlt:j<len
  · have hlt':j<ts.length:=by have:=HL.out;omega
    obtain⟨b,o,rfl,_,hbB,ao1,len1,cap1,c0,c1,c2,hs1⟩:=hs.2.2 j hlt'
    have e0:=(Qag hbr (by omega) _).trans c0
    have e1:=(Qag hbr (by omega) _).trans c1
    have e2:=(Qag hbr (by omega) _).trans c2
    have hs2:=hs1.below hbr hB
    have hc1:=Qcn ts j hlt'
    have APR:Hid (∀ (w1:World) (ao3:Option Addr) (len3 cap3:Nat),Below wr.heap.size wr w1->OwR wr.heap.size w1.heap.size w1 D ao3 len3 ts[j].A->∃ g cap w2,(Builtin.append_ #[24,24] 24 #[.slice aj j cj,.slice (some ⟨w1.heap.size,0,none⟩) 1 1]).run Try.prog (w1.alloc (.cells #[.int .i64 ts[j].K,.int .i64 ts[j].N,.slice ao3 len3 cap3] 26))=.ok (.slice (some ⟨g,0,none⟩) (j+1) cap) w2∧Qbu w.heap.size w2 D (.slice (some ⟨g,0,none⟩) (j+1) cap) (j+1) ts∧Below w.heap.size w w2):=by
     intro w1 ao3 len3 cap3 hb1 ho1
     obtain⟨g,cp,w2,hrun,hap2,hbe2⟩:=ap_run hap hlt' (by have:=HL.out;omega) hb1 (by omega) ho1
     exact⟨g,cp,w2,hrun,hap2,hbr.trans hbe2⟩
    clear c0 c1 c2 hs1
    go_wp2_with fail
    refine (Qed D L B _ _ _ _ _ ts[j].A wr (by omega) hs2 (by omega)).mono ?_
    rintro e w1 ⟨ao3,len3,cap3,rfl,hb1,ho1⟩
    obtain⟨g,cp,w2,hrun,hap2,hbr2⟩:=APR.out w1 ao3 len3 cap3 hb1 ho1
    clear e0 e1 e2
    go_wp2_with (at_builtin;refine Qdf hrun (by rfl) _ _ (by rfl) (by rfl) (by rfl) (by rfl) ?_)
    clear hrun
    go_roundw
    case rel=>exact⟨j+1,_,_,by omega,by go_num,rfl,hap2,hbr2⟩
    case measure=>simp [intOf];omega
  · have hjl:j=len:=by omega
    have HJ:Hid (j=len):=hjl
    clear hjl
    go_wp2_with fail
    go_ret
    have hjl:=HJ.out
    subst hjl
    obtain⟨a',c',ev,ho⟩:=Qdm hap HL.out (by omega)
    injection ev with ev1 _ ev3
    subst ev1
    subst ev3
    exact⟨_,_,rfl,hbr,ho⟩
def SaidLm (D d:Nat):Prop:=∀ (L B:Nat) (t:Tm) (a1:Option Addr) (l1 c1:Nat) (a2:Option Addr) (l2 c2:Nat) (a3:Option Addr) (l3 c3:Nat) (w:World),B≤w.heap.size->Fm L B w D d t a1 l1 a2 l2 a3 l3->cntM t≤1048576 →
    Calls Try.prog 40 #[.agg #[.int .i64 t.K,.int .i64 t.N,.string t.S,.string t.Z,.int .i64 t.T.K,.int .i64 t.T.N,.slice a1 l1 c1,.slice a2 l2 c2,.slice a3 l3 c3]] w fun e w'=>∃ b1 m1 e1 b2 e2 b3 e3,e=.returned (.agg #[.int .i64 t.K,.int .i64 t.N,.string t.S,.string t.Z,.int .i64 t.T.K,.int .i64 t.T.N,.slice b1 m1 e1,.slice b2 l2 e2,.slice b3 l3 e3])∧Below w.heap.size w w'∧FmO w.heap.size w'.heap.size w' (D+1) d t b1 m1 b2 l2 b3 l3
set_option maxRecDepth 100000 in
set_option maxHeartbeats 4000000 in
theorem lm_step (D d:Nat) (IH:∀ e,e<d->SaidLm D e):SaidLm D d:=by
 intro L B t a1 l1 c1 a2 l2 c2 a3 l3 c3 w hB hf hc
 obtain⟨hl3,hl3m⟩:=hf.m.len
 have HL:Hid (l3=t.A.length):=hl3
 have hce:=Qav t
 unfold ownM at hce
 have hcT:cntS t.T.A≤1048576:=by omega
 have hcS:cntS t.Ts≤1048576:=by omega
 have hc3:l3≤1048576:=by have:=Qdb t.A;omega
 have HCA:Hid (Qci t.A≤1048576):=by show _≤_;omega
 obtain⟨X,hX⟩:∃ X,X=(((w.alloc (.cells #[.int .i64 t.K,.int .i64 t.N,.string t.S,.string t.Z,.int .i64 t.T.K,.int .i64 t.T.N,.slice a1 l1 c1,.slice a2 l2 c2,.slice a3 l3 c3] 29)).alloc (.cells #[.int .i64 0,.int .i64 0,.string ⟨#[]⟩,.string ⟨#[]⟩,.int .i64 0,.int .i64 0,.slice none 0 0,.slice none 0 0,.slice none 0 0] 29)).alloc (.cells #[.int .i64 t.K,.int .i64 t.N,.string t.S,.string t.Z,.int .i64 t.T.K,.int .i64 t.T.N,.slice a1 l1 c1,.slice a2 l2 c2,.slice a3 l3 c3] 29)):=⟨_,rfl⟩
 have hXs:X.heap.size=w.heap.size+3:=by rw [hX];simp
 have hXb:Below w.heap.size w X:=by rw [hX];exact (((Below.refl _ _).alloc (Nat.le_refl _) _).alloc (by simp) _).alloc (by simp;omega) _
 have hX0:X.heap[w.heap.size]?=some (.cells #[.int .i64 t.K,.int .i64 t.N,.string t.S,.string t.Z,.int .i64 t.T.K,.int .i64 t.T.N,.slice a1 l1 c1,.slice a2 l2 c2,.slice a3 l3 c3] 29 (0,0)):=by
  rw [hX,Below.heap_alloc _ _ _ (by simp;omega),Below.heap_alloc _ _ _ (by simp)];exact Qac rfl
 have hX1:X.heap[w.heap.size+1]?=some (.cells #[.int .i64 0,.int .i64 0,.string ⟨#[]⟩,.string ⟨#[]⟩,.int .i64 0,.int .i64 0,.slice none 0 0,.slice none 0 0,.slice none 0 0] 29 (0,0)):=by
  rw [hX,Below.heap_alloc _ _ _ (by simp)];exact Qac (by simp)
 have hX2:X.heap[w.heap.size+1+1]?=some (.cells #[.int .i64 t.K,.int .i64 t.N,.string t.S,.string t.Z,.int .i64 t.T.K,.int .i64 t.T.N,.slice a1 l1 c1,.slice a2 l2 c2,.slice a3 l3 c3] 29 (0,0)):=by rw [hX];exact Qac (by simp)
 have hfX:=Fm.below hXb hB hf
 have HX:Hid (X=_):=hX
 clear hX hce hl3
 go_enter Try.func40,Try.ntmps40
 go_wp2_with fail
 rw [← HX.out]
 refine (Qed D L B _ _ _ _ _ t.T.A X (by omega) hfX.t1 hcT).mono ?_
 rintro e w1 ⟨b1,m1,e1,rfl,hb1,ho1⟩
 have hz1:=hb1.size
 have hbw1:Below w.heap.size w w1:=hXb.trans (hb1.mono (by omega))
 have y0:=(hb1.block w.heap.size (by omega)).trans hX0
 have y1:=(hb1.block (w.heap.size+1) (by omega)).trans hX1
 have y2:=(hb1.block (w.heap.size+1+1) (by omega)).trans hX2
 obtain⟨f0,f1,f2,f3,f4,f5,f6,f7,f8⟩:=Nine.box y0
 obtain⟨_,_,_,_,q4,q5,q6,q7,q8⟩:=Nine.box y2
 have r2:=Qad y2
 go_wp2_with fail
 have hXc:Below w.heap.size w (set3 w1 (w.heap.size+1+1) 4 (.int .i64 t.T.K) (.int .i64 t.T.N) (.slice b1 m1 e1)):=Qbg hbw1 (by omega)
 have hf2:=Fm.below hXc hB hf
 have hzc:(set3 w1 (w.heap.size+1+1) 4 (.int .i64 t.T.K) (.int .i64 t.T.N) (.slice b1 m1 e1)).heap.size=w1.heap.size:=Qbp _ _ _ _ _ _
 refine (l2CopyTys_any D L B _ _ _ t.Ts (set3 w1 (w.heap.size+1+1) 4 (.int .i64 t.T.K) (.int .i64 t.T.N) (.slice b1 m1 e1)) (by omega) hf2.t2 hcS).mono ?_
 rintro e w2 ⟨b2,e2,rfl,hb2,ho2⟩
 have hz2:=hb2.size
 have hbw2:Below w.heap.size w w2:=hXc.trans (hb2.mono (by omega))
 have z0:=(hb2.block w.heap.size (by omega)).trans ((Qau _ (by omega)).trans y0)
 have z1:=(hb2.block (w.heap.size+1) (by omega)).trans ((Qau _ (by omega)).trans y1)
 have z2:w2.heap[w.heap.size+1+1]?=some (.cells #[.int .i64 t.K,.int .i64 t.N,.string t.S,.string t.Z,.int .i64 t.T.K,.int .i64 t.T.N,.slice b1 m1 e1,.slice a2 l2 c2,.slice a3 l3 c3] 29 (0,0)):=(hb2.block (w.heap.size+1+1) (by omega)).trans (Qbt y2)
 have o1:OwR (w.heap.size+3) w1.heap.size w2 (D+1) b1 m1 t.T.A:=ho1.one (by omega) (fun j hj1 hj2=>(hb2.block j (by omega)).trans (Qau j (by omega))) (by omega) (Nat.le_refl _)
 have o2:OwR w1.heap.size w2.heap.size w2 (D+1) b2 l2 t.Ts:=ho2.keep (fun j hj1 hj2=>rfl) (by omega) (by omega)
 clear f0 f1 f2 f3 f4 f5 f6 f7 f8 q4 q5 q6 q7 q8 r2 y0 y1 y2 ho1 ho2 hX0 hX1 hX2 hfX hf2
 obtain⟨f0,f1,f2,f3,f4,f5,f6,f7,f8⟩:=Nine.box z0
 obtain⟨_,_,_,_,q4,q5,q6,q7,q8⟩:=Nine.box z2
 have r2:=Qad z2
 obtain⟨h,hh⟩:∃ h,h=w.heap.size+1+1:=⟨_,rfl⟩
 have hz3:h+1≤w2.heap.size:=by omega
 have hlt2:h<w2.heap.size:=by omega
 obtain⟨W,hW⟩:∃ W,W=((w2.setCell ⟨h,7,none⟩ (.slice b2 l2 e2)).setCell ⟨h,8,none⟩ (.slice (some ⟨w2.heap.size,0,none⟩) 0 0)).alloc (.cells #[] 29):=⟨_,rfl⟩
 rw [← hh] at z2 q4 q5 q6 q7 q8 r2
 have hWs:W.heap.size=w2.heap.size+1:=by rw [hW];simp
 have hWo:∀ k,k<w2.heap.size->k≠h->W.heap[k]?=w2.heap[k]?:=fun k hk hkh=>by
  rw [hW,Below.heap_alloc _ _ _ (by simpa using hk),Qah _ _ _ hkh,Qah _ _ _ hkh]
 have hWh:W.heap[h]?=some (.cells #[.int .i64 t.K,.int .i64 t.N,.string t.S,.string t.Z,.int .i64 t.T.K,.int .i64 t.T.N,.slice b1 m1 e1,.slice b2 l2 e2,.slice (some ⟨w2.heap.size,0,none⟩) 0 0] 29 (0,0)):=by
  rw [hW]
  rw [Below.heap_alloc _ _ _ (by simp;omega),Qas (Qas z2 7 _)]
  rfl
 have hWn:W.heap[w2.heap.size]?=some (.cells #[] 29 (0,0)):=by
  rw [hW];exact Qac (by simp)
 have hWB:Below h w2 W:=by
  rw [hW]
  exact (((Below.refl _ _).setCell (p:=⟨h,7,none⟩) (Nat.le_refl _) _).setCell (p:=⟨h,8,none⟩) (Nat.le_refl _) _).alloc (by simp;omega) _
 have HW:Hid (W=_):=hW
 have HH:Hid (h=w.heap.size+1+1):=hh
 have hwh:w.heap.size+2≤h:=by omega
 have hwh2:w.heap.size<h:=by omega
 have HO:Hid (OwR (w.heap.size+3) w1.heap.size w2 (D+1) b1 m1 t.T.A∧OwR w1.heap.size w2.heap.size w2 (D+1) b2 l2 t.Ts∧w.heap.size+3≤w1.heap.size∧w1.heap.size≤w2.heap.size):=⟨o1,o2,by omega,by omega⟩
 have HWO:Hid (∀ k,k<w2.heap.size->k≠h->W.heap[k]?=w2.heap[k]?):=hWo
 have hxw0:W.heap[w.heap.size]?=_:=(hWo w.heap.size (by omega) (by omega)).trans z0
 have hxw1:W.heap[w.heap.size+1]?=_:=(hWo (w.heap.size+1) (by omega) (by omega)).trans z1
 have hbwW:Below w.heap.size w W:=hbw2.trans (hWB.mono (by omega))
 have hAp:Qbr w2.heap.size W (D+1) (d - 1) (.slice (some ⟨w2.heap.size,0,none⟩) 0 0) 0 t.A:=apm_emp t.A hWn (Nat.le_refl _)
 have HZ:Hid (W.heap.size=w2.heap.size+1):=hWs
 rw [← hh]
 clear hW hh z0 z1 z2 o1 o2 hWo hXc hzc hWs
 go_wp2_with fail
 rw [← HW.out]
 clear f0 f1 f2 f3 f4 f5 f6 f7 f8 q4 q5 q6 q7 q8 r2
 go_loopw [4] (fun i wr=>∃ (j:Nat) (aj:Option Addr) (cj:Nat),j≤l3∧i=.int .i64 j∧wr.heap[h]?=some (.cells #[.int .i64 t.K,.int .i64 t.N,.string t.S,.string t.Z,.int .i64 t.T.K,.int .i64 t.T.N,.slice b1 m1 e1,.slice b2 l2 e2,.slice aj j cj] 29 (0,0))∧Qbr w2.heap.size wr (D+1) (d - 1) (.slice aj j cj) j t.A∧W.heap.size≤wr.heap.size∧(∀ k,k<w2.heap.size->k≠h->wr.heap[k]?=W.heap[k]?)∧Below w.heap.size w wr) (fun i _=>l3 - (intOf i).toNat)
 case atStart=>exact⟨0,_,_,by omega,rfl,hWh,hAp,Nat.le_refl _,fun _ _ _=>rfl,hbwW⟩
 case round =>
  obtain⟨j,aj,cj,hj,rfl,hrow,hap,hzr,hold,hbw⟩:=hrel
  have hhr:=(Array.getElem?_eq_some_iff.1 hrow).1
  have hzW:=HZ.out
  have hb0:=(hold w.heap.size (by omega) (by omega)).trans hxw0
  obtain⟨f0,f1,f2,f3,f4,f5,f6,f7,f8⟩:=Nine.box hb0
  by_cases hlt:j<l3
  · have hlt':j<t.A.length:=by have:=HL.out;omega
    obtain⟨b,o,rfl,_,hbB,q1,n1,k1,q2,n2,k2,q3,n3,k3,h9,hf1⟩:=hf.m.get j hlt'
    obtain⟨e0,e1',e2',e3,e4,e5,e6,e7,e8⟩:=h9.below hbw (by omega)
    have hfP:Fm L B wr.drew D (d - 1) t.A[j] q1 n1 q2 n2 q3 n3:=Fm.drew (Fm.below hbw hB hf1)
    have hcj:cntM t.A[j]≤1048576:=by have:=cntMS_get t.A j hlt';have:=HCA.out;omega
    have hapP:Qbr w2.heap.size wr.drew (D+1) (d - 1) (.slice aj j cj) j t.A:=apm_below hap (Below.refl _ _).drew
    have APR:Hid (∀ (w3:World) (r1:Option Addr) (s1 u1:Nat) (r2:Option Addr) (s2 u2:Nat) (r3:Option Addr) (s3 u3:Nat),Below wr.drew.heap.size wr.drew w3->FmO wr.drew.heap.size w3.heap.size w3 (D+1) (d - 1) t.A[j] r1 s1 r2 s2 r3 s3 →
     ∃ g cp w4,(Builtin.append_ #[27,27] 27 #[.slice aj j cj,.slice (some ⟨w3.heap.size,0,none⟩) 1 1]).run Try.prog (w3.alloc (.cells #[.int .i64 t.A[j].K,.int .i64 t.A[j].N,.string t.A[j].S,.string t.A[j].Z,.int .i64 t.A[j].T.K,.int .i64 t.A[j].T.N,.slice r1 s1 u1,.slice r2 s2 u2,.slice r3 s3 u3] 29))=.ok (.slice (some ⟨g,0,none⟩) (j+1) cp) w4 ∧
       w4.cell? ⟨h,8,none⟩=some (.slice aj j cj)∧w4.frozen? ⟨h,8,none⟩=false ∧
       (w4.setCell ⟨h,8,none⟩ (.slice (some ⟨g,0,none⟩) (j+1) cp)).heap[h]?=some (.cells #[.int .i64 t.K,.int .i64 t.N,.string t.S,.string t.Z,.int .i64 t.T.K,.int .i64 t.T.N,.slice b1 m1 e1,.slice b2 l2 e2,.slice (some ⟨g,0,none⟩) (j+1) cp] 29 (0,0)) ∧
       Qbr w2.heap.size (w4.setCell ⟨h,8,none⟩ (.slice (some ⟨g,0,none⟩) (j+1) cp)) (D+1) (d - 1) (.slice (some ⟨g,0,none⟩) (j+1) cp) (j+1) t.A∧W.heap.size≤(w4.setCell ⟨h,8,none⟩ (.slice (some ⟨g,0,none⟩) (j+1) cp)).heap.size ∧
       (∀ k,k<w2.heap.size->k≠h->(w4.setCell ⟨h,8,none⟩ (.slice (some ⟨g,0,none⟩) (j+1) cp)).heap[k]?=W.heap[k]?)∧Below w.heap.size w (w4.setCell ⟨h,8,none⟩ (.slice (some ⟨g,0,none⟩) (j+1) cp))):=by
     intro w3 r1 s1 u1 r2 s2 u2 r3 s3 u3 hb3 ho3
     obtain⟨g,cp,w4,hrun,hap4,hbe4⟩:=apm_run (c1:=u1) (c2:=u2) (c3:=u3) hapP hlt' (by omega) hb3 (show w2.heap.size≤wr.heap.size by omega) ho3
     have hq:w4.heap[h]?=_:=(hbe4.block h (by omega)).trans hrow
     have hz4:wr.heap.size≤w4.heap.size:=hbe4.size
     refine⟨g,cp,w4,hrun,Qaa hq 8,Qad hq 8,?_,apm_set hap4 (by omega) _,by rw [World.size_setCell];omega,fun k hk hkh=>?_,(hbw.drew.trans (hbe4.mono (by omega))).setCell (p:=⟨h,8,none⟩) (show w.heap.size≤h by omega) _⟩
     · rw [Qas hq]
       rfl
     · rw [Qah _ _ _ hkh]
       exact (hbe4.block k hk).trans (hold k hk hkh)
    have y8:wr.cell? ⟨h,8,none⟩=some (.slice aj j cj):=Qaa hrow 8
    have hBP:B≤wr.heap.size:=by omega
    have IHj:=IH (d - 1) (pos_d hf.m hlt') L B t.A[j]
    clear h9 hf1 hapP hap hrow IH hold hb0
    go_wp2_with fail
    go_region_law (first|(refine Qbs hrun (by rfl) _ _ (by rfl) (by rfl) (by rfl) (by rfl) ?_)|(go_simp;go_at_call 40;refine (IHj _ _ _ _ _ _ _ _ _ wr.drew hBP hfP hcj).mono ?_;rintro e w3 ⟨r1,s1,u1,r2,u2,r3,u3,rfl,hb3,ho3⟩;have hz3':h<w3.heap.size:=Nat.lt_of_lt_of_le hhr hb3.size;have v8:=(Qag hb3 hhr 8).trans y8;have v9:(w3.alloc (.cells #[.int .i64 t.A[j].K,.int .i64 t.A[j].N,.string t.A[j].S,.string t.A[j].Z,.int .i64 t.A[j].T.K,.int .i64 t.A[j].T.N,.slice r1 s1 u1,.slice r2 n2 u2,.slice r3 n3 u3] 29)).cell? ⟨h,8,none⟩=some (.slice aj j cj):=(World.cell?_of_block (Below.heap_alloc _ _ _ hz3')).trans v8;obtain⟨g,cp,w4,hrun,hc8,hf8,hrow4,hap4,hzW4,hold4,hbw4⟩:=APR.out w3 r1 s1 u1 r2 n2 u2 r3 n3 u3 hb3 ho3))
    all_goals
     clear f0 f1 f2 f3 f4 f5 f6 f7 f8 e0 e1' e2' e3 e4 e5 e6 e7 e8 y8 v8 v9 hrun hc8 hf8 hzW
     go_wp2_with fail
     go_roundw
     case rel=>exact⟨j+1,_,_,by omega,by go_num,hrow4,hap4,hzW4,hold4,hbw4⟩
     case measure=>simp [intOf];omega
  · have HJ:Hid (j=l3):=by show _=_;omega
    have xr:=(hold (w.heap.size+1) (by omega) (by omega)).trans hxw1
    obtain⟨p0,p1,p2,p3,p4,p5,p6,p7,p8⟩:=Nine.box xr
    have pf:=Qad xr
    obtain⟨q0,q1,q2,q3,q4,q5,q6,q7,q8⟩:=Nine.box hrow
    clear hzW
    go_wp2_with fail
    obtain⟨Y,hYe⟩:∃ Y,Y=set9 wr (w.heap.size+1) 0 (.int .i64 t.K) (.int .i64 t.N) (.string t.S) (.string t.Z) (.int .i64 t.T.K) (.int .i64 t.T.N) (.slice b1 m1 e1) (.slice b2 l2 e2) (.slice aj j cj):=⟨_,rfl⟩
    have hYb:Below w.heap.size w Y:=by rw [hYe];exact Qcf hbw (by omega)
    have hYs:Y.heap.size=wr.heap.size:=by rw [hYe];exact Qcu _ _ _ _ _ _ _ _ _ _ _ _
    have hYo:∀ k,k≠w.heap.size+1->Y.heap[k]?=wr.heap[k]?:=fun k hk=>by rw [hYe];exact Qby k hk
    refine bodyPost_ret (v:=.agg #[.int .i64 t.K,.int .i64 t.N,.string t.S,.string t.Z,.int .i64 t.T.K,.int .i64 t.T.N,.slice b1 m1 e1,.slice b2 l2 e2,.slice aj j cj]) (by simp [results,Try.results40,go_sem,p0,p1,p2,p3,p4,p5,p6,p7,p8]) rfl ?_
    have hfin:∃ b1' m1' e1' b2' e2' b3' e3',Ending.returned (.agg #[.int .i64 t.K,.int .i64 t.N,.string t.S,.string t.Z,.int .i64 t.T.K,.int .i64 t.T.N,.slice b1 m1 e1,.slice b2 l2 e2,.slice aj j cj])=.returned (.agg #[.int .i64 t.K,.int .i64 t.N,.string t.S,.string t.Z,.int .i64 t.T.K,.int .i64 t.T.N,.slice b1' m1' e1',.slice b2' l2 e2',.slice b3' l3 e3'])∧Below w.heap.size w Y∧FmO w.heap.size Y.heap.size Y (D+1) d t b1' m1' b2' l2 b3' l3:=by
     have hjl:=HJ.out
     subst hjl
     obtain⟨o1,o2,oM1,oM2⟩:=HO.out
     have hh:=HH.out
     have hzW:=HZ.out
     obtain⟨a',c',ev,hoA⟩:=apm_whole hap hf.m
     injection ev with ev1 _ ev3
     subst ev1
     subst ev3
     have hchain:∀ k,k<w2.heap.size->w.heap.size+3≤k->Y.heap[k]?=w2.heap[k]?:=fun k hk1 hk2=>(hYo k (by omega)).trans ((hold k hk1 (by omega)).trans (HWO.out k hk1 (by omega)))
     refine⟨b1,m1,e1,b2,e2,aj,cj,rfl,hYb,FmO.mk (L:=w.heap.size) (M1:=w1.heap.size) (M2:=w2.heap.size) hf.s hf.z ?_ ?_ ?_ (by omega) (by omega) (by omega)⟩
     · exact o1.keep (fun k hk1 hk2=>hchain k (by omega) hk1) (by omega) (Nat.le_refl _)
     · exact o2.keep (fun k hk1 hk2=>hchain k hk2 (by omega)) (Nat.le_refl _) (Nat.le_refl _)
     · exact hoA.keep (fun k hk1 hk2=>hYo k (by omega)) (Nat.le_refl _) (by omega)
    rw [hYe] at hfin
    exact hfin
theorem lm_any (D:Nat):∀ d,SaidLm D d:=by
 intro d
 induction d using Nat.strongRecOn with
 | ind d ih=>exact lm_step D d ih
end Go.Proofs.Ytleghjgpnefliaa
