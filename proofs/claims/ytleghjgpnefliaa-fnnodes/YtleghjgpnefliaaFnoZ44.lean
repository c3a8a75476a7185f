/-
  What the program's 'sameRightTerm' and 'slices.EqualFunc' of terms by it come to.
-/
import Derived.Test.YtleghjgpnefliaaFnoZ43
import Derived.Test.YtleghjgpnefliaaFnoZ1
import Derived.Test.YtleghjgpnefliaaFnoZ11
import Derived.LaidEqlPtr
import Derived.Laws.StructEq
import Derived.MapKept
import Derived.Test.YtleghjgpnefliaaFnoZ4
import Derived.Test.YtleghjgpnefliaaFnoZ2
namespace Go.Proofs.Ytleghjgpnefliaa
open Go.RowKit
set_option linter.unusedVariables false
set_option linter.unusedSimpArgs false
def SaidRtM (d:Nat):Prop:=∀ (D L B L' B':Nat) (t t':Tm) (a1:Option Addr) (l1 c1:Nat) (a2:Option Addr) (l2 c2:Nat) (a3:Option Addr) (l3 c3:Nat) (b1:Option Addr) (m1 d1:Nat) (b2:Option Addr) (m2 d2:Nat) (b3:Option Addr) (m3 d3:Nat) (b:Bool) (w:World),B≤w.heap.size->B'≤w.heap.size->Fm L B w D d t a1 l1 a2 l2 a3 l3->Fm L' B' w D d t' b1 m1 b2 m2 b3 m3 →
    (b=true↔t=t') →
    Calls Try.prog 25 #[.agg #[.int .i64 t.K,.int .i64 t.N,.string t.S,.string t.Z,.int .i64 t.T.K,.int .i64 t.T.N,.slice a1 l1 c1,.slice a2 l2 c2,.slice a3 l3 c3],.agg #[.int .i64 t'.K,.int .i64 t'.N,.string t'.S,.string t'.Z,.int .i64 t'.T.K,.int .i64 t'.T.N,.slice b1 m1 d1,.slice b2 m2 d2,.slice b3 m3 d3]] w fun e w'=>e=.returned (.bool b)∧Below w.heap.size w w'
def SaidEfM (d:Nat):Prop:=∀ (D L B L' B':Nat) (ao:Option Addr) (len cap:Nat) (ts:List Tm) (ao':Option Addr) (len' cap':Nat) (ts':List Tm) (b:Bool) (w:World),B≤w.heap.size->B'≤w.heap.size->Hm L B w D d ao len ts->Hm L' B' w D d ao' len' ts'->(b=true↔ts=ts') →
    Calls Try.prog 45 #[.slice ao len cap,.slice ao' len' cap',.func (.func 25) #[] #[]] w fun e w'=>e=.returned (.bool b)∧Below w.heap.size w w'
set_option maxHeartbeats 2000000 in
theorem efM_step (d:Nat) (IH:0<d->SaidRtM (d - 1)):SaidEfM d:=by
 intro D L B L' B' ao len cap ts ao' len' cap' ts' b w hB hB' hs hs' hb
 have hl:=hs.len.2
 have hl':=hs'.len.2
 have HL:Hid (len=ts.length):=hs.len.1
 have HL':Hid (len'=ts'.length):=hs'.len.1
 have HB:Hid (b=true↔ts=ts'):=hb
 clear hb
 by_cases h3:len=len'
 case' neg =>
  have h3b:((len:Int) != (len':Int))=true:=by rw [bne_iff_ne];omega
  have HF:Hid (b=false):=by show _=_;rw [Bool.eq_false_iff];intro h;exact h3 (by rw [HL.out,HL'.out,HB.out.1 h])
  clear h3
  go_enter Try.func45,Try.ntmps45
  go_wp2_with fail
  go_ret
  exact⟨Qak HF.out.symm,Below.refl _ _⟩
 have h3b:((len:Int) != (len':Int))=false:=by simp [h3]
 have H3:Hid (len=len'):=h3
 clear h3
 go_enter Try.func45,Try.ntmps45
 go_wp2_with fail
 go_loopw [17] (fun i wr=>∃ j:Nat,j≤len∧i=.int .i64 j∧Hid (likeMB ts ts' j)∧Below w.heap.size w wr) (fun i _=>len - (intOf i).toNat)
 case atStart=>exact⟨0,by omega,rfl,rfl,Below.refl _ _⟩
 case round =>
  obtain⟨j,hj,rfl,HA,hbr⟩:=hrel
  have hszr:=hbr.size
  by_cases hlt:j<len
  · have hlt1:j<ts.length:=by have:=HL.out;omega
    have hlt2:j<ts'.length:=by have:=HL'.out;have:=H3.out;omega
    have hlt':j<len':=by have:=H3.out;omega
    have hd:0<d:=by cases d with|zero=>obtain⟨_,e⟩:=hs;rw [e] at hlt1;simp at hlt1|succ d=>omega
    obtain⟨x,o,rfl,_,hxB,u1,u2,u3,u4,u5,u6,u7,u8,u9,h9,hg1⟩:=hs.get j hlt1
    obtain⟨x',o',rfl,_,hxB',v1,v2,v3,v4,v5,v6,v7,v8,v9,h9',hg2⟩:=hs'.get j hlt2
    obtain⟨e0,e1,e2,e3,e4,e5,e6,e7,e8⟩:=h9.below hbr (by omega)
    obtain⟨e0',e1',e2',e3',e4',e5',e6',e7',e8'⟩:=h9'.below hbr (by omega)
    have hxr':x'<wr.heap.size:=by omega
    have hba:Below w.heap.size w ((wr.alloc (.cells #[.int .i64 ts[j].K,.int .i64 ts[j].N,.string ts[j].S,.string ts[j].Z,.int .i64 ts[j].T.K,.int .i64 ts[j].T.N,.slice u1 u2 u3,.slice u4 u5 u6,.slice u7 u8 u9] 29)).alloc (.cells #[.int .i64 ts'[j].K,.int .i64 ts'[j].N,.string ts'[j].S,.string ts'[j].Z,.int .i64 ts'[j].T.K,.int .i64 ts'[j].T.N,.slice v1 v2 v3,.slice v4 v5 v6,.slice v7 v8 v9] 29)):=(hbr.alloc (by omega) _).alloc (by simp;omega) _
    have hr1:=Fm.below hba hB hg1
    have hr2:=Fm.below hba hB' hg2
    clear h9 h9'
    by_cases heq:ts[j]=ts'[j]
    · have HE:Hid (ts[j]=ts'[j]):=heq
      have HN:Hid (likeMB ts ts' (j+1)):=likeM_next HA.out hlt1 hlt2 heq
      clear heq
      go_wp2_with fail
      refine (IH hd D L B L' B' ts[j] ts'[j] _ _ _ _ _ _ _ _ _ _ _ _ _ _ _ _ _ _ true _ (by simp;omega) (by simp;omega) hr1 hr2 (Iff.intro (fun _=>HE.out) (fun _=>rfl))).mono ?_
      rintro e w2 ⟨rfl,hb2⟩
      have hbr2:Below w.heap.size w w2:=hba.trans (hb2.mono (by simp;omega))
      go_wp2_with fail
      go_roundw
      case rel=>exact⟨j+1,by omega,by go_num,HN,hbr2⟩
      case measure=>simp [intOf];omega
    · have HE:Hid (¬ ts[j]=ts'[j]):=heq
      have HN:Hid (b=false):=by show _=_;rw [Bool.eq_false_iff];intro h;exact unlikeM_at hlt1 hlt2 heq (HB.out.1 h)
      clear heq
      go_wp2_with fail
      refine (IH hd D L B L' B' ts[j] ts'[j] _ _ _ _ _ _ _ _ _ _ _ _ _ _ _ _ _ _ false _ (by simp;omega) (by simp;omega) hr1 hr2 (Iff.intro (fun h=>nomatch h) (fun h=>(HE.out h).elim))).mono ?_
      rintro e w2 ⟨rfl,hb2⟩
      go_wp2_with fail
      go_ret
      exact⟨Qak HN.out.symm,hba.trans (hb2.mono (by simp;omega))⟩
  · have HT:Hid (b=true):=HB.out.2 (likeM_all HA.out (by have:=HL.out;omega) (by have:=HL'.out;have:=H3.out;omega))
    go_wp2_with fail
    go_ret
    exact⟨Qak HT.out.symm,hbr⟩
set_option maxHeartbeats 2000000 in
theorem rtM_of (d:Nat) (h:SaidEfM d):SaidRtM d:=by
 intro D L B L' B' t t' a1 l1 c1 a2 l2 c2 a3 l3 c3 b1 m1 d1 b2 m2 d2 b3 m3 d3 b w hB hB' hf hf' hb
 have hl2:=hf.t2.len.2
 have hm2:=hf'.t2.len.2
 have hl3:=hf.m.len.2
 have hm3:=hf'.m.len.2
 have HL2:Hid (l2=t.Ts.length):=hf.t2.len.1
 have HM2:Hid (m2=t'.Ts.length):=hf'.t2.len.1
 have HL3:Hid (l3=t.A.length):=hf.m.len.1
 have HM3:Hid (m3=t'.A.length):=hf'.m.len.1
 have HB:Hid (b=true↔t=t'):=hb
 clear hb
 obtain⟨X,hX⟩:∃ X,X=((w.alloc (.cells #[.int .i64 t.K,.int .i64 t.N,.string t.S,.string t.Z,.int .i64 t.T.K,.int .i64 t.T.N,.slice a1 l1 c1,.slice a2 l2 c2,.slice a3 l3 c3] 29)).alloc (.cells #[.int .i64 t'.K,.int .i64 t'.N,.string t'.S,.string t'.Z,.int .i64 t'.T.K,.int .i64 t'.T.N,.slice b1 m1 d1,.slice b2 m2 d2,.slice b3 m3 d3] 29)):=⟨_,rfl⟩
 have hbel:Below w.heap.size w X:=by rw [hX];exact ((Below.refl _ _).alloc (Nat.le_refl _) _).alloc (by simp) _
 have hXs:X.heap.size=w.heap.size+2:=by rw [hX];simp
 have hX0:X.heap[w.heap.size]?=some (.cells #[.int .i64 t.K,.int .i64 t.N,.string t.S,.string t.Z,.int .i64 t.T.K,.int .i64 t.T.N,.slice a1 l1 c1,.slice a2 l2 c2,.slice a3 l3 c3] 29 (0,0)):=by rw [hX,Below.heap_alloc _ _ _ (by simp)];exact Qac rfl
 have hX1:X.heap[w.heap.size+1]?=some (.cells #[.int .i64 t'.K,.int .i64 t'.N,.string t'.S,.string t'.Z,.int .i64 t'.T.K,.int .i64 t'.T.N,.slice b1 m1 d1,.slice b2 m2 d2,.slice b3 m3 d3] 29 (0,0)):=by rw [hX];exact Qac (by simp)
 have HX:Hid (X=_):=hX
 clear hX
 go_enter Try.func25,Try.ntmps25
 go_wp2_with fail
 rw [← HX.out]
 refine (sameTermNode_any t t' _ _ _ _ _ _ _ _ _ _ _ _ _ _ _ hl2 hm2 hl3 hm3).mono ?_
 rintro e w1 ⟨rfl,hb1⟩
 have hz1:=hb1.size
 have hbw1:Below w.heap.size w w1:=hbel.trans (hb1.mono (by omega))
 have y0:=(hb1.block _ (by omega)).trans hX0
 have y1:=(hb1.block _ (by omega)).trans hX1
 clear hX0 hX1
 cases hq:likeTm t t' l2 m2 l3 m3
 · have HF:Hid (b=false):=by
    show _=_
    rw [Bool.eq_false_iff];intro hh
    have e:=HB.out.1 hh
    have e2:=HL2.out;have e3:=HM2.out;have e4:=HL3.out;have e5:=HM3.out
    subst e
    rw [e2,e3,e4,e5] at hq
    simp [likeTm] at hq
   clear hq
   go_wp2_with fail
   go_ret
   exact⟨Qak HF.out.symm,hbw1⟩
 have HQ:Hid (t.K=t'.K∧t.N=t'.N∧t.S=t'.S∧t.Z=t'.Z):=by
  simp only [likeTm,Bool.and_eq_true] at hq
  exact⟨beq_iff_eq.1 hq.1.1.1.1.1,beq_iff_eq.1 hq.1.1.1.1.2,bytes_eq hq.1.1.1.2,bytes_eq hq.1.1.2⟩
 clear hq
 obtain⟨f0,f1,f2,f3,f4,f5,f6,f7,f8⟩:=Nine.box y0
 obtain⟨g0,g1,g2,g3,g4,g5,g6,g7,g8⟩:=Nine.box y1
 simp only [Nat.zero_add] at f1 f2 f3 f4 f5 f6 f7 f8 g1 g2 g3 g4 g5 g6 g7 g8
 have hf1:=Fm.below hbw1 hB hf
 have hf1':=Fm.below hbw1 hB' hf'
 by_cases h5:t.T=t'.T
 case' neg =>
  have HF:Hid (b=false):=by show _=_;rw [Bool.eq_false_iff];intro hh;exact h5 (congrArg Tm.T (HB.out.1 hh))
  have HE:Hid (¬ t.T=t'.T):=h5
  clear h5
  go_wp2_with fail
  refine (rt_any D L B L' B' _ _ _ _ _ t.T.A _ _ _ _ _ t'.T.A false _ (by omega) (by omega) hf1.t1 hf1'.t1 (Iff.intro (fun h=>nomatch h) (fun h=>(HE.out (by rw [Qap,Qap] at h;exact h)).elim))).mono ?_
  rintro e w2 ⟨rfl,hb2⟩
  go_wp2_with fail
  go_ret
  exact⟨Qak HF.out.symm,hbw1.trans (hb2.mono (by omega))⟩
 have H5:Hid (t.T=t'.T):=h5
 clear h5
 go_wp2_with fail
 refine (rt_any D L B L' B' _ _ _ _ _ t.T.A _ _ _ _ _ t'.T.A true _ (by omega) (by omega) hf1.t1 hf1'.t1 (Iff.intro (fun _=>by rw [Qap,Qap];exact H5.out) (fun _=>rfl))).mono ?_
 rintro e w2 ⟨rfl,hb2⟩
 have hz2:=hb2.size
 have hbw2:Below w.heap.size w w2:=hbw1.trans (hb2.mono (by omega))
 replace y0:=(hb2.block _ (by omega)).trans y0
 replace y1:=(hb2.block _ (by omega)).trans y1
 clear f0 f1 f2 f3 f4 f5 f6 f7 f8 g0 g1 g2 g3 g4 g5 g6 g7 g8 hf1 hf1'
 obtain⟨f0,f1,f2,f3,f4,f5,f6,f7,f8⟩:=Nine.box y0
 obtain⟨g0,g1,g2,g3,g4,g5,g6,g7,g8⟩:=Nine.box y1
 simp only [Nat.zero_add] at f7 f8 g7 g8
 clear f0 f1 f2 f3 f4 f5 f6 g0 g1 g2 g3 g4 g5 g6
 have hf2:=Fm.below hbw2 hB hf
 have hf2':=Fm.below hbw2 hB' hf'
 by_cases h6:t.Ts=t'.Ts
 case' neg =>
  have HF:Hid (b=false):=by show _=_;rw [Bool.eq_false_iff];intro hh;exact h6 (congrArg Tm.Ts (HB.out.1 hh))
  have HE:Hid (¬ t.Ts=t'.Ts):=h6
  clear h6
  go_wp2_with fail
  refine (eqFuncTy_any D L B L' B' _ _ _ t.Ts _ _ _ t'.Ts false _ (by omega) (by omega) hf2.t2 hf2'.t2 (Iff.intro (fun h=>nomatch h) (fun h=>(HE.out h).elim))).mono ?_
  rintro e w3 ⟨rfl,hb3⟩
  go_wp2_with fail
  go_ret
  exact⟨Qak HF.out.symm,hbw2.trans (hb3.mono (by omega))⟩
 have H6:Hid (t.Ts=t'.Ts):=h6
 clear h6
 go_wp2_with fail
 refine (eqFuncTy_any D L B L' B' _ _ _ t.Ts _ _ _ t'.Ts true _ (by omega) (by omega) hf2.t2 hf2'.t2 (Iff.intro (fun _=>H6.out) (fun _=>rfl))).mono ?_
 rintro e w3 ⟨rfl,hb3⟩
 have hz3:=hb3.size
 have hbw3:Below w.heap.size w w3:=hbw2.trans (hb3.mono (by omega))
 replace f8:=(Qag hb3 (by omega) 8).trans f8
 replace g8:=(Qag hb3 (by omega) 8).trans g8
 clear f7 g7
 have hf3:=Fm.below hbw3 hB hf
 have hf3':=Fm.below hbw3 hB' hf'
 have HA:Hid (b=true↔t.A=t'.A):=by
  show _↔_
  rw [HB.out]
  have k1:=HQ.out;have k5:=H5.out;have k6:=H6.out
  constructor
  · intro hh;rw [hh]
  · intro hh
    cases t;cases t';simp_all
 go_wp2_with fail
 refine (h D L B L' B' _ _ _ t.A _ _ _ t'.A b _ (by omega) (by omega) hf3.m hf3'.m HA.out).mono ?_
 rintro e w4 ⟨rfl,hb4⟩
 go_wp2_with fail
 go_ret
 exact⟨rfl,hbw3.trans (hb4.mono (by omega))⟩
theorem rtM_any (d:Nat):SaidRtM d:=by
 induction d with
 | zero=>exact rtM_of 0 (efM_step 0 (fun h=>by omega))
 | succ d ih=>exact rtM_of (d+1) (efM_step (d+1) (fun _=>by simpa using ih))
theorem least_ex (R:Value->World->Nat->Prop):∃ μ:Value->World->Nat,∀ v wr n,R v wr n->μ v wr≤n∧R v wr (μ v wr):=by
 classical
 have h:∀ v wr,∃ m,∀ n,R v wr n->m≤n∧R v wr m:=by
  intro v wr
  have key:∀ n,R v wr n->∃ m,R v wr m∧∀ k,R v wr k->m≤k:=by
   intro n
   induction n using Nat.strongRecOn with
   | ind n ih =>
     intro hn
     by_cases hs:∃ k,k<n∧R v wr k
     · obtain⟨k,hk,hR⟩:=hs
       exact ih k hk hR
     · exact⟨n,hn,fun k hk=>by
        by_cases hlt:k<n
        · exact (hs ⟨k,hlt,hk⟩).elim
        · omega⟩
  by_cases he:∃ n,R v wr n
  · obtain⟨n,hn⟩:=he
    obtain⟨m,h1,h2⟩:=key n hn
    exact⟨m,fun k hk=>⟨h2 k hk,h1⟩⟩
  · exact⟨0,fun n hn=>(he ⟨n,hn⟩).elim⟩
 exact⟨fun v wr=>Classical.choose (h v wr),fun v wr n hn=>Classical.choose_spec (h v wr) n hn⟩
theorem Try.stood:Try.prog.stoodInHeld 99=false:=by kernel_rfl
theorem Try.infoTyP:(Try.prog.info? 26).map (fun i=>i.size)=some 3:=by kernel_rfl
theorem Try.infoU:(Try.prog.info? 74).map (fun i=>i.zero)=some (some (.agg #[])):=by kernel_rfl
def keyV (c:Nat) (q:Option Addr) (n:Int):Value:=.agg #[.pointer (some ⟨c,0,none⟩),.pointer q,.int .i64 n]
set_option maxRecDepth 100000 in
set_option maxHeartbeats 1000000 in
theorem key_other {w:World} {c c':Nat} {q q':Option Addr} {n n':Int} {cs cs':Array Value} {t t':TypeId} (hne:c≠c') (h:w.heap[c]?=some (.cells cs t (0,0))) (h':w.heap[c']?=some (.cells cs' t' (0,0))) :
 (Op.equal 99 (keyV c q n) (keyV c' q' n')).run Try.prog w=.ok false w:=by
 obtain⟨i0,hi,hz⟩:=Option.map_eq_some_iff.1 Try.infoTyP
 have hA:(⟨c,0,none⟩:Addr)≠⟨c',0,none⟩:=by intro e;exact hne (congrArg Addr.block e)
 have hs:=run_sameAddr_other (P:=Try.prog) w (a:=⟨c,0,none⟩) (b:=⟨c',0,none⟩) hA h h'
 have hp:∀ d:Nat,(Op.equalIn (d+1) 97 (.pointer (some ⟨c,0,none⟩)) (.pointer (some ⟨c',0,none⟩))).run Try.prog w=.ok false w:=fun d=>by
  simp [Op.equalIn,run_underlying Try.underlying97,sizeOf,typeInfo,hi,hz,hs]
 have hpart:∀ a b d:Value,(part 97 #[a,b,d] 0).run Try.prog w=.ok a w:=fun a b d=>by
  simp [part,isAgg,run_underlying Try.underlying97]
 unfold Op.equal keyV
 show (Op.equalIn (9999+1) _ _ _).run _ _=_
 rw [run_equalIn_struct w 9999 _ _ _ (by unfold Program.fieldsOf;rw [Try.underlying99]) Try.stood]
 simp [Program.fieldsOf,Try.underlying99,Op.eqFields,hpart,hp 9998]
def KeysIn (es:Array MapEntry) (cs:List Nat):Prop:=∀ e∈es.toList,∃ c q n,c∈cs∧e.key=keyV c q n
theorem find_none {w:World} {c:Nat} {q:Option Addr} {n:Int} {cs:List Nat} (hfr:∀ x,x=c∨x∈cs->∃ a t,w.heap[x]?=some (.cells a t (0,0))) (hc:c ∉ cs) :
 ∀ (es:List MapEntry) (i:Nat),(∀ e∈es,∃ c q n,c∈cs∧e.key=keyV c q n)->(Instr.findAsking 99 (keyV c q n) es i).run Try.prog w=.ok none w:=by
 intro es
 induction es with
 | nil=>intro i _;simp [Instr.findAsking]
 | cons e es ih =>
   intro i h
   obtain⟨c',q',n',hc',he⟩:=h e (by simp)
   obtain⟨a,t,ha⟩:=hfr c (Or.inl rfl)
   obtain⟨a',t',ha'⟩:=hfr c' (Or.inr hc')
   have hne:c≠c':=fun e=>hc (e ▸ hc')
   have hk:=key_other (q:=q) (n:=n) (q':=q') (n':=n') hne ha ha'
   simp [Instr.findAsking,he,hk,ih (i+1) (fun e he=>h e (by simp [he]))]
theorem find_key {w:World} {c:Nat} {q:Option Addr} {n:Int} {cs:List Nat} (hfr:∀ x,x=c∨x∈cs->∃ a t,w.heap[x]?=some (.cells a t (0,0))) (hc:c ∉ cs) {es:Array MapEntry} (hk:KeysIn es cs) :
 (Instr.findKey 99 (keyV c q n) es.toList).run Try.prog w=.ok none w:=by
 have h2:=find_none (w:=w) (q:=q) (n:=n) hfr hc es.toList 0 hk
 unfold Instr.findKey
 simp only [Sem.run_bind,run_underlying Try.underlying99,Result.andThen_ok]
 cases hes:es.toList with
 | nil=>simp [Instr.findNow]
 | cons e l =>
   rw [hes] at h2
   simp [Instr.findNow,Instr.sameNow,h2]
set_option maxRecDepth 100000 in
theorem check_key {w:World} (b:Bool) (c:Nat) (q:Option Addr) (n:Int):(Instr.checkKey b 10000 99 (keyV c q n)).run Try.prog w=.ok () w:=by
 have hp:∀ (d:Nat) (v:Option Addr),(Instr.checkKey b (d+1) 97 (.pointer v)).run Try.prog w=.ok () w:=fun d v=>by simp [Instr.checkKey,run_underlying Try.underlying97]
 have hn:∀ (d:Nat) (v:Int),(Instr.checkKey b (d+1) 3 (.int .i64 v)).run Try.prog w=.ok () w:=fun d v=>by simp [Instr.checkKey,run_underlying Try.underlying3]
 have hpart0:∀ a b d:Value,(part 97 #[a,b,d] 0).run Try.prog w=.ok a w:=fun a b d=>by simp [part,isAgg,run_underlying Try.underlying97]
 have hpart1:∀ a b d:Value,(part 97 #[a,b,d] 1).run Try.prog w=.ok b w:=fun a b d=>by simp [part,isAgg,run_underlying Try.underlying97]
 have hpart2:∀ a b d:Value,(part 3 #[a,b,d] 2).run Try.prog w=.ok d w:=fun a b d=>by simp [part,isAgg,run_underlying Try.underlying3]
 unfold keyV
 show (Instr.checkKey b (9999+1) _ _).run _ _=_
 rw [Instr.checkKey]
 simp only [Sem.run_bind,run_underlying Try.underlying99,Result.andThen_ok]
 simp [hpart0,hpart1,hpart2,hp 9998,hn 9998]
theorem lookup_new {w:World} {mp c:Nat} {q:Option Addr} {n:Int} {cs:List Nat} {es:Array MapEntry} {clock:Nat} (hm:w.heap[mp]?=some (.map es clock)) (hfr:∀ x,x=c∨x∈cs->∃ a t,w.heap[x]?=some (.cells a t (0,0))) (hc:c ∉ cs) (hk:KeysIn es cs) :
 (Instr.lookup 96 (.map (some mp)) (keyV c q n) true).run Try.prog w=.ok (.tuple #[.agg #[],.bool false]) w:=by
 have h1:=find_key (w:=w) (q:=q) (n:=n) hfr hc hk
 have h2:=check_key (w:=w) es.isEmpty c q n
 obtain⟨i1,hi1,hz1⟩:=Option.map_eq_some_iff.1 Try.infoU
 have hz:(zeroValue 74).run Try.prog w=.ok (.agg #[]) w:=by
  simp [zeroValue,typeInfo,hi1,hz1]
 have hg:=MapKept.run_getObj_map (P:=Try.prog) hm
 unfold Instr.lookup
 simp [run_underlying Try.underlying96,hg,h1,h2,hz]
theorem update_new {w:World} {mp c:Nat} {q:Option Addr} {n:Int} {cs:List Nat} {es:Array MapEntry} {clock:Nat} (hm:w.heap[mp]?=some (.map es clock)) (hfr:∀ x,x=c∨x∈cs->∃ a t,w.heap[x]?=some (.cells a t (0,0))) (hc:c ∉ cs) (hk:KeysIn es cs) :
 (Instr.mapUpdate 96 (.map (some mp)) (keyV c q n) (.agg #[])).run Try.prog w=.ok () { w with heap:=w.heap.setIfInBounds mp (.map (es.push { key:=keyV c q n,val:=.agg #[],born:=clock }) (clock+1)) }:=by
 have h1:=find_key (w:=w) (q:=q) (n:=n) hfr hc hk
 have h2:=check_key (w:=w) false c q n
 have hg:=MapKept.run_getObj_map (P:=Try.prog) hm
 have hs:=fun o=>MapKept.run_setObj_map (P:=Try.prog) o hm
 unfold Instr.mapUpdate
 simp [run_underlying Try.underlying96,hg,hs,h1,h2]
theorem Try.infoTwo:(Try.prog.info? 70).map (fun i=>(i.zero,i.size,i.bytes))=some (some (.agg #[.int .i64 0,.int .i64 0,.slice none 0 0,.int .i64 0,.int .i64 0,.slice none 0 0]),6,80):=by kernel_rfl
structure It where
 k:Int
 n:Int
 ao:Option Addr
 len:Nat
 cap:Nat
 ts:List Tr
 bs:List Nat
 k':Int
 n':Int
 ao':Option Addr
 len':Nat
 cap':Nat
 ts':List Tr
def It.x (i:It):Tr:=⟨i.k,i.n,i.ts⟩
def It.y (i:It):Tr:=⟨i.k',i.n',i.ts'⟩
def It.cells (i:It):List Value:=[.int .i64 i.k,.int .i64 i.n,.slice i.ao i.len i.cap,.int .i64 i.k',.int .i64 i.n',.slice i.ao' i.len' i.cap']
structure AnySt (w:World) (D L' B':Nat) (r:Option Nat) (its:List It) (cs:List Nat):Prop where
 ow:∀ i∈its,Ow w D i.ao i.len i.ts i.bs∧Hs L' B' w D i.ao' i.len' i.ts'
 nodup:(its.flatMap It.bs++cs).Nodup
 bnd:∀ b∈its.flatMap It.bs++cs,b<w.heap.size∧r≠some b
 fro:∀ b∈cs,∃ a t,w.heap[b]?=some (.cells a t (0,0))
structure AnyDyn (w wr:World) (r:Option Nat) (mp:Nat) (v:Value) (its:List It) (cs:List Nat):Prop where
 grown:w.grownBy wr r
 row:wr.ownsRow 0 70 6 v its.length (its.flatMap It.cells)
 blk:∀ x,v.ownBlock=some x->r=some x∨w.heap.size≤x
 map:∃ es clock,wr.heap[mp]?=some (.map es clock)∧KeysIn es cs
theorem any_below {w wr w1:World} {r:Option Nat} {mp:Nat} {v:Value} {its:List It} {cs:List Nat} (h:AnyDyn w wr r mp v its cs) (hb:Below wr.heap.size wr w1):AnyDyn w w1 r mp v its cs:=by
 refine⟨⟨hb.os.trans h.grown.os,hb.tape.trans h.grown.tape,hb.output.trans h.grown.output,Nat.le_trans h.grown.size hb.size,fun i hi hr=>(hb.block i (Nat.lt_of_lt_of_le hi h.grown.size)).trans (h.grown.block i hi hr)⟩,⟨h.row.1,?_⟩,h.blk,?_⟩
 · rcases h.row.2 with hn|⟨g,cap,cur,rfl,hg,hh,r⟩
   · exact Or.inl hn
   · exact Or.inr ⟨g,cap,cur,rfl,hg,(hb.block g (Array.getElem?_eq_some_iff.1 hh).1).trans hh,r⟩
 · obtain⟨es,clock,hm,hk⟩:=h.map
   exact⟨es,clock,(hb.block mp (Array.getElem?_eq_some_iff.1 hm).1).trans hm,hk⟩
theorem cells_len (i:It):i.cells.length=6:=rfl
theorem cells_flat (its:List It):(its.flatMap It.cells).length=its.length*6:=by
 induction its with
 | nil=>rfl
 | cons i l ih=>simp only [List.flatMap_cons,List.length_append,ih,cells_len,List.length_cons];omega
theorem any_pop {w wr:World} {r:Option Nat} {mp:Nat} {v:Value} {init:List It} {it:It} {cs:List Nat} (h:AnyDyn w wr r mp v (init++[it]) cs) :
 ∃ g cap,v=.slice (some ⟨g,0,none⟩) (init.length+1) cap∧g<wr.heap.size∧init.length+1≤cap∧cap≤9223372036854775807 ∧
   wr.cell? ⟨g,init.length*6,none⟩=some (.int .i64 it.k)∧wr.cell? ⟨g,init.length*6+1,none⟩=some (.int .i64 it.n)∧wr.cell? ⟨g,init.length*6+2,none⟩=some (.slice it.ao it.len it.cap) ∧
   wr.cell? ⟨g,init.length*6+3,none⟩=some (.int .i64 it.k')∧wr.cell? ⟨g,init.length*6+4,none⟩=some (.int .i64 it.n')∧wr.cell? ⟨g,init.length*6+5,none⟩=some (.slice it.ao' it.len' it.cap') ∧
   AnyDyn w wr r mp (.slice (some ⟨g,0,none⟩) init.length cap) init cs:=by
 have hrow:=h.row
 rw [List.length_append,List.flatMap_append] at hrow
 simp only [List.length_singleton,List.flatMap_cons,List.flatMap_nil,List.append_nil] at hrow
 rcases hrow.2 with ⟨_,hn⟩|⟨g,cap,cur,rfl,hg,hh,hc1,hc2,hc3,ht⟩
 · omega
 · have hl:=cells_flat init
   have look:∀ j,j<6->wr.cell? ⟨g,init.length*6+j,none⟩=it.cells[j]?:=by
    intro j hj
    rw [Qaa hh]
    have e:(cur.toList.take ((init.length+1)*6))[init.length*6+j]?=it.cells[j]?:=by
     rw [ht,List.getElem?_append_right (by omega),hl];congr 1;omega
    rw [List.getElem?_take,if_pos (by omega)] at e
    simpa using e
   refine⟨g,cap,rfl,(Array.getElem?_eq_some_iff.1 hh).1,hc1,by unfold maxLen at hc2;omega,look 0 (by omega),look 1 (by omega),look 2 (by omega),look 3 (by omega),look 4 (by omega),look 5 (by omega),h.grown,⟨hl,Or.inr ⟨g,cap,cur,rfl,hg,hh,by omega,hc2,hc3,?_⟩⟩,fun x hx=>h.blk x hx,h.map⟩
   have e2:cur.toList.take (init.length*6)=(cur.toList.take ((init.length+1)*6)).take (init.length*6):=by rw [List.take_take];congr 1;omega
   rw [e2,ht,List.take_append_of_le_length (by omega),List.take_of_length_le (by omega)]
theorem any_push {w wr:World} {r:Option Nat} {mp:Nat} {v:Value} {its:List It} {cs:List Nat} (h:AnyDyn w wr r mp v its cs) (hsz:its.length≤1048577) (it:It) :
 ∃ g cap w2,(Builtin.append_ #[64,64] 64 #[v,.slice (some ⟨wr.heap.size,0,none⟩) 1 1]).run Try.prog (wr.alloc (.cells #[.int .i64 it.k,.int .i64 it.n,.slice it.ao it.len it.cap,.int .i64 it.k',.int .i64 it.n',.slice it.ao' it.len' it.cap'] 70))=.ok (.slice (some ⟨g,0,none⟩) (its.length+1) cap) w2 ∧
   AnyDyn w w2 r mp (.slice (some ⟨g,0,none⟩) (its.length+1) cap) (its++[it]) cs∧wr.grownBy w2 v.ownBlock∧(v.ownBlock=some g∨g=wr.heap.size+1):=by
 obtain⟨i0,hi,hz0,hz1,hz2⟩:=info_parts Try.infoTwo
 have hX:Below wr.heap.size wr (wr.alloc (.cells #[.int .i64 it.k,.int .i64 it.n,.slice it.ao it.len it.cap,.int .i64 it.k',.int .i64 it.n',.slice it.ao' it.len' it.cap'] 70)):=(Below.refl _ _).alloc (Nat.le_refl _) _
 have h1:=any_below h hX
 have hgw:=h.grown.size
 obtain⟨g,cap,w2,hrun,hown2,hgrow,hat,hlt⟩:=run_append_lies (P:=Try.prog) (wr.alloc (.cells #[.int .i64 it.k,.int .i64 it.n,.slice it.ao it.len it.cap,.int .i64 it.k',.int .i64 it.n',.slice it.ao' it.len' it.cap'] 70)) 64 64 0 70 i0 _ 6 80 Try.underlying64 hi hz0 hz1 hz2 rfl (by omega) v its.length _ h1.row
  ⟨wr.heap.size,0,none⟩ 1 1 it.cells rfl (World.news_of_block (cs:=#[.int .i64 it.k,.int .i64 it.n,.slice it.ao it.len it.cap,.int .i64 it.k',.int .i64 it.n',.slice it.ao' it.len' it.cap']) (t:=70) (fr:=(0,0)) (heap_alloc_new wr _)) (by simp [Value.oneCell',It.cells])
  (by omega) (by unfold maxLen;omega) (by omega) (by simp) _ rfl
 have hnm:v.ownBlock≠some mp:=by
  intro e
  obtain⟨es,clock,hm,_⟩:=h1.map
  rcases h1.row.2 with ⟨rfl,_⟩|⟨g1,cap1,cur,rfl,_,hh,_⟩
  · cases e
  · have e':g1=mp:=by simpa [Value.ownBlock] using e
    subst e'
    rw [hm] at hh;cases hh
 refine⟨g,cap,w2,hrun,⟨⟨hgrow.os.trans h1.grown.os,hgrow.tape.trans h1.grown.tape,hgrow.output.trans h1.grown.output,Nat.le_trans h1.grown.size hgrow.size,fun i hi hr=>?_⟩,?_,?_,?_⟩,⟨hgrow.os,hgrow.tape,hgrow.output,Nat.le_trans (by simp) hgrow.size,fun i hi hr=>?_⟩,by simpa using hat⟩
 · have hne:v.ownBlock≠some i:=fun e=>by
    rcases h1.blk i e with h2|h2
    · exact hr h2.symm
    · omega
   exact (hgrow.block i (Nat.lt_of_lt_of_le hi h1.grown.size) (fun e=>hne e.symm)).trans (h1.grown.block i hi hr)
 · rw [List.length_append,List.flatMap_append]
   simpa using hown2
 · intro x hx
   have hx':g=x:=by simpa [Value.ownBlock] using hx
   subst hx'
   rcases hat with hat|hat
   · exact h1.blk g hat
   · right;simp at hat;omega
 · obtain⟨es,clock,hm,hk⟩:=h1.map
   exact⟨es,clock,(hgrow.block mp (Array.getElem?_eq_some_iff.1 hm).1 (fun e=>hnm e.symm)).trans hm,hk⟩
 · exact (hgrow.block i (by simp;omega) hr).trans (Below.heap_alloc _ _ _ hi)
theorem any_key {w wr:World} {r:Option Nat} {mp:Nat} {v:Value} {its:List It} {cs:List Nat} (h:AnyDyn w wr r mp v its cs) (hmp:w.heap.size≤mp) {es:Array MapEntry} {clock:Nat} (hm:wr.heap[mp]?=some (.map es clock)) (hk:KeysIn es cs) (c:Nat) (q:Option Addr) (n:Int) :
 AnyDyn w { wr with heap:=wr.heap.setIfInBounds mp (.map (es.push { key:=keyV c q n,val:=.agg #[],born:=clock }) (clock+1)) } r mp v its (c::cs):=by
 have hlt:mp<wr.heap.size:=(Array.getElem?_eq_some_iff.1 hm).1
 have other:∀ i,i≠mp->(wr.heap.setIfInBounds mp (.map (es.push { key:=keyV c q n,val:=.agg #[],born:=clock }) (clock+1)))[i]?=wr.heap[i]?:=fun i hi=>by
  rw [Array.getElem?_setIfInBounds];rw [if_neg (fun e=>hi e.symm)]
 refine⟨⟨h.grown.os,h.grown.tape,h.grown.output,by simpa using h.grown.size,fun i hi hr=>(other i (by omega)).trans (h.grown.block i hi hr)⟩,⟨h.row.1,?_⟩,h.blk,?_⟩
 · rcases h.row.2 with hn|⟨g,cap,cur,rfl,hg,hh,r⟩
   · exact Or.inl hn
   · refine Or.inr ⟨g,cap,cur,rfl,hg,(other g ?_).trans hh,r⟩
     intro e;subst e;rw [hm] at hh;cases hh
 · refine⟨es.push { key:=keyV c q n,val:=.agg #[],born:=clock },clock+1,by rw [Array.getElem?_setIfInBounds];simp [hlt],?_⟩
   intro e he
   rw [Array.toList_push,List.mem_append] at he
   rcases he with he|he
   · obtain⟨c',q',n',h1,h2⟩:=hk e he
     exact⟨c',q',n',List.mem_cons_of_mem _ h1,h2⟩
   · simp at he
     subst he
     exact⟨c,q,n,by simp,rfl⟩
theorem choose_it {n:Nat} {p:Nat->It->Prop} (h:∀ i,i<n->∃ x,p i x):∃ l:List It,l.length=n∧∀ i (hi:i<l.length),p i l[i]:=by
 classical
 refine⟨(List.range n).attach.map fun i=>Classical.choose (h i.1 (List.mem_range.1 i.2)),by simp,fun i hi=>?_⟩
 have hi':i<n:=by simpa using hi
 have:=Classical.choose_spec (h i hi')
 simpa using this
theorem any_parts {w:World} {D L' B':Nat} {it:It} (hw:Ow w D it.ao it.len it.ts it.bs) (hh:Hs L' B' w D it.ao' it.len' it.ts') (hlen:it.len=it.len') (hpos:0<it.len) :
 ∃ (c c' o':Nat) (ch:List It),it.ao=some ⟨c,0,none⟩∧it.ao'=some ⟨c',o',none⟩∧L'≤c'∧c'<B'∧ch.length=it.len∧(∃ a t,w.heap[c]?=some (.cells a t (0,0)))∧it.bs=c::ch.flatMap It.bs∧it.len=it.ts.length∧it.len'=it.ts'.length ∧
  (∀ i (hi:i<ch.length) (h1:i<it.ts.length) (h2:i<it.ts'.length),ch[i].x=it.ts[i]∧ch[i].y=it.ts'[i]∧Ow w D ch[i].ao ch[i].len ch[i].ts ch[i].bs∧Hs L' B' w D ch[i].ao' ch[i].len' ch[i].ts' ∧
    w.cell? ⟨c,i*3,none⟩=some (.int .i64 ch[i].k)∧w.cell? ⟨c,i*3+1,none⟩=some (.int .i64 ch[i].n)∧w.cell? ⟨c,i*3+2,none⟩=some (.slice ch[i].ao ch[i].len ch[i].cap) ∧
    w.cell? ⟨c',o'+i*3,none⟩=some (.int .i64 ch[i].k')∧w.cell? ⟨c',o'+i*3+1,none⟩=some (.int .i64 ch[i].n')∧w.cell? ⟨c',o'+i*3+2,none⟩=some (.slice ch[i].ao' ch[i].len' ch[i].cap')):=by
 cases D with
 | zero=>have:=hw.1;omega
 | succ d =>
   rcases hw with ⟨h0,_,_⟩|⟨c,a,bss,e,hl,hm,hg,hc,hbl,hbs,hE⟩
   · omega
   · have hl':=hh.1
     obtain⟨c',o',e',hLc,hB,_⟩:=hh.2.2 0 (by omega)
     have key:∀ i,i<it.len->∃ x:It,∀ (h1:i<it.ts.length) (h2:i<it.ts'.length) (h3:i<bss.length),x.x=it.ts[i]∧x.y=it.ts'[i]∧x.bs=bss[i]∧Ow w (d+1) x.ao x.len x.ts x.bs∧Hs L' B' w (d+1) x.ao' x.len' x.ts' ∧
      w.cell? ⟨c,i*3,none⟩=some (.int .i64 x.k)∧w.cell? ⟨c,i*3+1,none⟩=some (.int .i64 x.n)∧w.cell? ⟨c,i*3+2,none⟩=some (.slice x.ao x.len x.cap) ∧
      w.cell? ⟨c',o'+i*3,none⟩=some (.int .i64 x.k')∧w.cell? ⟨c',o'+i*3+1,none⟩=some (.int .i64 x.n')∧w.cell? ⟨c',o'+i*3+2,none⟩=some (.slice x.ao' x.len' x.cap'):=by
      intro i hi
      obtain⟨ao1,len1,cap1,x0,x1,x2,ho⟩:=hE i (by omega) (by omega)
      obtain⟨c2,o2,e2,_,_,ao2,len2,cap2,y0,y1,y2,hs⟩:=hh.2.2 i (by omega)
      rw [e'] at e2
      cases e2
      refine⟨⟨it.ts[i].K,it.ts[i].N,ao1,len1,cap1,it.ts[i].A,bss[i],it.ts'[i].K,it.ts'[i].N,ao2,len2,cap2,it.ts'[i].A⟩,fun h1 h2 h3=>⟨Qap _,Qap _,rfl,ho.deeper (by omega),hs.deeper (by omega),x0,x1,x2,y0,y1,y2⟩⟩
     obtain⟨ch,hcl,hch⟩:=choose_it key
     have hbss:ch.map It.bs=bss:=by
      apply List.ext_getElem
      · simp;omega
      · intro i h1 h2
        simp only [List.getElem_map]
        exact (hch i (by simpa using h1) (by omega) (by omega) h2).2.2.1
     refine⟨c,c',o',ch,e,e',hLc,hB,hcl,⟨a,_,hg⟩,by rw [hbs,← hbss,List.flatMap_def],hl,hl',fun i hi h1 h2=>?_⟩
     obtain⟨q1,q2,q3,q4⟩:=hch i hi h1 h2 (by omega)
     exact⟨q1,q2,q4⟩
theorem sum_le_len (f:It->Nat) (hf:∀ i,1≤f i) (l:List It):l.length≤(l.map f).sum:=by
 induction l with
 | nil=>simp
 | cons i l ih=>have:=hf i;simp only [List.map_cons,List.sum_cons,List.length_cons];omega
theorem cnt_pos (t:Tr):1≤cnt t:=by rw [Qdd];omega
end Go.Proofs.Ytleghjgpnefliaa
