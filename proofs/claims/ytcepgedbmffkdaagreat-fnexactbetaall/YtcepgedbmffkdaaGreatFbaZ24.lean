/-
  'eachTerm' with a closure: whatever the closure keeps up at each term, all terms within are seen, from the front. (Written by mkeach.py.)
-/
import Derived.Test.YtcepgedbmffkdaaGreatFbaZ3
import Derived.Test.YtcepgedbmffkdaaGreatFbaZ23
import Derived.Test.YtcepgedbmffkdaaGreatFbaZ13
import Derived.Test.YtcepgedbmffkdaaGreatFbaZ15
import Derived.Test.YtcepgedbmffkdaaGreatFbaZ14
import Derived.Test.YtcepgedbmffkdaaGreatFbaZ19
namespace Go.Proofs.YtcepgedbmffkdaaGreat
open Go.RowKit
set_option linter.unusedVariables false
set_option linter.unusedSimpArgs false
structure SeeB (L B base p D d:Nat) (I:List Tm→(Nat→Prop)→World→Prop):Prop where
  below:∀ X F w w',I X F w→Below w.heap.size w w'→I X F w'
  has:∀ X F w k,I X F w→F k→base≤k∧k < w.heap.size
  see:∀ (d':Nat) (t:Tm) (a1:Option Addr) (l1 c1:Nat) (a2:Option Addr) (l2 c2:Nat) (a3:Option Addr) (l3 c3:Nat) (X:List Tm) (F:Nat→Prop) (w:World),d'≤d→base≤w.heap.size→I X F w→Fm L B w D d' t a1 l1 a2 l2 a3 l3→nodeM t=true→X.length≤1000 →
    Calls Tryz.prog 93 #[.agg #[.int .i64 t.K,.int .i64 t.N,.string t.S,.string t.Z,.int .i64 t.T.K,.int .i64 t.T.N,.slice a1 l1 c1,.slice a2 l2 c2,.slice a3 l3 c3],.pointer (some ⟨p,0,none⟩)] w fun e w'=>e=.returned (.tuple #[])∧∃ F',I (X ++ [t]) F' w'∧Kf F w F' w'
def SaidEachB (l:Nat):Prop:=∀ (L B base p D d:Nat) (I:List Tm→(Nat→Prop)→World→Prop),SeeB L B base p D d I→B≤base→∀ (d':Nat) (t:Tm) (a1:Option Addr) (l1 c1:Nat) (a2:Option Addr) (l2 c2:Nat) (a3:Option Addr) (l3 c3:Nat) (X:List Tm) (F:Nat→Prop) (m:Nat) (w:World),d'≤d→base≤w.heap.size→I X F w→Fm L B w D d' t a1 l1 a2 l2 a3 l3→nodesM l t=some m→X.length+m≤1000 →
    Calls Tryz.prog 92 #[.agg #[.int .i64 t.K,.int .i64 t.N,.string t.S,.string t.Z,.int .i64 t.T.K,.int .i64 t.T.N,.slice a1 l1 c1,.slice a2 l2 c2,.slice a3 l3 c3],.func (Fn.func 93) #[] #[.pointer (some ⟨p,0,none⟩)]] w fun e w'=>e=.returned (.tuple #[])∧∃ F',I (X ++ allW t) F' w'∧Kf F w F' w'
set_option maxRecDepth 100000 in
set_option maxHeartbeats 1000000 in
theorem eachB_succ (l:Nat) (IH:SaidEachB l):SaidEachB (l+1):=by
  intro L B base p D d I hS hB d' t a1 l1 c1 a2 l2 c2 a3 l3 c3 X F m w hd hb hI hf hm hX
  obtain ⟨hn,hparts⟩:=nodesM_inv hm
  obtain ⟨hl3,hl3m⟩:=hf.m.len
  have HL:Hid (l3=t.A.length):=hl3
  have HN:Hid (∀ j (hj:j < t.A.length),∃ a,nodesM l t.A[j]=some a∧(preW t j).length+1+a≤m):=fun j hj=>by
    obtain ⟨a,ha⟩:=hparts j hj
    exact ⟨a,ha,preW_len hm j hj ha⟩
  have hm0:0 < m:=by have:=allW_len _ t m hm;rw [allW_eq,List.length_cons] at this;omega
  obtain ⟨W,hW⟩:∃ W,W=w.alloc (.cells #[.int .i64 t.K,.int .i64 t.N,.string t.S,.string t.Z,.int .i64 t.T.K,.int .i64 t.T.N,.slice a1 l1 c1,.slice a2 l2 c2,.slice a3 l3 c3] 34):=⟨_,rfl⟩
  have hWs:W.heap.size=w.heap.size+1:=by rw [hW];simp
  have hWb:Below w.heap.size w W:=by rw [hW];exact (Below.refl _ _).alloc (Nat.le_refl _) _
  have hW0:W.heap[w.heap.size]?=some (.cells #[.int .i64 t.K,.int .i64 t.N,.string t.S,.string t.Z,.int .i64 t.T.K,.int .i64 t.T.N,.slice a1 l1 c1,.slice a2 l2 c2,.slice a3 l3 c3] 34 (0,0)):=by rw [hW];exact heap_new rfl
  have HW:Hid (W=_):=hW
  have hnF:¬ F w.heap.size:=fun e=>by have:=(hS.has _ _ _ _ hI e).2;omega
  have hIW:=hS.below _ _ _ _ hI hWb
  have hfW:Fm L B W D d' t a1 l1 a2 l2 a3 l3:=Fm.below hWb (by omega) hf
  have HSZ:Hid (W.heap.size=w.heap.size+1):=hWs
  have hltW:w.heap.size < W.heap.size:=by omega
  clear hW hparts hl3 hm hWs
  go_enter Tryz.func92,Tryz.ntmps92
  go_wp2_with fail
  rw [← HW.out]
  refine (hS.see d' t _ _ _ _ _ _ _ _ _ X F W hd (by omega) hIW hfW hn (by omega)).mono ?_
  rintro e w1 ⟨rfl,F1,hI1,hk1⟩
  have hz1:=hk1.size
  have x1:=(hk1.block w.heap.size hltW hnF).trans hW0
  have hnF1:¬ F1 w.heap.size:=fun e=>by
    rcases hk1.own _ e with e | e
    · exact hnF e
    · omega
  obtain ⟨f0,f1,f2,f3,f4,f5,f6,f7,f8⟩:=Nine.box x1
  have hmt:=mt_within
  go_wp2_with fail
  refine (within_any t a1 l1 c1 a2 l2 c2 a3 l3 c3 w1).mono ?_
  rintro e w2 ⟨rfl,hb2⟩
  have hI1b:=hS.below _ _ _ _ hI1 hb2
  have hk1b:=hk1.trans (Kf.of_below hb2)
  clear hmt hI1 hk1 f0 f1 f2 f3 f4 f5 f6 f7 f8
  go_wp2_with fail
  go_loopw [13] (fun i wr=>∃ (j:Nat) (F2:Nat→Prop),j≤l3∧i=.int .i64 j∧I (X ++ t :: preW t j) F2 wr∧Kf F W F2 wr) (fun i _=>l3 - (intOf i).toNat)
  case atStart=>exact ⟨0,F1,by omega,rfl,by rw [preW_zero];exact hI1b,hk1b⟩
  case round =>
    obtain ⟨j,F2,hj,rfl,hI2,hk2⟩:=hrel
    have hz2:=hk2.size
    by_cases hlt:j < l3
    · have hlt':j < t.A.length:=by have:=HL.out;omega
      obtain ⟨a,ha,hal⟩:=HN.out j hlt'
      have hFb:∀ k,F k→base≤k:=fun k hk=>(hS.has _ _ _ _ hI hk).1
      have hbw:Below base w wr:=(hWb.mono hb).trans (hk2.below hFb (by omega))
      obtain ⟨b,o,rfl,_,hbB,b1,m1,d1,b2,m2,d2,b3,m3,d3,h9,hf1⟩:=hf.m.get j hlt'
      have h9r:=h9.world (hbw.block b (by omega))
      obtain ⟨e0,e1,e2,e3,e4,e5,e6,e7,e8⟩:=h9r
      have hba:Below wr.heap.size wr (wr.alloc (.cells #[.int .i64 t.A[j].K,.int .i64 t.A[j].N,.string t.A[j].S,.string t.A[j].Z,.int .i64 t.A[j].T.K,.int .i64 t.A[j].T.N,.slice b1 m1 d1,.slice b2 m2 d2,.slice b3 m3 d3] 34)):=(Below.refl _ _).alloc (Nat.le_refl _) _
      have hf2:Fm L B (wr.alloc (.cells #[.int .i64 t.A[j].K,.int .i64 t.A[j].N,.string t.A[j].S,.string t.A[j].Z,.int .i64 t.A[j].T.K,.int .i64 t.A[j].T.N,.slice b1 m1 d1,.slice b2 m2 d2,.slice b3 m3 d3] 34)) D (d' - 1) t.A[j] b1 m1 b2 m2 b3 m3:=Fm.keep (fun k _ hk=>(hba.block k (by omega)).trans (hbw.block k (by omega))) (Nat.le_refl _) (Nat.le_refl _) hf1
      have hIa:=hS.below _ _ _ _ hI2 hba
      have HNX:Hid (X ++ t :: preW t (j+1)=(X ++ t :: preW t j) ++ allW t.A[j]):=by show _=_;rw [preW_succ t j hlt'];simp
      have hlen:(X ++ t :: preW t j).length+a≤1000:=by rw [List.length_append,List.length_cons];omega
      have HK2:Hid (Kf F W F2 wr):=hk2
      have HBA:Hid (Below _ _ _):=hba
      clear h9 hk2 hba hI2 HN hal
      go_wp2_with fail
      refine (IH L B base p D d I hS hB (d' - 1) t.A[j] _ _ _ _ _ _ _ _ _ _ F2 a _ (by omega) (by simp;omega) hIa hf2 ha hlen).mono ?_
      rintro e w3 ⟨rfl,F3,hI3,hk3⟩
      rw [← HNX.out] at hI3
      have hkn:Kf F W F3 w3:=(HK2.out.trans (Kf.of_below HBA.out)).trans hk3
      clear hk3
      go_wp2_with fail
      go_roundw
      case rel=>exact ⟨j+1,F3,by omega,by go_num,hI3,hkn⟩
      case measure=>simp [intOf];omega
    · have HK:Hid (X ++ allW t=X ++ t :: preW t j):=by show _=_;rw [preW_all t j (by have:=HL.out;omega)]
      go_wp2_with fail
      refine bodyPost_end (v:=.tuple #[]) (by simp [results,Tryz.results92,go_sem]) rfl ?_
      exact ⟨rfl,F2,by rw [HK.out];exact hI2,(Kf.of_below hWb).trans hk2⟩
theorem eachB_any (l:Nat):SaidEachB l:=by
  induction l with
  | zero=>intro L B base p D d I hS hB d' t a1 l1 c1 a2 l2 c2 a3 l3 c3 X F m w hd hb hI hf hm;simp [nodesM] at hm
  | succ l ih=>exact eachB_succ l ih
end Go.Proofs.YtcepgedbmffkdaaGreat

/-
  'namesIn', 'namesBy' of the program: the names that a term binds. (Written by mkbn1.py.)
-/
namespace Go.Proofs.YtcepgedbmffkdaaGreat
open Go.RowKit
set_option linter.unusedVariables false
set_option linter.unusedSimpArgs false
set_option maxRecDepth 100000 in
set_option maxHeartbeats 400000 in
theorem namesBy_any (t:Tm) (hn:nodeM t=true) (a1:Option Addr) (l1 c1:Nat) (a2:Option Addr) (l2 c2:Nat) (a3:Option Addr) (l3 c3:Nat) (hl:l3=t.A.length) (N:List (List UInt8)) (hN:ownB t=N) (w:World) :
    Calls Tryz.prog 94 #[.agg #[.int .i64 t.K,.int .i64 t.N,.string t.S,.string t.Z,.int .i64 t.T.K,.int .i64 t.T.N,.slice a1 l1 c1,.slice a2 l2 c2,.slice a3 l3 c3]] w fun e w'=>NmE w w' e N:=by
  have hl3:l3≤3:=by have:=nodeM_len hn;omega
  have HN:Hid (nmI t.K (bs t.S) (bs t.Z) ((l3:Int) - 1)=N):=by show _=_;rw [hl,nmI_own hn,hN]
  clear hN hl
  go_enter Tryz.func94,Tryz.ntmps94
  go_wp2_with fail
  refine (namesIn_any t _ _ _ _ _ _ _ _ _ _ _).mono ?_
  rintro e w1 ⟨xo,c,rfl,hb,hx⟩
  rw [HN.out] at hx ⊢
  go_wp2_with fail
  go_ret
  refine ⟨xo,c,rfl,((Below.refl _ _).alloc (Nat.le_refl _) _).trans (hb.mono (by simp)),fun h=>?_⟩
  obtain ⟨sb,h1,h2,h3⟩:=hx h
  exact ⟨sb,h1,by simp at h2;omega,h3⟩
end Go.Proofs.YtcepgedbmffkdaaGreat

/-
  'Binders' of the program.
-/
namespace Go.Proofs.YtcepgedbmffkdaaGreat
open Go.RowKit
set_option linter.unusedVariables false
set_option linter.unusedSimpArgs false
def IB (p:Nat) (X:List Tm) (F:Nat→Prop) (w:World):Prop :=
  ∃ v,w.heap[p]?=some (.cells #[v] 60 (0,0))∧Toks (p+1) w v ((X.map ownB).flatten)∧F=fun k=>k=p∨v.ownBlock=some k
set_option maxRecDepth 100000 in
set_option maxHeartbeats 2000000 in
theorem seeB_any (L B p D d:Nat) (hBp:B≤p):SeeB L B p p D d (IB p):=by
  refine ⟨?_,?_,?_⟩
  · rintro X F w w' ⟨v,h1,h2,h3⟩ hb
    exact ⟨v,(hb.block p (Array.getElem?_eq_some_iff.1 h1).1).trans h1,toks_bel h2 hb,h3⟩
  · rintro X F w k ⟨v,h1,h2,rfl⟩ hk
    have hp:=(Array.getElem?_eq_some_iff.1 h1).1
    rcases hk with rfl | hk
    · exact ⟨Nat.le_refl _,hp⟩
    · have:=toks_own h2 hk;omega
  · rintro d' t a1 l1 c1 a2 l2 c2 a3 l3 c3 X F w hd hb ⟨v,hpb,hT,rfl⟩ hf hn hX
    have hp:=(Array.getElem?_eq_some_iff.1 hpb).1
    have HL3:Hid (l3=t.A.length):=hf.m.len.1
    have hPl:=binds_len X
    obtain ⟨N,hNe⟩:∃ N,ownB t=N:=⟨_,rfl⟩
    have hN2:N.length≤2:=by rw [← hNe];exact ownB_len t
    have HXN:Hid (((X ++ [t]).map ownB).flatten=(X.map ownB).flatten ++ N):=by show _=_;rw [← hNe];simp
    obtain ⟨P,hP⟩:∃ P,(X.map ownB).flatten=P:=⟨_,rfl⟩
    rw [hP] at hT HXN hPl
    clear hP
    obtain ⟨ao,cap,rfl⟩:=toks_form hT
    obtain ⟨n,hn0⟩:∃ n,P.length=n:=⟨_,rfl⟩
    obtain ⟨W,hW⟩:∃ W,W=w.alloc (.cells #[.int .i64 t.K,.int .i64 t.N,.string t.S,.string t.Z,.int .i64 t.T.K,.int .i64 t.T.N,.slice a1 l1 c1,.slice a2 l2 c2,.slice a3 l3 c3] 34):=⟨_,rfl⟩
    have hWs:W.heap.size=w.heap.size+1:=by rw [hW];simp
    have hWb:Below w.heap.size w W:=by rw [hW];exact (Below.refl _ _).alloc (Nat.le_refl _) _
    have hW0:W.heap[w.heap.size]?=some (.cells #[.int .i64 t.K,.int .i64 t.N,.string t.S,.string t.Z,.int .i64 t.T.K,.int .i64 t.T.N,.slice a1 l1 c1,.slice a2 l2 c2,.slice a3 l3 c3] 34 (0,0)):=by rw [hW];exact heap_new rfl
    have HW:Hid (W=_):=hW
    have hpW:=(hWb.block p hp).trans hpb
    have y0:=cell_1 hpW
    obtain ⟨f0,f1,f2,f3,f4,f5,f6,f7,f8⟩:=Nine.box hW0
    have APR:Hid (∀ (w1:World) (xo:Option Addr) (c:Nat),Below W.drew.heap.size W.drew w1→(0 < N.length→∃ sb,xo=some ⟨sb,0,none⟩∧W.drew.heap.size≤sb∧w1.heap[sb]?=some (.cells (N.map tk).toArray 9 (0,0))) →
        ∃ a' n' c' w2,(Builtin.append_ #[60,60] 60 #[.slice ao n cap,.slice xo N.length c]).run Tryz.prog w1=.ok (.slice a' n' c') w2∧w2.cell? ⟨p,0,none⟩=some (.slice ao n cap)∧w2.frozen? ⟨p,0,none⟩=false ∧
          ∃ F',IB p (X ++ [t]) F' (w2.setCell ⟨p,0,none⟩ (.slice a' n' c'))∧Kf (fun k=>k=p∨Value.ownBlock (.slice ao n cap)=some k) w F' (w2.setCell ⟨p,0,none⟩ (.slice a' n' c'))):=by
      intro w1 xo c hb1 hx
      have hbw:Below w.heap.size w w1:=hWb.trans ((Below.refl _ _).drew.trans (hb1.mono (show w.heap.size≤W.heap.size by omega)))
      have hT1:Toks (p+1) w1 (.slice ao P.length cap) P:=toks_bel hT hbw
      have hz:=hbw.size
      obtain ⟨v',w2,hrun,hT2,hgr,how⟩:=toks_join hT1 (by omega) N (by omega) xo c (fun h=>by
        obtain ⟨sb,e1,_,e2⟩:=hx h
        refine ⟨sb,e1,fun j u hu=>?_⟩
        rw [Nat.zero_add,row_cell e2,List.getElem?_toArray]
        exact hu)
      rw [hn0] at hrun
      obtain ⟨a',c',rfl⟩:=toks_form hT2
      have hown:∀ k,Value.ownBlock (.slice ao P.length cap)=some k→p < k:=fun k e=>by have:=(toks_own hT e).1;omega
      have hp2:=(hgr.block p (by omega) (fun e=>by have:=hown p e.symm;omega)).trans ((hbw.block p hp).trans hpb)
      refine ⟨a',_,c',w2,hrun,by rw [← hn0];exact cell_1 hp2,row_free hp2 0,(fun k=>k=p∨Value.ownBlock (.slice a' (P ++ N).length c')=some k),⟨.slice a' (P ++ N).length c',by rw [row_set hp2];rfl,?_,rfl⟩,⟨?_,?_,?_,?_,fun k hk hnk=>?_,fun k hk=>?_⟩⟩
      · rw [HXN.out]
        refine toks_keep hT2 fun k hk=>row_other _ _ _ ?_
        have:=(toks_own hT2 hk).1
        omega
      · exact hgr.os.trans hbw.os
      · exact hgr.tape.trans hbw.tape
      · exact hgr.output.trans hbw.output
      · have:=hgr.size
        rw [World.size_setCell]
        omega
      · have h1:k≠p:=fun e=>hnk (Or.inl e)
        rw [row_other _ _ _ h1]
        exact (hgr.block k (by omega) (fun e=>hnk (Or.inr (by rw [← hn0];exact e.symm)))).trans (hbw.block k hk)
      · rcases hk with hk | hk
        · exact Or.inl (Or.inl hk)
        · rcases how k hk with e | e
          · exact Or.inl (Or.inr (by rw [← hn0];exact e))
          · exact Or.inr (by omega)
    have hltp:p < W.heap.size:=by omega
    rw [hn0] at y0 ⊢
    have HNE:Hid (ownB t=N):=hNe
    clear hW hpb hpW hT hW0 hWs hn0 hPl hb hNe
    go_enter Tryz.func93,Tryz.ntmps93
    go_wp2_with fail
    rw [← HW.out]
    go_region_law (first | (refine step_run hrun (by rfl) _ _ (by rfl) (by rfl) (by rfl) (by rfl) ?_) | (go_simp;go_at_call 94;refine (namesBy_any t hn _ _ _ _ _ _ _ _ _ HL3.out N HNE.out _).mono ?_;rintro e w1 ⟨xo,c,rfl,hb1,hx⟩;have a0:=(bcell hb1 hltp 0).trans y0;obtain ⟨a',n',c',w2,hrun,q2,q3,hQ⟩:=APR.out w1 xo c hb1 hx))
    all_goals
      go_wp2_with fail
      refine bodyPost_end (v:=.tuple #[]) (by simp [results,Tryz.results93,go_sem]) rfl ?_
      exact ⟨rfl,hQ⟩
set_option maxRecDepth 100000 in
set_option maxHeartbeats 1000000 in
theorem binders_any (D d L B:Nat) (t:Tm) (a1:Option Addr) (l1 c1:Nat) (a2:Option Addr) (l2 c2:Nat) (a3:Option Addr) (l3 c3:Nat) (w:World) (hB:B≤w.heap.size) (hf:Fm L B w D d t a1 l1 a2 l2 a3 l3) :
    Calls Tryz.prog 68 #[.agg #[.int .i64 t.K,.int .i64 t.N,.string t.S,.string t.Z,.int .i64 t.T.K,.int .i64 t.T.N,.slice a1 l1 c1,.slice a2 l2 c2,.slice a3 l3 c3]] w fun e w'=>∃ v,e=.returned v∧Below w.heap.size w w'∧Toks w.heap.size w' v (bndT t):=by
  obtain ⟨W,hW⟩:∃ W,W=(w.alloc (.cells #[.int .i64 t.K,.int .i64 t.N,.string t.S,.string t.Z,.int .i64 t.T.K,.int .i64 t.T.N,.slice a1 l1 c1,.slice a2 l2 c2,.slice a3 l3 c3] 34)).alloc (.cells #[.slice none 0 0] 60):=⟨_,rfl⟩
  have hWs:W.heap.size=w.heap.size+2:=by rw [hW];simp
  have hWb:Below w.heap.size w W:=by rw [hW];exact ((Below.refl _ _).alloc (Nat.le_refl _) _).alloc (by simp) _
  have hW0:W.heap[w.heap.size]?=some (.cells #[.int .i64 t.K,.int .i64 t.N,.string t.S,.string t.Z,.int .i64 t.T.K,.int .i64 t.T.N,.slice a1 l1 c1,.slice a2 l2 c2,.slice a3 l3 c3] 34 (0,0)):=by rw [hW,Below.heap_alloc _ _ _ (by simp)];exact heap_new rfl
  have hW1:W.heap[w.heap.size+1]?=some (.cells #[.slice none 0 0] 60 (0,0)):=by rw [hW];exact heap_new (by simp)
  have HW:Hid (W=_):=hW
  have HS:Hid (W.heap.size=w.heap.size+2):=hWs
  have hfW:=Fm.below hWb hB hf
  clear hW hWs
  cases hq:okM t
  · have HQ:Hid (okM t=false):=hq
    have HT:Hid (bndT t=[]):=by show _=_;simp [bndT,hq]
    clear hq
    go_enter Tryz.func68,Tryz.ntmps68
    go_wp2_with fail
    rw [← HW.out]
    refine (termOk_any D d L B t _ _ _ _ _ _ _ _ _ _ (by have:=HS.out;omega) hfW).mono ?_
    rintro e w1 ⟨rfl,hb1⟩
    rw [HQ.out]
    have y1:=cell_1 ((hb1.block (w.heap.size+1) (by have:=HS.out;omega)).trans hW1)
    have hbw:Below w.heap.size w w1:=hWb.trans (hb1.mono (by have:=HS.out;omega))
    go_wp2_with fail
    go_ret
    exact ⟨_,rfl,hbw,by rw [HT.out];exact World.ownsRow_nil _ _ _ _⟩
  · have HQ:Hid (okM t=true):=hq
    have HT:Hid (bndT t=bndW t):=by show _=_;simp [bndT,hq]
    obtain ⟨m,hm,hm6⟩:=okM_some hq
    clear hq
    go_enter Tryz.func68,Tryz.ntmps68
    go_wp2_with fail
    rw [← HW.out]
    refine (termOk_any D d L B t _ _ _ _ _ _ _ _ _ _ (by have:=HS.out;omega) hfW).mono ?_
    rintro e w1 ⟨rfl,hb1⟩
    rw [HQ.out]
    have x1:=(hb1.block (w.heap.size+1) (by have:=HS.out;omega)).trans hW1
    have x0:=(hb1.block w.heap.size (by have:=HS.out;omega)).trans hW0
    have hbw:Below w.heap.size w w1:=hWb.trans (hb1.mono (by have:=HS.out;omega))
    have hz1:w.heap.size+2≤w1.heap.size:=by have:=HS.out;have:=hb1.size;omega
    obtain ⟨f0,f1,f2,f3,f4,f5,f6,f7,f8⟩:=Nine.box x0
    have hI:IB (w.heap.size+1) [] (fun k=>k=w.heap.size+1∨Value.ownBlock (.slice none 0 0)=some k) w1:=⟨_,x1,World.ownsRow_nil _ _ _ _,rfl⟩
    go_wp2_with fail
    refine (eachB_any 24 L B (w.heap.size+1) (w.heap.size+1) D d (IB (w.heap.size+1)) (seeB_any L B (w.heap.size+1) D d (by omega)) (by omega) d t _ _ _ _ _ _ _ _ _ [] _ m w1 (Nat.le_refl _) (by omega) hI (Fm.below hbw hB hf) hm (by simp;omega)).mono ?_
    rintro e w2 ⟨rfl,F2,⟨v,hv1,hv2,rfl⟩,hk⟩
    have y1:=cell_1 hv1
    obtain ⟨ao,cp,rfl⟩:=toks_form hv2
    obtain ⟨n3,hn3⟩:∃ x,(([] ++ allW t).map ownB).flatten.length=x:=⟨_,rfl⟩
    rw [hn3] at hv2 y1
    clear hn3 hv1
    have hbw2:Below w.heap.size w w2:=hbw.trans (hk.below (fun k hk=>by rcases hk with rfl | hk;omega;cases hk) (by omega))
    clear f0 f1 f2 f3 f4 f5 f6 f7 f8
    go_wp2_with fail
    go_ret
    refine ⟨_,rfl,hbw2,?_⟩
    rw [HT.out]
    exact toks_le (base:=w.heap.size+1+1) hv2 (by omega)
end Go.Proofs.YtcepgedbmffkdaaGreat

/-
  The model's 'l6Own', 'l6Binders', 'Binders'. (Written by mkbn2.py.)
-/
namespace Go.Proofs.YtcepgedbmffkdaaGreat
open Go.RowKit
set_option linter.unusedVariables false
set_option linter.unusedSimpArgs false
set_option maxRecDepth 100000 in
set_option maxHeartbeats 2000000 in
theorem l6Own_any (t:Tm) (a1:Option Addr) (l1 c1:Nat) (a2:Option Addr) (l2 c2:Nat) (a3:Option Addr) (l3 c3:Nat) (N:List (List UInt8)) (hN:ownB t=N) (w:World) :
    Calls Tryz.prog 105 #[.agg #[.int .i64 t.K,.int .i64 t.N,.string t.S,.string t.Z,.int .i64 t.T.K,.int .i64 t.T.N,.slice a1 l1 c1,.slice a2 l2 c2,.slice a3 l3 c3]] w fun e w'=>LitE w w' e N:=by
  by_cases h4:t.K=4
  · obtain rfl:[bs t.S]=N:=by rw [← hN];simp [ownB,h4]
    clear hN
    go_enter Tryz.func105,Tryz.ntmps105
    go_wp2_with fail
    go_ret
    exact (lit_1 _ _ _)
  by_cases h6:t.K=6
  · obtain rfl:[bs t.S]=N:=by rw [← hN];simp [ownB,h6]
    clear hN
    go_enter Tryz.func105,Tryz.ntmps105
    go_wp2_with fail
    go_ret
    exact (lit_1 _ _ _)
  by_cases h7:t.K=7
  · obtain rfl:[bs t.S]=N:=by rw [← hN];simp [ownB,h7]
    clear hN
    go_enter Tryz.func105,Tryz.ntmps105
    go_wp2_with fail
    go_ret
    exact (lit_1 _ _ _)
  by_cases h17:t.K=17
  · obtain rfl:[bs t.S]=N:=by rw [← hN];simp [ownB,h17]
    clear hN
    go_enter Tryz.func105,Tryz.ntmps105
    go_wp2_with fail
    go_ret
    exact (lit_1 _ _ _)
  by_cases h14:t.K=14
  · obtain rfl:[bs t.S,bs t.Z]=N:=by rw [← hN];simp [ownB,h14]
    clear hN
    go_enter Tryz.func105,Tryz.ntmps105
    go_wp2_with fail
    go_ret
    exact (lit_2 _ _ _ _)
  obtain rfl:[]=N:=by rw [← hN];simp [ownB,h4,h7,h6,h17,h14]
  clear hN
  have b4:(t.K == 4)=false:=by simp [h4]
  have b7:(t.K == 7)=false:=by simp [h7]
  have b6:(t.K == 6)=false:=by simp [h6]
  have b17:(t.K == 17)=false:=by simp [h17]
  have b14:(t.K == 14)=false:=by simp [h14]
  clear h4 h7 h6 h17 h14
  go_enter Tryz.func105,Tryz.ntmps105
  go_wp2_with fail
  go_ret
  exact (lit_0 _ _)
end Go.Proofs.YtcepgedbmffkdaaGreat
