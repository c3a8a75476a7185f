/-
  The model's 'l6Own', 'l6Binders', 'Binders'. (Written by mkbn2.py.)
-/
import Derived.Test.YtcepgedbmffkdaaGreatFbaZ24
import Derived.Test.YtcepgedbmffkdaaGreatFbaZ3
import Derived.Test.YtcepgedbmffkdaaGreatFbaZ15
import Derived.Test.YtcepgedbmffkdaaGreatFbaZ19
import Derived.Test.YtcepgedbmffkdaaGreatFbaZ16
import Derived.Test.YtcepgedbmffkdaaGreatFbaZ23
import Derived.Sort.OwnSorted
namespace Go.Proofs.YtcepgedbmffkdaaGreat
open Go.RowKit
set_option linter.unusedVariables false
set_option linter.unusedSimpArgs false
def SaidLb (l:Nat):Prop:=∀ (D d L B base:Nat) (t:Tm) (a1:Option Addr) (l1 c1:Nat) (a2:Option Addr) (l2 c2:Nat) (a3:Option Addr) (l3 c3:Nat) (vo:Value) (P:List (List UInt8)) (m:Nat) (w:World),B≤base→base≤w.heap.size→Fm L B w D d t a1 l1 a2 l2 a3 l3→nodesM l t=some m→Toks base w vo P→P.length+2 * m≤1000 →
    Calls Tryz.prog 83 #[.agg #[.int .i64 t.K,.int .i64 t.N,.string t.S,.string t.Z,.int .i64 t.T.K,.int .i64 t.T.N,.slice a1 l1 c1,.slice a2 l2 c2,.slice a3 l3 c3],vo] w fun e w'=>∃ vo',e=.returned vo'∧Ko vo w vo' w'∧Toks base w' vo' (P ++ bndW t)
def preB (t:Tm) (j:Nat):List (List UInt8):=((preW t j).map ownB).flatten
theorem preB_zero (t:Tm):preB t 0=[]:=rfl
theorem preB_succ (t:Tm) (j:Nat) (hj:j < t.A.length):preB t (j+1)=preB t j ++ bndW t.A[j]:=by
  unfold preB bndW;rw [preW_succ t j hj,List.map_append,List.flatten_append]
theorem preB_all (t:Tm) (j:Nat) (hj:t.A.length≤j):bndW t=ownB t ++ preB t j:=by
  unfold preB bndW;rw [preW_all t j hj,List.map_cons,List.flatten_cons]
theorem preB_len (t:Tm) (j:Nat):(preB t j).length≤2 * (preW t j).length:=binds_len _
set_option maxRecDepth 100000 in
set_option maxHeartbeats 2000000 in
theorem lb_succ (l:Nat) (IH:SaidLb l):SaidLb (l+1):=by
  intro D d L B base t a1 l1 c1 a2 l2 c2 a3 l3 c3 vo P m w hB hb hf hm hT hlen
  obtain ⟨hn,hparts⟩:=nodesM_inv hm
  obtain ⟨hl3,hl3m⟩:=hf.m.len
  have HL:Hid (l3=t.A.length):=hl3
  have HN:Hid (∀ j (hj:j < t.A.length),∃ a,nodesM l t.A[j]=some a∧(preW t j).length+1+a≤m):=fun j hj=>by
    obtain ⟨a,ha⟩:=hparts j hj
    exact ⟨a,ha,preW_len hm j hj ha⟩
  have hm0:0 < m:=by have:=allW_len _ t m hm;rw [allW_eq,List.length_cons] at this;omega
  obtain ⟨N,hNe⟩:∃ N,ownB t=N:=⟨_,rfl⟩
  have hN2:N.length≤2:=by rw [← hNe];exact ownB_len t
  have HNE:Hid (ownB t=N):=hNe
  obtain ⟨ao,cap,rfl⟩:=toks_form hT
  obtain ⟨n,hn0⟩:∃ n,P.length=n:=⟨_,rfl⟩
  have HPn:Hid (P.length=n):=hn0
  obtain ⟨W,hW⟩:∃ W,W=w.alloc (.cells #[.int .i64 t.K,.int .i64 t.N,.string t.S,.string t.Z,.int .i64 t.T.K,.int .i64 t.T.N,.slice a1 l1 c1,.slice a2 l2 c2,.slice a3 l3 c3] 34):=⟨_,rfl⟩
  have hWs:W.heap.size=w.heap.size+1:=by rw [hW];simp
  have hWb:Below w.heap.size w W:=by rw [hW];exact (Below.refl _ _).alloc (Nat.le_refl _) _
  have hW0:W.heap[w.heap.size]?=some (.cells #[.int .i64 t.K,.int .i64 t.N,.string t.S,.string t.Z,.int .i64 t.T.K,.int .i64 t.T.N,.slice a1 l1 c1,.slice a2 l2 c2,.slice a3 l3 c3] 34 (0,0)):=by rw [hW];exact heap_new rfl
  have HW:Hid (W=_):=hW
  have HSZ:Hid (W.heap.size=w.heap.size+1):=hWs
  have hno:Value.ownBlock (.slice ao n cap)≠some w.heap.size:=fun e=>by have:=(toks_own hT (by rw [hn0];exact e)).2;omega
  have APR:Hid (∀ (w1:World) (g:Nat),Below W.heap.size W w1→w1.heap[g]?=some (.cells (N.map tk).toArray 9 (0,0)) →
      ∃ a' n' c' w2,(Builtin.append_ #[60,60] 60 #[.slice ao n cap,.slice (some ⟨g,0,none⟩) N.length N.length]).run Tryz.prog w1=.ok (.slice a' n' c') w2∧Ko (.slice ao n cap) W (.slice a' n' c') w2∧Toks base w2 (.slice a' n' c') (P ++ N)):=by
    intro w1 g hb1 hg
    have hT1:Toks base w1 (.slice ao P.length cap) P:=toks_bel hT (hWb.trans (hb1.mono (by omega)))
    have hz:=hb1.size
    obtain ⟨v',w2,hrun,hT2,hgr,how⟩:=toks_join hT1 (by omega) N (by omega) (some ⟨g,0,none⟩) N.length (fun h=>⟨g,rfl,fun j u hu=>by
      rw [Nat.zero_add,row_cell hg,List.getElem?_toArray]
      exact hu⟩)
    rw [hn0] at hrun
    obtain ⟨a',c',rfl⟩:=toks_form hT2
    refine ⟨a',_,c',w2,hrun,⟨hgr.os.trans hb1.os,hgr.tape.trans hb1.tape,hgr.output.trans hb1.output,Nat.le_trans hb1.size hgr.size,fun k hk hne=>(hgr.block k (by omega) (fun e=>hne (by rw [← hn0];exact e.symm))).trans (hb1.block k hk),fun k hk=>?_⟩,hT2⟩
    rcases how k hk with e | e
    · exact Or.inl (by rw [← hn0];exact e)
    · exact Or.inr (by omega)
  have hkW:Ko (.slice ao n cap) w (.slice ao n cap) W:=Ko.of_below hWb
  have HKW:Hid (Ko _ _ _ _):=hkW
  have HTO:Hid (∀ k,Value.ownBlock (.slice ao n cap)=some k→base≤k):=fun k hk=>(toks_own hT (by rw [hn0];exact hk)).1
  have hltW:w.heap.size < W.heap.size:=by omega
  rw [hn0]
  clear hW hparts hl3 hm hWs hT hNe hn0 hkW
  obtain ⟨f0,f1,f2,f3,f4,f5,f6,f7,f8⟩:=Nine.box hW0
  go_enter Tryz.func83,Tryz.ntmps83
  go_wp2_with fail
  rw [← HW.out]
  refine (l6Own_any t _ _ _ _ _ _ _ _ _ N HNE.out _).mono ?_
  rintro e w1 ⟨g,rfl,hb1,hgW,hg⟩
  obtain ⟨a',n',c',w2,hrun,hk2,hT2⟩:=APR.out w1 g hb1 hg
  have x2:=(hk2.block w.heap.size hltW hno).trans hW0
  have hno2:Value.ownBlock (.slice a' n' c')≠some w.heap.size:=fun e=>by
    rcases hk2.own _ e with e | e
    · exact hno e
    · omega
  clear f0 f1 f2 f3 f4 f5 f6 f7 f8 hg
  go_wp2_with (at_builtin;refine list_run hrun (by rfl) _ _ (by rfl) (by rfl) (by rfl) (by rfl) ?_)
  clear hrun
  go_loopw [1,5] (fun v i wr=>∃ (j:Nat) (aj:Option Addr) (nj cj:Nat),j≤l3∧i=.int .i64 j∧v=.slice aj nj cj∧Toks base wr (.slice aj nj cj) (P ++ N ++ preB t j)∧Ko (.slice ao n cap) W (.slice aj nj cj) wr) (fun _ i _=>l3 - (intOf i).toNat)
  case atStart=>exact ⟨0,a',n',c',by omega,rfl,rfl,by rw [preB_zero,List.append_nil];exact hT2,hk2⟩
  case round =>
    obtain ⟨j,aj,nj,cj,hj,rfl,rfl,hTj,hkj⟩:=hrel
    have hzj:=hkj.size
    have xj:=(hkj.block w.heap.size hltW hno).trans hW0
    obtain ⟨p0,p1,p2,p3,p4,p5,p6,p7,p8⟩:=Nine.box xj
    by_cases hlt:j < l3
    · have hlt':j < t.A.length:=by have:=HL.out;omega
      obtain ⟨a,ha,hal⟩:=HN.out j hlt'
      have hbw:Below base w wr:=(hWb.mono hb).trans ⟨hkj.os,hkj.tape,hkj.output,hkj.size,fun k hk=>hkj.block k (by omega) (fun e=>by have:=HTO.out k e;omega)⟩
      obtain ⟨b,o,rfl,_,hbB,b1,m1,d1,b2,m2,d2,b3,m3,d3,h9,hf1⟩:=hf.m.get j hlt'
      have h9r:=h9.world (hbw.block b (by omega))
      obtain ⟨e0,e1,e2,e3,e4,e5,e6,e7,e8⟩:=h9r
      have hf2:Fm L B wr D (d - 1) t.A[j] b1 m1 b2 m2 b3 m3:=Fm.keep (fun k _ hk=>hbw.block k (by omega)) (Nat.le_refl _) (Nat.le_refl _) hf1
      have HNX:Hid (P ++ N ++ preB t (j+1)=(P ++ N ++ preB t j) ++ bndW t.A[j]):=by show _=_;rw [preB_succ t j hlt',List.append_assoc,List.append_assoc,List.append_assoc]
      have hlen2:(P ++ N ++ preB t j).length+2 * a≤1000:=by have:=preB_len t j;have:=HPn.out;rw [List.length_append,List.length_append];omega
      have HK2:Hid (Ko _ _ _ _):=hkj
      clear h9 hkj HN hal
      go_wp2_with fail
      refine (IH D (d - 1) L B base t.A[j] _ _ _ _ _ _ _ _ _ _ _ a wr hB (by omega) hf2 ha hTj hlen2).mono ?_
      rintro e w3 ⟨vo',rfl,hk3,hT3⟩
      rw [← HNX.out] at hT3
      obtain ⟨a3',c3',rfl⟩:=toks_form hT3
      obtain ⟨n3,hn3⟩:∃ x,(P ++ N ++ preB t (j+1)).length=x:=⟨_,rfl⟩
      rw [hn3] at hT3 hk3 ⊢
      clear hn3
      have hkn:=HK2.out.trans hk3
      clear hk3
      go_wp2_with fail
      go_roundw
      case rel=>exact ⟨j+1,a3',n3,c3',by omega,by go_num,rfl,hT3,hkn⟩
      case measure=>simp [intOf];omega
    · have HK:Hid (P ++ bndW t=P ++ N ++ preB t j):=by show _=_;rw [preB_all t j (by have:=HL.out;omega),HNE.out,List.append_assoc]
      go_wp2_with fail
      go_ret
      exact ⟨_,rfl,HKW.out.trans hkj,by rw [HK.out];exact hTj⟩
theorem lb_any (l:Nat):SaidLb l:=by
  induction l with
  | zero=>intro D d L B base t a1 l1 c1 a2 l2 c2 a3 l3 c3 vo P m w hB hb hf hm;simp [nodesM] at hm
  | succ l ih=>exact lb_succ l ih
theorem toks_emp {w:World} {b base:Nat} (h:w.heap[b]?=some (.cells #[] 9 (0,0))) (hb:base≤b):Toks base w (.slice (some ⟨b,0,none⟩) 0 0) [] :=
  ⟨by simp,Or.inr ⟨b,0,#[],by simp,hb,h,by simp,by simp,by simp,by simp⟩⟩
set_option maxRecDepth 100000 in
set_option maxHeartbeats 1000000 in
theorem sBinders_any (D d L B:Nat) (t:Tm) (a1:Option Addr) (l1 c1:Nat) (a2:Option Addr) (l2 c2:Nat) (a3:Option Addr) (l3 c3:Nat) (w:World) (hB:B≤w.heap.size) (hf:Fm L B w D d t a1 l1 a2 l2 a3 l3) :
    Calls Tryz.prog 60 #[.agg #[.int .i64 t.K,.int .i64 t.N,.string t.S,.string t.Z,.int .i64 t.T.K,.int .i64 t.T.N,.slice a1 l1 c1,.slice a2 l2 c2,.slice a3 l3 c3]] w fun e w'=>∃ v,e=.returned v∧Below w.heap.size w w'∧Toks w.heap.size w' v (bndT t):=by
  obtain ⟨W,hW⟩:∃ W,W=w.alloc (.cells #[.int .i64 t.K,.int .i64 t.N,.string t.S,.string t.Z,.int .i64 t.T.K,.int .i64 t.T.N,.slice a1 l1 c1,.slice a2 l2 c2,.slice a3 l3 c3] 34):=⟨_,rfl⟩
  have hWs:W.heap.size=w.heap.size+1:=by rw [hW];simp
  have hWb:Below w.heap.size w W:=by rw [hW];exact (Below.refl _ _).alloc (Nat.le_refl _) _
  have hW0:W.heap[w.heap.size]?=some (.cells #[.int .i64 t.K,.int .i64 t.N,.string t.S,.string t.Z,.int .i64 t.T.K,.int .i64 t.T.N,.slice a1 l1 c1,.slice a2 l2 c2,.slice a3 l3 c3] 34 (0,0)):=by rw [hW];exact heap_new rfl
  have HW:Hid (W=_):=hW
  have HS:Hid (W.heap.size=w.heap.size+1):=hWs
  have hfW:=Fm.below hWb hB hf
  clear hW hWs
  cases hq:okM t
  · have HQ:Hid (okM t=false):=hq
    have HT:Hid (bndT t=[]):=by show _=_;simp [bndT,hq]
    clear hq
    go_enter Tryz.func60,Tryz.ntmps60
    go_wp2_with fail
    rw [← HW.out]
    refine (sTermOk_any D d L B t _ _ _ _ _ _ _ _ _ _ (by have:=HS.out;omega) hfW).mono ?_
    rintro e w1 ⟨rfl,hb1⟩
    rw [HQ.out]
    have hbw:Below w.heap.size w w1:=hWb.trans (hb1.mono (by have:=HS.out;omega))
    have hz1:=hbw.size
    go_wp2_with fail
    go_ret
    exact ⟨_,rfl,hbw.alloc (by omega) _,by rw [HT.out];exact toks_emp (heap_new rfl) (by omega)⟩
  · have HQ:Hid (okM t=true):=hq
    have HT:Hid (bndT t=[] ++ bndW t):=by show _=_;simp [bndT,hq]
    obtain ⟨m,hm,hm6⟩:=okM_some hq
    clear hq
    go_enter Tryz.func60,Tryz.ntmps60
    go_wp2_with fail
    rw [← HW.out]
    refine (sTermOk_any D d L B t _ _ _ _ _ _ _ _ _ _ (by have:=HS.out;omega) hfW).mono ?_
    rintro e w1 ⟨rfl,hb1⟩
    rw [HQ.out]
    have x0:=(hb1.block w.heap.size (by have:=HS.out;omega)).trans hW0
    have hbw:Below w.heap.size w w1:=hWb.trans (hb1.mono (by have:=HS.out;omega))
    have hz1:w.heap.size+1≤w1.heap.size:=by have:=HS.out;have:=hb1.size;omega
    obtain ⟨f0,f1,f2,f3,f4,f5,f6,f7,f8⟩:=Nine.box x0
    have hba:Below w.heap.size w (w1.alloc (.cells #[] 9)):=hbw.alloc (by omega) _
    go_wp2_with fail
    refine (lb_any 24 D d L B w.heap.size t _ _ _ _ _ _ _ _ _ _ [] m _ hB (by simp;omega) (Fm.below hba hB hf) hm (toks_emp (heap_new rfl) (by omega)) (by simp;omega)).mono ?_
    rintro e w2 ⟨v,rfl,hk,hT⟩
    obtain ⟨ao,cp,rfl⟩:=toks_form hT
    have hbw2:Below w.heap.size w w2:=hba.trans ⟨hk.os,hk.tape,hk.output,hk.size,fun k hk2=>hk.block k (by simp;omega) (fun e=>by have e1:w1.heap.size=k:=by { simpa [Value.ownBlock] using e };omega)⟩
    clear f0 f1 f2 f3 f4 f5 f6 f7 f8
    go_wp2_with fail
    go_ret
    refine ⟨_,rfl,hbw2,?_⟩
    rw [HT.out]
    exact hT
end Go.Proofs.YtcepgedbmffkdaaGreat

/-
  'AllUnlike': the program's and the model's.
-/
namespace Go.Proofs.YtcepgedbmffkdaaGreat
open Go.RowKit
set_option linter.unusedVariables false
set_option linter.unusedSimpArgs false
theorem tk_enc:tk=encStr:=rfl
theorem sort_toks {base:Nat} {w:World} {v:Value} {B:List (List UInt8)} (h:Toks base w v B) (hl:B.length≤1000) :
    Calls Tryz.prog 69 #[v] w fun e w'=>e=.returned (.tuple #[])∧Below base w w'∧Toks base w' v (B.mergeSort fun x y=>decide (x≤y)):=by
  rcases h.2 with ⟨rfl,hn⟩ | ⟨g,cap,cur,rfl,hg,hh,h1,h2,h3,h4⟩
  · obtain rfl:B=[]:=List.length_eq_zero_iff.1 hn
    refine (Tryz.slices_Sort_string_none none 0 w).mono ?_
    rintro e w' ⟨h1,rfl⟩
    exact ⟨h1,Below.refl _ _,by simpa using h⟩
  · have hgw:=(Array.getElem?_eq_some_iff.1 hh).1
    refine (Tryz.slices_Sort_string g 0 cap B w (holds_of_block hh (by simpa [tk_enc] using h4)) hgw (by omega)).mono ?_
    rintro e w' ⟨e1,n,os,rfl⟩
    have hl2:(B.mergeSort fun x y=>decide (x≤y)).length=B.length:=List.length_mergeSort B
    have hgr:=grownBy_sorted (w:=w) (g:=g) (n:=n) (os:=os) (B.mergeSort fun x y=>decide (x≤y)).toArray
    refine ⟨e1,⟨hgr.os,hgr.tape,hgr.output,hgr.size,fun k hk=>hgr.block k (by omega) (fun e=>by injection e with e;omega)⟩,?_⟩
    have:=ownsRow_sorted (n:=n) (os:=os) hl2 hg hh h1 h2 h3
    unfold Toks
    rw [hl2]
    exact this
theorem compact_toks {base:Nat} {w:World} {v:Value} {B:List (List UInt8)} (h:Toks base w v B) (hl:B.length≤1000) :
    Calls Tryz.prog 70 #[v] w fun e w'=>∃ ao cap,e=.returned (.slice ao (Lib.compact B).length cap)∧Below base w w':=by
  rcases h.2 with ⟨rfl,hn⟩ | ⟨g,cap,cur,rfl,hg,hh,h1,h2,h3,h4⟩
  · obtain rfl:B=[]:=List.length_eq_zero_iff.1 hn
    refine (Tryz.slices_Compact_string_empty none 0 w).mono ?_
    rintro e w' ⟨h1,rfl⟩
    exact ⟨none,0,h1,Below.refl _ _⟩
  · refine (Tryz.slices_Compact_string g 0 cap B w (holds_of_block hh (by simpa [tk_enc] using h4)) (by omega) h1).mono ?_
    rintro e w' ⟨e1,n,rfl⟩
    have hgr:=grownBy_sorted (w:=w) (g:=g) (n:=n) (os:=#[]) (Lib.compact B ++ List.replicate (B.length - (Lib.compact B).length) []).toArray
    rw [Sort.grow_empty] at hgr
    exact ⟨_,_,e1,⟨hgr.os,hgr.tape,hgr.output,hgr.size,fun k hk=>hgr.block k (by have:=(Array.getElem?_eq_some_iff.1 hh).1;omega) (fun e=>by injection e with e;omega)⟩⟩
set_option maxRecDepth 100000 in
set_option maxHeartbeats 1000000 in
theorem allUnlike_any (D d L B:Nat) (t:Tm) (a1:Option Addr) (l1 c1:Nat) (a2:Option Addr) (l2 c2:Nat) (a3:Option Addr) (l3 c3:Nat) (w:World) (hB:B≤w.heap.size) (hf:Fm L B w D d t a1 l1 a2 l2 a3 l3) :
    Calls Tryz.prog 47 #[.agg #[.int .i64 t.K,.int .i64 t.N,.string t.S,.string t.Z,.int .i64 t.T.K,.int .i64 t.T.N,.slice a1 l1 c1,.slice a2 l2 c2,.slice a3 l3 c3]] w fun e w'=>e=.returned (.bool (auM t))∧Below w.heap.size w w':=by
  have hbel:Below w.heap.size w (w.alloc (.cells #[.int .i64 t.K,.int .i64 t.N,.string t.S,.string t.Z,.int .i64 t.T.K,.int .i64 t.T.N,.slice a1 l1 c1,.slice a2 l2 c2,.slice a3 l3 c3] 34)):=(Below.refl _ _).alloc (Nat.le_refl _) _
  have hf1:=Fm.below hbel hB hf
  have hbl:=bndT_len t
  cases hq:okM t
  · have HQ:Hid (okM t=false):=hq
    have HP:Hid (auM t=false):=by show _=_;simp [auM,hq]
    clear hq
    go_enter Tryz.func47,Tryz.ntmps47
    go_wp2_with fail
    refine (termOk_any D d L B t _ _ _ _ _ _ _ _ _ _ (by simp;omega) hf1).mono ?_
    rintro e w1 ⟨rfl,hb1⟩
    rw [HQ.out]
    go_wp2_with fail
    go_ret
    exact ⟨ret_bool (by rw [HP.out]),hbel.trans (hb1.mono (by simp))⟩
  · have HQ:Hid (okM t=true):=hq
    have HP:Hid (auM t=decide (bndT t).Nodup):=by show _=_;simp [auM,hq]
    clear hq
    go_enter Tryz.func47,Tryz.ntmps47
    go_wp2_with fail
    refine (termOk_any D d L B t _ _ _ _ _ _ _ _ _ _ (by simp;omega) hf1).mono ?_
    rintro e w1 ⟨rfl,hb1⟩
    rw [HQ.out]
    have hbw:Below w.heap.size w w1:=hbel.trans (hb1.mono (by simp))
    have hz1:=hb1.size
    simp only [World.size_alloc] at hz1
    obtain ⟨f0,f1,f2,f3,f4,f5,f6,f7,f8⟩:=Nine.box ((hb1.block w.heap.size (by simp)).trans (heap_new rfl))
    go_wp2_with fail
    refine (binders_any D d L B t _ _ _ _ _ _ _ _ _ _ (by omega) (Fm.below hbw hB hf)).mono ?_
    rintro e w2 ⟨v,rfl,hb2,hT⟩
    have hz2:=hb2.size
    have hbw2:Below w.heap.size w w2:=hbw.trans (hb2.mono (by omega))
    obtain ⟨N,hN⟩:∃ N,bndT t=N:=⟨_,rfl⟩
    rw [hN] at hT HP hbl
    clear hN f0 f1 f2 f3 f4 f5 f6 f7 f8
    have hT':=toks_le hT (show w.heap.size≤w1.heap.size by omega)
    obtain ⟨ao,cap,rfl⟩:=toks_form hT
    obtain ⟨nB,hnB⟩:∃ n,N.length=n:=⟨_,rfl⟩
    have KS:=sort_toks hT' (by omega)
    rw [hnB] at KS hbl
    have HNB:Hid (N.length=nB):=hnB
    rw [hnB]
    clear hnB hT
    go_wp2_with fail
    refine KS.mono ?_
    rintro e w3 ⟨rfl,hb3,hT3⟩
    have hlm:(N.mergeSort fun x y=>decide (x≤y)).length=N.length:=List.length_mergeSort N
    have KC:=compact_toks hT3 (by rw [hlm,HNB.out];omega)
    have HSC:=sorted_compact N
    rw [HNB.out] at HSC
    have hcl:=Nat.le_trans (compact_le (N.mergeSort fun x y=>decide (x≤y))) (Nat.le_of_eq (hlm.trans HNB.out))
    obtain ⟨nC,hnC⟩:∃ n,(Lib.compact (N.mergeSort fun x y=>decide (x≤y))).length=n:=⟨_,rfl⟩
    rw [hnC] at KC HSC hcl
    have HE:Hid (((nC:Int) == (nB:Int))=decide N.Nodup):=by
      show _=_
      by_cases h:N.Nodup
      · have:=HSC.2 h;simp [h,this]
      · have:¬ nC=nB:=fun e=>h (HSC.1 e)
        rw [decide_eq_false h,beq_eq_false_iff_ne];omega
    clear hnC HSC hlm
    go_wp2_with fail
    refine KC.mono ?_
    rintro e w4 ⟨ao4,cp4,rfl,hb4⟩
    go_wp2_with fail
    go_ret
    exact ⟨ret_bool (by rw [HP.out,HE.out]),hbw2.trans (hb3.trans hb4)⟩
theorem nodup_take {B:List (List UInt8)} {j:Nat} (hj:j < B.length) (h:(B.take j).Nodup) (hn:¬ B[j] ∈ B.take j):(B.take (j+1)).Nodup:=by
  rw [List.take_succ_eq_append_getElem hj,List.nodup_append]
  refine ⟨h,by simp,fun a ha b hb e=>?_⟩
  rw [List.mem_singleton] at hb
  subst hb
  subst e
  exact hn ha
theorem not_nodup {B:List (List UInt8)} {j:Nat} (hj:j < B.length) (h:B[j] ∈ B.take j):¬ B.Nodup:=by
  intro hn
  obtain ⟨i,hi,e⟩:=List.getElem_of_mem h
  have hi2:i < j:=by rw [List.length_take] at hi;omega
  rw [List.getElem_take] at e
  rw [List.nodup_iff_pairwise_ne,List.pairwise_iff_getElem] at hn
  exact hn i j (by omega) hj hi2 e
set_option maxRecDepth 100000 in
set_option maxHeartbeats 2000000 in
theorem sAllUnlike_any (D d L B:Nat) (t:Tm) (a1:Option Addr) (l1 c1:Nat) (a2:Option Addr) (l2 c2:Nat) (a3:Option Addr) (l3 c3:Nat) (w:World) (hB:B≤w.heap.size) (hf:Fm L B w D d t a1 l1 a2 l2 a3 l3) :
    Calls Tryz.prog 40 #[.agg #[.int .i64 t.K,.int .i64 t.N,.string t.S,.string t.Z,.int .i64 t.T.K,.int .i64 t.T.N,.slice a1 l1 c1,.slice a2 l2 c2,.slice a3 l3 c3]] w fun e w'=>e=.returned (.bool (auM t))∧Below w.heap.size w w':=by
  have hbel:Below w.heap.size w (w.alloc (.cells #[.int .i64 t.K,.int .i64 t.N,.string t.S,.string t.Z,.int .i64 t.T.K,.int .i64 t.T.N,.slice a1 l1 c1,.slice a2 l2 c2,.slice a3 l3 c3] 34)):=(Below.refl _ _).alloc (Nat.le_refl _) _
  have hf1:=Fm.below hbel hB hf
  have hbl:=bndT_len t
  go_enter Tryz.func40,Tryz.ntmps40
  go_wp2_with fail
  refine (sBinders_any D d L B t _ _ _ _ _ _ _ _ _ _ (by simp;omega) hf1).mono ?_
  rintro e w1 ⟨v,rfl,hb1,hT⟩
  have hbw:Below w.heap.size w w1:=hbel.trans (hb1.mono (by simp))
  have hz1:=hb1.size
  simp only [World.size_alloc] at hz1
  have x0:=(hb1.block w.heap.size (by simp)).trans (heap_new rfl)
  have HP:Hid (auM t=(okM t && decide (bndT t).Nodup)):=rfl
  obtain ⟨N,hN⟩:∃ N,bndT t=N:=⟨_,rfl⟩
  rw [hN] at hT HP hbl
  clear hN
  obtain ⟨ao,cap,rfl⟩:=toks_form hT
  obtain ⟨nB,hnB⟩:∃ n,N.length=n:=⟨_,rfl⟩
  have HNB:Hid (N.length=nB):=hnB
  rw [hnB]
  rw [hnB] at hT hbl
  clear hnB
  go_wp2_with fail
  go_loopw [4] (fun i wr=>∃ j:Nat,j≤nB∧i=.int .i64 j∧Hid ((N.take j).Nodup)∧Below w1.heap.size w1 wr) (fun i _=>nB - (intOf i).toNat)
  case atStart=>exact ⟨0,by omega,rfl,(by show List.Nodup _;simp),Below.refl _ _⟩
  case round =>
    obtain ⟨j,hj,rfl,HND,hbr⟩:=hrel
    by_cases hlt:j < nB
    · have hlt':j < N.length:=by have:=HNB.out;omega
      have hTr:=toks_bel hT hbr
      obtain ⟨g,cp,e,hg,hgw,hc⟩:=toks_at hTr j hlt'
      injection e with e1 e2 e3
      subst e1
      subst e3
      rw [Nat.zero_add] at hc
      have hcap:nB≤cap:=by
        rcases hT.2 with ⟨e,_⟩ | ⟨g',cap',cur,e,_,_,h1,_⟩
        · cases e
        · injection e with _ _ e3
          have:=HNB.out
          omega
      have hTp:Toks (w.heap.size+1) wr (.slice (some ⟨g,0,none⟩) j cap) (N.take j):=by
        have h5:N.take j ++ N.drop j=N:=List.take_append_drop j N
        rw [← h5] at hTr
        rcases toks_cut hTr with h6 | ⟨h6,_⟩
        · have h7:(N.take j).length=j:=by rw [List.length_take];omega
          rw [h7] at h6
          exact toks_le h6 (by simp)
        · cases h6
      obtain ⟨z,hz⟩:∃ z:ByteArray,tk N[j]=.string z:=⟨_,rfl⟩
      have hzb:bs z=N[j]:=by
        have:(⟨N[j].toArray⟩:ByteArray)=z:=by simpa [tk] using hz
        rw [← this];simp [bs]
      rw [hz] at hc
      by_cases hm:N[j] ∈ N.take j
      · have HE:Hid (auM t=false):=by show _=_;rw [HP.out,decide_eq_false (not_nodup hlt' hm)];simp
        have K:=l2Has_any _ _ z wr.drew (toks_bel hTp (Below.refl _ _).drew) (by rw [List.length_take];omega)
        rw [hzb,decide_eq_true hm] at K
        clear hm hz hzb hTp hTr e2
        go_wp2_with fail
        go_region_with (first | (go_at_call 61;refine K.mono ?_;rintro e w5 ⟨rfl,rfl⟩))
        all_goals
          go_wp2_with fail
          go_ret
          exact ⟨ret_bool (by rw [HE.out]),hbw.trans (hbr.drew.mono (by omega))⟩
      · have HE:Hid ((N.take (j+1)).Nodup):=nodup_take hlt' HND.out hm
        have K:=l2Has_any _ _ z wr.drew (toks_bel hTp (Below.refl _ _).drew) (by rw [List.length_take];omega)
        rw [hzb,decide_eq_false hm] at K
        clear hm hz hzb hTp hTr e2
        go_wp2_with fail
        go_region_with (first | (go_at_call 61;refine K.mono ?_;rintro e w5 ⟨rfl,rfl⟩))
        all_goals
          go_wp2_with fail
          go_roundw
          case rel=>exact ⟨j+1,by omega,by go_num,HE,hbr.drew⟩
          case measure=>simp [intOf];omega
    · have HE:Hid (auM t=okM t):=by
        show _=_
        have h1:=HND.out
        rw [List.take_of_length_le (by have:=HNB.out;omega)] at h1
        rw [HP.out,decide_eq_true h1];simp
      have hbwr:Below w.heap.size w wr:=hbw.trans (hbr.mono (by omega))
      have hszr:=hbr.size
      obtain ⟨f0,f1,f2,f3,f4,f5,f6,f7,f8⟩:=Nine.box ((hbr.block w.heap.size (by omega)).trans x0)
      go_wp2_with fail
      refine (sTermOk_any D d L B t _ _ _ _ _ _ _ _ _ _ (by omega) (Fm.below hbwr hB hf)).mono ?_
      rintro e w3 ⟨rfl,hb3⟩
      go_wp2_with fail
      go_ret
      exact ⟨ret_bool (by rw [HE.out]),hbwr.trans (hb3.mono (by omega))⟩
end Go.Proofs.YtcepgedbmffkdaaGreat
