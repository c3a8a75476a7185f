/-
  Free names: what 'meet' and 'gatherBound' come to; the two rows of names that lie in memory.
-/
import Derived.Test.YtcepgedbmffkdaaGreatFbaZ2
import Derived.Test.YtcepgedbmffkdaaGreatFbaZ7
import Derived.Test.YtcepgedbmffkdaaGreatFbaZ4
import Derived.Test.YtcepgedbmffkdaaGreatFbaZ1
import Derived.Lib.SlicesS
namespace Go.Proofs.YtcepgedbmffkdaaGreat
open Go.RowKit
set_option linter.unusedVariables false
set_option linter.unusedSimpArgs false
structure FnSt (p:Nat) (w:World) (vb vf:Value) (Bd Fr:List (List UInt8)):Prop where
  box:w.heap[p]?=some (.cells #[vb,vf] 93 (0,0))
  bound:Toks (p+1) w vb Bd
  free:Toks (p+1) w vf Fr
  apart:∀ g,vb.ownBlock=some g→vf.ownBlock≠some g
theorem FnSt.lt {p:Nat} {w:World} {vb vf:Value} {Bd Fr:List (List UInt8)} (h:FnSt p w vb vf Bd Fr):p < w.heap.size:=(Array.getElem?_eq_some_iff.1 h.box).1
theorem contains_toks {base:Nat} {w:World} {v:Value} {P:List (List UInt8)} (h:Toks base w v P) (hl:P.length≤1048576) (s:ByteArray) :
    Calls Tryz.prog 102 #[v,.string s] w fun e w'=>e=.returned (.bool (decide (bs s ∈ P)))∧w'=w:=by
  rcases h.2 with ⟨rfl,hn⟩ | ⟨g,cap,cur,rfl,hg,hh,h1,h2,h3,h4⟩
  · have hP:P=[]:=List.length_eq_zero_iff.1 hn
    subst hP
    exact (Tryz.slices_Contains_string_empty none 0 s w).mono fun e w' ⟨h1,h2⟩=>⟨by rw [h1];simp,h2⟩
  · refine (Tryz.slices_Contains_string g 0 P.length cap (P.map fun l=>(⟨l.toArray⟩:ByteArray)) s w (by simp) (by omega) ?_).mono fun e w' ⟨h1,h2⟩=>⟨?_,h2⟩
    · intro j hj
      have hj':j < P.length:=by simpa using hj
      have e:(List.map tk P)[j]?=some (tk P[j]):=by simp [hj']
      rw [← h4,List.getElem?_take] at e
      rw [if_pos (by omega)] at e
      rw [Nat.zero_add,row_cell hh,← Array.getElem?_toList,e]
      simp [tk,hj']
    · rw [h1]
      congr 2
      rw [List.take_of_length_le (by simp),Bool.eq_iff_iff,Lib.containsS_iff,decide_eq_true_eq,List.mem_map]
      constructor
      · rintro ⟨l,hl,e⟩
        have:bs s=l:=by rw [← e];simp [bs]
        rw [this];exact hl
      · intro hm
        exact ⟨bs s,hm,mk_bs s⟩
structure Kp (p:Nat) (vb vf:Value) (w:World) (vb' vf':Value) (w':World):Prop where
  os:w'.os=w.os
  tape:w'.tape=w.tape
  output:w'.output=w.output
  size:w.heap.size≤w'.heap.size
  block:∀ k,k < w.heap.size→k≠p→vb.ownBlock≠some k→vf.ownBlock≠some k→w'.heap[k]?=w.heap[k]?
  own:∀ k,(vb'.ownBlock=some k∨vf'.ownBlock=some k)→(vb.ownBlock=some k∨vf.ownBlock=some k∨w.heap.size≤k)
theorem Kp.trans {p:Nat} {vb vf vb' vf' vb'' vf'':Value} {w w' w'':World} (h:Kp p vb vf w vb' vf' w') (k:Kp p vb' vf' w' vb'' vf'' w''):Kp p vb vf w vb'' vf'' w'':=by
  refine ⟨k.os.trans h.os,k.tape.trans h.tape,k.output.trans h.output,Nat.le_trans h.size k.size,fun i hi hp h1 h2=>?_,fun i hi=>?_⟩
  · have h3:∀ v:Value,(vb'.ownBlock=some i∨vf'.ownBlock=some i)→False:=fun _ e=>by
      rcases h.own i e with e | e | e
      · exact h1 e
      · exact h2 e
      · omega
    exact (k.block i (Nat.lt_of_lt_of_le hi h.size) hp (fun e=>h3 vb (Or.inl e)) (fun e=>h3 vb (Or.inr e))).trans (h.block i hi hp h1 h2)
  · rcases k.own i hi with e | e | e
    · exact h.own i (Or.inl e)
    · exact h.own i (Or.inr e)
    · exact Or.inr (Or.inr (Nat.le_trans h.size e))
theorem Kp.of_below {p:Nat} {vb vf:Value} {w w':World} (h:Below w.heap.size w w'):Kp p vb vf w vb vf w' :=
  ⟨h.os,h.tape,h.output,h.size,fun k hk _ _ _=>h.block k hk,fun k hk=>by rcases hk with e | e <;> simp [e]⟩
theorem Kp.refl {p:Nat} {vb vf:Value} {w:World}:Kp p vb vf w vb vf w:=Kp.of_below (Below.refl _ _)
theorem Kp.below {p:Nat} {vb vf vb' vf':Value} {w w':World} {Bd Fr:List (List UInt8)} (h:Kp p vb vf w vb' vf' w') (hs:FnSt p w vb vf Bd Fr):Below p w w':=by
  have hp:=hs.lt
  refine ⟨h.os,h.tape,h.output,h.size,fun k hk=>h.block k (by omega) (by omega) (fun e=>?_) (fun e=>?_)⟩
  · have:=(toks_own hs.bound e).1;omega
  · have:=(toks_own hs.free e).1;omega
theorem FnSt.below {p:Nat} {vb vf:Value} {w w':World} {Bd Fr:List (List UInt8)} (h:FnSt p w vb vf Bd Fr) (hb:Below w.heap.size w w'):FnSt p w' vb vf Bd Fr :=
  ⟨(hb.block p h.lt).trans h.box,toks_keep h.bound fun g hg=>hb.block g (toks_own h.bound hg).2,toks_keep h.free fun g hg=>hb.block g (toks_own h.free hg).2,h.apart⟩
theorem st_free {p:Nat} {w W w2:World} {vb vf:Value} {Bd Fr Q:List (List UInt8)} (h:FnSt p w vb vf Bd Fr) (hW:Below w.heap.size w W) {g cap n:Nat}
    (hT:Toks (p+1) w2 (.slice (some ⟨g,0,none⟩) n cap) Q) (hg:W.grownBy w2 vf.ownBlock) (hat:vf.ownBlock=some g∨g=W.heap.size) :
    Kp p vb vf w vb (.slice (some ⟨g,0,none⟩) n cap) (w2.setCell ⟨p,1,none⟩ (.slice (some ⟨g,0,none⟩) n cap))∧FnSt p (w2.setCell ⟨p,1,none⟩ (.slice (some ⟨g,0,none⟩) n cap)) vb (.slice (some ⟨g,0,none⟩) n cap) Bd Q:=by
  have hp:=h.lt
  have hz:=hW.size
  have hown:∀ k,vf.ownBlock=some k→p < k:=fun k e=>by have:=(toks_own h.free e).1;omega
  have hblk:∀ k,k < w.heap.size→vf.ownBlock≠some k→w2.heap[k]?=w.heap[k]?:=fun k hk hne=>(hg.block k (by omega) (fun e=>hne e.symm)).trans (hW.block k hk)
  have hpb:=(hblk p hp (fun e=>by have:=hown p e;omega)).trans h.box
  have hgp:p < g:=by
    rcases hat with e | e
    · exact hown g e
    · omega
  refine ⟨⟨?_,?_,?_,?_,fun k hk hkp h1 h2=>?_,fun k hk=>?_⟩,⟨?_,?_,?_,?_⟩⟩
  · exact hg.os.trans hW.os
  · exact hg.tape.trans hW.tape
  · exact hg.output.trans hW.output
  · have:=hg.size
    rw [World.size_setCell]
    omega
  · rw [row_other _ _ _ hkp]
    exact hblk k hk h2
  · rcases hk with e | e
    · exact Or.inl e
    · have e:g=k:=by simpa [Value.ownBlock] using e
      subst e
      rcases hat with e | e
      · exact Or.inr (Or.inl e)
      · exact Or.inr (Or.inr (by omega))
  · rw [row_set hpb];rfl
  · refine toks_keep h.bound fun k hk=>?_
    have h1:=toks_own h.bound hk
    rw [row_other _ _ _ (by omega)]
    exact hblk k h1.2 (h.apart k hk)
  · refine toks_keep hT fun k hk=>?_
    have e:g=k:=by simpa [Value.ownBlock] using hk
    rw [row_other _ _ _ (by omega)]
  · intro k hk e
    have e:g=k:=by simpa [Value.ownBlock] using e
    subst e
    rcases hat with e | e
    · exact h.apart g hk e
    · have:=(toks_own h.bound hk).2
      omega
set_option maxRecDepth 100000 in
set_option maxHeartbeats 1000000 in
theorem meet_any (p:Nat) (s:ByteArray) (w:World) (vb vf:Value) (Bd Fr:List (List UInt8)) (h:FnSt p w vb vf Bd Fr) (h1:Bd.length≤100000) (h2:Fr.length≤100000) :
    Calls Tryz.prog 97 #[.pointer (some ⟨p,0,none⟩),.string s] w fun e w'=>∃ vb' vf',e=.returned (.tuple #[])∧Kp p vb vf w vb' vf' w'∧FnSt p w' vb' vf' Bd (meetW Bd Fr (bs s)):=by
  have hp:=h.lt
  obtain ⟨c0,c1⟩:=two_cells h.box
  have c2:=row_free h.box
  obtain ⟨ab,cb,rfl⟩:=toks_form h.bound
  obtain ⟨af,cf,rfl⟩:=toks_form h.free
  have K1:=contains_toks h.bound (by omega) s
  have K2:=contains_toks h.free (by omega) s
  by_cases hb:bs s ∈ Bd
  · have hbd:decide (bs s ∈ Bd)=true:=by simp [hb]
    have HM:Hid (meetW Bd Fr (bs s)=Fr):=by show _=_;simp [meetW,hb]
    rw [hbd] at K1
    clear hb hbd
    go_enter Tryz.func97,Tryz.ntmps97
    go_wp2_with fail
    refine K1.mono ?_
    rintro e w1 ⟨rfl,rfl⟩
    go_wp2_with fail
    refine bodyPost_end (v:=.tuple #[]) (by simp [results,Tryz.results97,go_sem]) rfl ?_
    exact ⟨_,_,rfl,Kp.refl,by rw [HM.out];exact h⟩
  · have hbd:decide (bs s ∈ Bd)=false:=by simp [hb]
    rw [hbd] at K1
    by_cases hf:bs s ∈ Fr
    · have hfd:decide (bs s ∈ Fr)=true:=by simp [hf]
      have HM:Hid (meetW Bd Fr (bs s)=Fr):=by show _=_;simp [meetW,hf]
      rw [hfd] at K2
      clear hb hbd hf hfd
      go_enter Tryz.func97,Tryz.ntmps97
      go_wp2_with fail
      refine K1.mono ?_
      rintro e w1 ⟨rfl,rfl⟩
      go_wp2_with fail
      refine K2.mono ?_
      rintro e w2 ⟨rfl,rfl⟩
      go_wp2_with fail
      refine bodyPost_end (v:=.tuple #[]) (by simp [results,Tryz.results97,go_sem]) rfl ?_
      exact ⟨_,_,rfl,Kp.refl,by rw [HM.out];exact h⟩
    · have hfd:decide (bs s ∈ Fr)=false:=by simp [hf]
      have HM:Hid (meetW Bd Fr (bs s)=Fr ++ [bs s]):=by show _=_;simp [meetW,hb,hf]
      rw [hfd] at K2
      clear hb hbd hf hfd
      have hW:Below w.heap.size w (w.alloc (.cells #[.string s] 9)):=(Below.refl _ _).alloc (Nat.le_refl _) _
      have hT:=toks_keep (w':=w.alloc (.cells #[.string s] 9)) h.free fun g hg=>hW.block g (toks_own h.free hg).2
      obtain ⟨g,cap,w2,hrun,hT2,hgr,hat,hlt⟩:=toks_grow hT (by simp;omega) [bs s] (by simp) (by simp;omega) w.heap.size 1 (by
        intro j u hu
        have hj:j=0:=by
          have:=(List.getElem?_eq_some_iff.1 hu).1
          simpa using this
        subst hj
        have e:tk (bs s)=u:=by simpa using hu
        rw [← e,tk_bs,row_cell (heap_new rfl)]
        rfl)
      obtain ⟨hB,hS⟩:=st_free h hW hT2 hgr hat
      have HR:Hid ((Builtin.append_ #[60,60] 60 #[.slice af Fr.length cf,.slice (some ⟨w.heap.size,0,none⟩) 1 1]).run Tryz.prog (w.alloc (.cells #[.string s] 9))=.ok (.slice (some ⟨g,0,none⟩) (Fr.length+1) cap) w2):=hrun
      have hown:∀ k,Value.ownBlock (.slice af Fr.length cf)=some k→p < k:=fun k e=>by have:=(toks_own h.free e).1;omega
      have hz2:=hgr.size
      have hbx2:w2.heap[p]?=some (.cells #[.slice ab Bd.length cb,.slice af Fr.length cf] 93 (0,0)):=(hgr.block p (by simp;omega) (fun e=>by have:=hown p e.symm;omega)).trans ((hW.block p hp).trans h.box)
      obtain ⟨d0,d1⟩:=two_cells hbx2
      have d2:=row_free hbx2
      clear hrun hgr hat hT hT2 hbx2 hown
      go_enter Tryz.func97,Tryz.ntmps97
      go_wp2_with fail
      refine K1.mono ?_
      rintro e w1 ⟨rfl,rfl⟩
      go_wp2_with fail
      refine K2.mono ?_
      rintro e w3 ⟨rfl,rfl⟩
      go_wp2_with (at_builtin;refine list_run HR.out (by rfl) _ _ (by rfl) (by rfl) (by rfl) (by rfl) ?_)
      refine bodyPost_end (v:=.tuple #[]) (by simp [results,Tryz.results97,go_sem]) rfl ?_
      exact ⟨_,_,rfl,hB,by rw [HM.out];exact hS⟩
end Go.Proofs.YtcepgedbmffkdaaGreat

/-
  Free names: 'gatherBound', and free names in plain words.
-/
namespace Go.Proofs.YtcepgedbmffkdaaGreat
open Go.RowKit
set_option linter.unusedVariables false
set_option linter.unusedSimpArgs false
theorem st_bound {p:Nat} {w W w2:World} {vb vf:Value} {Bd Fr Q:List (List UInt8)} (h:FnSt p w vb vf Bd Fr) (hW:Below w.heap.size w W) {g cap n:Nat}
    (hT:Toks (p+1) w2 (.slice (some ⟨g,0,none⟩) n cap) Q) (hg:W.grownBy w2 vb.ownBlock) (hat:vb.ownBlock=some g∨g=W.heap.size) :
    Kp p vb vf w (.slice (some ⟨g,0,none⟩) n cap) vf (w2.setCell ⟨p,0,none⟩ (.slice (some ⟨g,0,none⟩) n cap))∧FnSt p (w2.setCell ⟨p,0,none⟩ (.slice (some ⟨g,0,none⟩) n cap)) (.slice (some ⟨g,0,none⟩) n cap) vf Q Fr:=by
  have hp:=h.lt
  have hz:=hW.size
  have hown:∀ k,vb.ownBlock=some k→p < k:=fun k e=>by have:=(toks_own h.bound e).1;omega
  have hblk:∀ k,k < w.heap.size→vb.ownBlock≠some k→w2.heap[k]?=w.heap[k]?:=fun k hk hne=>(hg.block k (by omega) (fun e=>hne e.symm)).trans (hW.block k hk)
  have hpb:=(hblk p hp (fun e=>by have:=hown p e;omega)).trans h.box
  have hgp:p < g:=by
    rcases hat with e | e
    · exact hown g e
    · omega
  refine ⟨⟨?_,?_,?_,?_,fun k hk hkp h1 h2=>?_,fun k hk=>?_⟩,⟨?_,?_,?_,?_⟩⟩
  · exact hg.os.trans hW.os
  · exact hg.tape.trans hW.tape
  · exact hg.output.trans hW.output
  · have:=hg.size
    rw [World.size_setCell]
    omega
  · rw [row_other _ _ _ hkp]
    exact hblk k hk h1
  · rcases hk with e | e
    · have e:g=k:=by simpa [Value.ownBlock] using e
      subst e
      rcases hat with e | e
      · exact Or.inl e
      · exact Or.inr (Or.inr (by omega))
    · exact Or.inr (Or.inl e)
  · rw [row_set hpb];rfl
  · refine toks_keep hT fun k hk=>?_
    have e:g=k:=by simpa [Value.ownBlock] using hk
    rw [row_other _ _ _ (by omega)]
  · refine toks_keep h.free fun k hk=>?_
    have h1:=toks_own h.free hk
    rw [row_other _ _ _ (by omega)]
    exact hblk k h1.2 (fun e=>h.apart k e hk)
  · intro k hk e
    have e2:g=k:=by simpa [Value.ownBlock] using hk
    subst e2
    rcases hat with e3 | e3
    · exact h.apart g e3 e
    · have:=(toks_own h.free e).2
      omega
theorem st_cut {p:Nat} {w:World} {g n cap:Nat} {vf:Value} {Bd N Fr:List (List UInt8)} (h:FnSt p w (.slice (some ⟨g,0,none⟩) n cap) vf (Bd ++ N) Fr) :
    Kp p (.slice (some ⟨g,0,none⟩) n cap) vf w (.slice (some ⟨g,0,none⟩) Bd.length cap) vf (w.setCell ⟨p,0,none⟩ (.slice (some ⟨g,0,none⟩) Bd.length cap))∧FnSt p (w.setCell ⟨p,0,none⟩ (.slice (some ⟨g,0,none⟩) Bd.length cap)) (.slice (some ⟨g,0,none⟩) Bd.length cap) vf Bd Fr:=by
  have hp:=h.lt
  have hg:p < g:=by have:=(toks_own h.bound (g:=g) rfl).1;omega
  refine ⟨⟨rfl,rfl,rfl,by rw [World.size_setCell];exact Nat.le_refl _,fun k hk hkp _ _=>row_other _ _ _ hkp,fun k hk=>by rcases hk with e | e;exact Or.inl e;exact Or.inr (Or.inl e)⟩,⟨?_,?_,?_,fun k hk=>h.apart k hk⟩⟩
  · rw [row_set h.box];rfl
  · rcases toks_cut h.bound with hT | ⟨e,_⟩
    · refine toks_keep hT fun k hk=>?_
      have e:g=k:=by simpa [Value.ownBlock] using hk
      rw [row_other _ _ _ (by omega)]
    · cases e
  · refine toks_keep h.free fun k hk=>?_
    have h1:=toks_own h.free hk
    rw [row_other _ _ _ (by omega)]
def SaidGa (l:Nat):Prop:=∀ (L B D:Nat) (w0:World) (t:Tm) (v:Value) (p:Nat) (vb vf:Value) (Bd Fr:List (List UInt8)) (m:Nat) (w:World),Fv L B w0 D l t v→nodesM l t=some m→FnSt p w vb vf Bd Fr→Bd.length+2 * l≤1000→Fr.length+m≤1000 →
    Calls Tryz.prog 71 #[.pointer (some ⟨p,0,none⟩),v] w fun e w'=>∃ vb' vf',e=.returned (.tuple #[])∧Kp p vb vf w vb' vf' w'∧FnSt p w' vb' vf' Bd (freeW l t Bd Fr)
set_option maxRecDepth 100000 in
set_option maxHeartbeats 1000000 in
theorem gb_any (l:Nat) (IH:SaidGa l) (L B D:Nat) (w0:World) (t:Tm) (v:Value) (p:Nat) (vb vf:Value) (Bd Fr N:List (List UInt8)) (m nb c:Nat) (w:World) (hv:Fv L B w0 D l t v) (hm:nodesM l t=some m) (h:FnSt p w vb vf Bd Fr) (h1:Bd.length+2 * l+2≤1000) (h2:Fr.length+m≤1000) (hN:0 < N.length) (hN2:N.length≤2)
    (hs:∀ j u,(N.map tk)[j]?=some u→w.cell? ⟨nb,0+j,none⟩=some u) :
    Calls Tryz.prog 98 #[.pointer (some ⟨p,0,none⟩),v,.slice (some ⟨nb,0,none⟩) N.length c] w fun e w'=>∃ vb' vf',e=.returned (.tuple #[])∧Kp p vb vf w vb' vf' w'∧FnSt p w' vb' vf' Bd (freeW l t (Bd ++ N) Fr):=by
  have hp:=h.lt
  obtain ⟨c0,c1⟩:=two_cells h.box
  have c2:=row_free h.box
  obtain ⟨ab,cb,rfl⟩:=toks_form h.bound
  obtain ⟨g,cap,w2,hrun,hT2,hgr,hat,hlt⟩:=toks_grow h.bound (by omega) N hN (by omega) nb c hs
  obtain ⟨hB,hS⟩:=st_bound h (Below.refl _ _) hT2 hgr hat
  have hown:∀ k,Value.ownBlock (.slice ab Bd.length cb)=some k→p < k:=fun k e=>by have:=(toks_own h.bound e).1;omega
  have hbx2:w2.heap[p]?=some (.cells #[.slice ab Bd.length cb,vf] 93 (0,0)):=(hgr.block p (by omega) (fun e=>by have:=hown p e.symm;omega)).trans h.box
  obtain ⟨d0,d1⟩:=two_cells hbx2
  have d2:=row_free hbx2
  have HR:Hid (_=_):=hrun
  have HV:Hid (Fv L B w0 D l t v):=hv
  have HG:=IH L B D w0 t v p _ _ (Bd ++ N) Fr m _ hv hm hS (by rw [List.length_append];omega) h2
  have hlp:p < w2.heap.size:=(Array.getElem?_eq_some_iff.1 hbx2).1
  have HS:Hid (Kp p _ _ w _ _ _):=hB
  clear hrun hgr hat hT2 hbx2 hown hs hv hS hB
  obtain ⟨τ,u,rfl⟩:=HV.out.iface
  go_enter Tryz.func98,Tryz.ntmps98
  go_wp2_with (at_builtin;refine list_run HR.out (by rfl) _ _ (by rfl) (by rfl) (by rfl) (by rfl) ?_)
  refine HG.mono ?_
  rintro e w4 ⟨vb4,vf4,rfl,hb4,hS4⟩
  obtain ⟨x0,x1⟩:=two_cells hS4.box
  have x2:=row_free hS4.box
  rcases hS4.bound.2 with ⟨_,hn⟩ | ⟨g4,cap4,cur4,rfl,_,_,hle,_⟩
  · rw [List.length_append] at hn;omega
  obtain ⟨hB5,hS5⟩:=st_cut hS4
  have hle2:Bd.length≤cap4:=by rw [List.length_append] at hle;omega
  rw [List.length_append] at x0
  go_wp2_with fail
  refine bodyPost_end (v:=.tuple #[]) (by simp [results,Tryz.results98,go_sem]) rfl ?_
  exact ⟨_,_,rfl,(HS.out.trans hb4).trans hB5,hS5⟩
end Go.Proofs.YtcepgedbmffkdaaGreat

/-
  What it is that a form's type is asked: the six that 'gather' knows.
-/
namespace Go.Proofs.YtcepgedbmffkdaaGreat
open Go.RowKit
set_option linter.unusedVariables false
set_option linter.unusedSimpArgs false
theorem is_varForm (W:World) (v:Value):(Instr.typeAssert (.iface 108 v) 52 108 true).run Tryz.prog W=.ok (.tuple #[v,.bool true]) W:=by kernel_rfl
theorem no_varForm (W:World) (u:TypeId) (v:Value) (h:u≠108):(Instr.typeAssert (.iface u v) 52 108 true).run Tryz.prog W=.ok (.tuple #[.agg #[.string ⟨#[]⟩,.slice none 0 0],.bool false]) W:=by
  have hz:(zeroValue 108).run Tryz.prog W=.ok (.agg #[.string ⟨#[]⟩,.slice none 0 0]) W:=by kernel_rfl
  simp [Instr.typeAssert,run_underlying Tryz.underlying108,h,hz]
theorem is_fnForm (W:World) (v:Value):(Instr.typeAssert (.iface 110 v) 52 110 true).run Tryz.prog W=.ok (.tuple #[v,.bool true]) W:=by kernel_rfl
theorem no_fnForm (W:World) (u:TypeId) (v:Value) (h:u≠110):(Instr.typeAssert (.iface u v) 52 110 true).run Tryz.prog W=.ok (.tuple #[.agg #[.int .i64 0,.string ⟨#[]⟩,.int .i64 0,.int .i64 0,.slice none 0 0,.nilIface],.bool false]) W:=by
  have hz:(zeroValue 110).run Tryz.prog W=.ok (.agg #[.int .i64 0,.string ⟨#[]⟩,.int .i64 0,.int .i64 0,.slice none 0 0,.nilIface]) W:=by kernel_rfl
  simp [Instr.typeAssert,run_underlying Tryz.underlying110,h,hz]
theorem is_letForm (W:World) (v:Value):(Instr.typeAssert (.iface 114 v) 52 114 true).run Tryz.prog W=.ok (.tuple #[v,.bool true]) W:=by kernel_rfl
theorem no_letForm (W:World) (u:TypeId) (v:Value) (h:u≠114):(Instr.typeAssert (.iface u v) 52 114 true).run Tryz.prog W=.ok (.tuple #[.agg #[.string ⟨#[]⟩,.int .i64 0,.nilIface,.nilIface],.bool false]) W:=by
  have hz:(zeroValue 114).run Tryz.prog W=.ok (.agg #[.string ⟨#[]⟩,.int .i64 0,.nilIface,.nilIface]) W:=by kernel_rfl
  simp [Instr.typeAssert,run_underlying Tryz.underlying114,h,hz]
theorem is_fixForm (W:World) (v:Value):(Instr.typeAssert (.iface 116 v) 52 116 true).run Tryz.prog W=.ok (.tuple #[v,.bool true]) W:=by kernel_rfl
theorem no_fixForm (W:World) (u:TypeId) (v:Value) (h:u≠116):(Instr.typeAssert (.iface u v) 52 116 true).run Tryz.prog W=.ok (.tuple #[.agg #[.string ⟨#[]⟩,.int .i64 0,.int .i64 0,.int .i64 0,.slice none 0 0,.nilIface,.nilIface],.bool false]) W:=by
  have hz:(zeroValue 116).run Tryz.prog W=.ok (.agg #[.string ⟨#[]⟩,.int .i64 0,.int .i64 0,.int .i64 0,.slice none 0 0,.nilIface,.nilIface]) W:=by kernel_rfl
  simp [Instr.typeAssert,run_underlying Tryz.underlying116,h,hz]
theorem is_caseForm (W:World) (v:Value):(Instr.typeAssert (.iface 129 v) 52 129 true).run Tryz.prog W=.ok (.tuple #[v,.bool true]) W:=by kernel_rfl
theorem no_caseForm (W:World) (u:TypeId) (v:Value) (h:u≠129):(Instr.typeAssert (.iface u v) 52 129 true).run Tryz.prog W=.ok (.tuple #[.agg #[.string ⟨#[]⟩,.string ⟨#[]⟩,.nilIface,.nilIface,.nilIface],.bool false]) W:=by
  have hz:(zeroValue 129).run Tryz.prog W=.ok (.agg #[.string ⟨#[]⟩,.string ⟨#[]⟩,.nilIface,.nilIface,.nilIface]) W:=by kernel_rfl
  simp [Instr.typeAssert,run_underlying Tryz.underlying129,h,hz]
theorem is_tryForm (W:World) (v:Value):(Instr.typeAssert (.iface 135 v) 52 135 true).run Tryz.prog W=.ok (.tuple #[v,.bool true]) W:=by kernel_rfl
theorem no_tryForm (W:World) (u:TypeId) (v:Value) (h:u≠135):(Instr.typeAssert (.iface u v) 52 135 true).run Tryz.prog W=.ok (.tuple #[.agg #[.string ⟨#[]⟩,.nilIface,.nilIface],.bool false]) W:=by
  have hz:(zeroValue 135).run Tryz.prog W=.ok (.agg #[.string ⟨#[]⟩,.nilIface,.nilIface]) W:=by kernel_rfl
  simp [Instr.typeAssert,run_underlying Tryz.underlying135,h,hz]
end Go.Proofs.YtcepgedbmffkdaaGreat
