/-
  What the model's 'l1Copy' comes to, once more: what it answers can be appended to.
-/
import Derived.Test.YtleghjgpnefliaaFlaZ12
import Derived.Test.YtleghjgpnefliaaFlaZ6
import Derived.Test.YtleghjgpnefliaaFlaTg4
import Derived.Test.YtleghjgpnefliaaFlaZ2
namespace Go.Proofs.Ytleghjgpnefliaa
open Go.RowKit
set_option linter.unusedVariables false
set_option linter.unusedSimpArgs false
theorem ap_base {base base':Nat} {wr:World} {d:Nat} {v:Value} {k:Nat} {ts:List Tr} (hb:base'≤base) (h:ApRel base wr d v k ts):ApRel base' wr d v k ts:=by
  obtain ⟨xs,hown,bss,hbl,hnd,hrng,hE⟩:=h.own
  refine ⟨xs,⟨hown.1,?_⟩,bss,hbl,hnd,fun b hb'=>⟨Nat.le_trans hb (hrng b hb').1,(hrng b hb').2⟩,hE⟩
  rcases hown.2 with hn | ⟨g,cap,cur,e,hg,r⟩
  · exact Or.inl hn
  · exact Or.inr ⟨g,cap,cur,e,by omega,r⟩
def SaidLc2 (d:Nat):Prop:=∀ (L B:Nat) (k n:Int) (ao:Option Addr) (len cap:Nat) (ts:List Tr) (w:World),B≤w.heap.size→Hs L B w d ao len ts→cntS ts≤1048576 →
    Calls Try.prog 63 #[.agg #[.int .i64 k,.int .i64 n,.slice ao len cap]] w fun e w'=>∃ v,e=.returned (.agg #[.int .i64 k,.int .i64 n,v])∧Below w.heap.size w w'∧ApRel w.heap.size w' (d - 1) v ts.length ts
set_option maxRecDepth 100000 in
set_option maxHeartbeats 2000000 in
theorem lc2_succ (d:Nat):SaidLc2 (d+1):=by
  have IH:=lc_any d
  intro L B k n ao len capA ts w hB hs hcnt
  have hl:len≤1048576:=by have:=hs.1;have:=cntS_eq ts;omega
  have HL:Hid (len=ts.length):=hs.1
  obtain ⟨X,hX⟩:∃ X,X=(((w.alloc (.cells #[.int .i64 k,.int .i64 n,.slice ao len capA] 26)).alloc (.cells #[.int .i64 0,.int .i64 0,.slice none 0 0] 26)).alloc (.cells #[.int .i64 k,.int .i64 n,.slice none 0 0] 26)):=⟨_,rfl⟩
  have hXs:X.heap.size=w.heap.size+3:=by rw [hX];simp
  have hXb:Below w.heap.size w X:=by rw [hX];exact (((Below.refl _ _).alloc (Nat.le_refl _) _).alloc (by simp) _).alloc (by simp;omega) _
  have hX0:X.heap[w.heap.size]?=some (.cells #[.int .i64 k,.int .i64 n,.slice ao len capA] 26 (0,0)):=by rw [hX,Below.heap_alloc _ _ _ (by simp only [World.size_alloc];omega),Below.heap_alloc _ _ _ (by simp only [World.size_alloc];omega)];exact heap_new rfl
  have hX2:X.heap[w.heap.size+1+1]?=some (.cells #[.int .i64 k,.int .i64 n,.slice none 0 0] 26 (0,0)):=by rw [hX];exact heap_new (by simp)
  have hX1:X.heap[w.heap.size+1]?=some (.cells #[.int .i64 0,.int .i64 0,.slice none 0 0] 26 (0,0)):=by rw [hX,Below.heap_alloc _ _ _ (by simp only [World.size_alloc];omega)];exact heap_new (by simp)
  have HX:Hid (X=_):=hX
  have hStart:LcRel w X d 0 #[.int .i64 k,.int .i64 n,.slice ao len capA] #[] (.slice none 0 0) k n w.heap.size (w.heap.size+1+1) ts:=⟨hXb,hX0,hX2,ap_nil _ _ _ _⟩
  have HX1:Hid (_=_):=hX1
  clear hX hX0 hX1 hX2
  go_enter Try.func63,Try.ntmps63
  go_wp2_with fail
  rw [← HX.out]
  go_loopw [4] (fun i wr=>∃ (j:Nat) (v:Value),j≤len∧i=.int .i64 j∧Below (w.heap.size+1+1) X wr∧LcRel w wr d j #[.int .i64 k,.int .i64 n,.slice ao len capA] #[] v k n w.heap.size (w.heap.size+1+1) ts) (fun i _=>len - (intOf i).toNat)
  case atStart=>exact ⟨0,_,by omega,rfl,Below.refl _ _,hStart⟩
  case round =>
    obtain ⟨j,v,hj,rfl,hbX,hR⟩:=hrel
    have hbel:=hR.bel
    have hszr:w.heap.size+3≤wr.heap.size:=by have:=hbX.size;omega
    obtain ⟨x0,x1,x2⟩:=box_cells hR.hbox
    obtain ⟨y0,y1,y2⟩:=box_cells hR.hout
    clear x0 x1
    by_cases hlt:j < len
    · have hlt':j < ts.length:=by have:=HL.out;omega
      obtain ⟨b,o,rfl,_,hbB,ao1,len1,cap1,c0,c1,c2,hs1⟩:=hs.2.2 j hlt'
      have e0:=(bcell hbel (by omega) _).trans c0
      have e1:=(bcell hbel (by omega) _).trans c1
      have e2:=(bcell hbel (by omega) _).trans c2
      have hs2:=(hs1.below hbel hB).drew
      have hc1:=cntS_get ts j hlt'
      have hapd:ApRel (w.heap.size+1+1+1) wr.drew d v j ts:=ap_below hR.ap (Below.refl _ _).drew
      have APR:Hid (∀ (w1:World) (ao3:Option Addr) (len3 cap3:Nat),Below wr.drew.heap.size wr.drew w1→OwR wr.drew.heap.size w1.heap.size w1 d ao3 len3 ts[j].A→∃ g cap w2,(Builtin.append_ #[24,24] 24 #[v,.slice (some ⟨w1.heap.size,0,none⟩) 1 1]).run Try.prog (w1.alloc (.cells #[.int .i64 ts[j].K,.int .i64 ts[j].N,.slice ao3 len3 cap3] 26))=.ok (.slice (some ⟨g,0,none⟩) (j+1) cap) w2 ∧
          LcRel w (w2.setCell ⟨w.heap.size+1+1,2,none⟩ (.slice (some ⟨g,0,none⟩) (j+1) cap)) d (j+1) #[.int .i64 k,.int .i64 n,.slice (some ⟨b,o,none⟩) len capA] #[] (.slice (some ⟨g,0,none⟩) (j+1) cap) k n w.heap.size (w.heap.size+1+1) ts∧Below (w.heap.size+1+1) X (w2.setCell ⟨w.heap.size+1+1,2,none⟩ (.slice (some ⟨g,0,none⟩) (j+1) cap)) ∧
          w2.cell? ⟨w.heap.size+1+1,2,none⟩=some v∧w2.frozen? ⟨w.heap.size+1+1,2,none⟩=false):=by
        intro w1 ao3 len3 cap3 hb1 ho1
        obtain ⟨g,cp,w2,hrun,hap2,hbe2⟩:=ap_run hapd hlt' (by have:=HL.out;omega) hb1 (show w.heap.size+1+1+1≤wr.heap.size by omega) ho1
        have hbe3:Below (w.heap.size+1+1+1) wr w2:=(Below.refl _ _).drew.trans hbe2
        have q:=(hbe3.block (w.heap.size+1+1) (by omega)).trans hR.hout
        refine ⟨g,cp,w2,hrun,⟨(hbel.trans (hbe3.mono (by omega))).setCell (p:=⟨w.heap.size+1+1,2,none⟩) (show w.heap.size≤w.heap.size+1+1 by omega) _,?_,?_,ap_set hap2 (by omega) _⟩,(hbX.trans (hbe3.mono (by omega))).setCell (p:=⟨w.heap.size+1+1,2,none⟩) (Nat.le_refl _) _,(box_cells q).2.2,row_free q 2⟩
        · rw [row_other _ _ _ (by omega)]
          exact (hbe3.block w.heap.size (by omega)).trans hR.hbox
        · rw [row_set q]
          rfl
      clear c0 c1 c2
      go_wp2_with fail
      go_region_law (first | (refine step_run hrun (by rfl) _ _ (by rfl) (by rfl) (by rfl) (by rfl) ?_) | (go_simp;go_at_call 63;refine (IH L B _ _ _ _ _ (ts[j]'hlt').A _ ?_ hs2 ?_).mono ?_;(show B≤wr.heap.size;omega);omega;rintro e w1 ⟨ao3,len3,cap3,rfl,hb1,ho1⟩;have hz1:w.heap.size+1+1 < w1.heap.size:=Nat.lt_of_lt_of_le (show w.heap.size+1+1 < wr.heap.size by omega) hb1.size;have a2:=(bcell hb1 (show w.heap.size+1+1 < wr.heap.size by omega) 2).trans y2;have a3:(w1.alloc (.cells #[.int .i64 ts[j].K,.int .i64 ts[j].N,.slice ao3 len3 cap3] 26)).cell? ⟨w.heap.size+1+1,2,none⟩=some v:=(World.cell?_of_block (Below.heap_alloc _ _ _ hz1)).trans a2;obtain ⟨g,cp,w2,hrun,hN,hbX2,q2,q3⟩:=APR.out w1 ao3 len3 cap3 hb1 ho1))
      all_goals
        clear e0 e1 e2 y0 y1 y2 x2 a2 a3 hrun q2 q3
        go_wp2_with fail
        go_roundw
        case rel=>exact ⟨j+1,_,by omega,by go_num,hbX2,hN⟩
        case measure=>simp [intOf];omega
    · have hlj:j=ts.length:=by have:=HL.out;omega
      have HJ:Hid (j=ts.length):=hlj
      obtain ⟨ao2,cap2,rfl⟩:=ap_form hR.ap
      have hap:=hR.ap
      have r:=(hbX.block (w.heap.size+1) (by omega)).trans HX1.out
      obtain ⟨r0,r1,r2⟩:=box_cells r
      have r3:=row_free r
      clear r hlj
      go_wp2_with fail
      refine bodyPost_ret (v:=.agg #[.int .i64 k,.int .i64 n,.slice ao2 j cap2]) (by simp [results,Try.results63,go_sem,r0,r1,r2]) rfl ⟨_,rfl,?_,?_⟩
      · exact set3_below hbel (by omega)
      · rw [← HJ.out]
        exact ap_base (by omega) (ap_set (ap_set (ap_set hap (by omega) _) (by omega) _) (by omega) _)
set_option maxHeartbeats 400000 in
theorem lc2_zero:SaidLc2 0:=by
  intro L B k n ao len cap ts w hB hs hcnt
  obtain ⟨rfl,rfl⟩:=hs
  go_enter Try.func63,Try.ntmps63
  go_wp2_with fail
  refine wp_loop_rounds 1 ?_;rw [rounds_succ]
  go_wp2_with fail
  refine bodyPost_ret (v:=.agg #[.int .i64 k,.int .i64 n,.slice none 0 0]) (by simp [results,Try.results63,go_sem]) rfl ⟨_,rfl,?_,ap_nil _ _ _ _⟩
  exact (((Below.refl _ _).alloc (Nat.le_refl _) _).alloc (by simp) _).alloc (by simp;omega) _
theorem lc2_any (d:Nat):SaidLc2 d:=by
  cases d with
  | zero=>exact lc2_zero
  | succ d=>exact lc2_succ d
end Go.Proofs.Ytleghjgpnefliaa

/-
  Rows of types that can be appended to, as rows that share their memory; what lies beside them stays. No walk.
-/
namespace Go.Proofs.Ytleghjgpnefliaa
open Go.RowKit
set_option linter.unusedVariables false
set_option linter.unusedSimpArgs false
theorem Ow.hsq {P:Nat→Prop} {w:World}:∀ {d:Nat} {ao:Option Addr} {len:Nat} {ts:List Tr} {bs:List Nat},(∀ b ∈ bs,P b∧b < w.heap.size)→Ow w d ao len ts bs→HsQ P w d ao len ts:=by
  intro d
  induction d with
  | zero=>intro ao len ts bs _ h;exact ⟨h.1,h.2.1⟩
  | succ d ih =>
    intro ao len ts bs hb h
    rcases h with ⟨rfl,rfl,_⟩ | ⟨g,cs,bss,e,hl,hm,hg,hc,hbl,rfl,hE⟩
    · exact ⟨rfl,by omega,fun i hi=>by simp at hi⟩
    · refine ⟨hl,hm,fun i hi=>⟨g,0,e,(hb g (by simp)).1,(hb g (by simp)).2,?_⟩⟩
      rw [Nat.zero_add]
      exact (hE i hi (by omega)).wider fun _ _ _ hr=>ih (fun b hb'=>hb b (List.mem_cons_of_mem _ (mem_part (by omega) hb'))) hr
theorem yrow_of_ap {M:Nat} {W2 W:World} {D:Nat} {v:Value} {ts:List Tr} (h:ApRel M W2 D v ts.length ts) (hk:∀ k,M≤k→k < W2.heap.size→W.heap[k]?=W2.heap[k]?) (hz:W2.heap.size≤W.heap.size):YRow (fun k=>M≤k∧k < W2.heap.size) M W D v ts:=by
  have h1:=ap_moved h (w1:=W) ⟨hz,hk⟩
  obtain ⟨xs0,hown0,bss0,hbl0,hnd0,hrng0,hE0⟩:=h.own
  have ho:=fun g hg=>owns_block hown0 (g:=g) hg
  refine ⟨xs0,owns_keep hown0 (fun g hg=>hk g (ho g hg).1 (ho g hg).2),fun i hi=>?_⟩
  obtain ⟨ao,len,cap,e0,e1,e2,hO⟩:=hE0 i (by omega) hi
  have hin:∀ b ∈ bss0[i]'(by omega),(M≤b∧b < W2.heap.size)∧v.ownBlock≠some b:=fun b hb=>by
    have:=hrng0 b (mem_part (by omega) hb)
    exact ⟨⟨this.1,this.2.1⟩,this.2.2⟩
  exact ⟨ao,len,cap,e0,e1,e2,(Ow.hsq (P:=fun k=>(M≤k∧k < W2.heap.size)∧v.ownBlock≠some k) (fun b hb=>⟨hin b hb,(hin b hb).1.2⟩) hO).keep (fun k hk' _=>hk k hk'.1.1 hk'.1.2) (fun _ h _=>h) hz⟩
theorem yrow_mono {P P':Nat→Prop} {base:Nat} {w:World} {D:Nat} {v:Value} {us:List Tr} (h:YRow P base w D v us) (hP:∀ k,P k→P' k):YRow P' base w D v us:=by
  obtain ⟨xs,h1,h2⟩:=h
  refine ⟨xs,h1,fun i hi=>?_⟩
  obtain ⟨ao,len,cap,e0,e1,e2,hs⟩:=h2 i hi
  exact ⟨ao,len,cap,e0,e1,e2,hs.mono fun k hk _=>⟨hP k hk.1,hk.2⟩⟩
theorem yrow_hs {P:Nat→Prop} {base L:Nat} {w:World} {D:Nat} {ao:Option Addr} {len cap:Nat} {us:List Tr} (h:YRow P base w D (.slice ao len cap) us) (hP:∀ k,P k→L≤k) (hb:L≤base) (hl:us.length≤1000):Hs L w.heap.size w (D+1) ao len us:=by
  obtain ⟨ao',cap',e⟩:=yrow_form h
  injection e with e1 e2 e3
  subst e2
  refine ⟨rfl,by omega,fun i hi=>?_⟩
  obtain ⟨g,c,ev,hg,hgl,a,l,c',f0,f1,f2,hs⟩:=yrow_at h i hi
  injection ev with ev1 _ ev3
  subst ev1
  refine ⟨g,0,rfl,by omega,hgl,a,l,c',?_,?_,?_,HsQ.hs (fun k hk=>hP k hk.1) hs⟩
  · rw [Nat.zero_add];exact f0
  · rw [Nat.zero_add];exact f1
  · rw [Nat.zero_add];exact f2
theorem yrow_push2 {P:Nat→Prop} {base:Nat} {w:World} {D:Nat} {v:Value} {us:List Tr} (h:YRow P base w D v us) (hb:base≤w.heap.size) (hl:us.length≤1000) {t:Tr} {ao:Option Addr} {len cap:Nat} (hs:HsQ (fun k=>P k∧v.ownBlock≠some k) w D ao len t.A) :
    ∃ g c w2,(Builtin.append_ #[24,24] 24 #[v,.slice (some ⟨w.heap.size,0,none⟩) 1 1]).run Try.prog (w.alloc (.cells #[.int .i64 t.K,.int .i64 t.N,.slice ao len cap] 26))=.ok (.slice (some ⟨g,0,none⟩) (us.length+1) c) w2 ∧
      YRow P base w2 D (.slice (some ⟨g,0,none⟩) (us.length+1) c) (us ++ [t])∧Below base w w2∧(∀ k,k < w.heap.size→v.ownBlock≠some k→w2.heap[k]?=w.heap[k]?):=by
  obtain ⟨i0,hi,hz0,hz1,hz2⟩:=info_parts Try.infoTyQ
  have hA:Below w.heap.size w (w.alloc (.cells #[.int .i64 t.K,.int .i64 t.N,.slice ao len cap] 26)):=(Below.refl _ _).alloc (Nat.le_refl _) _
  have ho:=fun g hg=>yrow_own h (g:=g) hg
  obtain ⟨xs,h1,h2⟩:=h
  have hlx:xs.length=us.length * 3:=h1.1
  have h1A:=owns_keep (w':=w.alloc (.cells #[.int .i64 t.K,.int .i64 t.N,.slice ao len cap] 26)) h1 (fun g hg=>hA.block g (ho g hg).2)
  obtain ⟨g,c,w2,hrun,hown2,hgrow,hat,hlt⟩:=run_append_lies (P:=Try.prog) (w.alloc (.cells #[.int .i64 t.K,.int .i64 t.N,.slice ao len cap] 26)) 24 24 base 26 i0 _ 3 40 Try.underlying24 hi hz0 hz1 hz2 rfl (by omega) v us.length _ h1A
    ⟨w.heap.size,0,none⟩ 1 1 [.int .i64 t.K,.int .i64 t.N,.slice ao len cap] rfl (World.news_of_block (cs:=#[.int .i64 t.K,.int .i64 t.N,.slice ao len cap]) (t:=26) (fr:=(0,0)) (heap_alloc_new w _)) (by simp [Value.oneCell'])
    (by omega) (by unfold maxLen;omega) (by omega) (by simp;omega) _ rfl
  have hz:=hgrow.size
  have hblk:∀ k,k < w.heap.size→v.ownBlock≠some k→w2.heap[k]?=w.heap[k]?:=fun k hk hne=>(hgrow.block k (by simp;omega) (fun e=>hne e.symm)).trans (hA.block k hk)
  have hne:∀ k,k < w.heap.size→v.ownBlock≠some k→(Value.slice (some ⟨g,0,none⟩) (us.length+1) c).ownBlock≠some k:=fun k hk h e=>by
    have e:g=k:=by simpa [Value.ownBlock] using e
    subst e
    rcases hat with e | e
    · exact h e
    · simp at e;omega
  have hkeep:∀ {ao:Option Addr} {len:Nat} {ts:List Tr},HsQ (fun k=>P k∧v.ownBlock≠some k) w D ao len ts→HsQ (fun k=>P k∧(Value.slice (some ⟨g,0,none⟩) (us.length+1) c).ownBlock≠some k) w2 D ao len ts:=fun h=>h.keep (fun k hk hl=>hblk k hl hk.2) (fun k hk hl=>⟨hk.1,hne k hl hk.2⟩) (by simp at hz;omega)
  refine ⟨g,c,w2,hrun,⟨_,by rw [List.length_append];exact hown2,fun i hi=>?_⟩,⟨hgrow.os,hgrow.tape,hgrow.output,by simp at hz;omega,fun k hk=>hblk k (by omega) (fun e=>by have:=(ho k e).1;omega)⟩,hblk⟩
  by_cases hit:i < us.length
  · obtain ⟨a1,l1,c1,e0,e1,e2,hs1⟩:=h2 i hit
    have e:(us ++ [t])[i]=us[i]:=List.getElem_append_left hit
    rw [e]
    exact ⟨a1,l1,c1,by rw [List.getElem?_append_left (by omega)];exact e0,by rw [List.getElem?_append_left (by omega)];exact e1,by rw [List.getElem?_append_left (by omega)];exact e2,hkeep hs1⟩
  · have e1:i=us.length:=by rw [List.length_append] at hi;simp at hi;omega
    subst e1
    have e:(us ++ [t])[us.length]=t:=by simp
    rw [e]
    refine ⟨ao,len,cap,?_,?_,?_,hkeep hs⟩
    · rw [List.getElem?_append_right (by omega),hlx,Nat.sub_self];rfl
    · rw [List.getElem?_append_right (by omega),hlx,Nat.add_sub_cancel_left];rfl
    · rw [List.getElem?_append_right (by omega),hlx,Nat.add_sub_cancel_left];rfl
theorem apm_more {base:Nat} {w:World} {D d:Nat} {v:Value} {k:Nat} {us:List Tm} (h:ApRelM base w D d v k us) (hk:k=us.length) (t:Tm):ApRelM base w D d v k (us ++ [t]):=by
  obtain ⟨xs,hown,bss,hbl,hnd,hrng,hE⟩:=h
  refine ⟨xs,hown,bss,hbl,hnd,hrng,fun i hi hi'=>?_⟩
  have hiu:i < us.length:=by omega
  obtain ⟨a1,l1,c1,a2,l2,c2,a3,l3,c3,h1,h2⟩:=hE i hi hiu
  have e:(us ++ [t])[i]=us[i]:=List.getElem_append_left hiu
  rw [e]
  exact ⟨a1,l1,c1,a2,l2,c2,a3,l3,c3,h1,h2⟩
theorem fmO_num (L:Nat) (w:World) (D d:Nat) (n:Int):FmO L L w D d ⟨1,n,⟨#[]⟩,⟨#[]⟩,⟨0,0,[]⟩,[],[]⟩ none 0 none 0 none 0 :=
  FmO.mk (L:=L) (M1:=L) (M2:=L) (Nat.zero_le _) (Nat.zero_le _) (OwR.nil _ _ _ _ _) (OwR.nil _ _ _ _ _) (OwMR.nil _ _ _ _ _ _) (Nat.le_refl _) (Nat.le_refl _) (Nat.le_refl _)
theorem cntMS_snoc (us:List Tm) (t:Tm):cntMS (us ++ [t])=cntMS us+cntM t+1:=by
  simp [cntMS];omega
end Go.Proofs.Ytleghjgpnefliaa

/-
  What 'l1Bend' has in memory while it bends: no walk.
-/
namespace Go.Proofs.Ytleghjgpnefliaa
open Go.RowKit
set_option linter.unusedVariables false
set_option linter.unusedSimpArgs false
structure BdRel (w wr:World) (p:Nat) (cao:Option Addr) (clen ccap d:Nat) (K N:Int) (v:Value) (us:List Tr):Prop where
  drw:Drw w wr p cao clen ccap
  box:wr.heap[w.heap.size]?=some (.cells #[.int .i64 K,.int .i64 N,v] 26 (0,0))
  res:wr.heap[w.heap.size+1]?=some (.cells #[.int .i64 0,.int .i64 0,.slice none 0 0] 26 (0,0))
  ap:ApRel (w.heap.size+2) wr d v us.length us
theorem bd_size {w wr:World} {p:Nat} {cao:Option Addr} {clen ccap d:Nat} {K N:Int} {v:Value} {us:List Tr} (h:BdRel w wr p cao clen ccap d K N v us):w.heap.size+2≤wr.heap.size:=by
  have:=(Array.getElem?_eq_some_iff.1 h.res).1
  omega
theorem bd_drw {w wr w1:World} {p:Nat} {cao:Option Addr} {clen ccap d:Nat} {K N:Int} {v:Value} {us:List Tr} (h:BdRel w wr p cao clen ccap d K N v us) (hp:p < w.heap.size) (hD:Drw wr w1 p cao clen ccap):BdRel w w1 p cao clen ccap d K N v us:=by
  have hz:=bd_size h
  exact ⟨h.drw.trans hD,(hD.grown.block _ (by omega) (by simp;omega)).trans h.box,(hD.grown.block _ (by omega) (by simp;omega)).trans h.res,ap_moved h.ap (Sm.grown hD.grown (by omega))⟩
theorem bd_copied {w w1:World} {p:Nat} {cao:Option Addr} {clen ccap d:Nat} {k n:Int} {v0 v:Value} {us:List Tr} (hc:Cur w p cao clen ccap)
    (hb:Below (w.heap.size+1+1) ((w.alloc (.cells #[.int .i64 k,.int .i64 n,v0] 26)).alloc (.cells #[.int .i64 0,.int .i64 0,.slice none 0 0] 26)) w1) (ha:ApRel (w.heap.size+1+1) w1 d v us.length us) :
    BdRel w (set3 w1 w.heap.size 0 (.int .i64 k) (.int .i64 n) v) p cao clen ccap d k n v us:=by
  have hp:=hc.lt
  have hX:Below w.heap.size w ((w.alloc (.cells #[.int .i64 k,.int .i64 n,v0] 26)).alloc (.cells #[.int .i64 0,.int .i64 0,.slice none 0 0] 26)):=((Below.refl _ _).alloc (Nat.le_refl _) _).alloc (by simp) _
  have h0:w1.heap[w.heap.size]?=some (.cells #[.int .i64 k,.int .i64 n,v0] 26 (0,0)):=(hb.block _ (by omega)).trans ((Below.heap_alloc _ _ _ (by simp)).trans (heap_new rfl))
  have h1:w1.heap[w.heap.size+1]?=some (.cells #[.int .i64 0,.int .i64 0,.slice none 0 0] 26 (0,0)):=(hb.block _ (by omega)).trans (heap_new (by simp))
  have hbw:Below w.heap.size w w1:=hX.trans (hb.mono (by omega))
  have hbs:Below w.heap.size w (set3 w1 w.heap.size 0 (.int .i64 k) (.int .i64 n) v):=set3_below hbw (Nat.le_refl _)
  refine ⟨⟨grown_below _ hbs,hc.below hbs⟩,?_,(set3_other _ (by omega)).trans h1,?_⟩
  · rw [set3_row h0];rfl
  · have:=ap_set (o:=w.heap.size) (j:=0) ha (by omega) (.int .i64 k)
    have:=ap_set (o:=w.heap.size) (j:=0+1) this (by omega) (.int .i64 n)
    exact ap_set (o:=w.heap.size) (j:=0+2) this (by omega) v
theorem bd_setK {w wr:World} {p:Nat} {cao:Option Addr} {clen ccap d:Nat} {K N:Int} {v:Value} {us:List Tr} (h:BdRel w wr p cao clen ccap d K N v us) (hp:p < w.heap.size) (K':Int):BdRel w (wr.setCell ⟨w.heap.size,0,none⟩ (.int .i64 K')) p cao clen ccap d K' N v us:=by
  refine ⟨h.drw.set hp (Nat.le_refl _) _,?_,(row_other _ _ _ (by omega)).trans h.res,ap_set h.ap (by omega) _⟩
  rw [row_set h.box];rfl
theorem bd_setN {w wr:World} {p:Nat} {cao:Option Addr} {clen ccap d:Nat} {K N:Int} {v:Value} {us:List Tr} (h:BdRel w wr p cao clen ccap d K N v us) (hp:p < w.heap.size) (N':Int):BdRel w (wr.setCell ⟨w.heap.size,1,none⟩ (.int .i64 N')) p cao clen ccap d K N' v us:=by
  refine ⟨h.drw.set hp (Nat.le_refl _) _,?_,(row_other _ _ _ (by omega)).trans h.res,ap_set h.ap (by omega) _⟩
  rw [row_set h.box];rfl
theorem bd_append {w wr:World} {p:Nat} {cao:Option Addr} {clen ccap d:Nat} {K N:Int} {v:Value} {us:List Tr} (h:BdRel w wr p cao clen ccap d K N v us) (hp:p < w.heap.size) (hl:us.length≤1000000) :
    ∃ g cap w2,(Builtin.append_ #[24,24] 24 #[v,.slice (some ⟨wr.heap.size,0,none⟩) 1 1]).run Try.prog (wr.alloc (.cells #[.int .i64 1,.int .i64 0,.slice none 0 0] 26))=.ok (.slice (some ⟨g,0,none⟩) (us.length+1) cap) w2 ∧
      w2.cell? ⟨w.heap.size,2,none⟩=some v∧w2.frozen? ⟨w.heap.size,2,none⟩=false ∧
      BdRel w (w2.setCell ⟨w.heap.size,2,none⟩ (.slice (some ⟨g,0,none⟩) (us.length+1) cap)) p cao clen ccap d K N (.slice (some ⟨g,0,none⟩) (us.length+1) cap) (us ++ [⟨1,0,[]⟩]):=by
  have hz:=bd_size h
  have hap:=ap_more h.ap rfl ⟨1,0,[]⟩
  have e:(us ++ [(⟨1,0,[]⟩:Tr)])[us.length]'(by simp)=⟨1,0,[]⟩:=by simp
  have hrun:=ap_run2 (w1:=wr) (ao1:=none) (len1:=0) (cap1:=0) hap (by simp) (by simp;omega) ⟨Nat.le_refl _,fun _ _ _=>rfl⟩ hz (by rw [e];exact OwR.nil _ _ _ _ _)
  rw [e] at hrun
  obtain ⟨g,cap,w2,hrun,hap2,hlo⟩:=hrun
  have o2:=(hlo.block w.heap.size (by omega)).trans h.box
  refine ⟨g,cap,w2,hrun,(box_cells o2).2.2,row_free o2 2,⟨⟨⟨hlo.os.trans h.drw.grown.os,hlo.tape.trans h.drw.grown.tape,hlo.output.trans h.drw.grown.output,by simp;have:=hlo.size;omega,fun q hq hne=>?_⟩,?_⟩,?_,?_,?_⟩⟩
  · rw [row_other _ _ _ (by omega),hlo.block q (by omega)]
    exact h.drw.grown.block q hq hne
  · exact h.drw.cur.keep fun q hq=>by rw [row_other _ _ _ (by omega)];exact hlo.block q (by omega)
  · rw [row_set o2];rfl
  · rw [row_other _ _ _ (by omega),hlo.block _ (by omega)];exact h.res
  · have e2:(us ++ [(⟨1,0,[]⟩:Tr)]).length=us.length+1:=by simp
    rw [e2]
    exact ap_set hap2 (by omega) _
theorem bd_wrap {w wr:World} {p:Nat} {cao:Option Addr} {clen ccap d:Nat} {K N:Int} {ao:Option Addr} {len cap:Nat} {us:List Tr} (h:BdRel w wr p cao clen ccap d K N (.slice ao len cap) us) (hp:p < w.heap.size) (hl:us.length≤1000000) :
    BdRel w ((set3 wr w.heap.size 0 (.int .i64 6) (.int .i64 0) (.slice (some ⟨wr.heap.size,0,none⟩) 1 1)).alloc (.cells #[.int .i64 K,.int .i64 N,.slice ao len cap] 26)) p cao clen ccap (d+1) 6 0 (.slice (some ⟨wr.heap.size,0,none⟩) 1 1) [⟨K,N,us⟩]:=by
  have hz:=bd_size h
  obtain ⟨ao2,cap2,e,ho⟩:=ap_done h.ap rfl (by omega)
  cases e
  have hD1:Drw w (set3 wr w.heap.size 0 (.int .i64 6) (.int .i64 0) (.slice (some ⟨wr.heap.size,0,none⟩) 1 1)) p cao clen ccap:=((h.drw.set hp (Nat.le_refl _) _).set hp (Nat.le_refl _) _).set hp (Nat.le_refl _) _
  have b0:(set3 wr w.heap.size 0 (.int .i64 6) (.int .i64 0) (.slice (some ⟨wr.heap.size,0,none⟩) 1 1)).heap[w.heap.size]?=some (.cells #[.int .i64 6,.int .i64 0,.slice (some ⟨wr.heap.size,0,none⟩) 1 1] 26 (0,0)):=by rw [set3_row h.box];rfl
  have b1:(set3 wr w.heap.size 0 (.int .i64 6) (.int .i64 0) (.slice (some ⟨wr.heap.size,0,none⟩) 1 1)).heap[w.heap.size+1]?=_:=(set3_other _ (by omega)).trans h.res
  have oth:∀ x,x≠w.heap.size→(set3 wr w.heap.size 0 (.int .i64 6) (.int .i64 0) (.slice (some ⟨wr.heap.size,0,none⟩) 1 1)).heap[x]?=wr.heap[x]?:=fun x hx=>set3_other _ hx
  have hsz:(set3 wr w.heap.size 0 (.int .i64 6) (.int .i64 0) (.slice (some ⟨wr.heap.size,0,none⟩) 1 1)).heap.size=wr.heap.size:=set3_size _ _ _ _ _ _
  generalize set3 wr w.heap.size 0 (.int .i64 6) (.int .i64 0) (.slice (some ⟨wr.heap.size,0,none⟩) 1 1)=Y at *
  have hA:Below Y.heap.size Y (Y.alloc (.cells #[.int .i64 K,.int .i64 N,.slice ao us.length cap] 26)):=(Below.refl _ _).alloc (Nat.le_refl _) _
  refine ⟨⟨grown_trans' hD1.grown (grown_below _ hA),hD1.cur.below hA⟩,(hA.block _ (by omega)).trans b0,(hA.block _ (by omega)).trans b1,?_⟩
  obtain ⟨bs,hw,hnd,hrng⟩:=ho
  have hg:(Y.alloc (.cells #[.int .i64 K,.int .i64 N,.slice ao us.length cap] 26)).heap[wr.heap.size]?=some (.cells #[.int .i64 K,.int .i64 N,.slice ao us.length cap] 26 (0,0)):=by rw [← hsz];exact heap_new rfl
  refine ⟨[.int .i64 K,.int .i64 N,.slice ao us.length cap],⟨rfl,Or.inr ⟨wr.heap.size,1,_,rfl,hz,hg,by simp,by unfold maxLen;simp,by simp,by simp⟩⟩,[bs],rfl,by simpa using hnd,fun b hb=>?_,fun i hi hi'=>?_⟩
  · have:=hrng b (by simpa using hb)
    refine ⟨this.1,by simp;omega,?_⟩
    simp only [Value.ownBlock]
    intro e
    have e':wr.heap.size=b:=by simpa using e
    omega
  · have hi0:i=0:=by simp at hi;exact hi
    subst hi0
    refine ⟨ao,us.length,cap,rfl,rfl,rfl,?_⟩
    show Ow _ (d+1) ao us.length us bs
    exact hw.keep fun b hb=>by
      have:=hrng b hb
      rw [hA.block b (by omega)]
      exact oth b (by omega)
theorem bd_done {w wr:World} {p:Nat} {cao:Option Addr} {clen ccap d:Nat} {K N:Int} {ao:Option Addr} {len cap:Nat} {us:List Tr} (h:BdRel w wr p cao clen ccap d K N (.slice ao len cap) us) (hp:p < w.heap.size) (hl:us.length≤1000000) (a b c:Value) :
    Drw w (set3 wr (w.heap.size+1) 0 a b c) p cao clen ccap∧Hs w.heap.size (set3 wr (w.heap.size+1) 0 a b c).heap.size (set3 wr (w.heap.size+1) 0 a b c) (d+1) ao len us:=by
  have hz:=bd_size h
  obtain ⟨ao2,cap2,e,ho⟩:=ap_done h.ap rfl (by omega)
  cases e
  refine ⟨((h.drw.set hp (by omega) _).set hp (by omega) _).set hp (by omega) _,?_⟩
  rw [set3_size]
  exact ho.hs.keep (fun q hq _=>set3_other _ (by omega)) (by omega) (Nat.le_refl _)
theorem cntS_set (l:List Tr) (j:Nat) (hj:j < l.length) (t:Tr):cntS (l.set j t)+cnt l[j]=cntS l+cnt t:=by
  unfold cntS
  induction l generalizing j with
  | nil=>simp at hj
  | cons x l ih =>
    cases j with
    | zero=>simp;omega
    | succ j =>
      have:=ih j (by simpa using hj)
      simp only [List.set_cons_succ,List.map_cons,List.sum_cons,List.getElem_cons_succ]
      omega
theorem bd_part {w wr w3:World} {p:Nat} {cao:Option Addr} {clen ccap d D:Nat} {K N:Int} {g len cap:Nat} {us:List Tr} (h:BdRel w wr p cao clen ccap d K N (.slice (some ⟨g,0,none⟩) len cap) us) (hp:p < w.heap.size) (hl:us.length≤1000000) (j:Nat) (hj:j < us.length)
    (hD:Drw wr w3 p cao clen ccap) {K3 N3:Int} {ao3:Option Addr} {len3 cap3:Nat} {ts3:List Tr} (hs:Hs wr.heap.size w3.heap.size w3 D ao3 len3 ts3) (hdD:d≤D) :
    (∃ cs,w3.heap[g]?=some (.cells cs 26 (0,0))∧j * 3+2 < cs.size)∧w.heap.size+2≤g∧g < wr.heap.size∧len=us.length ∧
    BdRel w w3 p cao clen ccap d K N (.slice (some ⟨g,0,none⟩) len cap) us ∧
    ∀ a b c,Drw w (set3 (set3 w3 g (j * 3) (.int .i64 K3) (.int .i64 N3) (.slice ao3 len3 cap3)) (w.heap.size+1) 0 a b c) p cao clen ccap ∧
      Hs w.heap.size (set3 (set3 w3 g (j * 3) (.int .i64 K3) (.int .i64 N3) (.slice ao3 len3 cap3)) (w.heap.size+1) 0 a b c).heap.size (set3 (set3 w3 g (j * 3) (.int .i64 K3) (.int .i64 N3) (.slice ao3 len3 cap3)) (w.heap.size+1) 0 a b c) (D+1) (some ⟨g,0,none⟩) len (us.set j ⟨K3,N3,ts3⟩):=by
  have hz:=bd_size h
  have h3:=bd_drw h hp hD
  have hz3:=hD.grown.size
  obtain ⟨ao2,cap2,e,bs,ho,hnd,hrng⟩:=ap_done h3.ap rfl (by omega)
  cases e
  have hblk:=ap_block h.ap (g:=g) rfl
  rcases ho with ⟨h0,_⟩ | ⟨g',cs,bss,e,hlen,hm,hg,hcs,hbl,rfl,hE⟩
  · omega
  cases e
  refine ⟨⟨cs,hg,by omega⟩,hblk.1,hblk.2,rfl,h3,fun a b c=>?_⟩
  have hgin:∀ i (hi:i < bss.length),∀ x ∈ bss[i],x≠g∧w.heap.size+2≤x∧x < w3.heap.size:=by
    intro i hi x hx
    have hin:=mem_part hi hx
    refine ⟨fun e=>(List.nodup_cons.1 hnd).1 (e ▸ hin),hrng x (List.mem_cons_of_mem _ hin)⟩
  obtain ⟨Y,hY⟩:∃ Y,Y=set3 (set3 w3 g (j * 3) (.int .i64 K3) (.int .i64 N3) (.slice ao3 len3 cap3)) (w.heap.size+1) 0 a b c:=⟨_,rfl⟩
  have hYo:∀ x,x≠g→x≠w.heap.size+1→Y.heap[x]?=w3.heap[x]?:=fun x h1 h2=>by rw [hY,set3_other _ h2,set3_other _ h1]
  have hYs:Y.heap.size=w3.heap.size:=by rw [hY,set3_size,set3_size]
  have hYg:∀ o,Y.cell? ⟨g,o,none⟩=(set3 w3 g (j * 3) (.int .i64 K3) (.int .i64 N3) (.slice ao3 len3 cap3)).cell? ⟨g,o,none⟩:=fun o=>by rw [hY];exact World.cell?_of_block (set3_other _ (show g≠w.heap.size+1 by omega))
  have hD3:Drw w Y p cao clen ccap:=by
    rw [hY]
    exact (((((h3.drw.set hp (by omega) _).set hp (by omega) _).set hp (by omega) _).set hp (by omega) _).set hp (by omega) _).set hp (by omega) _
  rw [← hY]
  refine ⟨hD3,?_⟩
  rw [hYs]
  refine ⟨by simp,by omega,fun i hi=>⟨g,0,rfl,by omega,by omega,?_⟩⟩
  rw [Nat.zero_add]
  have hi':i < us.length:=by simpa using hi
  by_cases hij:i=j
  · subst hij
    obtain ⟨c0,c1,c2⟩:=set3_cells (o:=i * 3) (a:=.int .i64 K3) (b:=.int .i64 N3) (c:=.slice ao3 len3 cap3) hg (by omega)
    refine ⟨ao3,len3,cap3,?_,?_,?_,?_⟩
    · rw [hYg];simpa using c0
    · rw [hYg];simpa using c1
    · rw [hYg];exact c2
    · have:=hs.keep (w':=Y) (L':=w.heap.size) (B':=w3.heap.size) (fun x hx hx2=>hYo x (by omega) (by omega)) (by omega) (Nat.le_refl _)
      simpa using this
  · have hset:(us.set j (⟨K3,N3,ts3⟩:Tr))[i]'hi=us[i]:=by rw [List.getElem_set];exact if_neg (fun e=>hij e.symm)
    rw [hset]
    obtain ⟨ao1,len1,cap1,x0,x1,x2,hr⟩:=hE i hi' (by omega)
    have hfar:∀ o,o < 3→Y.cell? ⟨g,i * 3+o,none⟩=w3.cell? ⟨g,i * 3+o,none⟩:=fun o ho=>(hYg _).trans (set3_far hg _ (by omega))
    refine ⟨ao1,len1,cap1,?_,?_,?_,?_⟩
    · exact (hfar 0 (by omega)).trans x0
    · exact (hfar 1 (by omega)).trans x1
    · exact (hfar 2 (by omega)).trans x2
    · have hk:=hr.keep (w':=Y) fun x hx=>hYo x (hgin i (by omega) x hx).1 (by have:=(hgin i (by omega) x hx).2;omega)
      have hh:=hk.hs (L:=w.heap.size) (B:=w3.heap.size) fun x hx=>by have:=(hgin i (by omega) x hx).2;omega
      exact hh.deeper hdD
end Go.Proofs.Ytleghjgpnefliaa
