/-
  What the model's 'l2Bend' comes to: some term, in new memory; the cursor is moved on.
-/
import Derived.Test.YtleghjgpnefliaaFnoZ3
import Derived.Test.YtleghjgpnefliaaFnoZ5
import Derived.Test.YtleghjgpnefliaaFnoZ7
import Derived.Test.YtleghjgpnefliaaFnoZ8
import Derived.Test.YtleghjgpnefliaaFnoDs3
import Derived.Test.YtleghjgpnefliaaFnoZ11
import Derived.Test.YtleghjgpnefliaaFnoZ18
import Derived.Test.YtleghjgpnefliaaFnoZ19
namespace Go.Proofs.Ytleghjgpnefliaa
open Go.RowKit
set_option linter.unusedVariables false
set_option linter.unusedSimpArgs false
def SaidBm (l:Nat):Prop:=∀ (p:Nat) (cao:Option Addr) (clen ccap L B D d m:Nat) (t:Tm) (a1:Option Addr) (l1 c1:Nat) (a2:Option Addr) (l2 c2:Nat) (a3:Option Addr) (l3 c3:Nat) (w:World),Cur w p cao clen ccap->p<L->B≤w.heap.size->Fm L B w D d t a1 l1 a2 l2 a3 l3->Qan l t=some m->m≤1000->2≤D →
    Calls Try.prog 29 #[.pointer (some ⟨p,0,none⟩),.agg #[.int .i64 t.K,.int .i64 t.N,.string t.S,.string t.Z,.int .i64 t.T.K,.int .i64 t.T.N,.slice a1 l1 c1,.slice a2 l2 c2,.slice a3 l3 c3]] w fun e w'=>∃ rv tm,e=.returned rv∧TmV w' w.heap.size (D+l+11) (d+1) rv tm∧cntM tm≤cntM t+400∧Drw w w' p cao clen ccap
theorem Qch {w v:World} {p q:Nat} {cao:Option Addr} {clen ccap:Nat} (h:Drw w v p cao clen ccap) (hp:p<w.heap.size) (hq:w.heap.size≤q) (o:Nat) (x:Value):Drw w (v.setCell ⟨q,o,none⟩ x) p cao clen ccap :=
 ⟨⟨h.grown.os,h.grown.tape,h.grown.output,by simp;exact h.grown.size,fun k hk hne=>(Qah _ _ _ (by omega)).trans (h.grown.block k hk hne)⟩,h.cur.keep fun k hk=>Qah _ _ _ (by omega)⟩
set_option maxRecDepth 100000 in
set_option maxHeartbeats 16000000 in
theorem bm_step (l:Nat) (IH:SaidBm l):SaidBm (l+1):=by
 intro p cao clen ccap L B D d m t a1 l1 c1 a2 l2 c2 a3 l3 c3 w hc hpL hB hf hm hm1 hD2
 have hp:=hc.lt
 have hcn:=nodesM_cnt _ _ _ hm
 obtain⟨hnd,hparts⟩:=Qbd hm
 have hA3:=nodeM_len hnd
 have HL3:Hid (l3=t.A.length):=hf.m.len.1
 obtain⟨X,hX⟩:∃ X,X=(w.alloc (.cells #[.int .i64 t.K,.int .i64 t.N,.string t.S,.string t.Z,.int .i64 t.T.K,.int .i64 t.T.N,.slice a1 l1 c1,.slice a2 l2 c2,.slice a3 l3 c3] 29)).alloc (.cells #[.int .i64 0,.int .i64 0,.string ⟨#[]⟩,.string ⟨#[]⟩,.int .i64 0,.int .i64 0,.slice none 0 0,.slice none 0 0,.slice none 0 0] 29):=⟨_,rfl⟩
 have hXs:X.heap.size=w.heap.size+2:=by rw [hX];simp
 have hXb:Below w.heap.size w X:=by rw [hX];exact ((Below.refl _ _).alloc (Nat.le_refl _) _).alloc (by simp) _
 have hX0:X.heap[w.heap.size]?=some (.cells #[.int .i64 t.K,.int .i64 t.N,.string t.S,.string t.Z,.int .i64 t.T.K,.int .i64 t.T.N,.slice a1 l1 c1,.slice a2 l2 c2,.slice a3 l3 c3] 29 (0,0)):=by rw [hX,Below.heap_alloc _ _ _ (by simp)];exact Qac rfl
 have hX1:X.heap[w.heap.size+1]?=some (.cells #[.int .i64 0,.int .i64 0,.string ⟨#[]⟩,.string ⟨#[]⟩,.int .i64 0,.int .i64 0,.slice none 0 0,.slice none 0 0,.slice none 0 0] 29 (0,0)):=by rw [hX];exact Qac (by simp)
 have HX:Hid (X=_):=hX
 obtain⟨x0,x1,x2,x3,x4,x5,x6,x7,x8⟩:=Nine.box hX0
 have HCP:=lm3_any D d L B t a1 l1 c1 a2 l2 c2 a3 l3 c3 X (by omega) (Fm.below hXb hB hf) (by omega)
 have HXS:Hid (X.heap.size=w.heap.size+2):=hXs
 clear hX hXs
 go_enter Try.func29,Try.ntmps29
 go_wp2_with fail
 rw [← HX.out]
 refine HCP.mono ?_
 rintro e w2 ⟨b1,m1,e1,b2,e2,b3,e3,rfl,hb2,hO,hI3⟩
 have hz2:=hb2.size
 have hXS:=HXS.out
 have r0:=(hb2.block w.heap.size (by omega)).trans hX0
 have r1:=(hb2.block (w.heap.size+1) (by omega)).trans hX1
 clear HCP x0 x1 x2 x3 x4 x5 x6 x7 x8
 obtain⟨x0,x1,x2,x3,x4,x5,x6,x7,x8⟩:=Nine.box r0
 have xf:=Qad r0
 obtain⟨Y,hY⟩:∃ Y,Y=((((((((w2.setCell ⟨w.heap.size,0,none⟩ (.int .i64 t.K)).setCell ⟨w.heap.size,1,none⟩ (.int .i64 t.N)).setCell ⟨w.heap.size,2,none⟩ (.string t.S)).setCell ⟨w.heap.size,3,none⟩ (.string t.Z)).setCell ⟨w.heap.size,4,none⟩ (.int .i64 t.T.K)).setCell ⟨w.heap.size,5,none⟩ (.int .i64 t.T.N)).setCell ⟨w.heap.size,6,none⟩ (.slice b1 m1 e1)).setCell ⟨w.heap.size,7,none⟩ (.slice b2 l2 e2)).setCell ⟨w.heap.size,8,none⟩ (.slice b3 l3 e3):=⟨_,rfl⟩
 have hYq:Y.heap[w.heap.size]?=some (.cells #[.int .i64 t.K,.int .i64 t.N,.string t.S,.string t.Z,.int .i64 t.T.K,.int .i64 t.T.N,.slice b1 m1 e1,.slice b2 l2 e2,.slice b3 l3 e3] 29 (0,0)):=by rw [hY];exact Qds r0 _ _ _ _ _ _ _ _ _
 have hYo:∀ k,k≠w.heap.size->Y.heap[k]?=w2.heap[k]?:=fun k hk=>by rw [hY];exact Qbh _ _ _ _ _ _ _ _ _ _ _ k hk
 have hYs:Y.heap.size=w2.heap.size:=by rw [hY];exact Qbv _ _ _ _ _ _ _ _ _ _ _
 have hYb:Below w.heap.size w2 Y:=by rw [hY];exact Qcd _ _ _ _ _ _ _ _ _ _ _
 have hYr:Y.heap[w.heap.size+1]?=some (.cells #[.int .i64 0,.int .i64 0,.string ⟨#[]⟩,.string ⟨#[]⟩,.int .i64 0,.int .i64 0,.slice none 0 0,.slice none 0 0,.slice none 0 0] 29 (0,0)):=(hYo _ (by omega)).trans r1
 have hwY:Below w.heap.size w Y:=(hXb.trans (hb2.mono (by omega))).trans hYb
 have hcY:=hc.below hwY
 have DY:Drw w Y p cao clen ccap:=⟨Qae _ hwY,hcY⟩
 have HOY:Hid (FmO X.heap.size Y.heap.size Y (D+1) d t b1 m1 b2 l2 b3 l3):=hO.keep (fun k h1 _=>hYo k (by omega)) (Nat.le_refl _) (by omega)
 have HY:Hid (Y=_):=hY
 have HYS:Hid (Y.heap.size=w2.heap.size):=hYs
 have HQ:Hid (∀ W,Drw Y W p cao clen ccap->W.heap[w.heap.size]?=some (.cells #[.int .i64 t.K,.int .i64 t.N,.string t.S,.string t.Z,.int .i64 t.T.K,.int .i64 t.T.N,.slice b1 m1 e1,.slice b2 l2 e2,.slice b3 l3 e3] 29 (0,0))∧W.heap[w.heap.size+1]?=some (.cells #[.int .i64 0,.int .i64 0,.string ⟨#[]⟩,.string ⟨#[]⟩,.int .i64 0,.int .i64 0,.slice none 0 0,.slice none 0 0,.slice none 0 0] 29 (0,0))∧Drw w W p cao clen ccap∧Fm (w.heap.size+2) W.heap.size W (D+l+1+11) (d+1) t b1 m1 b2 l2 b3 l3):=fun W hW=>by
  have hz:=hW.grown.size
  have:=HOY.out.fm
  exact⟨(hW.grown.block _ (by omega) (by simp;omega)).trans hYq,(hW.grown.block _ (by omega) (by simp;omega)).trans hYr,⟨Qab DY.grown hW.grown,hW.cur⟩,Fm.keep (fun k h1 h2=>hW.grown.block k h2 (by simp;omega)) (by omega) hz (this.wider (fun _ _ _ k=>k.deeper (by omega)) (fun _ _ _ k=>k.deeper (by omega) (by omega)))⟩
 obtain⟨W2,M1,hM0,hM1,hM2,hOT,hAT,hAk,hAM⟩:=hI3
 have HL2:Hid (l2=t.Ts.length):=hf.t2.len.1
 have hTs2:t.Ts.length≤2:=by
  unfold Qaz at hnd
  simp only [Bool.and_eq_true] at hnd
  have h1:=hnd.2
  unfold Qdh at h1
  simp only [Bool.and_eq_true,decide_eq_true_eq] at h1
  have:=(shS_bd t.K).2
  have:=h1.1.2
  omega
 have hAT2:Qbu M1 W2 D (.slice b2 l2 e2) t.Ts.length t.Ts:=by
  have h:=hAT
  generalize (Value.slice b2 l2 e2)=vv at h ⊢
  rw [← HL2.out]
  exact h
 have HYR:Hid (∀ W,Drw Y W p cao clen ccap->YRow (fun k=>M1≤k) M1 W D (.slice b2 l2 e2) t.Ts):=fun W hW=>by
  have hz:=hW.grown.size
  exact yrow_mono (yrow_of_ap hAT2 (fun k h1 h2=>(hW.grown.block k (by omega) (by simp;omega)).trans ((hYo k (by omega)).trans (hAk k h1 h2))) (by omega)) (fun k hk=>hk.1)
 have HFT:Hid (∀ W,Drw Y W p cao clen ccap->Hs (w.heap.size+2) M1 W (D+l+1+11) b1 m1 t.T.A):=fun W hW=>(hOT.hs.deeper (by omega)).keep (fun k h1 h2=>(hW.grown.block k (by omega) (by simp;omega)).trans (hYo k (by omega))) (by omega) (Nat.le_refl _)
 have HFA:Hid (∀ W,Drw Y W p cao clen ccap->Hm W2.heap.size w2.heap.size W (D+l+1+11) (d+1) b3 l3 t.A):=fun W hW=>by
  obtain⟨a',c',ev,hoA⟩:=apm_whole hAM hf.m
  injection ev with ev1 _ ev3
  subst ev1
  obtain⟨bs,o1,_,o3⟩:=hoA
  exact (((o1.hm o3).deeper (by omega) (by omega)).keep (fun k h1 h2=>(hW.grown.block k (by omega) (by simp;omega)).trans (hYo k (by omega))) (Nat.le_refl _) (Nat.le_refl _))
 have HFS:Hid (∀ W,Drw Y W p cao clen ccap->Hs M1 W2.heap.size W (D+l+1+11) b2 l2 t.Ts):=fun W hW=>by
  obtain⟨a',c',ev,hoS⟩:=Qdm hAT2 rfl (by omega)
  injection ev with ev1 ev2 ev3
  subst ev1
  rw [← HL2.out] at hoS
  exact (hoS.hs.deeper (by omega)).keep (fun k h1 h2=>(hW.grown.block k (by omega) (by simp;omega)).trans ((hYo k (by omega)).trans (hAk k h1 h2))) (Nat.le_refl _) (Nat.le_refl _)
 have HAP:Hid (∀ W,Drw Y W p cao clen ccap->Qbr W2.heap.size W (D+1) (d - 1) (.slice b3 l3 e3) l3 t.A):=fun W hW=>by
  have hz:=hW.grown.size
  exact apm_keep hAM (fun b hb hb2=>(hW.grown.block b (by omega) (by simp;omega)).trans (hYo b (by omega))) (by omega)
 have HM:Hid (w.heap.size+2≤M1∧M1≤W2.heap.size∧W2.heap.size≤w2.heap.size∧w2.heap.size=Y.heap.size):=⟨by omega,hM1,hM2,hYs.symm⟩
 have HOB:Hid (∀ g,(Value.slice b2 l2 e2).ownBlock=some g->M1≤g∧g<W2.heap.size):=fun g hg=>by
  obtain⟨xs,hown,_⟩:=hAT.own
  exact Qea hown hg
 clear hM0 hM1 hM2 hOT hAT hAT2 hAk hAM
 clear hY hYs r0 r1 hYo hX0 hX1
 have hl3m:l3≤3:=by have:=HL3.out;omega
 clear hXS
 go_upto_region 2 with fail
 rw [← HY.out]
 clear x0 x1 x2 x3 x4 x5 x6 x7 x8 xf
 obtain⟨x0,x1,x2,x3,x4,x5,x6,x7,x8⟩:=Nine.box hYq
 have xf:=Qad hYq
 by_cases h0:0<l3
 · have h0i:(0:Int)<(l3:Int):=by omega
   go_wp2_with fail
   refine (Qcs p cao clen ccap 4 Y hcY (by omega) (by omega)).mono ?_
   rintro e v0 ⟨bb,rfl,hD0⟩
   clear x0 x1 x2 x3 x4 x5 x6 x7 x8 xf
   cases bb with
   | false =>
     obtain⟨hq,hr,hDw,hF⟩:=HQ.out v0 hD0
     obtain⟨x0,x1,x2,x3,x4,x5,x6,x7,x8⟩:=Nine.box hq
     have xf:=Qad hq
     obtain⟨y0,y1,y2,y3,y4,y5,y6,y7,y8⟩:=Nine.box hr
     have yf:=Qad hr
     go_wp2_with fail
     refine (Qat p cao clen ccap (l3:Int) _ (Drw.cur hD0) (by omega) (by omega)).mono ?_
     rintro e v1 ⟨z,rfl,hz0,hz9,hDz⟩
     have D1:Drw Y v1 p cao clen ccap:=Drw.trans hD0 hDz
     clear x0 x1 x2 x3 x4 x5 x6 x7 x8 xf y0 y1 y2 y3 y4 y5 y6 y7 y8 yf hq hr hDw hF
     obtain⟨k,rfl⟩:∃ k:Nat,z=(k:Int):=⟨z.toNat,by omega⟩
     have hkA:k<t.A.length:=by have:=HL3.out;omega
     have hd1:0<d:=by
      rcases Nat.eq_zero_or_pos d with e|e
      · have hfm:=hf.m
        rw [e] at hfm
        have:=hfm.1
        omega
      · exact e
     obtain⟨m',hm',hmm⟩:=(nodesM_get hm).2 k hkA
     obtain⟨g,cs,p1,n1,i1,p2,n2,i2,p3,n3,i3,eb,hgb,hgl,hgc,hcs,h9,hfp,hput⟩:=apm_part (HAP.out v1 D1) HL3.out (by omega) k hkA
     subst eb
     have D1d:Drw Y v1.drew p cao clen ccap:=⟨Qab D1.grown (Qae _ ((Below.refl _ _).drew)),D1.cur.keep (w':=v1.drew) (fun _ _=>rfl)⟩
     have hz1:Y.heap.size≤v1.heap.size:=D1.grown.size
     have hgp:p<g:=by have:=HM.out;omega
     have hgq:w.heap.size+2≤g:=by have:=HM.out;omega
     have HTB:=IH p cao clen ccap W2.heap.size v1.heap.size (D+1) (d - 1) m' t.A[k] p1 n1 i1 p2 n2 i2 p3 n3 i3 v1.drew D1d.cur (by have:=HM.out;omega) (Nat.le_refl _) (Fm.drew hfp) hm' (by omega) (by omega)
     have HPUT:Hid (∀ (W:World) (D2 d2 D' d' M:Nat) (x:Tm) (x1:Option Addr) (n1 i1:Nat) (x2:Option Addr) (n2 i2:Nat) (x3:Option Addr) (n3 i3:Nat),(∀ b,W2.heap.size≤b->b<v1.heap.size->W.heap[b]?=v1.heap[b]?)->v1.heap.size≤M->M≤W.heap.size->Fm M W.heap.size W D2 d2 x x1 n1 x2 n2 x3 n3->D+1≤D'->D2≤D'->d - 1≤d'->d2≤d' →
      Hm W2.heap.size W.heap.size (set9 W g (k*9) (.int .i64 x.K) (.int .i64 x.N) (.string x.S) (.string x.Z) (.int .i64 x.T.K) (.int .i64 x.T.N) (.slice x1 n1 i1) (.slice x2 n2 i2) (.slice x3 n3 i3)) D' (d'+1) (some ⟨g,0,none⟩) l3 (t.A.set k x)):=hput
     clear hput
     have h9c:=h9
     obtain⟨u0,u1,u2,u3,u4,u5,u6,u7,u8⟩:=h9
     have gf:=Qad hgc
     have hiI:(0:Int)≤(k:Int):=by omega
     have hil:(k:Int)<(l3:Int):=by omega
     obtain⟨hq,hr,hDw,hF⟩:=HQ.out v1 D1
     obtain⟨x0,x1,x2,x3,x4,x5,x6,x7,x8⟩:=Nine.box hq
     have xf:=Qad hq
     obtain⟨y0,y1,y2,y3,y4,y5,y6,y7,y8⟩:=Nine.box hr
     have yf:=Qad hr
     go_wp2_with fail
     go_region_law (first
      | (go_simp;go_at_call 29;refine HTB.mono ?_;rintro e v2 ⟨rv,tm,rfl,⟨q1,j1,r1,q2,j2,r2,q3,j3,r3,rfl,htm⟩,hct,hDt⟩;have D2:Drw Y v2 p cao clen ccap:=D1d.trans hDt;have x82:v2.cell? ⟨w.heap.size,8,none⟩=some (.slice (some ⟨g,0,none⟩) l3 e3):=Qaa (HQ.out v2 D2).1 8;have hg2:v2.heap[g]?=some (.cells cs 29 (0,0)):=(hDt.grown.block g hgl (by simp;omega)).trans hgc;have gf2:=Qad hg2;obtain⟨u20,u21,u22,u23,u24,u25,u26,u27,u28⟩:=h9c.world (hDt.grown.block g hgl (by simp;omega))))
     all_goals
      obtain⟨m0,m1',m2,m3⟩:=HM.out
      have hz3:=D2.grown.size
      have hz4:v1.heap.size≤v2.heap.size:=hDt.grown.size
      have hA:=HPUT.out v2 (D+1+l+11) (d - 1+1) (D+l+1+11) d v1.heap.size tm q1 j1 r1 q2 j2 r2 q3 j3 r3 (fun b hb1 hb2=>hDt.grown.block b hb2 (by simp;omega)) (Nat.le_refl _) hz4 htm (by omega) (by omega) (by omega) (by omega)
      obtain⟨Z,hZ⟩:∃ Z,Z=set9 v2 g (k*9) (.int .i64 tm.K) (.int .i64 tm.N) (.string tm.S) (.string tm.Z) (.int .i64 tm.T.K) (.int .i64 tm.T.N) (.slice q1 j1 r1) (.slice q2 j2 r2) (.slice q3 j3 r3):=⟨_,rfl⟩
      rw [← hZ] at hA
      have hZs:Z.heap.size=v2.heap.size:=by rw [hZ];exact Qcu _ _ _ _ _ _ _ _ _ _ _ _
      have hZo:∀ b,b≠g->Z.heap[b]?=v2.heap[b]?:=fun b hb=>by rw [hZ];exact Qby b hb
      have hZb:Below g v2 Z:=by rw [hZ];exact Qcf (Below.refl _ _) (Nat.le_refl _)
      obtain⟨hq2,hr2,hDw2,hF2⟩:=HQ.out v2 D2
      have hqZ:=(hZo w.heap.size (by omega)).trans hq2
      have hrZ:=(hZo (w.heap.size+1) (by omega)).trans hr2
      have hDZ:Drw w Z p cao clen ccap:=⟨⟨hZb.os.trans hDw2.grown.os,hZb.tape.trans hDw2.grown.tape,hZb.output.trans hDw2.grown.output,by have:=hDw2.grown.size;omega,fun b hb hne=>(hZo b (by omega)).trans (hDw2.grown.block b hb hne)⟩,hDw2.cur.keep fun b hb=>hZo b (by omega)⟩
      have hFZ:Fm (w.heap.size+2) Z.heap.size Z (D+l+1+11) (d+1) { t with A:=t.A.set k tm } b1 m1 b2 l2 (some ⟨g,0,none⟩) l3:=⟨hF2.s,hF2.z,(HFT.out v2 D2).keep (fun b _ hb=>hZo b (by omega)) (Nat.le_refl _) (by omega),(HFS.out v2 D2).keep (fun b _ hb=>hZo b (by omega)) (by omega) (by omega),Hm.keep (fun _ _ _=>rfl) (by omega) (by omega) hA⟩
      have hcZ:cntM { t with A:=t.A.set k tm }≤cntM t+400:=by
       have ca:=Qav t
       have cb:cntM { t with A:=t.A.set k tm }=ownM { t with A:=t.A.set k tm }+Qci (t.A.set k tm):=Qav _
       have cc:=cntMS_set t.A k hkA tm 400 hct
       simp only [ownM] at ca cb
       omega
      have HZ:Hid (Z=(((((((((v2.setCell ⟨g,k*9,none⟩ (.int .i64 tm.K)).setCell ⟨g,k*9+1,none⟩ (.int .i64 tm.N)).setCell ⟨g,k*9+2,none⟩ (.string tm.S)).setCell ⟨g,k*9+3,none⟩ (.string tm.Z)).setCell ⟨g,k*9+4,none⟩ (.int .i64 tm.T.K)).setCell ⟨g,k*9+5,none⟩ (.int .i64 tm.T.N)).setCell ⟨g,k*9+6,none⟩ (.slice q1 j1 r1)).setCell ⟨g,k*9+7,none⟩ (.slice q2 j2 r2)).setCell ⟨g,k*9+8,none⟩ (.slice q3 j3 r3))):=hZ
      clear hZ hA hZs hZo hZb m0 m1' m2 m3 x0 x1 x2 x3 x4 x5 x6 x7 x8 xf y0 y1 y2 y3 y4 y5 y6 y7 y8 yf u0 u1 u2 u3 u4 u5 u6 u7 u8 u20 u21 u22 u23 u24 u25 u26 u27 u28 x82 gf gf2
      obtain⟨x0,x1,x2,x3,x4,x5,x6,x7,x8⟩:=Nine.box hqZ
      have xf:=Qad hqZ
      obtain⟨y0,y1,y2,y3,y4,y5,y6,y7,y8⟩:=Nine.box hrZ
      have yf:=Qad hrZ
      go_upto_region 5 with fail
      rw [← HZ.out]
      go_wp2_with fail
      have fin:=Qar (w:=w) (w3:=Z) (r:=w.heap.size+1) (L:=w.heap.size+2) (D:=D+l+1+11) (d:=d+1) (t:={ t with A:=t.A.set k tm }) (c1:=e1) (c2:=e2) (c3:=e3) hFZ (by omega) (by omega) hp hDZ
      exact bodyPost_ret (v:=.agg #[.int .i64 t.K,.int .i64 t.N,.string t.S,.string t.Z,.int .i64 t.T.K,.int .i64 t.T.N,.slice b1 m1 e1,.slice b2 l2 e2,.slice (some ⟨g,0,none⟩) l3 e3]) (by simp [results,Try.results29,go_sem,y0,y1,y2,y3,y4,y5,y6,y7,y8]) rfl ⟨_,_,rfl,fin.1,hcZ,fin.2⟩
   | true =>
     obtain⟨hq,hr,hDw,hF⟩:=HQ.out v0 hD0
     obtain⟨x0,x1,x2,x3,x4,x5,x6,x7,x8⟩:=Nine.box hq
     have xf:=Qad hq
     obtain⟨y0,y1,y2,y3,y4,y5,y6,y7,y8⟩:=Nine.box hr
     have yf:=Qad hr
     go_wp2_with fail
     refine (Qat p cao clen ccap 9 _ (Drw.cur hD0) (by omega) (by omega)).mono ?_
     rintro e v1 ⟨z,rfl,hz0,hz9,hDz⟩
     have D1:Drw Y v1 p cao clen ccap:=Drw.trans hD0 hDz
     clear x0 x1 x2 x3 x4 x5 x6 x7 x8 xf y0 y1 y2 y3 y4 y5 y6 y7 y8 yf hq hr hDw hF
     obtain⟨hq,hr,hDw,hF⟩:=HQ.out v1 D1
     obtain⟨x0,x1,x2,x3,x4,x5,x6,x7,x8⟩:=Nine.box hq
     have xf:=Qad hq
     obtain⟨y0,y1,y2,y3,y4,y5,y6,y7,y8⟩:=Nine.box hr
     have yf:=Qad hr
     have hz:z=0∨z=1∨z=2∨z=3∨z=4∨z=5∨z=6∨z=7∨z=8:=by omega
     clear hz0 hz9
     rcases hz with rfl|rfl|rfl|rfl|rfl|rfl|rfl|rfl|rfl
     · go_wp2_with fail
       refine (Qat p cao clen ccap 19 _ D1.cur (by omega) (by omega)).mono ?_
       rintro e v2 ⟨kk,rfl,_,_,hD2⟩
       have D2:Drw Y v2 p cao clen ccap:=D1.trans hD2
       clear x0 x1 x2 x3 x4 x5 x6 x7 x8 xf y0 y1 y2 y3 y4 y5 y6 y7 y8 yf hq hr hDw hF
       obtain⟨hq,hr,hDw,hF⟩:=HQ.out v2 D2
       obtain⟨x0,x1,x2,x3,x4,x5,x6,x7,x8⟩:=Nine.box hq
       have xf:=Qad hq
       obtain⟨y0,y1,y2,y3,y4,y5,y6,y7,y8⟩:=Nine.box hr
       have yf:=Qad hr
       go_wp2_with fail
       have hF2:=(show Fm (w.heap.size+2) v2.heap.size v2 (D+l+1+11) (d+1) { t with K:=kk } b1 m1 b2 l2 b3 _ from ⟨hF.s,hF.z,hF.t1,hF.t2,hF.m⟩)
       have fin:=Qar (w:=w) (w3:=(v2.setCell ⟨w.heap.size,0,none⟩ (.int .i64 kk))) (r:=w.heap.size+1) (L:=w.heap.size+2) (D:=D+l+1+11) (d:=d+1) (t:={ t with K:=kk }) (c1:=e1) (c2:=e2) (c3:=e3) (Fm.keep (fun k h1 _=>by (repeat rw [Qah _ _ _ (show k≠w.heap.size by omega)])) (Nat.le_refl _) (by simp) hF2) (by omega) (by omega) hp (Qch hDw hp (Nat.le_refl _) _ _)
       exact bodyPost_ret (v:=.agg #[.int .i64 kk,.int .i64 t.N,.string t.S,.string t.Z,.int .i64 t.T.K,.int .i64 t.T.N,.slice b1 m1 e1,.slice b2 l2 e2,.slice b3 l3 e3]) (by simp [results,Try.results29,go_sem,y0,y1,y2,y3,y4,y5,y6,y7,y8]) rfl ⟨_,_,rfl,fin.1,(by have ca:=Qav t;have cb:cntM { t with K:=kk }=ownM { t with K:=kk }+Qci t.A:=Qav _;simp only [ownM] at ca cb;omega),fin.2⟩
     · have hba:Below v1.heap.size v1 (v1.alloc (.cells #[.int .i64 0,.int .i64 1,.int .i64 2,.int .i64 3,.int .i64 (-1),.int .i64 1000001] 3)):=(Below.refl _ _).alloc (Nat.le_refl _) _
       have hpv:p<v1.heap.size:=D1.cur.lt
       go_wp2_with fail
       refine (Qdk p cao clen ccap v1.heap.size 6 6 [0,1,2,3,-1,1000001] _ (D1.cur.below hba) (Qac rfl) (by omega) rfl (by omega) (by omega)).mono ?_
       rintro e v2 ⟨kk,rfl,_,hD2⟩
       have D2:Drw Y v2 p cao clen ccap:=D1.trans ⟨Qab (Qae _ hba) hD2.grown,hD2.cur⟩
       skip
       clear x0 x1 x2 x3 x4 x5 x6 x7 x8 xf y0 y1 y2 y3 y4 y5 y6 y7 y8 yf hq hr hDw hF
       obtain⟨hq,hr,hDw,hF⟩:=HQ.out v2 D2
       obtain⟨x0,x1,x2,x3,x4,x5,x6,x7,x8⟩:=Nine.box hq
       have xf:=Qad hq
       obtain⟨y0,y1,y2,y3,y4,y5,y6,y7,y8⟩:=Nine.box hr
       have yf:=Qad hr
       go_wp2_with fail
       have hF2:=(show Fm (w.heap.size+2) v2.heap.size v2 (D+l+1+11) (d+1) { t with N:=kk } b1 m1 b2 l2 b3 _ from ⟨hF.s,hF.z,hF.t1,hF.t2,hF.m⟩)
       have fin:=Qar (w:=w) (w3:=(v2.setCell ⟨w.heap.size,1,none⟩ (.int .i64 kk))) (r:=w.heap.size+1) (L:=w.heap.size+2) (D:=D+l+1+11) (d:=d+1) (t:={ t with N:=kk }) (c1:=e1) (c2:=e2) (c3:=e3) (Fm.keep (fun k h1 _=>by (repeat rw [Qah _ _ _ (show k≠w.heap.size by omega)])) (Nat.le_refl _) (by simp) hF2) (by omega) (by omega) hp (Qch hDw hp (Nat.le_refl _) _ _)
       exact bodyPost_ret (v:=.agg #[.int .i64 t.K,.int .i64 kk,.string t.S,.string t.Z,.int .i64 t.T.K,.int .i64 t.T.N,.slice b1 m1 e1,.slice b2 l2 e2,.slice b3 l3 e3]) (by simp [results,Try.results29,go_sem,y0,y1,y2,y3,y4,y5,y6,y7,y8]) rfl ⟨_,_,rfl,fin.1,(by have ca:=Qav t;have cb:cntM { t with N:=kk }=ownM { t with N:=kk }+Qci t.A:=Qav _;simp only [ownM] at ca cb;omega),fin.2⟩
     · have hba:Below v1.heap.size v1 (v1.alloc (.cells #[.string ⟨#[120]⟩,.string ⟨#[121]⟩,.string ⟨#[]⟩,.string ⟨#[102]⟩,.string ⟨#[120,46,49]⟩,.string ⟨#[116,111,111,108,111,110,103,110,97,109,101]⟩,.string ⟨#[49]⟩] 9)):=(Below.refl _ _).alloc (Nat.le_refl _) _
       have hpv:p<v1.heap.size:=D1.cur.lt
       go_wp2_with fail
       refine (l1Str_any p cao clen ccap v1.heap.size 7 7 [⟨#[120]⟩,⟨#[121]⟩,⟨#[]⟩,⟨#[102]⟩,⟨#[120,46,49]⟩,⟨#[116,111,111,108,111,110,103,110,97,109,101]⟩,⟨#[49]⟩] _ (D1.cur.below hba) (Qac rfl) (by omega) rfl (by omega) (by omega)).mono ?_
       rintro e v2 ⟨ss,rfl,hmem,hD2⟩
       have D2:Drw Y v2 p cao clen ccap:=D1.trans ⟨Qab (Qae _ hba) hD2.grown,hD2.cur⟩
       have hss:ss.size≤11:=by
        simp only [List.mem_cons,List.not_mem_nil,or_false] at hmem
        rcases hmem with rfl|rfl|rfl|rfl|rfl|rfl|rfl <;> decide
       have HSS:Hid (ss.size≤11):=hss
       clear hss hmem
       clear x0 x1 x2 x3 x4 x5 x6 x7 x8 xf y0 y1 y2 y3 y4 y5 y6 y7 y8 yf hq hr hDw hF
       obtain⟨hq,hr,hDw,hF⟩:=HQ.out v2 D2
       obtain⟨x0,x1,x2,x3,x4,x5,x6,x7,x8⟩:=Nine.box hq
       have xf:=Qad hq
       obtain⟨y0,y1,y2,y3,y4,y5,y6,y7,y8⟩:=Nine.box hr
       have yf:=Qad hr
       go_wp2_with fail
       have hF2:=(show Fm (w.heap.size+2) v2.heap.size v2 (D+l+1+11) (d+1) { t with S:=ss } b1 m1 b2 l2 b3 _ from ⟨Nat.le_trans HSS.out (by omega),hF.z,hF.t1,hF.t2,hF.m⟩)
       have fin:=Qar (w:=w) (w3:=(v2.setCell ⟨w.heap.size,2,none⟩ (.string ss))) (r:=w.heap.size+1) (L:=w.heap.size+2) (D:=D+l+1+11) (d:=d+1) (t:={ t with S:=ss }) (c1:=e1) (c2:=e2) (c3:=e3) (Fm.keep (fun k h1 _=>by (repeat rw [Qah _ _ _ (show k≠w.heap.size by omega)])) (Nat.le_refl _) (by simp) hF2) (by omega) (by omega) hp (Qch hDw hp (Nat.le_refl _) _ _)
       exact bodyPost_ret (v:=.agg #[.int .i64 t.K,.int .i64 t.N,.string ss,.string t.Z,.int .i64 t.T.K,.int .i64 t.T.N,.slice b1 m1 e1,.slice b2 l2 e2,.slice b3 l3 e3]) (by simp [results,Try.results29,go_sem,y0,y1,y2,y3,y4,y5,y6,y7,y8]) rfl ⟨_,_,rfl,fin.1,(by have:=HSS.out;have ca:=Qav t;have cb:cntM { t with S:=ss }=ownM { t with S:=ss }+Qci t.A:=Qav _;simp only [ownM] at ca cb;omega),fin.2⟩
     · go_wp2_with fail
       refine (l1Any_any p cao clen ccap v1 D1.cur).mono ?_
       rintro e v2 ⟨tK,tN,ta,tl,tc,ts,rfl,hD2,hsT,hcT⟩
       have D2:Drw Y v2 p cao clen ccap:=D1.trans hD2
       have hzw:=hDw.grown.size
       have hzY:=D1.grown.size
       have HCT:Hid (cntS ts≤261):=hcT
       have HWY:Hid (w.heap.size+2≤Y.heap.size):=by show _≤_;have:=(Array.getElem?_eq_some_iff.1 hYr).1;omega
       clear hcT
       clear x0 x1 x2 x3 x4 x5 x6 x7 x8 xf y0 y1 y2 y3 y4 y5 y6 y7 y8 yf hq hr hDw hF
       obtain⟨hq,hr,hDw,hF⟩:=HQ.out v2 D2
       obtain⟨x0,x1,x2,x3,x4,x5,x6,x7,x8⟩:=Nine.box hq
       have xf:=Qad hq
       obtain⟨y0,y1,y2,y3,y4,y5,y6,y7,y8⟩:=Nine.box hr
       have yf:=Qad hr
       go_wp2_with fail
       have hF2:=(show Fm (w.heap.size+2) v2.heap.size v2 (D+l+1+11) (d+1) { t with T:=⟨tK,tN,ts⟩ } ta tl b2 l2 b3 _ from ⟨hF.s,hF.z,(hsT.deeper (by omega)).keep (fun _ _ _=>rfl) (by have:=HWY.out;omega) (Nat.le_refl _),hF.t2,hF.m⟩)
       have fin:=Qar (w:=w) (w3:=(((v2.setCell ⟨w.heap.size,4,none⟩ (.int .i64 tK)).setCell ⟨w.heap.size,5,none⟩ (.int .i64 tN)).setCell ⟨w.heap.size,6,none⟩ (.slice ta tl tc))) (r:=w.heap.size+1) (L:=w.heap.size+2) (D:=D+l+1+11) (d:=d+1) (t:={ t with T:=⟨tK,tN,ts⟩ }) (c1:=tc) (c2:=e2) (c3:=e3) (Fm.keep (fun k h1 _=>by (repeat rw [Qah _ _ _ (show k≠w.heap.size by omega)])) (Nat.le_refl _) (by simp) hF2) (by omega) (by omega) hp (Qch (Qch (Qch hDw hp (Nat.le_refl _) _ _) hp (Nat.le_refl _) _ _) hp (Nat.le_refl _) _ _)
       exact bodyPost_ret (v:=.agg #[.int .i64 t.K,.int .i64 t.N,.string t.S,.string t.Z,.int .i64 tK,.int .i64 tN,.slice ta tl tc,.slice b2 l2 e2,.slice b3 l3 e3]) (by simp [results,Try.results29,go_sem,y0,y1,y2,y3,y4,y5,y6,y7,y8]) rfl ⟨_,_,rfl,fin.1,(by have:=HCT.out;have ca:=Qav t;have cb:cntM { t with T:=⟨tK,tN,ts⟩ }=ownM { t with T:=⟨tK,tN,ts⟩ }+Qci t.A:=Qav _;simp only [ownM] at ca cb;omega),fin.2⟩
     · have D1d:Drw Y v1.drew p cao clen ccap:=⟨Qab D1.grown (Qae _ ((Below.refl _ _).drew)),D1.cur.keep (w':=v1.drew) (fun _ _=>rfl)⟩
       have hz1:Y.heap.size≤v1.heap.size:=D1.grown.size
       have HTY:=tv_any 2 (by omega) (by omega) p cao clen ccap 2 v1.drew D1d.cur (by omega) (by omega)
       have PU:Hid (∀ (v2:World) (tK tN:Int) (ta:Option Addr) (tl tc:Nat) (ts:List Tr),Drw Y v2 p cao clen ccap->OwR v1.heap.size v2.heap.size v2 2 ta tl ts->∃ g c v3,(Builtin.append_ #[24,24] 24 #[.slice b2 l2 e2,.slice (some ⟨v2.heap.size,0,none⟩) 1 1]).run Try.prog (v2.alloc (.cells #[.int .i64 tK,.int .i64 tN,.slice ta tl tc] 26))=.ok (.slice (some ⟨g,0,none⟩) (l2+1) c) v3 ∧
        Below M1 v2 v3∧Hs (w.heap.size+2) v3.heap.size v3 (D+l+1+11) (some ⟨g,0,none⟩) (l2+1) (t.Ts++[⟨tK,tN,ts⟩])∧Hm (w.heap.size+2) v3.heap.size v3 (D+l+1+11) (d+1) b3 l3 t.A):=fun v2 tK tN ta tl tc ts hW hoT=>by
        have hz:=hW.grown.size
        obtain⟨m0,m1',m2,m3⟩:=HM.out
        have hY2:=HYR.out v2 hW
        have hown:=fun g hg=>Qdv hY2 (g:=g) hg
        obtain⟨xsY,hxY,_⟩:=id hY2
        have hob:∀ g,(Value.slice b2 l2 e2).ownBlock=some g->M1≤g∧g<W2.heap.size:=HOB.out
        obtain⟨g,c,v3,hrun,hY3,hB3,hK3⟩:=yrow_push2 hY2 (by omega) (by omega) (t:=⟨tK,tN,ts⟩) (ao:=ta) (len:=tl) (cap:=tc) (HsQ.of (L:=v1.heap.size) (B:=v2.heap.size) (fun k h1 _=>⟨by omega,fun e=>by have:=(hob k e).2;omega⟩) (Nat.le_refl _) (hoT.hs.deeper hD2))
        rw [← HL2.out] at hrun hY3
        refine⟨g,c,v3,hrun,hB3,(yrow_hs hY3 (fun k hk=>by omega) (by omega) (by simp;omega)).deeper (by omega),Hm.keep (fun k h1 h2=>hK3 k (by omega) (fun e=>by have:=(hob k e).2;omega)) (by omega) (by have:=hB3.size;omega) (HFA.out v2 hW)⟩
       have x7:=Qaa hq 7
       have hql:w.heap.size<v1.heap.size:=(Array.getElem?_eq_some_iff.1 hq).1
       go_wp2_with fail
       go_region_law (first
        | (refine Qbs hrun (by rfl) _ _ (by rfl) (by rfl) (by rfl) (by rfl) ?_)
        | (go_simp;go_at_call 50;refine HTY.mono ?_;rintro e v2 ⟨tK,tN,ta,tl,tc,ts,rfl,hDt,hoT,hcT,_⟩;have D2:Drw Y v2 p cao clen ccap:=D1d.trans hDt;obtain⟨g,c,v3,hrun,hB3,hT3,hA3⟩:=PU.out v2 tK tN ta tl tc ts D2 hoT;have hql2:=Nat.lt_of_lt_of_le hql hDt.grown.size;have x72:v2.cell? ⟨w.heap.size,7,none⟩=some (.slice b2 l2 e2):=Qaa (HQ.out v2 D2).1 7;have hq3:=(hB3.block w.heap.size (Nat.lt_of_lt_of_le (by omega) HM.out.1)).trans (HQ.out v2 D2).1;have x73:=Qaa hq3 7;have xf3:=Qad hq3))
       all_goals
        obtain⟨m0,m1',m2,m3⟩:=HM.out
        have hr3:=(hB3.block (w.heap.size+1) (by omega)).trans (HQ.out v2 D2).2.1
        have hDw2:=(HQ.out v2 D2).2.2.1
        have hF0:=(HQ.out v2 D2).2.2.2
        have hz3:=hB3.size
        have hz2':=D2.grown.size
        have hDw3:Drw w v3 p cao clen ccap:=⟨⟨hB3.os.trans hDw2.grown.os,hB3.tape.trans hDw2.grown.tape,hB3.output.trans hDw2.grown.output,Nat.le_trans hDw2.grown.size hz3,fun k hk hne=>(hB3.block k (by omega)).trans (hDw2.grown.block k hk hne)⟩,hDw2.cur.keep fun k hk=>hB3.block k (by omega)⟩
        have hT1:=(HFT.out v2 D2).keep (w':=v3) (fun k _ h2=>hB3.block k h2) (Nat.le_refl _) (show M1≤v3.heap.size by omega)
        have HCT:Hid (cntS ts+1≤4 ^ 2):=hcT
        clear x0 x1 x2 x3 x4 x5 x6 x7 x8 xf y0 y1 y2 y3 y4 y5 y6 y7 y8 yf x72 x73 xf3 hrun m0 m1' m2 m3 hcT
        obtain⟨x0,x1,x2,x3,x4,x5,x6,x7,x8⟩:=Nine.box hq3
        have xf:=Qad hq3
        obtain⟨y0,y1,y2,y3,y4,y5,y6,y7,y8⟩:=Nine.box hr3
        have yf:=Qad hr3
        go_wp2_with fail
        have hF2:=(show Fm (w.heap.size+2) v3.heap.size v3 (D+l+1+11) (d+1) { t with Ts:=t.Ts++[⟨tK,tN,ts⟩] } b1 m1 (some ⟨g,0,none⟩) (l2+1) b3 l3 from ⟨hF0.s,hF0.z,hT1,hT3,hA3⟩)
        have fin:=Qar (w:=w) (w3:=(v3.setCell ⟨w.heap.size,7,none⟩ (.slice (some ⟨g,0,none⟩) (l2+1) c))) (r:=w.heap.size+1) (L:=w.heap.size+2) (D:=D+l+1+11) (d:=d+1) (t:={ t with Ts:=t.Ts++[⟨tK,tN,ts⟩] }) (c1:=e1) (c2:=c) (c3:=e3) (Fm.keep (fun k h1 _=>by (repeat rw [Qah _ _ _ (show k≠w.heap.size by omega)])) (Nat.le_refl _) (by simp) hF2) (by omega) (by omega) hp (Qch hDw3 hp (Nat.le_refl _) _ _)
        exact bodyPost_ret (v:=.agg #[.int .i64 t.K,.int .i64 t.N,.string t.S,.string t.Z,.int .i64 t.T.K,.int .i64 t.T.N,.slice b1 m1 e1,.slice (some ⟨g,0,none⟩) (l2+1) c,.slice b3 l3 e3]) (by simp [results,Try.results29,go_sem,y0,y1,y2,y3,y4,y5,y6,y7,y8]) rfl ⟨_,_,rfl,fin.1,(by have:=HCT.out;have hsn:=cntS_snoc t.Ts ⟨tK,tN,ts⟩;rw [Qdd] at hsn;simp only [] at hsn;have ca:=Qav t;have cb:cntM { t with Ts:=t.Ts++[⟨tK,tN,ts⟩] }=ownM { t with Ts:=t.Ts++[⟨tK,tN,ts⟩] }+Qci t.A:=Qav _;simp only [ownM] at ca cb;omega),fin.2⟩
     · have hz1:Y.heap.size≤v1.heap.size:=D1.grown.size
       have hz9:=(Array.getElem?_eq_some_iff.1 hq).1
       have PU:Hid (∃ g c v3,(Builtin.append_ #[27,27] 27 #[.slice b3 l3 e3,.slice (some ⟨v1.heap.size,0,none⟩) 1 1]).run Try.prog (v1.alloc (.cells #[.int .i64 1,.int .i64 0,.string ⟨#[]⟩,.string ⟨#[]⟩,.int .i64 0,.int .i64 0,.slice none 0 0,.slice none 0 0,.slice none 0 0] 29))=.ok (.slice (some ⟨g,0,none⟩) (l3+1) c) v3 ∧
        Below W2.heap.size v1 v3∧Hm (w.heap.size+2) v3.heap.size v3 (D+l+1+11) (d+1) (some ⟨g,0,none⟩) (l3+1) (t.A++[⟨1,0,⟨#[]⟩,⟨#[]⟩,⟨0,0,[]⟩,[],[]⟩])):=by
        obtain⟨m0,m1',m2,m3⟩:=HM.out
        have hap:=apm_more (HAP.out v1 D1) HL3.out ⟨1,0,⟨#[]⟩,⟨#[]⟩,⟨0,0,[]⟩,[],[]⟩
        have e:(t.A++[(⟨1,0,⟨#[]⟩,⟨#[]⟩,⟨0,0,[]⟩,[],[]⟩:Tm)])[l3]'(by have:=HL3.out;simp;omega)=⟨1,0,⟨#[]⟩,⟨#[]⟩,⟨0,0,[]⟩,[],[]⟩:=by have:=HL3.out;subst this;simp
        have hrun:=apm_run (c1:=0) (c2:=0) (c3:=0) (a1:=none) (l1:=0) (a2:=none) (l2:=0) (a3:=none) (l3:=0) (w1:=v1) hap (by have:=HL3.out;simp;omega) (by omega) (Below.refl _ _) (by omega) (by rw [e];exact fmO_num _ _ _ _ _)
        rw [e] at hrun
        obtain⟨g,c,v3,hrun,hap3,hB3⟩:=hrun
        obtain⟨a',c',ev,hoM⟩:=apm_done hap3 (by have:=HL3.out;simp;omega) (by omega)
        injection ev with ev1 _ ev3
        subst ev1
        obtain⟨bs,o1,_,o3⟩:=hoM
        exact⟨g,c,v3,hrun,hB3,((o1.hm o3).deeper (by omega) (by omega)).keep (fun _ _ _=>rfl) (by omega) (Nat.le_refl _)⟩
       obtain⟨g,c,v3,hrun,hB3,hA3⟩:=PU.out
       obtain⟨m0,m1',m2,m3⟩:=HM.out
       have hq3:=(hB3.block w.heap.size (by omega)).trans hq
       have hr3:=(hB3.block (w.heap.size+1) (by omega)).trans hr
       have hz3:=hB3.size
       have hDw3:Drw w v3 p cao clen ccap:=⟨⟨hB3.os.trans hDw.grown.os,hB3.tape.trans hDw.grown.tape,hB3.output.trans hDw.grown.output,Nat.le_trans hDw.grown.size hz3,fun k hk hne=>(hB3.block k (by omega)).trans (hDw.grown.block k hk hne)⟩,hDw.cur.keep fun k hk=>hB3.block k (by omega)⟩
       have hT1:=(HFT.out v1 D1).keep (w':=v3) (fun k _ h2=>hB3.block k (by omega)) (Nat.le_refl _) (show M1≤v3.heap.size by omega)
       have hS1:=(HFS.out v1 D1).keep (w':=v3) (L':=w.heap.size+2) (B':=v3.heap.size) (fun k _ h2=>hB3.block k h2) (by omega) (by omega)
       have hF2:=(show Fm (w.heap.size+2) v3.heap.size v3 (D+l+1+11) (d+1) { t with A:=t.A++[⟨1,0,⟨#[]⟩,⟨#[]⟩,⟨0,0,[]⟩,[],[]⟩] } b1 m1 b2 l2 (some ⟨g,0,none⟩) (l3+1) from ⟨hF.s,hF.z,hT1,hS1,hA3⟩)
       have HLN:Hid (w.heap.size<v3.heap.size):=by show _<_;omega
       clear PU m0 m1' m2 m3 hz3 hT1 hS1
       obtain⟨x30,x31,x32,x33,x34,x35,x36,x37,x38⟩:=Nine.box hq3
       have x3f:=Qad hq3
       obtain⟨y30,y31,y32,y33,y34,y35,y36,y37,y38⟩:=Nine.box hr3
       have y3f:=Qad hr3
       go_wp2_with (at_builtin;refine Qdf hrun (by rfl) _ _ (by rfl) (by rfl) (by rfl) (by rfl) ?_)
       have fin:=Qar (w:=w) (w3:=(v3.setCell ⟨w.heap.size,8,none⟩ (.slice (some ⟨g,0,none⟩) (l3+1) c))) (r:=w.heap.size+1) (L:=w.heap.size+2) (D:=D+l+1+11) (d:=d+1) (t:={ t with A:=t.A++[⟨1,0,⟨#[]⟩,⟨#[]⟩,⟨0,0,[]⟩,[],[]⟩] }) (c1:=e1) (c2:=e2) (c3:=c) (Fm.keep (fun k h1 _=>by (repeat rw [Qah _ _ _ (show k≠w.heap.size by omega)])) (Nat.le_refl _) (by simp) hF2) (by omega) (by omega) hp (Qch hDw3 hp (Nat.le_refl _) _ _)
       exact bodyPost_ret (v:=.agg #[.int .i64 t.K,.int .i64 t.N,.string t.S,.string t.Z,.int .i64 t.T.K,.int .i64 t.T.N,.slice b1 m1 e1,.slice b2 l2 e2,.slice (some ⟨g,0,none⟩) (l3+1) c]) (by simp [results,Try.results29,go_sem,y30,y31,y32,y33,y34,y35,y36,y37,y38]) rfl ⟨_,_,rfl,fin.1,(by have ca:=Qav t;have cb:cntM { t with A:=t.A++[⟨1,0,⟨#[]⟩,⟨#[]⟩,⟨0,0,[]⟩,[],[]⟩] }=ownM { t with A:=t.A++[⟨1,0,⟨#[]⟩,⟨#[]⟩,⟨0,0,[]⟩,[],[]⟩] }+Qci (t.A++[⟨1,0,⟨#[]⟩,⟨#[]⟩,⟨0,0,[]⟩,[],[]⟩]):=Qav _;rw [cntMS_snoc] at cb;have hz:(⟨#[]⟩:ByteArray).size=0:=rfl;have cz:cntM ⟨1,0,⟨#[]⟩,⟨#[]⟩,⟨0,0,[]⟩,[],[]⟩=0:=(by rw [Qav];simp [ownM,Qci,cntS,hz]);rw [cz] at cb;simp only [ownM] at ca cb;omega),fin.2⟩
     · have hba:Below v1.heap.size v1 (v1.alloc (.cells #[.string ⟨#[120]⟩,.string ⟨#[121]⟩,.string ⟨#[102]⟩,.string ⟨#[122,122]⟩] 9)):=(Below.refl _ _).alloc (Nat.le_refl _) _
       have hpv:p<v1.heap.size:=D1.cur.lt
       go_wp2_with fail
       refine (l1Str_any p cao clen ccap v1.heap.size 4 4 [⟨#[120]⟩,⟨#[121]⟩,⟨#[102]⟩,⟨#[122,122]⟩] _ (D1.cur.below hba) (Qac rfl) (by omega) rfl (by omega) (by omega)).mono ?_
       rintro e v2 ⟨ss,rfl,hmem,hD2⟩
       have D2:Drw Y v2 p cao clen ccap:=D1.trans ⟨Qab (Qae _ hba) hD2.grown,hD2.cur⟩
       have hss:ss.size≤11:=by
        simp only [List.mem_cons,List.not_mem_nil,or_false] at hmem
        rcases hmem with rfl|rfl|rfl|rfl <;> decide
       have HSS:Hid (ss.size≤11):=hss
       clear hss hmem
       clear x0 x1 x2 x3 x4 x5 x6 x7 x8 xf y0 y1 y2 y3 y4 y5 y6 y7 y8 yf hq hr hDw hF
       obtain⟨hq,hr,hDw,hF⟩:=HQ.out v2 D2
       obtain⟨x0,x1,x2,x3,x4,x5,x6,x7,x8⟩:=Nine.box hq
       have xf:=Qad hq
       obtain⟨y0,y1,y2,y3,y4,y5,y6,y7,y8⟩:=Nine.box hr
       have yf:=Qad hr
       go_wp2_with fail
       have hF2:=(show Fm (w.heap.size+2) v2.heap.size v2 (D+l+1+11) (d+1) ⟨3,0,ss,⟨#[]⟩,⟨0,0,[]⟩,[],[]⟩ none 0 none 0 none 0 from ⟨Nat.le_trans HSS.out (by omega),Nat.zero_le _,Hs.nil _ _ _ _ _,Hs.nil _ _ _ _ _,Hm.nil _ _ _ _ _ _⟩)
       have fin:=Qar (w:=w) (w3:=v2) (r:=w.heap.size+1) (L:=w.heap.size+2) (D:=D+l+1+11) (d:=d+1) (t:=⟨3,0,ss,⟨#[]⟩,⟨0,0,[]⟩,[],[]⟩) (c1:=0) (c2:=0) (c3:=0) hF2 (by omega) (by omega) hp hDw
       exact bodyPost_ret (v:=.agg #[.int .i64 3,.int .i64 0,.string ss,.string ⟨#[]⟩,.int .i64 0,.int .i64 0,.slice none 0 0,.slice none 0 0,.slice none 0 0]) (by simp [results,Try.results29,go_sem,y0,y1,y2,y3,y4,y5,y6,y7,y8]) rfl ⟨_,_,rfl,fin.1,(by have:=HSS.out;have hz:(⟨#[]⟩:ByteArray).size=0:=rfl;rw [Qav];simp [ownM,Qci,cntS,hz];omega),fin.2⟩
     · go_wp2_with fail
       have hF2:=(show Fm (w.heap.size+2) v1.heap.size v1 (D+l+1+11) (d+1) ⟨1,7,⟨#[]⟩,⟨#[]⟩,⟨0,0,[]⟩,[],[]⟩ none 0 none 0 none 0 from ⟨Nat.zero_le _,Nat.zero_le _,Hs.nil _ _ _ _ _,Hs.nil _ _ _ _ _,Hm.nil _ _ _ _ _ _⟩)
       have fin:=Qar (w:=w) (w3:=v1) (r:=w.heap.size+1) (L:=w.heap.size+2) (D:=D+l+1+11) (d:=d+1) (t:=⟨1,7,⟨#[]⟩,⟨#[]⟩,⟨0,0,[]⟩,[],[]⟩) (c1:=0) (c2:=0) (c3:=0) hF2 (by omega) (by omega) hp hDw
       exact bodyPost_ret (v:=.agg #[.int .i64 1,.int .i64 7,.string ⟨#[]⟩,.string ⟨#[]⟩,.int .i64 0,.int .i64 0,.slice none 0 0,.slice none 0 0,.slice none 0 0]) (by simp [results,Try.results29,go_sem,y0,y1,y2,y3,y4,y5,y6,y7,y8]) rfl ⟨_,_,rfl,fin.1,(by have hz:(⟨#[]⟩:ByteArray).size=0:=rfl;rw [Qav];simp [ownM,Qci,cntS,hz]),fin.2⟩
     · go_wp2_with fail
       have fin:=Qar (w:=w) (w3:=v1) (r:=w.heap.size+1) (L:=w.heap.size+2) (D:=D+l+1+11) (d:=d+1) (t:=t) (c1:=e1) (c2:=e2) (c3:=e3) hF (by omega) (by omega) hp hDw
       exact bodyPost_ret (v:=.agg #[.int .i64 t.K,.int .i64 t.N,.string t.S,.string t.Z,.int .i64 t.T.K,.int .i64 t.T.N,.slice b1 m1 e1,.slice b2 l2 e2,.slice b3 l3 e3]) (by simp [results,Try.results29,go_sem,y0,y1,y2,y3,y4,y5,y6,y7,y8]) rfl ⟨_,_,rfl,fin.1,(Nat.le_add_right _ _),fin.2⟩
 · have h0i:¬ (0:Int)<(l3:Int):=by omega
   have D0:Drw Y Y p cao clen ccap:=⟨Qaq _ _,hcY⟩
   clear x0 x1 x2 x3 x4 x5 x6 x7 x8 xf
   obtain⟨hq,hr,hDw,hF⟩:=HQ.out Y D0
   obtain⟨x0,x1,x2,x3,x4,x5,x6,x7,x8⟩:=Nine.box hq
   have xf:=Qad hq
   obtain⟨y0,y1,y2,y3,y4,y5,y6,y7,y8⟩:=Nine.box hr
   have yf:=Qad hr
   go_wp2_with fail
   refine (Qat p cao clen ccap 9 _ (Drw.cur D0) (by omega) (by omega)).mono ?_
   rintro e v1 ⟨z,rfl,hz0,hz9,hDz⟩
   have D1:Drw Y v1 p cao clen ccap:=Drw.trans D0 hDz
   clear x0 x1 x2 x3 x4 x5 x6 x7 x8 xf y0 y1 y2 y3 y4 y5 y6 y7 y8 yf hq hr hDw hF
   obtain⟨hq,hr,hDw,hF⟩:=HQ.out v1 D1
   obtain⟨x0,x1,x2,x3,x4,x5,x6,x7,x8⟩:=Nine.box hq
   have xf:=Qad hq
   obtain⟨y0,y1,y2,y3,y4,y5,y6,y7,y8⟩:=Nine.box hr
   have yf:=Qad hr
   have hz:z=0∨z=1∨z=2∨z=3∨z=4∨z=5∨z=6∨z=7∨z=8:=by omega
   clear hz0 hz9
   rcases hz with rfl|rfl|rfl|rfl|rfl|rfl|rfl|rfl|rfl
   · go_wp2_with fail
     refine (Qat p cao clen ccap 19 _ D1.cur (by omega) (by omega)).mono ?_
     rintro e v2 ⟨kk,rfl,_,_,hD2⟩
     have D2:Drw Y v2 p cao clen ccap:=D1.trans hD2
     clear x0 x1 x2 x3 x4 x5 x6 x7 x8 xf y0 y1 y2 y3 y4 y5 y6 y7 y8 yf hq hr hDw hF
     obtain⟨hq,hr,hDw,hF⟩:=HQ.out v2 D2
     obtain⟨x0,x1,x2,x3,x4,x5,x6,x7,x8⟩:=Nine.box hq
     have xf:=Qad hq
     obtain⟨y0,y1,y2,y3,y4,y5,y6,y7,y8⟩:=Nine.box hr
     have yf:=Qad hr
     go_wp2_with fail
     have hF2:=(show Fm (w.heap.size+2) v2.heap.size v2 (D+l+1+11) (d+1) { t with K:=kk } b1 m1 b2 l2 b3 _ from ⟨hF.s,hF.z,hF.t1,hF.t2,hF.m⟩)
     have fin:=Qar (w:=w) (w3:=(v2.setCell ⟨w.heap.size,0,none⟩ (.int .i64 kk))) (r:=w.heap.size+1) (L:=w.heap.size+2) (D:=D+l+1+11) (d:=d+1) (t:={ t with K:=kk }) (c1:=e1) (c2:=e2) (c3:=e3) (Fm.keep (fun k h1 _=>by (repeat rw [Qah _ _ _ (show k≠w.heap.size by omega)])) (Nat.le_refl _) (by simp) hF2) (by omega) (by omega) hp (Qch hDw hp (Nat.le_refl _) _ _)
     exact bodyPost_ret (v:=.agg #[.int .i64 kk,.int .i64 t.N,.string t.S,.string t.Z,.int .i64 t.T.K,.int .i64 t.T.N,.slice b1 m1 e1,.slice b2 l2 e2,.slice b3 l3 e3]) (by simp [results,Try.results29,go_sem,y0,y1,y2,y3,y4,y5,y6,y7,y8]) rfl ⟨_,_,rfl,fin.1,(by have ca:=Qav t;have cb:cntM { t with K:=kk }=ownM { t with K:=kk }+Qci t.A:=Qav _;simp only [ownM] at ca cb;omega),fin.2⟩
   · have hba:Below v1.heap.size v1 (v1.alloc (.cells #[.int .i64 0,.int .i64 1,.int .i64 2,.int .i64 3,.int .i64 (-1),.int .i64 1000001] 3)):=(Below.refl _ _).alloc (Nat.le_refl _) _
     have hpv:p<v1.heap.size:=D1.cur.lt
     go_wp2_with fail
     refine (Qdk p cao clen ccap v1.heap.size 6 6 [0,1,2,3,-1,1000001] _ (D1.cur.below hba) (Qac rfl) (by omega) rfl (by omega) (by omega)).mono ?_
     rintro e v2 ⟨kk,rfl,_,hD2⟩
     have D2:Drw Y v2 p cao clen ccap:=D1.trans ⟨Qab (Qae _ hba) hD2.grown,hD2.cur⟩
     skip
     clear x0 x1 x2 x3 x4 x5 x6 x7 x8 xf y0 y1 y2 y3 y4 y5 y6 y7 y8 yf hq hr hDw hF
     obtain⟨hq,hr,hDw,hF⟩:=HQ.out v2 D2
     obtain⟨x0,x1,x2,x3,x4,x5,x6,x7,x8⟩:=Nine.box hq
     have xf:=Qad hq
     obtain⟨y0,y1,y2,y3,y4,y5,y6,y7,y8⟩:=Nine.box hr
     have yf:=Qad hr
     go_wp2_with fail
     have hF2:=(show Fm (w.heap.size+2) v2.heap.size v2 (D+l+1+11) (d+1) { t with N:=kk } b1 m1 b2 l2 b3 _ from ⟨hF.s,hF.z,hF.t1,hF.t2,hF.m⟩)
     have fin:=Qar (w:=w) (w3:=(v2.setCell ⟨w.heap.size,1,none⟩ (.int .i64 kk))) (r:=w.heap.size+1) (L:=w.heap.size+2) (D:=D+l+1+11) (d:=d+1) (t:={ t with N:=kk }) (c1:=e1) (c2:=e2) (c3:=e3) (Fm.keep (fun k h1 _=>by (repeat rw [Qah _ _ _ (show k≠w.heap.size by omega)])) (Nat.le_refl _) (by simp) hF2) (by omega) (by omega) hp (Qch hDw hp (Nat.le_refl _) _ _)
     exact bodyPost_ret (v:=.agg #[.int .i64 t.K,.int .i64 kk,.string t.S,.string t.Z,.int .i64 t.T.K,.int .i64 t.T.N,.slice b1 m1 e1,.slice b2 l2 e2,.slice b3 l3 e3]) (by simp [results,Try.results29,go_sem,y0,y1,y2,y3,y4,y5,y6,y7,y8]) rfl ⟨_,_,rfl,fin.1,(by have ca:=Qav t;have cb:cntM { t with N:=kk }=ownM { t with N:=kk }+Qci t.A:=Qav _;simp only [ownM] at ca cb;omega),fin.2⟩
   · have hba:Below v1.heap.size v1 (v1.alloc (.cells #[.string ⟨#[120]⟩,.string ⟨#[121]⟩,.string ⟨#[]⟩,.string ⟨#[102]⟩,.string ⟨#[120,46,49]⟩,.string ⟨#[116,111,111,108,111,110,103,110,97,109,101]⟩,.string ⟨#[49]⟩] 9)):=(Below.refl _ _).alloc (Nat.le_refl _) _
     have hpv:p<v1.heap.size:=D1.cur.lt
     go_wp2_with fail
     refine (l1Str_any p cao clen ccap v1.heap.size 7 7 [⟨#[120]⟩,⟨#[121]⟩,⟨#[]⟩,⟨#[102]⟩,⟨#[120,46,49]⟩,⟨#[116,111,111,108,111,110,103,110,97,109,101]⟩,⟨#[49]⟩] _ (D1.cur.below hba) (Qac rfl) (by omega) rfl (by omega) (by omega)).mono ?_
     rintro e v2 ⟨ss,rfl,hmem,hD2⟩
     have D2:Drw Y v2 p cao clen ccap:=D1.trans ⟨Qab (Qae _ hba) hD2.grown,hD2.cur⟩
     have hss:ss.size≤11:=by
      simp only [List.mem_cons,List.not_mem_nil,or_false] at hmem
      rcases hmem with rfl|rfl|rfl|rfl|rfl|rfl|rfl <;> decide
     have HSS:Hid (ss.size≤11):=hss
     clear hss hmem
     clear x0 x1 x2 x3 x4 x5 x6 x7 x8 xf y0 y1 y2 y3 y4 y5 y6 y7 y8 yf hq hr hDw hF
     obtain⟨hq,hr,hDw,hF⟩:=HQ.out v2 D2
     obtain⟨x0,x1,x2,x3,x4,x5,x6,x7,x8⟩:=Nine.box hq
     have xf:=Qad hq
     obtain⟨y0,y1,y2,y3,y4,y5,y6,y7,y8⟩:=Nine.box hr
     have yf:=Qad hr
     go_wp2_with fail
     have hF2:=(show Fm (w.heap.size+2) v2.heap.size v2 (D+l+1+11) (d+1) { t with S:=ss } b1 m1 b2 l2 b3 _ from ⟨Nat.le_trans HSS.out (by omega),hF.z,hF.t1,hF.t2,hF.m⟩)
     have fin:=Qar (w:=w) (w3:=(v2.setCell ⟨w.heap.size,2,none⟩ (.string ss))) (r:=w.heap.size+1) (L:=w.heap.size+2) (D:=D+l+1+11) (d:=d+1) (t:={ t with S:=ss }) (c1:=e1) (c2:=e2) (c3:=e3) (Fm.keep (fun k h1 _=>by (repeat rw [Qah _ _ _ (show k≠w.heap.size by omega)])) (Nat.le_refl _) (by simp) hF2) (by omega) (by omega) hp (Qch hDw hp (Nat.le_refl _) _ _)
     exact bodyPost_ret (v:=.agg #[.int .i64 t.K,.int .i64 t.N,.string ss,.string t.Z,.int .i64 t.T.K,.int .i64 t.T.N,.slice b1 m1 e1,.slice b2 l2 e2,.slice b3 l3 e3]) (by simp [results,Try.results29,go_sem,y0,y1,y2,y3,y4,y5,y6,y7,y8]) rfl ⟨_,_,rfl,fin.1,(by have:=HSS.out;have ca:=Qav t;have cb:cntM { t with S:=ss }=ownM { t with S:=ss }+Qci t.A:=Qav _;simp only [ownM] at ca cb;omega),fin.2⟩
   · go_wp2_with fail
     refine (l1Any_any p cao clen ccap v1 D1.cur).mono ?_
     rintro e v2 ⟨tK,tN,ta,tl,tc,ts,rfl,hD2,hsT,hcT⟩
     have D2:Drw Y v2 p cao clen ccap:=D1.trans hD2
     have hzw:=hDw.grown.size
     have hzY:=D1.grown.size
     have HCT:Hid (cntS ts≤261):=hcT
     have HWY:Hid (w.heap.size+2≤Y.heap.size):=by show _≤_;have:=(Array.getElem?_eq_some_iff.1 hYr).1;omega
     clear hcT
     clear x0 x1 x2 x3 x4 x5 x6 x7 x8 xf y0 y1 y2 y3 y4 y5 y6 y7 y8 yf hq hr hDw hF
     obtain⟨hq,hr,hDw,hF⟩:=HQ.out v2 D2
     obtain⟨x0,x1,x2,x3,x4,x5,x6,x7,x8⟩:=Nine.box hq
     have xf:=Qad hq
     obtain⟨y0,y1,y2,y3,y4,y5,y6,y7,y8⟩:=Nine.box hr
     have yf:=Qad hr
     go_wp2_with fail
     have hF2:=(show Fm (w.heap.size+2) v2.heap.size v2 (D+l+1+11) (d+1) { t with T:=⟨tK,tN,ts⟩ } ta tl b2 l2 b3 _ from ⟨hF.s,hF.z,(hsT.deeper (by omega)).keep (fun _ _ _=>rfl) (by have:=HWY.out;omega) (Nat.le_refl _),hF.t2,hF.m⟩)
     have fin:=Qar (w:=w) (w3:=(((v2.setCell ⟨w.heap.size,4,none⟩ (.int .i64 tK)).setCell ⟨w.heap.size,5,none⟩ (.int .i64 tN)).setCell ⟨w.heap.size,6,none⟩ (.slice ta tl tc))) (r:=w.heap.size+1) (L:=w.heap.size+2) (D:=D+l+1+11) (d:=d+1) (t:={ t with T:=⟨tK,tN,ts⟩ }) (c1:=tc) (c2:=e2) (c3:=e3) (Fm.keep (fun k h1 _=>by (repeat rw [Qah _ _ _ (show k≠w.heap.size by omega)])) (Nat.le_refl _) (by simp) hF2) (by omega) (by omega) hp (Qch (Qch (Qch hDw hp (Nat.le_refl _) _ _) hp (Nat.le_refl _) _ _) hp (Nat.le_refl _) _ _)
     exact bodyPost_ret (v:=.agg #[.int .i64 t.K,.int .i64 t.N,.string t.S,.string t.Z,.int .i64 tK,.int .i64 tN,.slice ta tl tc,.slice b2 l2 e2,.slice b3 l3 e3]) (by simp [results,Try.results29,go_sem,y0,y1,y2,y3,y4,y5,y6,y7,y8]) rfl ⟨_,_,rfl,fin.1,(by have:=HCT.out;have ca:=Qav t;have cb:cntM { t with T:=⟨tK,tN,ts⟩ }=ownM { t with T:=⟨tK,tN,ts⟩ }+Qci t.A:=Qav _;simp only [ownM] at ca cb;omega),fin.2⟩
   · have D1d:Drw Y v1.drew p cao clen ccap:=⟨Qab D1.grown (Qae _ ((Below.refl _ _).drew)),D1.cur.keep (w':=v1.drew) (fun _ _=>rfl)⟩
     have hz1:Y.heap.size≤v1.heap.size:=D1.grown.size
     have HTY:=tv_any 2 (by omega) (by omega) p cao clen ccap 2 v1.drew D1d.cur (by omega) (by omega)
     have PU:Hid (∀ (v2:World) (tK tN:Int) (ta:Option Addr) (tl tc:Nat) (ts:List Tr),Drw Y v2 p cao clen ccap->OwR v1.heap.size v2.heap.size v2 2 ta tl ts->∃ g c v3,(Builtin.append_ #[24,24] 24 #[.slice b2 l2 e2,.slice (some ⟨v2.heap.size,0,none⟩) 1 1]).run Try.prog (v2.alloc (.cells #[.int .i64 tK,.int .i64 tN,.slice ta tl tc] 26))=.ok (.slice (some ⟨g,0,none⟩) (l2+1) c) v3 ∧
      Below M1 v2 v3∧Hs (w.heap.size+2) v3.heap.size v3 (D+l+1+11) (some ⟨g,0,none⟩) (l2+1) (t.Ts++[⟨tK,tN,ts⟩])∧Hm (w.heap.size+2) v3.heap.size v3 (D+l+1+11) (d+1) b3 l3 t.A):=fun v2 tK tN ta tl tc ts hW hoT=>by
      have hz:=hW.grown.size
      obtain⟨m0,m1',m2,m3⟩:=HM.out
      have hY2:=HYR.out v2 hW
      have hown:=fun g hg=>Qdv hY2 (g:=g) hg
      obtain⟨xsY,hxY,_⟩:=id hY2
      have hob:∀ g,(Value.slice b2 l2 e2).ownBlock=some g->M1≤g∧g<W2.heap.size:=HOB.out
      obtain⟨g,c,v3,hrun,hY3,hB3,hK3⟩:=yrow_push2 hY2 (by omega) (by omega) (t:=⟨tK,tN,ts⟩) (ao:=ta) (len:=tl) (cap:=tc) (HsQ.of (L:=v1.heap.size) (B:=v2.heap.size) (fun k h1 _=>⟨by omega,fun e=>by have:=(hob k e).2;omega⟩) (Nat.le_refl _) (hoT.hs.deeper hD2))
      rw [← HL2.out] at hrun hY3
      refine⟨g,c,v3,hrun,hB3,(yrow_hs hY3 (fun k hk=>by omega) (by omega) (by simp;omega)).deeper (by omega),Hm.keep (fun k h1 h2=>hK3 k (by omega) (fun e=>by have:=(hob k e).2;omega)) (by omega) (by have:=hB3.size;omega) (HFA.out v2 hW)⟩
     have x7:=Qaa hq 7
     have hql:w.heap.size<v1.heap.size:=(Array.getElem?_eq_some_iff.1 hq).1
     go_wp2_with fail
     go_region_law (first
      | (refine Qbs hrun (by rfl) _ _ (by rfl) (by rfl) (by rfl) (by rfl) ?_)
      | (go_simp;go_at_call 50;refine HTY.mono ?_;rintro e v2 ⟨tK,tN,ta,tl,tc,ts,rfl,hDt,hoT,hcT,_⟩;have D2:Drw Y v2 p cao clen ccap:=D1d.trans hDt;obtain⟨g,c,v3,hrun,hB3,hT3,hA3⟩:=PU.out v2 tK tN ta tl tc ts D2 hoT;have hql2:=Nat.lt_of_lt_of_le hql hDt.grown.size;have x72:v2.cell? ⟨w.heap.size,7,none⟩=some (.slice b2 l2 e2):=Qaa (HQ.out v2 D2).1 7;have hq3:=(hB3.block w.heap.size (Nat.lt_of_lt_of_le (by omega) HM.out.1)).trans (HQ.out v2 D2).1;have x73:=Qaa hq3 7;have xf3:=Qad hq3))
     all_goals
      obtain⟨m0,m1',m2,m3⟩:=HM.out
      have hr3:=(hB3.block (w.heap.size+1) (by omega)).trans (HQ.out v2 D2).2.1
      have hDw2:=(HQ.out v2 D2).2.2.1
      have hF0:=(HQ.out v2 D2).2.2.2
      have hz3:=hB3.size
      have hz2':=D2.grown.size
      have hDw3:Drw w v3 p cao clen ccap:=⟨⟨hB3.os.trans hDw2.grown.os,hB3.tape.trans hDw2.grown.tape,hB3.output.trans hDw2.grown.output,Nat.le_trans hDw2.grown.size hz3,fun k hk hne=>(hB3.block k (by omega)).trans (hDw2.grown.block k hk hne)⟩,hDw2.cur.keep fun k hk=>hB3.block k (by omega)⟩
      have hT1:=(HFT.out v2 D2).keep (w':=v3) (fun k _ h2=>hB3.block k h2) (Nat.le_refl _) (show M1≤v3.heap.size by omega)
      have HCT:Hid (cntS ts+1≤4 ^ 2):=hcT
      clear x0 x1 x2 x3 x4 x5 x6 x7 x8 xf y0 y1 y2 y3 y4 y5 y6 y7 y8 yf x72 x73 xf3 hrun m0 m1' m2 m3 hcT
      obtain⟨x0,x1,x2,x3,x4,x5,x6,x7,x8⟩:=Nine.box hq3
      have xf:=Qad hq3
      obtain⟨y0,y1,y2,y3,y4,y5,y6,y7,y8⟩:=Nine.box hr3
      have yf:=Qad hr3
      go_wp2_with fail
      have hF2:=(show Fm (w.heap.size+2) v3.heap.size v3 (D+l+1+11) (d+1) { t with Ts:=t.Ts++[⟨tK,tN,ts⟩] } b1 m1 (some ⟨g,0,none⟩) (l2+1) b3 l3 from ⟨hF0.s,hF0.z,hT1,hT3,hA3⟩)
      have fin:=Qar (w:=w) (w3:=(v3.setCell ⟨w.heap.size,7,none⟩ (.slice (some ⟨g,0,none⟩) (l2+1) c))) (r:=w.heap.size+1) (L:=w.heap.size+2) (D:=D+l+1+11) (d:=d+1) (t:={ t with Ts:=t.Ts++[⟨tK,tN,ts⟩] }) (c1:=e1) (c2:=c) (c3:=e3) (Fm.keep (fun k h1 _=>by (repeat rw [Qah _ _ _ (show k≠w.heap.size by omega)])) (Nat.le_refl _) (by simp) hF2) (by omega) (by omega) hp (Qch hDw3 hp (Nat.le_refl _) _ _)
      exact bodyPost_ret (v:=.agg #[.int .i64 t.K,.int .i64 t.N,.string t.S,.string t.Z,.int .i64 t.T.K,.int .i64 t.T.N,.slice b1 m1 e1,.slice (some ⟨g,0,none⟩) (l2+1) c,.slice b3 l3 e3]) (by simp [results,Try.results29,go_sem,y0,y1,y2,y3,y4,y5,y6,y7,y8]) rfl ⟨_,_,rfl,fin.1,(by have:=HCT.out;have hsn:=cntS_snoc t.Ts ⟨tK,tN,ts⟩;rw [Qdd] at hsn;simp only [] at hsn;have ca:=Qav t;have cb:cntM { t with Ts:=t.Ts++[⟨tK,tN,ts⟩] }=ownM { t with Ts:=t.Ts++[⟨tK,tN,ts⟩] }+Qci t.A:=Qav _;simp only [ownM] at ca cb;omega),fin.2⟩
   · have hz1:Y.heap.size≤v1.heap.size:=D1.grown.size
     have hz9:=(Array.getElem?_eq_some_iff.1 hq).1
     have PU:Hid (∃ g c v3,(Builtin.append_ #[27,27] 27 #[.slice b3 l3 e3,.slice (some ⟨v1.heap.size,0,none⟩) 1 1]).run Try.prog (v1.alloc (.cells #[.int .i64 1,.int .i64 0,.string ⟨#[]⟩,.string ⟨#[]⟩,.int .i64 0,.int .i64 0,.slice none 0 0,.slice none 0 0,.slice none 0 0] 29))=.ok (.slice (some ⟨g,0,none⟩) (l3+1) c) v3 ∧
      Below W2.heap.size v1 v3∧Hm (w.heap.size+2) v3.heap.size v3 (D+l+1+11) (d+1) (some ⟨g,0,none⟩) (l3+1) (t.A++[⟨1,0,⟨#[]⟩,⟨#[]⟩,⟨0,0,[]⟩,[],[]⟩])):=by
      obtain⟨m0,m1',m2,m3⟩:=HM.out
      have hap:=apm_more (HAP.out v1 D1) HL3.out ⟨1,0,⟨#[]⟩,⟨#[]⟩,⟨0,0,[]⟩,[],[]⟩
      have e:(t.A++[(⟨1,0,⟨#[]⟩,⟨#[]⟩,⟨0,0,[]⟩,[],[]⟩:Tm)])[l3]'(by have:=HL3.out;simp;omega)=⟨1,0,⟨#[]⟩,⟨#[]⟩,⟨0,0,[]⟩,[],[]⟩:=by have:=HL3.out;subst this;simp
      have hrun:=apm_run (c1:=0) (c2:=0) (c3:=0) (a1:=none) (l1:=0) (a2:=none) (l2:=0) (a3:=none) (l3:=0) (w1:=v1) hap (by have:=HL3.out;simp;omega) (by omega) (Below.refl _ _) (by omega) (by rw [e];exact fmO_num _ _ _ _ _)
      rw [e] at hrun
      obtain⟨g,c,v3,hrun,hap3,hB3⟩:=hrun
      obtain⟨a',c',ev,hoM⟩:=apm_done hap3 (by have:=HL3.out;simp;omega) (by omega)
      injection ev with ev1 _ ev3
      subst ev1
      obtain⟨bs,o1,_,o3⟩:=hoM
      exact⟨g,c,v3,hrun,hB3,((o1.hm o3).deeper (by omega) (by omega)).keep (fun _ _ _=>rfl) (by omega) (Nat.le_refl _)⟩
     obtain⟨g,c,v3,hrun,hB3,hA3⟩:=PU.out
     obtain⟨m0,m1',m2,m3⟩:=HM.out
     have hq3:=(hB3.block w.heap.size (by omega)).trans hq
     have hr3:=(hB3.block (w.heap.size+1) (by omega)).trans hr
     have hz3:=hB3.size
     have hDw3:Drw w v3 p cao clen ccap:=⟨⟨hB3.os.trans hDw.grown.os,hB3.tape.trans hDw.grown.tape,hB3.output.trans hDw.grown.output,Nat.le_trans hDw.grown.size hz3,fun k hk hne=>(hB3.block k (by omega)).trans (hDw.grown.block k hk hne)⟩,hDw.cur.keep fun k hk=>hB3.block k (by omega)⟩
     have hT1:=(HFT.out v1 D1).keep (w':=v3) (fun k _ h2=>hB3.block k (by omega)) (Nat.le_refl _) (show M1≤v3.heap.size by omega)
     have hS1:=(HFS.out v1 D1).keep (w':=v3) (L':=w.heap.size+2) (B':=v3.heap.size) (fun k _ h2=>hB3.block k h2) (by omega) (by omega)
     have hF2:=(show Fm (w.heap.size+2) v3.heap.size v3 (D+l+1+11) (d+1) { t with A:=t.A++[⟨1,0,⟨#[]⟩,⟨#[]⟩,⟨0,0,[]⟩,[],[]⟩] } b1 m1 b2 l2 (some ⟨g,0,none⟩) (l3+1) from ⟨hF.s,hF.z,hT1,hS1,hA3⟩)
     have HLN:Hid (w.heap.size<v3.heap.size):=by show _<_;omega
     clear PU m0 m1' m2 m3 hz3 hT1 hS1
     obtain⟨x30,x31,x32,x33,x34,x35,x36,x37,x38⟩:=Nine.box hq3
     have x3f:=Qad hq3
     obtain⟨y30,y31,y32,y33,y34,y35,y36,y37,y38⟩:=Nine.box hr3
     have y3f:=Qad hr3
     go_wp2_with (at_builtin;refine Qdf hrun (by rfl) _ _ (by rfl) (by rfl) (by rfl) (by rfl) ?_)
     have fin:=Qar (w:=w) (w3:=(v3.setCell ⟨w.heap.size,8,none⟩ (.slice (some ⟨g,0,none⟩) (l3+1) c))) (r:=w.heap.size+1) (L:=w.heap.size+2) (D:=D+l+1+11) (d:=d+1) (t:={ t with A:=t.A++[⟨1,0,⟨#[]⟩,⟨#[]⟩,⟨0,0,[]⟩,[],[]⟩] }) (c1:=e1) (c2:=e2) (c3:=c) (Fm.keep (fun k h1 _=>by (repeat rw [Qah _ _ _ (show k≠w.heap.size by omega)])) (Nat.le_refl _) (by simp) hF2) (by omega) (by omega) hp (Qch hDw3 hp (Nat.le_refl _) _ _)
     exact bodyPost_ret (v:=.agg #[.int .i64 t.K,.int .i64 t.N,.string t.S,.string t.Z,.int .i64 t.T.K,.int .i64 t.T.N,.slice b1 m1 e1,.slice b2 l2 e2,.slice (some ⟨g,0,none⟩) (l3+1) c]) (by simp [results,Try.results29,go_sem,y30,y31,y32,y33,y34,y35,y36,y37,y38]) rfl ⟨_,_,rfl,fin.1,(by have ca:=Qav t;have cb:cntM { t with A:=t.A++[⟨1,0,⟨#[]⟩,⟨#[]⟩,⟨0,0,[]⟩,[],[]⟩] }=ownM { t with A:=t.A++[⟨1,0,⟨#[]⟩,⟨#[]⟩,⟨0,0,[]⟩,[],[]⟩] }+Qci (t.A++[⟨1,0,⟨#[]⟩,⟨#[]⟩,⟨0,0,[]⟩,[],[]⟩]):=Qav _;rw [cntMS_snoc] at cb;have hz:(⟨#[]⟩:ByteArray).size=0:=rfl;have cz:cntM ⟨1,0,⟨#[]⟩,⟨#[]⟩,⟨0,0,[]⟩,[],[]⟩=0:=(by rw [Qav];simp [ownM,Qci,cntS,hz]);rw [cz] at cb;simp only [ownM] at ca cb;omega),fin.2⟩
   · have hba:Below v1.heap.size v1 (v1.alloc (.cells #[.string ⟨#[120]⟩,.string ⟨#[121]⟩,.string ⟨#[102]⟩,.string ⟨#[122,122]⟩] 9)):=(Below.refl _ _).alloc (Nat.le_refl _) _
     have hpv:p<v1.heap.size:=D1.cur.lt
     go_wp2_with fail
     refine (l1Str_any p cao clen ccap v1.heap.size 4 4 [⟨#[120]⟩,⟨#[121]⟩,⟨#[102]⟩,⟨#[122,122]⟩] _ (D1.cur.below hba) (Qac rfl) (by omega) rfl (by omega) (by omega)).mono ?_
     rintro e v2 ⟨ss,rfl,hmem,hD2⟩
     have D2:Drw Y v2 p cao clen ccap:=D1.trans ⟨Qab (Qae _ hba) hD2.grown,hD2.cur⟩
     have hss:ss.size≤11:=by
      simp only [List.mem_cons,List.not_mem_nil,or_false] at hmem
      rcases hmem with rfl|rfl|rfl|rfl <;> decide
     have HSS:Hid (ss.size≤11):=hss
     clear hss hmem
     clear x0 x1 x2 x3 x4 x5 x6 x7 x8 xf y0 y1 y2 y3 y4 y5 y6 y7 y8 yf hq hr hDw hF
     obtain⟨hq,hr,hDw,hF⟩:=HQ.out v2 D2
     obtain⟨x0,x1,x2,x3,x4,x5,x6,x7,x8⟩:=Nine.box hq
     have xf:=Qad hq
     obtain⟨y0,y1,y2,y3,y4,y5,y6,y7,y8⟩:=Nine.box hr
     have yf:=Qad hr
     go_wp2_with fail
     have hF2:=(show Fm (w.heap.size+2) v2.heap.size v2 (D+l+1+11) (d+1) ⟨3,0,ss,⟨#[]⟩,⟨0,0,[]⟩,[],[]⟩ none 0 none 0 none 0 from ⟨Nat.le_trans HSS.out (by omega),Nat.zero_le _,Hs.nil _ _ _ _ _,Hs.nil _ _ _ _ _,Hm.nil _ _ _ _ _ _⟩)
     have fin:=Qar (w:=w) (w3:=v2) (r:=w.heap.size+1) (L:=w.heap.size+2) (D:=D+l+1+11) (d:=d+1) (t:=⟨3,0,ss,⟨#[]⟩,⟨0,0,[]⟩,[],[]⟩) (c1:=0) (c2:=0) (c3:=0) hF2 (by omega) (by omega) hp hDw
     exact bodyPost_ret (v:=.agg #[.int .i64 3,.int .i64 0,.string ss,.string ⟨#[]⟩,.int .i64 0,.int .i64 0,.slice none 0 0,.slice none 0 0,.slice none 0 0]) (by simp [results,Try.results29,go_sem,y0,y1,y2,y3,y4,y5,y6,y7,y8]) rfl ⟨_,_,rfl,fin.1,(by have:=HSS.out;have hz:(⟨#[]⟩:ByteArray).size=0:=rfl;rw [Qav];simp [ownM,Qci,cntS,hz];omega),fin.2⟩
   · go_wp2_with fail
     have hF2:=(show Fm (w.heap.size+2) v1.heap.size v1 (D+l+1+11) (d+1) ⟨1,7,⟨#[]⟩,⟨#[]⟩,⟨0,0,[]⟩,[],[]⟩ none 0 none 0 none 0 from ⟨Nat.zero_le _,Nat.zero_le _,Hs.nil _ _ _ _ _,Hs.nil _ _ _ _ _,Hm.nil _ _ _ _ _ _⟩)
     have fin:=Qar (w:=w) (w3:=v1) (r:=w.heap.size+1) (L:=w.heap.size+2) (D:=D+l+1+11) (d:=d+1) (t:=⟨1,7,⟨#[]⟩,⟨#[]⟩,⟨0,0,[]⟩,[],[]⟩) (c1:=0) (c2:=0) (c3:=0) hF2 (by omega) (by omega) hp hDw
     exact bodyPost_ret (v:=.agg #[.int .i64 1,.int .i64 7,.string ⟨#[]⟩,.string ⟨#[]⟩,.int .i64 0,.int .i64 0,.slice none 0 0,.slice none 0 0,.slice none 0 0]) (by simp [results,Try.results29,go_sem,y0,y1,y2,y3,y4,y5,y6,y7,y8]) rfl ⟨_,_,rfl,fin.1,(by have hz:(⟨#[]⟩:ByteArray).size=0:=rfl;rw [Qav];simp [ownM,Qci,cntS,hz]),fin.2⟩
   · go_wp2_with fail
     have fin:=Qar (w:=w) (w3:=v1) (r:=w.heap.size+1) (L:=w.heap.size+2) (D:=D+l+1+11) (d:=d+1) (t:=t) (c1:=e1) (c2:=e2) (c3:=e3) hF (by omega) (by omega) hp hDw
     exact bodyPost_ret (v:=.agg #[.int .i64 t.K,.int .i64 t.N,.string t.S,.string t.Z,.int .i64 t.T.K,.int .i64 t.T.N,.slice b1 m1 e1,.slice b2 l2 e2,.slice b3 l3 e3]) (by simp [results,Try.results29,go_sem,y0,y1,y2,y3,y4,y5,y6,y7,y8]) rfl ⟨_,_,rfl,fin.1,(Nat.le_add_right _ _),fin.2⟩
end Go.Proofs.Ytleghjgpnefliaa
