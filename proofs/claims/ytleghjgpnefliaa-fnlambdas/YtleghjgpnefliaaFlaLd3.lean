/-
  What the model's 'l3Draw' comes to: a term that is right, in new memory; the cursor is moved on.
-/
import Derived.Test.YtleghjgpnefliaaFlaZ42
import Derived.Test.YtleghjgpnefliaaFlaDs3
import Derived.Deep.CutBlock
namespace Go.Proofs.Ytleghjgpnefliaa
open Go.RowKit
set_option linter.unusedVariables false
set_option linter.unusedSimpArgs false
theorem Gp.set {wr W:World} {p q:Nat} {cao:Option Addr} {clen ccap:Nat} (h:Gp wr p cao clen ccap W) (hq:wr.heap.size≤q) (o:Nat) (x:Value) (hp:p < wr.heap.size):Gp wr p cao clen ccap (W.setCell ⟨q,o,none⟩ x) :=
  ⟨⟨h.g.os,h.g.tape,h.g.output,by simp;exact h.g.size,fun k hk hne=>(row_other _ _ _ (by omega)).trans (h.g.block k hk hne)⟩,h.c.keep fun k hk=>row_other _ _ _ (by have:=h.c.lt;omega)⟩
theorem dsz (W:World):W.drew.heap.size=W.heap.size:=rfl
theorem wnt_right {t:Tr} (h:Wnt t):∃ m,nodesW 3 t=some m:=by
  rcases h with rfl | rfl | rfl
  · exact ⟨1,by kernel_rfl⟩
  · exact ⟨1,by kernel_rfl⟩
  · exact ⟨2,by kernel_rfl⟩
set_option maxRecDepth 100000 in
set_option maxHeartbeats 8000000 in
theorem l3Draw_any (p:Nat) (cao:Option Addr) (clen ccap:Nat) (w:World) (hcw:Cur w p cao clen ccap) :
    Calls Try.prog 21 #[.pointer (some ⟨p,0,none⟩)] w fun e w'=>∃ rv tm,e=.returned rv∧TmV w' w.heap.size 15 24 rv tm∧okM tm=true∧Drw w w' p cao clen ccap:=by
  have hpw:=hcw.lt
  obtain ⟨X,hX⟩:∃ X,X=w.alloc (.cells #[.int .i64 0,.int .i64 0,.string ⟨#[]⟩,.string ⟨#[]⟩,.int .i64 0,.int .i64 0,.slice none 0 0,.slice none 0 0,.slice none 0 0] 29):=⟨_,rfl⟩
  have hXb:Below w.heap.size w X:=by rw [hX];exact (Below.refl _ _).alloc (Nat.le_refl _) _
  have hXz:w.heap.size < X.heap.size:=by rw [hX];simp
  have hX0:X.heap[w.heap.size]?=some (.cells #[.int .i64 0,.int .i64 0,.string ⟨#[]⟩,.string ⟨#[]⟩,.int .i64 0,.int .i64 0,.slice none 0 0,.slice none 0 0,.slice none 0 0] 29 (0,0)):=by rw [hX];exact heap_new rfl
  have HX:Hid (X=_):=hX
  clear hX
  go_enter Try.func21,Try.ntmps21
  go_wp2_with fail
  rw [← HX.out]
  refine (l3Int_q X).mono ?_
  rintro e w1 ⟨rfl,hb1⟩
  have hz1:=hb1.size
  obtain ⟨Y,hY⟩:∃ Y,Y=w1.alloc (.cells #[.int .i64 1,.int .i64 0,.slice none 0 0] 26):=⟨_,rfl⟩
  have hYb:Below w1.heap.size w1 Y:=by rw [hY];exact (Below.refl _ _).alloc (Nat.le_refl _) _
  have hYz:w1.heap.size < Y.heap.size:=by rw [hY];simp
  have hY0:Y.heap[w1.heap.size]?=some (.cells #[.int .i64 1,.int .i64 0,.slice none 0 0] 26 (0,0)):=by rw [hY];exact heap_new rfl
  have hYw:Below w.heap.size w Y:=hXb.trans ((hb1.mono (by omega)).trans (hYb.mono (by omega)))
  have hYr:Y.heap[w.heap.size]?=some (.cells #[.int .i64 0,.int .i64 0,.string ⟨#[]⟩,.string ⟨#[]⟩,.int .i64 0,.int .i64 0,.slice none 0 0,.slice none 0 0,.slice none 0 0] 29 (0,0)):=(hYb.block _ (by omega)).trans ((hb1.block _ hXz).trans hX0)
  have HY:Hid (Y=_):=hY
  have hcY:=hcw.below hYw
  clear hY
  go_wp2_with fail
  rw [← HY.out]
  refine (l1Below_any p cao clen ccap 4 Y hcY (by omega) (by omega)).mono ?_
  rintro e w2 ⟨x,rfl,hx0,hx1,hD2⟩
  have hz2:=hD2.grown.size
  have hb2:=(hD2.grown.block w1.heap.size hYz (by simp;omega)).trans hY0
  have hr2:=(hD2.grown.block w.heap.size (by omega) (by simp;omega)).trans hYr
  have hgw2:w.grownBy w2 (some p):=grown_trans' (grown_below _ hYw) hD2.grown
  obtain ⟨y0,y1,y2⟩:=box_cells hb2
  have yf:=row_free hb2
  have HC2:Hid (Cur w2 p cao clen ccap):=hD2.cur
  go_upto_block 0 with fail
  go_cut [] from 9 to 15 (fun wx=>∃ (t:Tr) (ao:Option Addr) (len cap:Nat),Wnt t∧wx.heap[w1.heap.size]?=some (.cells #[.int .i64 t.K,.int .i64 t.N,.slice ao len cap] 26 (0,0))∧Hs (p+1) wx.heap.size wx 3 ao len t.A∧wx.heap[w.heap.size]?=some (.cells #[.int .i64 0,.int .i64 0,.string ⟨#[]⟩,.string ⟨#[]⟩,.int .i64 0,.int .i64 0,.slice none 0 0,.slice none 0 0,.slice none 0 0] 29 (0,0))∧w.grownBy wx (some p)∧Cur wx p cao clen ccap)
  case first =>
    have hst:∀ (W:World) (a b c:Value),w2.grownBy W (some p)→Cur W p cao clen ccap→W.heap[w1.heap.size]?=some (.cells #[.int .i64 1,.int .i64 0,.slice none 0 0] 26 (0,0))→(((W.setCell ⟨w1.heap.size,0,none⟩ a).setCell ⟨w1.heap.size,1,none⟩ b).setCell ⟨w1.heap.size,2,none⟩ c).heap[w1.heap.size]?=some (.cells #[a,b,c] 26 (0,0))∧(((W.setCell ⟨w1.heap.size,0,none⟩ a).setCell ⟨w1.heap.size,1,none⟩ b).setCell ⟨w1.heap.size,2,none⟩ c).heap[w.heap.size]?=some (.cells #[.int .i64 0,.int .i64 0,.string ⟨#[]⟩,.string ⟨#[]⟩,.int .i64 0,.int .i64 0,.slice none 0 0,.slice none 0 0,.slice none 0 0] 29 (0,0))∧w.grownBy (((W.setCell ⟨w1.heap.size,0,none⟩ a).setCell ⟨w1.heap.size,1,none⟩ b).setCell ⟨w1.heap.size,2,none⟩ c) (some p)∧Cur (((W.setCell ⟨w1.heap.size,0,none⟩ a).setCell ⟨w1.heap.size,1,none⟩ b).setCell ⟨w1.heap.size,2,none⟩ c) p cao clen ccap:=fun W a b c hg hcu hb=>by
      have hot:∀ k,k≠w1.heap.size→(((W.setCell ⟨w1.heap.size,0,none⟩ a).setCell ⟨w1.heap.size,1,none⟩ b).setCell ⟨w1.heap.size,2,none⟩ c).heap[k]?=W.heap[k]?:=fun k hk=>(row_other _ _ _ hk).trans ((row_other _ _ _ hk).trans (row_other _ _ _ hk))
      have hgW:=grown_trans' hgw2 hg
      exact ⟨set3_box hb _ _ _,(hot _ (by omega)).trans ((hg.block _ (by omega) (by simp;omega)).trans hr2),⟨hgW.os,hgW.tape,hgW.output,by simp;exact hgW.size,fun k hk hne=>(hot k (by omega)).trans (hgW.block k hk hne)⟩,hcu.keep fun k hk=>hot k (by omega)⟩
    by_cases h0:x=0
    · subst h0
      go_wp2_with fail
      refine (l3Bool_q w2).mono ?_
      rintro e w3 ⟨rfl,hb3⟩
      have h3:=(hb3.block w1.heap.size (by omega)).trans hb2
      have E:=hst w3 (.int .i64 2) (.int .i64 0) (.slice none 0 0) (grown_below _ hb3) (HC2.out.below hb3) h3
      clear y0 y1 y2 yf hst
      obtain ⟨y0,y1,y2⟩:=box_cells h3
      have yf:=row_free h3
      go_wp2_with fail
      go_meet
      exact ⟨⟨2,0,[]⟩,none,0,0,Or.inr (Or.inl rfl),E.1,Hs.nil _ _ _ _ _,E.2⟩
    · by_cases h1:x=1
      · subst h1
        go_wp2_with fail
        refine (l3Int_q w2).mono ?_
        rintro e w3 ⟨rfl,hb3⟩
        have hz3:=hb3.size
        go_wp2_with fail
        refine (l3List_q (fun k=>p+1≤k∧k≠w1.heap.size) 2 ⟨1,0,[]⟩ _ w3 (fun k hk=>⟨by omega,by omega⟩) ⟨none,0,0,rfl,HsQ.nil _ _ _ _⟩).mono ?_
        rintro e w4 ⟨v',rfl,⟨ga,gl,gc,rfl,hg4⟩,hb4⟩
        have hb24:Below w2.heap.size w2 w4:=hb3.trans (hb4.mono hb3.size)
        have h4:=(hb24.block w1.heap.size (by omega)).trans hb2
        have E:=hst w4 (.int .i64 6) (.int .i64 0) (.slice ga gl gc) (grown_below _ hb24) (HC2.out.below hb24) h4
        clear y0 y1 y2 yf hst
        obtain ⟨y0,y1,y2⟩:=box_cells h4
        have yf:=row_free h4
        go_wp2_with fail
        go_meet
        refine ⟨⟨6,0,[⟨1,0,[]⟩]⟩,ga,gl,gc,Or.inr (Or.inr rfl),E.1,?_,E.2⟩
        exact HsQ.hs (P:=fun k=>p+1≤k∧k≠w1.heap.size) (fun k hk=>hk.1) (HsQ.keep (w:=w4) (fun k hk _=>(row_other _ _ _ hk.2).trans ((row_other _ _ _ hk.2).trans (row_other _ _ _ hk.2))) (fun _ h _=>h) (by simp) hg4)
      · have hx0b:(x == 0)=false:=by simp [h0]
        have hx1b:(x == 1)=false:=by simp [h1]
        clear h0 h1 hst
        go_wp2_with fail
        go_meet
        exact ⟨⟨1,0,[]⟩,none,0,0,Or.inl rfl,hb2,Hs.nil _ _ _ _ _,hr2,hgw2,HC2.out⟩
  case rest =>
    obtain ⟨t,ao,len,cap,hwt,hq3,hsW,hzr,hgw,hc⟩:=hcut
    obtain ⟨W0,hW0⟩:∃ W0,W0=wc:=⟨_,rfl⟩
    subst hW0
    obtain ⟨q3,hq3e⟩:∃ q3,q3=w1.heap.size:=⟨_,rfl⟩
    rw [← hq3e] at hq3 ⊢
    have hwq:w.heap.size < q3:=by omega
    have hwz:=hgw.size
    clear hq3e y0 y1 y2 yf hb2 hr2 hgw2 hYr hY0 hX0
    have hp:=hc.lt
    have hq3l:=(Array.getElem?_eq_some_iff.1 hq3).1
    have HBX:Hid (∀ W,Gp W0 p cao clen ccap W→W.cell? ⟨q3,0,none⟩=some (.int .i64 t.K)∧W.cell? ⟨q3,1,none⟩=some (.int .i64 t.N)∧W.cell? ⟨q3,2,none⟩=some (.slice ao len cap)):=fun W hW=>box_cells ((hW.g.block q3 hq3l (by simp;omega)).trans hq3)
    have HWS:Hid (∀ W,Gp W0 p cao clen ccap W→Hs (p+1) W.heap.size W 3 ao len t.A):=fun W hW=>hsW.keep (fun k h1 h2=>hW.g.block k h2 (by simp;omega)) (Nat.le_refl _) hW.g.size
    have HZR:Hid (∀ W,Gp W0 p cao clen ccap W→W.heap[w.heap.size]?=some (.cells #[.int .i64 0,.int .i64 0,.string ⟨#[]⟩,.string ⟨#[]⟩,.int .i64 0,.int .i64 0,.slice none 0 0,.slice none 0 0,.slice none 0 0] 29 (0,0))):=fun W hW=>(hW.g.block _ (by omega) (by simp;omega)).trans hzr
    have HWT:Hid (Wnt t):=hwt
    have HDW:Hid (∀ W,Gp W0 p cao clen ccap W→Drw w W p cao clen ccap):=fun W hW=>⟨grown_trans' hgw hW.g,hW.c⟩
    have HSP:Hid (∀ (W:World) (x:Int) (ea:Option Addr) (ec:Nat),Gp W0 p cao clen ccap W→0≤x→x < 4→Calls Try.prog 38 #[.pointer (some ⟨p,0,none⟩),.agg #[.int .i64 t.K,.int .i64 t.N,.slice ao len cap],.slice ea 0 ec,.int .i64 x] W fun e w'=>∃ rv tm,e=.returned rv∧TmV w' W.heap.size 14 24 rv tm∧Drw W w' p cao clen ccap):=fun W x ea ec hW h0 h4=>by
      obtain ⟨k,rfl⟩:∃ k:Nat,x=(k:Int):=⟨x.toNat,by omega⟩
      refine (spine_any k (by omega) p cao clen ccap _ t (.slice ea 0 ec) [] W hW.c ⟨⟨ao,len,cap,rfl,HWS.out W hW⟩,wnt_right HWT.out⟩ ⟨EnV.none _ _ _ _ _,fun e he=>by simp at he⟩ (by simp;omega)).mono ?_
      rintro e w' ⟨rv,tm,rfl,hT,hD⟩
      exact ⟨rv,tm,rfl,hT.deeper (Nat.le_refl _) (by omega),hD⟩
    clear hwt hsW hzr hq3 hgw
    go_wp2_with fail
    go_loopw [4] (fun i wr=>∃ j:Nat,j≤4∧i=.int .i64 j∧Gp W0 p cao clen ccap wr) (fun i _=>4 - (intOf i).toNat)
    case atStart=>exact ⟨0,by omega,rfl,⟨grown_refl' _ _,hc⟩⟩
    case round =>
      obtain ⟨j,hj,rfl,gr⟩:=hrel
      have hzr:=gr.g.size
      obtain ⟨x0,x1,x2⟩:=HBX.out wr gr
      have gg0:Gp W0 p cao clen ccap wr.drew:=gr.drew
      by_cases hlt:j < 4
      · go_upto_region 10 with fail
        go_cut [5] from 16 to 25 (fun v wx=>∃ (q:Nat) (tm:Tm) (a1:Option Addr) (l1 c1:Nat) (a2:Option Addr) (l2 c2:Nat) (a3:Option Addr) (l3 c3:Nat),v=.pointer (some ⟨q,0,none⟩)∧Gp W0 p cao clen ccap wx∧wx.heap[q]?=some (.cells #[.int .i64 tm.K,.int .i64 tm.N,.string tm.S,.string tm.Z,.int .i64 tm.T.K,.int .i64 tm.T.N,.slice a1 l1 c1,.slice a2 l2 c2,.slice a3 l3 c3] 29 (0,0))∧Fm wr.heap.size wx.heap.size wx 14 24 tm a1 l1 a2 l2 a3 l3)
        case first =>
          have hz0:W0.heap.size≤wr.heap.size:=hzr
          have nR:∀ W:World,(W.alloc (.cells #[.int .i64 0,.int .i64 0,.string ⟨#[]⟩,.string ⟨#[]⟩,.int .i64 0,.int .i64 0,.slice none 0 0,.slice none 0 0,.slice none 0 0] 29)).heap[W.heap.size]?=some (.cells #[.int .i64 0,.int .i64 0,.string ⟨#[]⟩,.string ⟨#[]⟩,.int .i64 0,.int .i64 0,.slice none 0 0,.slice none 0 0,.slice none 0 0] 29 (0,0)):=fun W=>heap_new rfl
          have step:∀ (W:World),Gp W0 p cao clen ccap W→Calls Try.prog 30 #[.pointer (some ⟨p,0,none⟩),.int .i64 4] W fun e w'=>(∃ x:Int,e=.returned (.int .i64 x)∧0≤x∧x < 4)∧Gp W0 p cao clen ccap w'∧Drw W w' p cao clen ccap:=fun W hW=>(l1Below_any p cao clen ccap 4 W hW.c (by omega) (by omega)).mono fun e w' ⟨x,h1,h2,h3,h4⟩=>⟨⟨x,h1,h2,h3⟩,hW.drw h4,h4⟩
          have HA:Hid (Gp W0 p cao clen ccap wr.drew):=gg0
          have LA:=step _ gg0
          have LB:=step _ (gr.alloc (.cells #[] 93)).drew
          have LC:=step _ (gr.alloc (.cells #[.int .i64 0,.int .i64 0,.string ⟨#[]⟩,.string ⟨#[]⟩,.int .i64 0,.int .i64 0,.slice none 0 0,.slice none 0 0,.slice none 0 0] 29)).drew
          have LD:=step _ ((gr.alloc (.cells #[] 93)).alloc (.cells #[.int .i64 0,.int .i64 0,.string ⟨#[]⟩,.string ⟨#[]⟩,.int .i64 0,.int .i64 0,.slice none 0 0,.slice none 0 0,.slice none 0 0] 29)).drew
          have LE:=step _ ((gr.alloc (.cells #[.int .i64 0,.int .i64 0,.string ⟨#[]⟩,.string ⟨#[]⟩,.int .i64 0,.int .i64 0,.slice none 0 0,.slice none 0 0,.slice none 0 0] 29)).alloc (.cells #[] 93)).drew
          clear step
          go_wp2_with fail
          go_region_held3 (fun W=>W.cell? ⟨q3,0,none⟩=some (.int .i64 t.K)∧W.cell? ⟨q3,1,none⟩=some (.int .i64 t.N)∧W.cell? ⟨q3,2,none⟩=some (.slice ao len cap))
            (first | with_reducible exact HBX.out _ gg2 | with_reducible exact HBX.out _ gg1 | with_reducible exact HBX.out _ gg0 | (with_reducible refine HBX.out _ ?_;(repeat (first | with_reducible exact gr | with_reducible exact gg2 | with_reducible exact gg1 | with_reducible exact gg0 | with_reducible refine Gp.alloc ?_ _ | with_reducible refine Gp.drew ?_ | with_reducible refine Gp.set ?_ (Nat.le_trans hz0 qbl) _ _ hp))))
            (first
              | (go_at_call 38;(with_reducible refine Calls.mono (HSP.out v1 _ _ _ gg1 hx0 hx4) ?_);rintro e v2 ⟨rv,tm,rfl,⟨a1,l1,c1,a2,l2,c2,a3,l3,c3,rfl,hF⟩,hD2⟩;have gg2:=gg1.drw hD2;have hqL:=(Array.getElem?_eq_some_iff.1 bq).1;have bq2:=(hD2.grown.block _ (Array.getElem?_eq_some_iff.1 bq).1 (by simp;omega)).trans bq;obtain ⟨n0,n1,n2,n3,n4,n5,n6,n7,n8⟩:=Nine.box bq2;have nf:=row_free bq2;have hLv:=gz1)
              | (go_at_call 38;(with_reducible refine Calls.mono (HSP.out v1 _ _ _ gg1 hx0 hx4) ?_);rintro e v2 ⟨rv,tm,rfl,⟨a1,l1,c1,a2,l2,c2,a3,l3,c3,rfl,hF⟩,hD2⟩;have gg2:=gg1.drw hD2;have hLv:=gz1)
              | (go_at_call 38;(with_reducible refine Calls.mono (HSP.out (v1.alloc (.cells #[] 93)) _ _ _ (gg1.alloc _) hx0 hx4) ?_);rintro e v2 ⟨rv,tm,rfl,⟨a1,l1,c1,a2,l2,c2,a3,l3,c3,rfl,hF⟩,hD2⟩;have gg2:=(gg1.alloc _).drw hD2;have hqL:=Nat.lt_of_lt_of_le (Array.getElem?_eq_some_iff.1 bq).1 (show v1.heap.size≤(v1.alloc (.cells #[] 93)).heap.size by simp);have bq2:=(hD2.grown.block _ hqL (by simp;omega)).trans ((Below.heap_alloc _ _ _ (Array.getElem?_eq_some_iff.1 bq).1).trans bq);obtain ⟨n0,n1,n2,n3,n4,n5,n6,n7,n8⟩:=Nine.box bq2;have nf:=row_free bq2;have hLv:wr.heap.size≤(v1.alloc (.cells #[] 93)).heap.size:=(by simp;omega))
              | (go_at_call 38;(with_reducible refine Calls.mono (HSP.out (v1.alloc (.cells #[] 93)) _ _ _ (gg1.alloc _) hx0 hx4) ?_);rintro e v2 ⟨rv,tm,rfl,⟨a1,l1,c1,a2,l2,c2,a3,l3,c3,rfl,hF⟩,hD2⟩;have gg2:=(gg1.alloc _).drw hD2;have hLv:wr.heap.size≤(v1.alloc (.cells #[] 93)).heap.size:=(by simp;omega))
              | (go_at_call 38;(with_reducible refine Calls.mono (HSP.out (v1.alloc (.cells #[.int .i64 0,.int .i64 0,.string ⟨#[]⟩,.string ⟨#[]⟩,.int .i64 0,.int .i64 0,.slice none 0 0,.slice none 0 0,.slice none 0 0] 29)) _ _ _ (gg1.alloc _) hx0 hx4) ?_);rintro e v2 ⟨rv,tm,rfl,⟨a1,l1,c1,a2,l2,c2,a3,l3,c3,rfl,hF⟩,hD2⟩;have gg2:=(gg1.alloc _).drw hD2;have hqL:v1.heap.size < (v1.alloc (.cells #[.int .i64 0,.int .i64 0,.string ⟨#[]⟩,.string ⟨#[]⟩,.int .i64 0,.int .i64 0,.slice none 0 0,.slice none 0 0,.slice none 0 0] 29)).heap.size:=(by simp);have bq2:=(hD2.grown.block v1.heap.size hqL (by have:=gg1.c.lt;simp;omega)).trans (nR v1);obtain ⟨n0,n1,n2,n3,n4,n5,n6,n7,n8⟩:=Nine.box bq2;have nf:=row_free bq2;have qbl:wr.heap.size≤v1.heap.size:=gz1;have hLv:wr.heap.size≤(v1.alloc (.cells #[.int .i64 0,.int .i64 0,.string ⟨#[]⟩,.string ⟨#[]⟩,.int .i64 0,.int .i64 0,.slice none 0 0,.slice none 0 0,.slice none 0 0] 29)).heap.size:=(by simp;omega))
              | (go_at_call 38;(with_reducible refine Calls.mono (HSP.out ((v1.alloc (.cells #[] 93)).alloc (.cells #[.int .i64 0,.int .i64 0,.string ⟨#[]⟩,.string ⟨#[]⟩,.int .i64 0,.int .i64 0,.slice none 0 0,.slice none 0 0,.slice none 0 0] 29)) _ _ _ ((gg1.alloc _).alloc _) hx0 hx4) ?_);rintro e v2 ⟨rv,tm,rfl,⟨a1,l1,c1,a2,l2,c2,a3,l3,c3,rfl,hF⟩,hD2⟩;have gg2:=((gg1.alloc _).alloc _).drw hD2;have hqL:v1.heap.size+1 < ((v1.alloc (.cells #[] 93)).alloc (.cells #[.int .i64 0,.int .i64 0,.string ⟨#[]⟩,.string ⟨#[]⟩,.int .i64 0,.int .i64 0,.slice none 0 0,.slice none 0 0,.slice none 0 0] 29)).heap.size:=(by simp);have bq2:=(hD2.grown.block (v1.alloc (.cells #[] 93)).heap.size (by simp) (by have:=gg1.c.lt;simp;omega)).trans (nR (v1.alloc (.cells #[] 93)));simp only [World.size_alloc] at bq2;obtain ⟨n0,n1,n2,n3,n4,n5,n6,n7,n8⟩:=Nine.box bq2;have nf:=row_free bq2;have qbl:wr.heap.size≤v1.heap.size+1:=(by omega);have hLv:wr.heap.size≤((v1.alloc (.cells #[] 93)).alloc (.cells #[.int .i64 0,.int .i64 0,.string ⟨#[]⟩,.string ⟨#[]⟩,.int .i64 0,.int .i64 0,.slice none 0 0,.slice none 0 0,.slice none 0 0] 29)).heap.size:=(by simp;omega))
              | (go_at_call 38;(with_reducible refine Calls.mono (HSP.out ((v1.alloc (.cells #[.int .i64 0,.int .i64 0,.string ⟨#[]⟩,.string ⟨#[]⟩,.int .i64 0,.int .i64 0,.slice none 0 0,.slice none 0 0,.slice none 0 0] 29)).alloc (.cells #[] 93)) _ _ _ ((gg1.alloc _).alloc _) hx0 hx4) ?_);rintro e v2 ⟨rv,tm,rfl,⟨a1,l1,c1,a2,l2,c2,a3,l3,c3,rfl,hF⟩,hD2⟩;have gg2:=((gg1.alloc _).alloc _).drw hD2;have hqL:v1.heap.size < ((v1.alloc (.cells #[.int .i64 0,.int .i64 0,.string ⟨#[]⟩,.string ⟨#[]⟩,.int .i64 0,.int .i64 0,.slice none 0 0,.slice none 0 0,.slice none 0 0] 29)).alloc (.cells #[] 93)).heap.size:=(by simp;omega);have bq2:=(hD2.grown.block v1.heap.size hqL (by have:=gg1.c.lt;simp;omega)).trans ((Below.heap_alloc _ _ _ (by simp)).trans (nR v1));obtain ⟨n0,n1,n2,n3,n4,n5,n6,n7,n8⟩:=Nine.box bq2;have nf:=row_free bq2;have qbl:wr.heap.size≤v1.heap.size:=gz1;have hLv:wr.heap.size≤((v1.alloc (.cells #[.int .i64 0,.int .i64 0,.string ⟨#[]⟩,.string ⟨#[]⟩,.int .i64 0,.int .i64 0,.slice none 0 0,.slice none 0 0,.slice none 0 0] 29)).alloc (.cells #[] 93)).heap.size:=(by simp;omega))
              | (go_at_call 30;(with_reducible refine Calls.mono LA ?_);rintro e v1 ⟨⟨x,rfl,hx0,hx4⟩,gg1,hD1⟩;have gz1:wr.heap.size≤v1.heap.size:=hD1.grown.size)
              | (go_at_call 30;(with_reducible refine Calls.mono LB ?_);rintro e v1 ⟨⟨x,rfl,hx0,hx4⟩,gg1,hD1⟩;have gz1:wr.heap.size≤v1.heap.size:=(by have h:=hD1.grown.size;simp only [dsz,World.size_alloc] at h;omega))
              | (go_at_call 30;(with_reducible refine Calls.mono LC ?_);rintro e v1 ⟨⟨x,rfl,hx0,hx4⟩,gg1,hD1⟩;have gz1:wr.heap.size≤v1.heap.size:=(by have h:=hD1.grown.size;simp only [dsz,World.size_alloc] at h;omega);have bq:=(hD1.grown.block wr.heap.size (by simp only [dsz,World.size_alloc];omega) (by have:=gr.c.lt;simp;omega)).trans (nR wr);have qbl:wr.heap.size≤wr.heap.size:=Nat.le_refl _)
              | (go_at_call 30;(with_reducible refine Calls.mono LD ?_);rintro e v1 ⟨⟨x,rfl,hx0,hx4⟩,gg1,hD1⟩;have gz1:wr.heap.size≤v1.heap.size:=(by have h:=hD1.grown.size;simp only [dsz,World.size_alloc] at h;omega);have bq0:((wr.alloc (.cells #[] 93)).alloc (.cells #[.int .i64 0,.int .i64 0,.string ⟨#[]⟩,.string ⟨#[]⟩,.int .i64 0,.int .i64 0,.slice none 0 0,.slice none 0 0,.slice none 0 0] 29)).heap[wr.heap.size+1]?=some (.cells #[.int .i64 0,.int .i64 0,.string ⟨#[]⟩,.string ⟨#[]⟩,.int .i64 0,.int .i64 0,.slice none 0 0,.slice none 0 0,.slice none 0 0] 29 (0,0)):=heap_new (by simp);have bq:=(hD1.grown.block (wr.heap.size+1) (by simp only [dsz,World.size_alloc];omega) (by have:=gr.c.lt;simp;omega)).trans bq0;have qbl:wr.heap.size≤wr.heap.size+1:=Nat.le_succ _)
              | (go_at_call 30;(with_reducible refine Calls.mono LE ?_);rintro e v1 ⟨⟨x,rfl,hx0,hx4⟩,gg1,hD1⟩;have gz1:wr.heap.size≤v1.heap.size:=(by have h:=hD1.grown.size;simp only [dsz,World.size_alloc] at h;omega);have bq:=(hD1.grown.block wr.heap.size (by simp only [dsz,World.size_alloc];omega) (by have:=gr.c.lt;simp;omega)).trans ((Below.heap_alloc _ _ _ (by simp)).trans (nR wr));have qbl:wr.heap.size≤wr.heap.size:=Nat.le_refl _))
          all_goals
            go_wp2_with fail
            go_meet
            first
              | (refine ⟨v2.heap.size,tm,a1,l1,c1,a2,l2,c2,a3,l3,c3,rfl,?_,?_,?_⟩;with_reducible exact gg2.alloc _;with_reducible exact heap_new rfl;exact Fm.keep (fun k _ hk=>Below.heap_alloc _ _ _ hk) hLv (by simp) hF)
              | (refine ⟨wr.heap.size,tm,a1,l1,c1,a2,l2,c2,a3,l3,c3,rfl,?_,?_,?_⟩;(repeat (first | with_reducible exact gr | with_reducible exact gg2 | with_reducible exact gg1 | with_reducible exact gg0 | with_reducible refine Gp.alloc ?_ _ | with_reducible refine Gp.drew ?_ | with_reducible refine Gp.set ?_ (Nat.le_trans hz0 qbl) _ _ hp));with_reducible exact nest9_row bq2 _ _ _ _ _ _ _ _ _;exact Fm.keep (fun k h1 _=>nest9_other _ _ _ _ _ _ _ _ _ _ _ k (by omega)) hLv (by rw [nest9_size];exact Nat.le_refl _) hF)
              | (refine ⟨wr.heap.size+1,tm,a1,l1,c1,a2,l2,c2,a3,l3,c3,rfl,?_,?_,?_⟩;(repeat (first | with_reducible exact gr | with_reducible exact gg2 | with_reducible exact gg1 | with_reducible exact gg0 | with_reducible refine Gp.alloc ?_ _ | with_reducible refine Gp.drew ?_ | with_reducible refine Gp.set ?_ (Nat.le_trans hz0 qbl) _ _ hp));with_reducible exact nest9_row bq2 _ _ _ _ _ _ _ _ _;exact Fm.keep (fun k h1 _=>nest9_other _ _ _ _ _ _ _ _ _ _ _ k (by omega)) hLv (by rw [nest9_size];exact Nat.le_refl _) hF)
              | (refine ⟨v1.heap.size,tm,a1,l1,c1,a2,l2,c2,a3,l3,c3,rfl,?_,?_,?_⟩;(repeat (first | with_reducible exact gr | with_reducible exact gg2 | with_reducible exact gg1 | with_reducible exact gg0 | with_reducible refine Gp.alloc ?_ _ | with_reducible refine Gp.drew ?_ | with_reducible refine Gp.set ?_ (Nat.le_trans hz0 qbl) _ _ hp));with_reducible exact nest9_row bq2 _ _ _ _ _ _ _ _ _;exact Fm.keep (fun k h1 _=>nest9_other _ _ _ _ _ _ _ _ _ _ _ k (by omega)) hLv (by rw [nest9_size];exact Nat.le_refl _) hF)
              | (refine ⟨v1.heap.size+1,tm,a1,l1,c1,a2,l2,c2,a3,l3,c3,rfl,?_,?_,?_⟩;(repeat (first | with_reducible exact gr | with_reducible exact gg2 | with_reducible exact gg1 | with_reducible exact gg0 | with_reducible refine Gp.alloc ?_ _ | with_reducible refine Gp.drew ?_ | with_reducible refine Gp.set ?_ (Nat.le_trans hz0 qbl) _ _ hp));with_reducible exact nest9_row bq2 _ _ _ _ _ _ _ _ _;exact Fm.keep (fun k h1 _=>nest9_other _ _ _ _ _ _ _ _ _ _ _ k (by omega)) hLv (by rw [nest9_size];exact Nat.le_refl _) hF)
        case rest =>
          obtain ⟨q,tm,a1,l1,c1,a2,l2,c2,a3,l3,c3,rfl,gc,hq,hF⟩:=hcut
          have hql:=(Array.getElem?_eq_some_iff.1 hq).1
          have hzc:=gc.g.size
          have hpl:=gc.c.lt
          obtain ⟨f0,f1,f2,f3,f4,f5,f6,f7,f8⟩:=Nine.box hq
          have HPR:=program_any p 14 24 wr.heap.size wc.heap.size tm a1 l1 c1 a2 l2 c2 a3 l3 c3 wc hpl (by have:=gr.c.lt;omega) (Nat.le_refl _) (Nat.le_refl _) hF
          go_wp2_with fail
          refine HPR.mono ?_
          rintro e w4 ⟨⟨pb,rfl,hpb⟩,hb4⟩
          have hz4:=hb4.size
          have g4:=gc.below hb4
          have hq4:=(hb4.block q hql).trans hq
          clear HPR f0 f1 f2 f3 f4 f5 f6 f7 f8
          obtain ⟨f0,f1,f2,f3,f4,f5,f6,f7,f8⟩:=Nine.box hq4
          cases pb with
          | false =>
            go_wp2_with fail
            go_roundw
            case rel=>exact ⟨j+1,by omega,by go_num,g4⟩
            case measure=>simp [intOf];omega
          | true =>
            have hok:okM tm=true:=by
              have:=hpb rfl
              unfold plM at this
              simp only [Bool.and_eq_true] at this
              exact this.1
            obtain ⟨m,hm,hm150⟩:=okM_some hok
            have hcn:=nodesM_cnt _ _ _ hm
            have HOK:Hid (okM tm=true):=hok
            have HCP:=lm_any 14 24 wr.heap.size wc.heap.size tm a1 l1 c1 a2 l2 c2 a3 l3 c3 w4 hz4 (Fm.keep (fun k _ hk=>hb4.block k hk) (Nat.le_refl _) (Nat.le_refl _) hF) (by omega)
            clear hpb hok hm hcn
            go_wp2_with fail
            refine HCP.mono ?_
            rintro e w5 ⟨b1,m1,e1,b2,e2,b3,e3,rfl,hb5,hO⟩
            have g5:=g4.below hb5
            have r5:=HZR.out w5 g5
            have hz5:=hb5.size
            have D5:=HDW.out w5 g5
            obtain ⟨y0,y1,y2,y3,y4,y5,y6,y7,y8⟩:=Nine.box r5
            have yf:=row_free r5
            clear HCP
            go_wp2_with fail
            have fin:=fin_term (w:=w) (r:=w.heap.size) (c1:=e1) (c2:=e2) (c3:=e3) hO.fm (by omega) (Nat.le_refl _) hpw D5
            exact bodyPost_ret (v:=.agg #[.int .i64 tm.K,.int .i64 tm.N,.string tm.S,.string tm.Z,.int .i64 tm.T.K,.int .i64 tm.T.N,.slice b1 m1 e1,.slice b2 l2 e2,.slice b3 l3 e3]) (by simp [results,Try.results21,go_sem,y0,y1,y2,y3,y4,y5,y6,y7,y8]) rfl ⟨_,_,rfl,fin.1,HOK.out,fin.2⟩
      · have gA:=gr.alloc (.cells #[] 93)
        have HLF:=leaf0 p cao clen ccap t ao len cap (some ⟨wr.heap.size,0,none⟩) 0 (wr.alloc (.cells #[] 93)) HWT.out gA.c (HWS.out _ gA)
        have hwA:wr.heap.size≤(wr.alloc (.cells #[] 93)).heap.size:=by simp
        go_wp2_with fail
        with_reducible refine Calls.mono HLF ?_
        rintro e w5 ⟨rv,tm,rfl,⟨a1,l1,c1,a2,l2,c2,a3,l3,c3,rfl,hF⟩,hok,hD5⟩
        have g5:=gA.drw hD5
        have r5:=HZR.out w5 g5
        have D5:=HDW.out w5 g5
        have HOK:Hid (okM tm=true):=hok
        obtain ⟨y0,y1,y2,y3,y4,y5,y6,y7,y8⟩:=Nine.box r5
        have yf:=row_free r5
        clear HLF hok
        go_wp2_with fail
        have fin:=fin_term (w:=w) (r:=w.heap.size) (c1:=c1) (c2:=c2) (c3:=c3) (Fm.keep (D:=15) (d:=24) (fun _ _ _=>rfl) (Nat.le_refl _) (Nat.le_refl _) (hF.wider (fun _ _ _ k=>k.deeper (by omega)) (fun _ _ _ k=>k.deeper (by omega) (by omega)))) (by omega) (Nat.le_refl _) hpw D5
        exact bodyPost_ret (v:=.agg #[.int .i64 tm.K,.int .i64 tm.N,.string tm.S,.string tm.Z,.int .i64 tm.T.K,.int .i64 tm.T.N,.slice a1 l1 c1,.slice a2 l2 c2,.slice a3 l3 c3]) (by simp [results,Try.results21,go_sem,y0,y1,y2,y3,y4,y5,y6,y7,y8]) rfl ⟨_,_,rfl,fin.1,HOK.out,fin.2⟩
end Go.Proofs.Ytleghjgpnefliaa
