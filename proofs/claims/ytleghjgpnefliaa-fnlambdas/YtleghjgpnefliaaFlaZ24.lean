/-
  What the model's 'l3Name' comes to, whatever predicate takes the blocks.
-/
import Derived.Test.YtleghjgpnefliaaFlaZ23
import Derived.Test.YtleghjgpnefliaaFlaZ3
namespace Go.Proofs.Ytleghjgpnefliaa
open Go.RowKit
set_option linter.unusedVariables false
set_option linter.unusedSimpArgs false
set_option maxRecDepth 100000 in
set_option maxHeartbeats 4000000 in
theorem l3Name_q (P:Nat→Prop) (p D d L B:Nat) (t:Tm) (a1:Option Addr) (l1 c1:Nat) (a2:Option Addr) (l2 c2:Nat) (a3:Option Addr) (l3 c3:Nat) (v:Value) (es:List Ev) (vs:Int) (w:World) (hp:p < w.heap.size) (hPp:∀ k,P k→p+1≤k) (hPn:∀ k,w.heap.size≤k→P k) (hB:B≤w.heap.size) (hf:Fm L B w D d t a1 l1 a2 l2 a3 l3) (hT:∀ u ∈ t.Ts,okT u=true) (hE:EnQ P w 14 v es) (hR:∀ e ∈ es,∃ m,nodesW 6 e.t=some m) (hl:es.length≤900) (hcn:cntS t.Ts≤1048576) :
    Calls Try.prog 79 #[.agg #[.int .i64 t.K,.int .i64 t.N,.string t.S,.string t.Z,.int .i64 t.T.K,.int .i64 t.T.N,.slice a1 l1 c1,.slice a2 l2 c2,.slice a3 l3 c3],v,.int .i64 vs] w fun e w'=>CkQ P e w'∧Below w.heap.size w w':=by
  obtain ⟨ae,ce,rfl⟩:=hE.form
  obtain ⟨X,hX⟩:∃ X,X=(w.alloc (.cells #[.int .i64 t.K,.int .i64 t.N,.string t.S,.string t.Z,.int .i64 t.T.K,.int .i64 t.T.N,.slice a1 l1 c1,.slice a2 l2 c2,.slice a3 l3 c3] 29)).alloc (.cells #[.int .i64 0,.int .i64 0,.slice none 0 0] 26):=⟨_,rfl⟩
  have hXs:X.heap.size=w.heap.size+2:=by rw [hX];simp
  have hXb:Below w.heap.size w X:=by rw [hX];exact ((Below.refl _ _).alloc (Nat.le_refl _) _).alloc (by simp) _
  have hX0:X.heap[w.heap.size]?=some (.cells #[.int .i64 t.K,.int .i64 t.N,.string t.S,.string t.Z,.int .i64 t.T.K,.int .i64 t.T.N,.slice a1 l1 c1,.slice a2 l2 c2,.slice a3 l3 c3] 29 (0,0)):=by rw [hX,Below.heap_alloc _ _ _ (by simp)];exact heap_new rfl
  have hX1:X.heap[w.heap.size+1]?=some (.cells #[.int .i64 0,.int .i64 0,.slice none 0 0] 26 (0,0)):=by rw [hX];exact heap_new (by simp)
  obtain ⟨x0,x1,x2,x3,x4,x5,x6,x7,x8⟩:=Nine.box hX0
  obtain ⟨z0,z1,z2⟩:=box_cells hX1
  have zf:=row_free hX1
  have hEX:EnV X p 14 (.slice ae es.length ce) es:=(hE.env hPp).grown (grown_below _ hXb)
  have HX:Hid (X=_):=hX
  have hl2:=hf.t2.len.2
  obtain ⟨fi,hfi⟩:∃ fi,fi=fndK es t.S es.length:=⟨_,rfl⟩
  have K:=l3Find_any p 14 (.slice ae es.length ce) es t.S X hEX hl
  rw [← hfi] at K
  obtain ⟨n,hn⟩:∃ n,n=es.length:=⟨_,rfl⟩
  have HN:Hid (n=es.length):=hn
  rw [← hn] at K hEX hE ⊢
  have hbd:=fndK_bd es t.S es.length
  rw [← hfi] at hbd
  have hset:∀ (W:World) (a b c:Value),Below w.heap.size w W→Below w.heap.size w (((W.setCell ⟨w.heap.size+1,0,none⟩ a).setCell ⟨w.heap.size+1,1,none⟩ b).setCell ⟨w.heap.size+1,2,none⟩ c):=fun W a b c hb=>((hb.setCell (p:=⟨w.heap.size+1,0,none⟩) (by show w.heap.size≤w.heap.size+1;omega) _).setCell (p:=⟨w.heap.size+1,1,none⟩) (by show w.heap.size≤w.heap.size+1;omega) _).setCell (p:=⟨w.heap.size+1,2,none⟩) (by show w.heap.size≤w.heap.size+1;omega) _
  have HSET:Hid (∀ (W:World) (a b c:Value),Below w.heap.size w W→Below w.heap.size w (((W.setCell ⟨w.heap.size+1,0,none⟩ a).setCell ⟨w.heap.size+1,1,none⟩ b).setCell ⟨w.heap.size+1,2,none⟩ c)):=hset
  clear hX hfi hn hset
  rcases hbd with rfl | ⟨j,hj,_,rfl⟩
  · go_enter Try.func79,Try.ntmps79
    go_wp2_with fail
    rw [← HX.out]
    refine K.mono ?_
    rintro e w1 ⟨rfl,hw1⟩
    subst hw1
    go_wp2_with fail
    exact bodyPost_ret (v:=.tuple #[.agg #[.int .i64 0,.int .i64 0,.slice none 0 0],.int .i64 2]) (by simp [results,Try.results79,go_sem,z0,z1,z2]) rfl ⟨CkQ.bad _ _ _ (by omega),HSET.out _ _ _ _ hXb⟩
  · obtain ⟨b,o,cp,ao,len,c,he,hb1,hb2,u0,u1,u2,u3,u4,hsE⟩:=hE.get j hj
    have hjn:j < n:=by have:=HN.out;omega
    obtain ⟨rfl,rfl⟩:ae=some ⟨b,o,none⟩∧ce=cp:=by simp at he;exact ⟨he.1,he.2.2⟩
    obtain ⟨m,hm⟩:=hR es[j] (List.getElem_mem _)
    obtain ⟨ev,hev⟩:∃ ev,ev=es[j]:=⟨_,rfl⟩
    rw [← hev] at u0 u1 u2 u3 hsE hm
    have e1:=(bcell hXb hb2 _).trans u1
    have e2:=(bcell hXb hb2 _).trans u2
    have e3:=(bcell hXb hb2 _).trans u3
    have e4:=(bcell hXb hb2 _).trans u4
    have hbX:b < X.heap.size:=by omega
    clear hev he hE u0 u1 u2 u3 u4
    cases hq:(ev.n != (l2:Int)) with
    | true =>
      go_enter Try.func79,Try.ntmps79
      go_wp2_with fail
      rw [← HX.out]
      refine K.mono ?_
      rintro e w1 ⟨rfl,hw1⟩
      subst hw1
      go_wp2_with fail
      go_quiet (fail)
      go_wp2_with fail
      exact bodyPost_ret (v:=.tuple #[.agg #[.int .i64 0,.int .i64 0,.slice none 0 0],.int .i64 4]) (by simp [results,Try.results79,go_sem,z0,z1,z2]) rfl ⟨CkQ.bad _ _ _ (by omega),HSET.out _ _ _ _ ⟨hXb.os,hXb.tape,hXb.output,hXb.size,hXb.block⟩⟩
    | false =>
      cases hz:(ev.n == 0) with
      | true =>
        go_enter Try.func79,Try.ntmps79
        go_wp2_with fail
        rw [← HX.out]
        refine K.mono ?_
        rintro e w1 ⟨rfl,hw1⟩
        subst hw1
        go_wp2_with fail
        go_quiet (fail)
        go_wp2_with fail
        refine bodyPost_ret (v:=.tuple #[.agg #[.int .i64 ev.t.K,.int .i64 ev.t.N,.slice ao len c],.int .i64 0]) (by simp [results,Try.results79,go_sem,z0,z1,z2]) rfl ⟨⟨ao,len,c,ev.t,0,rfl,?_,fun _=>⟨m,hm⟩⟩,HSET.out _ _ _ _ ⟨hXb.os,hXb.tape,hXb.output,hXb.size,hXb.block⟩⟩
        exact hsE.keep (fun k h1 h2=>(row_other _ _ _ (by omega)).trans ((row_other _ _ _ (by omega)).trans ((row_other _ _ _ (by omega)).trans (hXb.block k h2)))) (fun _ h _=>h) (by simp;omega)
      | false =>
        go_enter Try.func79,Try.ntmps79
        go_wp2_with fail
        rw [← HX.out]
        refine K.mono ?_
        rintro e w1 ⟨rfl,hw1⟩
        subst hw1
        go_wp2_with fail
        go_quiet (fail)
        go_upto_region 8 with fail
        obtain ⟨Y,hY⟩:∃ Y,Y=w1.drewN nq:=⟨_,rfl⟩
        have hYz:Y.heap.size=w1.heap.size:=by rw [hY];rfl
        have hYb:Below w.heap.size w Y:=by rw [hY];exact ⟨hXb.os,hXb.tape,hXb.output,hXb.size,hXb.block⟩
        have hY0:Y.heap[w.heap.size]?=some (.cells #[.int .i64 t.K,.int .i64 t.N,.string t.S,.string t.Z,.int .i64 t.T.K,.int .i64 t.T.N,.slice a1 l1 c1,.slice a2 l2 c2,.slice a3 l3 c3] 29 (0,0)):=by rw [hY];exact hX0
        have hY1:Y.heap[w.heap.size+1]?=some (.cells #[.int .i64 0,.int .i64 0,.slice none 0 0] 26 (0,0)):=by rw [hY];exact hX1
        have c2':Y.cell? ⟨b,o+j * 5+2,none⟩=some (.int .i64 ev.t.K):=by rw [hY];exact e2
        have c3':Y.cell? ⟨b,o+j * 5+3,none⟩=some (.int .i64 ev.t.N):=by rw [hY];exact e3
        have c4':Y.cell? ⟨b,o+j * 5+4,none⟩=some (.slice ao len c):=by rw [hY];exact e4
        rw [← hY]
        obtain ⟨u,hu⟩:∃ u,u=putV t.Ts 6 ev.t:=⟨_,rfl⟩
        obtain ⟨mu,hmu⟩:∃ mu,nodesW 12 u=some mu:=by rw [hu];exact nodesW_putV (fun s hs=>okT_some (hT s hs)) 6 ev.t m hm
        have HLq:Hid (∀ W:World,Below Y.heap.size Y W→Calls Try.prog 91 #[.agg #[.int .i64 ev.t.K,.int .i64 ev.t.N,.slice ao len c],.slice a2 l2 c2] W fun e w'=>∃ ya yl yc,e=.returned (.agg #[.int .i64 u.K,.int .i64 u.N,.slice ya yl yc])∧Below W.heap.size W w'∧OwR W.heap.size w'.heap.size w' (6+D) ya yl u.A):=fun W hb=>by
          have hWw:Below w.heap.size w W:=hYb.trans (hb.mono (by omega))
          have hz:=hWw.size
          have:=lq_any 6 14 D (p+1) w.heap.size L B ev.t.K ev.t.N ao len c ev.t.A a2 l2 c2 t.Ts m W hz ((hsE.hs hPp).keep (fun k _ hk=>hWw.block k hk) (Nat.le_refl _) (Nat.le_refl _)) (by omega) (hf.t2.keep (fun k _ hk=>hWw.block k (by omega)) (Nat.le_refl _) (Nat.le_refl _)) (by rw [tr_eta];exact hm) hcn
          rw [tr_eta,← hu] at this
          exact this
        have HS8:Hid (∀ W:World,Below Y.heap.size Y W→W.cell? ⟨b,o+j * 5+2,none⟩=some (.int .i64 ev.t.K)∧W.cell? ⟨b,o+j * 5+3,none⟩=some (.int .i64 ev.t.N)∧W.cell? ⟨b,o+j * 5+4,none⟩=some (.slice ao len c)∧W.cell? ⟨w.heap.size,7,none⟩=some (.slice a2 l2 c2)):=fun W hb=>⟨(bcell hb (by omega) _).trans c2',(bcell hb (by omega) _).trans c3',(bcell hb (by omega) _).trans c4',row_cell ((hb.block w.heap.size (by omega)).trans hY0) 7⟩
        have g0:Below Y.heap.size Y Y.drew:=(Below.refl _ _).drew
        have g0a:∀ o,Below Y.heap.size Y (Y.alloc o).drew:=fun o=>((Below.refl _ _).alloc (Nat.le_refl _) _).drew
        have hA:((Y.alloc (.cells #[.int .i64 0,.int .i64 0,.slice none 0 0] 26)).drew).heap[Y.heap.size]?=some (.cells #[.int .i64 0,.int .i64 0,.slice none 0 0] 26 (0,0)):=by show (Y.alloc _).heap[_]?=_;exact heap_new rfl
        have hA7:Y.heap.size≠w.heap.size:=by omega
        have hAb:Y.heap.size≠b:=by omega
        have HSU:Hid (∀ W:World,Below Y.heap.size Y W→∀ x y z:Value,(((W.setCell ⟨Y.heap.size,0,none⟩ x).setCell ⟨Y.heap.size,1,none⟩ y).setCell ⟨Y.heap.size,2,none⟩ z).cell? ⟨b,o+j * 5+2,none⟩=some (.int .i64 ev.t.K)∧(((W.setCell ⟨Y.heap.size,0,none⟩ x).setCell ⟨Y.heap.size,1,none⟩ y).setCell ⟨Y.heap.size,2,none⟩ z).cell? ⟨b,o+j * 5+3,none⟩=some (.int .i64 ev.t.N)∧(((W.setCell ⟨Y.heap.size,0,none⟩ x).setCell ⟨Y.heap.size,1,none⟩ y).setCell ⟨Y.heap.size,2,none⟩ z).cell? ⟨b,o+j * 5+4,none⟩=some (.slice ao len c)∧(((W.setCell ⟨Y.heap.size,0,none⟩ x).setCell ⟨Y.heap.size,1,none⟩ y).setCell ⟨Y.heap.size,2,none⟩ z).cell? ⟨w.heap.size,7,none⟩=some (.slice a2 l2 c2)):=fun W hb x y z=>HS8.out _ (((hb.setCell (p:=⟨Y.heap.size,0,none⟩) (Nat.le_refl _) _).setCell (p:=⟨Y.heap.size,1,none⟩) (Nat.le_refl _) _).setCell (p:=⟨Y.heap.size,2,none⟩) (Nat.le_refl _) _)
        clear hu hY K x0 x1 x2 x3 x4 x5 x6 x7 x8 z0 z1 z2 zf e1 e2 e3 e4 hYz
        go_cut [9] from 38 to 45 (fun v wx=>∃ (q:Nat) (ya:Option Addr) (yl yc:Nat),v=.pointer (some ⟨q,0,none⟩)∧Y.heap.size≤q∧Below Y.heap.size Y wx∧wx.heap[q]?=some (.cells #[.int .i64 u.K,.int .i64 u.N,.slice ya yl yc] 26 (0,0))∧Hs Y.heap.size wx.heap.size wx (6+D) ya yl u.A)
        case first =>
          go_wp2_with fail
          go_region_held3 (fun W=>W.cell? ⟨b,o+j * 5+2,none⟩=some (.int .i64 ev.t.K)∧W.cell? ⟨b,o+j * 5+3,none⟩=some (.int .i64 ev.t.N)∧W.cell? ⟨b,o+j * 5+4,none⟩=some (.slice ao len c)∧W.cell? ⟨w.heap.size,7,none⟩=some (.slice a2 l2 c2))
            (first | with_reducible exact HSU.out _ g2 _ _ _ | with_reducible exact HS8.out _ (g2a _) | with_reducible exact HS8.out _ g2 | with_reducible exact HS8.out _ (g0a _) | with_reducible exact HS8.out _ g0)
            (first
              | (go_at_call 91;refine (HLq.out _ (g0a _)).mono ?_;rintro e v2 ⟨ya,yl,yc,rfl,hbv,hoT⟩;have g2:Below Y.heap.size Y v2:=(g0a _).trans (hbv.mono (g0a _).size);have g2a:∀ o,Below Y.heap.size Y (v2.alloc o):=(fun o=>g2.alloc g2.size _);have bq:=(hbv.block Y.heap.size (by simp)).trans hA;obtain ⟨n0,n1,n2⟩:=box_cells bq;have nf:=row_free bq)
              | (go_at_call 91;refine (HLq.out _ g0).mono ?_;rintro e v2 ⟨ya,yl,yc,rfl,hbv,hoT⟩;have g2:Below Y.heap.size Y v2:=g0.trans (hbv.mono g0.size);have g2a:∀ o,Below Y.heap.size Y (v2.alloc o):=(fun o=>g2.alloc g2.size _)))
          · go_wp2_with fail
            go_meet
            exact ⟨v2.heap.size,ya,yl,yc,rfl,g2.size,g2a _,heap_new rfl,hoT.hs.keep (fun k _ hk=>Below.heap_alloc _ _ _ hk) (Nat.le_refl _) (by simp)⟩
          · go_wp2_with fail
            go_meet
            exact ⟨Y.heap.size,ya,yl,yc,rfl,Nat.le_refl _,((g2.setCell (p:=⟨Y.heap.size,0,none⟩) (Nat.le_refl _) _).setCell (p:=⟨Y.heap.size,1,none⟩) (Nat.le_refl _) _).setCell (p:=⟨Y.heap.size,2,none⟩) (Nat.le_refl _) _,set3_box bq _ _ _,hoT.hs.keep (fun k h1 h2=>(row_other _ _ _ (by simp at h1;omega)).trans ((row_other _ _ _ (by simp at h1;omega)).trans (row_other _ _ _ (by simp at h1;omega)))) (by simp) (by simp)⟩
        case rest =>
          obtain ⟨q,ya,yl,yc,rfl,hqY,hbc,hq,hHq⟩:=hcut
          have hzc:=hbc.size
          have hql:q < wc.heap.size:=(Array.getElem?_eq_some_iff.1 hq).1
          obtain ⟨y0,y1,y2⟩:=box_cells hq
          have K2:=lv_any 12 (6+D) Y.heap.size wc.heap.size u.K u.N ya yl yc u.A mu wc (Nat.le_refl _) hHq (by rw [tr_eta];exact hmu)
          obtain ⟨V,hV⟩:∃ V:Int,V=(varsW 12 ⟨u.K,u.N,u.A⟩:Int):=⟨_,rfl⟩
          rw [← hV] at K2
          clear hV HS8 HSU HLq g0 g0a hA
          go_wp2_with fail
          refine K2.mono ?_
          rintro e w2 ⟨rfl,hb2⟩
          clear K2
          have hz2:=hb2.size
          have hbY2:Below Y.heap.size Y w2:=hbc.trans (hb2.mono (by omega))
          have hbw2:Below w.heap.size w w2:=hYb.trans (hbY2.mono (by have:=hYb.size;omega))
          have r1:=(hbY2.block (w.heap.size+1) (by have:=(Array.getElem?_eq_some_iff.1 hY1).1;omega)).trans hY1
          obtain ⟨z0,z1,z2⟩:=box_cells r1
          have zf:=row_free r1
          clear y0 y1 y2
          obtain ⟨y0,y1,y2⟩:=box_cells ((hb2.block q hql).trans hq)
          by_cases hgt:vs < V
          · go_wp2_with fail
            exact bodyPost_ret (v:=.tuple #[.agg #[.int .i64 0,.int .i64 0,.slice none 0 0],.int .i64 4]) (by simp [results,Try.results79,go_sem,z0,z1,z2]) rfl ⟨CkQ.bad _ _ _ (by omega),HSET.out _ _ _ _ hbw2⟩
          · have hHq2:Hs Y.heap.size wc.heap.size w2 (6+D) ya yl u.A:=hHq.keep (fun k _ hk=>hb2.block k hk) (Nat.le_refl _) (Nat.le_refl _)
            go_wp2_with fail
            refine (l3Good_any (6+D) Y.heap.size wc.heap.size u ya yl yc w2 hz2 hHq2).mono ?_
            rintro e w3 ⟨hr,hb3⟩
            have hz3:=hb3.size
            have hbw3:Below w.heap.size w w3:=hbw2.trans (hb3.mono (by have:=hbw2.size;omega))
            have r3:=(hb3.block (w.heap.size+1) ((Array.getElem?_eq_some_iff.1 r1).1)).trans r1
            clear z0 z1 z2 zf y0 y1 y2
            obtain ⟨z0,z1,z2⟩:=box_cells r3
            have zf:=row_free r3
            rcases hr with ⟨hok,rfl⟩ | rfl
            · go_wp2_with fail
              obtain ⟨m6,h6⟩:=okT_some hok
              refine bodyPost_ret (v:=.tuple #[.agg #[.int .i64 u.K,.int .i64 u.N,.slice ya yl yc],.int .i64 0]) (by simp [results,Try.results79,go_sem,z0,z1,z2]) rfl ⟨⟨ya,yl,yc,u,0,rfl,?_,fun _=>⟨m6,h6⟩⟩,HSET.out _ _ _ _ hbw3⟩
              have hY1l:w.heap.size+1 < Y.heap.size:=(Array.getElem?_eq_some_iff.1 hY1).1
              exact HsQ.of (L:=Y.heap.size) (B:=wc.heap.size) (fun k h1 _=>hPn k (by omega)) (by simp;omega) (((hs_low 5 u m6 h6 hHq2).deeper (by omega)).keep (fun k h1 h2=>(row_other _ _ _ (by omega)).trans ((row_other _ _ _ (by omega)).trans ((row_other _ _ _ (by omega)).trans (hb3.block k (by omega))))) (Nat.le_refl _) (Nat.le_refl _))
            · go_wp2_with fail
              exact bodyPost_ret (v:=.tuple #[.agg #[.int .i64 0,.int .i64 0,.slice none 0 0],.int .i64 3]) (by simp [results,Try.results79,go_sem,z0,z1,z2]) rfl ⟨CkQ.bad _ _ _ (by omega),HSET.out _ _ _ _ hbw3⟩
end Go.Proofs.Ytleghjgpnefliaa

/-
  What is said of the model's 'l3Type', by the depth of the term.
-/
namespace Go.Proofs.Ytleghjgpnefliaa
open Go.RowKit
set_option linter.unusedVariables false
def SaidTp (n:Nat):Prop:=∀ (P:Nat→Prop) (p L B D d m:Nat) (t:Tm) (a1:Option Addr) (l1 c1:Nat) (a2:Option Addr) (l2 c2:Nat) (a3:Option Addr) (l3 c3:Nat) (v:Value) (es:List Ev) (vs:Int) (w:World),p < w.heap.size→(∀ k,P k→p+1≤k)→(∀ k,w.heap.size≤k→P k)→(∀ k,L≤k→k < B→P k)→B≤w.heap.size→D≤14→Fm L B w D d t a1 l1 a2 l2 a3 l3→nodesM n t=some m→EnQ P w 14 v es→(∀ e ∈ es,∃ m,nodesW 6 e.t=some m)→es.length+2 * n≤900 →
    Calls Try.prog 61 #[.agg #[.int .i64 t.K,.int .i64 t.N,.string t.S,.string t.Z,.int .i64 t.T.K,.int .i64 t.T.N,.slice a1 l1 c1,.slice a2 l2 c2,.slice a3 l3 c3],v,.int .i64 vs] w fun e w'=>CkQ P e w'∧Below w.heap.size w w'
end Go.Proofs.Ytleghjgpnefliaa
