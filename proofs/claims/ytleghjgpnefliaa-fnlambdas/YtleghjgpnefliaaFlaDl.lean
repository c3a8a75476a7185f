/-
  What the model's 'l3Leaf' comes to: some small term, in new memory; the cursor is moved on.
-/
import Derived.Test.YtleghjgpnefliaaFlaZ9
import Derived.Test.YtleghjgpnefliaaFlaZ10
import Derived.Test.YtleghjgpnefliaaFlaZ3
import Derived.Test.YtleghjgpnefliaaFlaZ13
import Derived.Test.YtleghjgpnefliaaFlaZ12
import Derived.Deep.RegionHeld3
import Derived.Deep.CutRange
namespace Go.Proofs.Ytleghjgpnefliaa
open Go.RowKit
set_option linter.unusedVariables false
set_option linter.unusedSimpArgs false
def SaidLeaf (k:Nat):Prop:=∀ (p:Nat) (cao:Option Addr) (clen ccap:Nat) (wv:Value) (t:Tr) (v:Value) (es:List Ev) (w:World),Cur w p cao clen ccap→Ty2 w p k wv t→En2 w p 14 v es→es.length+k≤600 →
    Calls Try.prog 41 #[.pointer (some ⟨p,0,none⟩),wv,v] w fun e w'=>∃ rv tm,e=.returned rv∧TmV w' w.heap.size 14 (k+1) rv tm∧Drw w w' p cao clen ccap
theorem same_bool (t u:Tr):∃ b:Bool,(b=true ↔ t=u):=by
  by_cases h:t=u
  · exact ⟨true,by simp [h]⟩
  · exact ⟨false,by simp [h]⟩
theorem nodes_cntT:∀ (l:Nat) (t:Tr) (m:Nat),nodesW l t=some m→cnt t=m:=by
  intro l
  induction l with
  | zero=>intro t m h;simp [nodesW] at h
  | succ l ih =>
    intro t m h
    have key:∀ (ts:List Tr) (a:Nat),nodesL (nodesW l) ts=some a→cntS ts=a:=by
      intro ts
      induction ts with
      | nil=>intro a h;simp [nodesL] at h;simp [cntS,h]
      | cons u ts ih2 =>
        intro a h
        simp only [nodesL] at h
        cases hu:nodesW l u with
        | none=>simp [hu] at h
        | some x =>
          cases hl:nodesL (nodesW l) ts with
          | none=>simp [hu,hl] at h
          | some y =>
            simp [hu,hl] at h
            have h1:=ih u x hu
            have h2:=ih2 y hl
            simp only [cntS,List.map_cons,List.sum_cons] at *
            omega
    rw [nodesW] at h
    split at h
    · cases hl:nodesL (nodesW l) t.A with
      | none=>simp [hl] at h
      | some y =>
        simp [hl] at h
        rw [cnt_eq,key _ _ hl,← h]
    · cases h
set_option maxRecDepth 100000 in
set_option maxHeartbeats 4000000 in
theorem leaf_step (k:Nat) (hk14:k≤14) (IH:∀ j,j < k→SaidLeaf j):SaidLeaf k:=by
  intro p cao clen ccap wv t v es w hc hwv hv hlen
  have hp:=hc.lt
  obtain ⟨⟨ao,len,cap,rfl,hs⟩,m,hm⟩:=hwv
  obtain ⟨ae,ce,rfl⟩:=hv.1.form
  obtain ⟨X,hX⟩:∃ X,X=(w.alloc (.cells #[.int .i64 t.K,.int .i64 t.N,.slice ao len cap] 26)).alloc (.cells #[.int .i64 0,.int .i64 0,.string ⟨#[]⟩,.string ⟨#[]⟩,.int .i64 0,.int .i64 0,.slice none 0 0,.slice none 0 0,.slice none 0 0] 29):=⟨_,rfl⟩
  have hXs:X.heap.size=w.heap.size+2:=by rw [hX];simp
  have hXb:Below w.heap.size w X:=by rw [hX];exact ((Below.refl _ _).alloc (Nat.le_refl _) _).alloc (by simp) _
  have hX0:X.heap[w.heap.size]?=some (.cells #[.int .i64 t.K,.int .i64 t.N,.slice ao len cap] 26 (0,0)):=by rw [hX,Below.heap_alloc _ _ _ (by simp)];exact heap_new rfl
  have hX1:X.heap[w.heap.size+1]?=some (.cells #[.int .i64 0,.int .i64 0,.string ⟨#[]⟩,.string ⟨#[]⟩,.int .i64 0,.int .i64 0,.slice none 0 0,.slice none 0 0,.slice none 0 0] 29 (0,0)):=by rw [hX];exact heap_new (by simp)
  have hcX:=hc.below hXb
  have hgX:w.grownBy X (some p):=grown_below _ hXb
  have hsX:Hs (p+1) X.heap.size X k ao len t.A:=hs_up hs hXb
  have hvX:=hv.grown hgX
  have HX:Hid (X=_):=hX
  obtain ⟨n,hn⟩:∃ n,n=es.length:=⟨_,rfl⟩
  have HN:Hid (n=es.length):=hn
  rw [← hn] at hlen ⊢
  clear hX hn
  go_enter Try.func41,Try.ntmps41
  go_wp2_with fail
  rw [← HX.out]
  go_loopw [7] (fun i wr=>∃ j:Nat,j≤n∧i=.int .i64 ((j:Int) - 1)∧Drw X wr p cao clen ccap) (fun i _=>(intOf i+1).toNat)
  case atStart=>exact ⟨n,Nat.le_refl _,rfl,⟨grown_refl' _ _,hcX⟩⟩
  case round =>
    obtain ⟨j,hj,rfl,hD⟩:=hrel
    have hzr:=hD.grown.size
    have b0:=(hD.grown.block w.heap.size (by omega) (by simp;omega)).trans hX0
    have r0:=(hD.grown.block (w.heap.size+1) (by omega) (by simp;omega)).trans hX1
    obtain ⟨x0,x1,x2⟩:=box_cells b0
    cases j with
    | zero =>
      have hcur:=hD.cur
      have hgw:w.grownBy wr (some p):=grown_trans' hgX hD.grown
      have hk1:1≤k:=by cases k with | zero=>simp [nodesW] at hm | succ k=>omega
      obtain ⟨k',rfl⟩:∃ k',k=k'+1:=⟨k - 1,by omega⟩
      have hm':nodesW (k'+1) ⟨t.K,t.N,t.A⟩=some m:=by rw [tr_eta];exact hm
      obtain ⟨hnk,hparts⟩:=nodesW_inv hm'
      have hcnt:=nodes_cntT _ _ _ hm
      rw [cnt_eq] at hcnt
      have hmlt:=nodesW_lt _ _ _ hm
      have hpow:2 ^ (k'+1)≤16384:=by
        have:2 ^ (k'+1)≤2 ^ 14:=Nat.pow_le_pow_right (by omega) hk14
        simpa using this
      have hsr:Hs (p+1) wr.heap.size wr (k'+1) ao len t.A:=hsX.keep (fun q hq1 hq2=>hD.grown.block q hq2 (by simp;omega)) (Nat.le_refl _) hzr
      have hKc:t.K=1∨t.K=2∨t.K=3∨t.K=4∨t.K=5∨t.K=6:=by
        have hp1:=(nodeOk_parts hnk).1
        have:parts t.K≠-1:=by omega
        unfold parts at this
        (repeat' split at this) <;> omega
      have HR:Hid (∀ W:World,wr.grownBy W (some p)→W.heap[w.heap.size+1]?=some (.cells #[.int .i64 0,.int .i64 0,.string ⟨#[]⟩,.string ⟨#[]⟩,.int .i64 0,.int .i64 0,.slice none 0 0,.slice none 0 0,.slice none 0 0] 29 (0,0))):=fun W hg=>(hg.block _ (by omega) (by simp;omega)).trans r0
      have HDr:Hid (∀ W:World,wr.grownBy W (some p)→Cur W p cao clen ccap→Drw w W p cao clen ccap):=fun W hg hcu=>⟨grown_trans' hgw hg,hcu⟩
      have hrp:w.heap.size+1 < wr.heap.size:=by omega
      have HK:=hKc
      clear hKc hm' hm
      rcases HK with hK | hK | hK | hK | hK | hK
      · rw [hK] at x0
        have hba:Below wr.heap.size wr (wr.alloc (.cells #[.int .i64 0,.int .i64 1,.int .i64 2,.int .i64 5,.int .i64 (-3),.int .i64 1000000] 3)):=(Below.refl _ _).alloc (Nat.le_refl _) _
        go_wp2_with fail
        refine (l1Int_any p cao clen ccap wr.heap.size 6 6 [0,1,2,5,-3,1000000] _ (hcur.below hba) (heap_new rfl) (by omega) rfl (by omega) (by omega)).mono ?_
        rintro e w1 ⟨z,rfl,_,hD1⟩
        have g1:wr.grownBy w1 (some p):=grown_trans' (grown_below _ hba) hD1.grown
        go_wp2_with fail
        refine (l3N_any w1.heap.size 14 (k'+1+1) z w1).mono ?_
        rintro e w2 ⟨rv,rfl,⟨q1,q2,q3,q4,q5,q6,q7,q8,q9,rfl,hF⟩,hb2⟩
        have g2:wr.grownBy w2 (some p):=grown_trans' g1 (grown_below _ hb2)
        have r2:=HR.out w2 g2
        have hz2:=g1.size
        obtain ⟨y0,y1,y2,y3,y4,y5,y6,y7,y8⟩:=Nine.box r2
        have yf:=row_free r2
        go_wp2_with fail
        have fin:=fin_term (w:=w) (r:=w.heap.size+1) (c1:=q3) (c2:=q6) (c3:=q9) hF (by omega) (by omega) hp (HDr.out w2 g2 (hD1.cur.below hb2))
        exact bodyPost_ret (v:=.agg #[.int .i64 1,.int .i64 z,.string ⟨#[]⟩,.string ⟨#[]⟩,.int .i64 0,.int .i64 0,.slice q1 q2 q3,.slice q4 q5 q6,.slice q7 q8 q9]) (by simp [results,Try.results41,go_sem,y0,y1,y2,y3,y4,y5,y6,y7,y8]) rfl ⟨_,_,rfl,fin.1,fin.2⟩
      · rw [hK] at x0
        go_wp2_with fail
        refine (l1Below_any p cao clen ccap 2 _ hcur (by omega) (by omega)).mono ?_
        rintro e w2 ⟨z,rfl,_,_,hD1⟩
        have r2:=HR.out w2 hD1.grown
        have hz2:=hD1.grown.size
        obtain ⟨y0,y1,y2,y3,y4,y5,y6,y7,y8⟩:=Nine.box r2
        have yf:=row_free r2
        go_wp2_with fail
        have hF:Fm w2.heap.size w2.heap.size w2 14 (k'+1+1) ⟨2,z,⟨#[]⟩,⟨#[]⟩,⟨0,0,[]⟩,[],[]⟩ none 0 none 0 none 0:=⟨Nat.zero_le _,Nat.zero_le _,Hs.nil _ _ _ _ _,Hs.nil _ _ _ _ _,Hm.nil _ _ _ _ _ _⟩
        have fin:=fin_term (w:=w) (r:=w.heap.size+1) (c1:=0) (c2:=0) (c3:=0) hF (by omega) (by omega) hp (HDr.out w2 hD1.grown hD1.cur)
        exact bodyPost_ret (v:=.agg #[.int .i64 2,.int .i64 z,.string ⟨#[]⟩,.string ⟨#[]⟩,.int .i64 0,.int .i64 0,.slice none 0 0,.slice none 0 0,.slice none 0 0]) (by simp [results,Try.results41,go_sem,y0,y1,y2,y3,y4,y5,y6,y7,y8]) rfl ⟨_,_,rfl,fin.1,fin.2⟩
      · rw [hK] at x0
        go_wp2_with fail
        refine (lc_any (k'+1) _ _ 3 t.N ao len cap t.A wr (Nat.le_refl _) hsr (by omega)).mono ?_
        rintro e w1 ⟨ao2,len2,cap2,rfl,hb1,ho1⟩
        have g1:wr.grownBy w1 (some p):=grown_below _ hb1
        go_wp2_with fail
        refine (l3N_any w1.heap.size 14 0 3 w1).mono ?_
        rintro e w2 ⟨rv,rfl,⟨q1,q2,q3,q4,q5,q6,q7,q8,q9,rfl,hF⟩,hb2⟩
        have g2:wr.grownBy w2 (some p):=grown_trans' g1 (grown_below _ hb2)
        have r2:=HR.out w2 g2
        have hz1:=hb1.size
        have hz2:=hb2.size
        obtain ⟨y0,y1,y2,y3,y4,y5,y6,y7,y8⟩:=Nine.box r2
        have yf:=row_free r2
        have hrl:w.heap.size+1 < w2.heap.size:=by omega
        have hba:Below w2.heap.size w2 (w2.alloc (.cells #[.int .i64 1,.int .i64 3,.string ⟨#[]⟩,.string ⟨#[]⟩,.int .i64 0,.int .i64 0,.slice q1 q2 q3,.slice q4 q5 q6,.slice q7 q8 q9] 29)):=(Below.refl _ _).alloc (Nat.le_refl _) _
        go_wp2_with fail
        have hsT:Hs wr.heap.size (w2.alloc (.cells #[.int .i64 1,.int .i64 3,.string ⟨#[]⟩,.string ⟨#[]⟩,.int .i64 0,.int .i64 0,.slice q1 q2 q3,.slice q4 q5 q6,.slice q7 q8 q9] 29)).heap.size (w2.alloc (.cells #[.int .i64 1,.int .i64 3,.string ⟨#[]⟩,.string ⟨#[]⟩,.int .i64 0,.int .i64 0,.slice q1 q2 q3,.slice q4 q5 q6,.slice q7 q8 q9] 29)) 14 ao2 len2 t.A:=(ho1.hs.keep (fun q _ hq=>(hba.block q (by omega)).trans (hb2.block q hq)) (Nat.le_refl _) (by have:=hba.size;omega)).deeper hk14
        have fin:=fin_alloc (w:=w) (w3:=w2) (O:=.cells #[.int .i64 1,.int .i64 3,.string ⟨#[]⟩,.string ⟨#[]⟩,.int .i64 0,.int .i64 0,.slice q1 q2 q3,.slice q4 q5 q6,.slice q7 q8 q9] 29) (r:=w.heap.size+1) (L:=wr.heap.size) (D:=14) (d:=k'+1+1) (t:=⟨16,0,⟨#[]⟩,⟨#[]⟩,⟨3,t.N,t.A⟩,[],[⟨1,3,⟨#[]⟩,⟨#[]⟩,⟨0,0,[]⟩,[],[]⟩]⟩) (a1:=ao2) (l1:=len2) (c1:=cap2) (a2:=none) (l2:=0) (c2:=0) (a3:=some ⟨w2.heap.size,0,none⟩) (l3:=1) (c3:=1)
          ⟨Nat.zero_le _,Nat.zero_le _,hsT,Hs.nil _ _ _ _ _,(hm_new1 (L:=wr.heap.size) (Fm.keep (fun _ _ _=>rfl) (by omega) (Nat.le_refl _) hF) (by omega)).deeper (by omega) (Nat.le_refl _)⟩ (by omega) (by omega) hp (HDr.out w2 g2 (hcur.below (hb1.trans (hb2.mono hb1.size))))
        exact bodyPost_ret (v:=.agg #[.int .i64 16,.int .i64 0,.string ⟨#[]⟩,.string ⟨#[]⟩,.int .i64 3,.int .i64 t.N,.slice ao2 len2 cap2,.slice none 0 0,.slice (some ⟨w2.heap.size,0,none⟩) 1 1]) (by simp [results,Try.results41,go_sem,y0,y1,y2,y3,y4,y5,y6,y7,y8,hrl]) rfl ⟨_,_,rfl,fin.1,fin.2⟩
      · rw [hK] at x0
        have hlen2:len=2:=by have h1:=hsr.len.1;have h2:=(nodeOk_parts hnk).1;rw [hK] at h2;simp [parts] at h2;omega
        have hA0:0 < t.A.length:=by have h1:=hsr.len.1;omega
        have hA1:1 < t.A.length:=by have h1:=hsr.len.1;omega
        obtain ⟨b,o,rfl,hb1,hb2,f1,m1,g1,z0,z1,z2,hp0⟩:=hs.get 0 hA0
        obtain ⟨b',o',e',_,_,f2,m2,g2,z3,z4,z5,hp1⟩:=hs.get 1 hA1
        injection e' with e'
        injection e' with e1 e2
        subst e1 e2
        rw [Nat.zero_mul,Nat.add_zero] at z0 z1 z2
        rw [Nat.one_mul] at z3 z4 z5
        obtain ⟨n0,hn0⟩:=hparts 0 hA0
        obtain ⟨n1,hn1⟩:=hparts 1 hA1
        have HS:Hid (∀ w':World,wr.grownBy w' (some p)→w'.cell? ⟨w.heap.size,2,none⟩=some (.slice (some ⟨b,o,none⟩) len cap)∧w'.cell? ⟨b,o,none⟩=some (.int .i64 t.A[0].K)∧w'.cell? ⟨b,o+1,none⟩=some (.int .i64 t.A[0].N)∧w'.cell? ⟨b,o+2,none⟩=some (.slice f1 m1 g1)∧w'.cell? ⟨b,o+3,none⟩=some (.int .i64 t.A[1].K)∧w'.cell? ⟨b,o+3+1,none⟩=some (.int .i64 t.A[1].N)∧w'.cell? ⟨b,o+3+2,none⟩=some (.slice f2 m2 g2)):=by
          intro w' hg
          have k1:w'.heap[b]?=w.heap[b]?:=(grown_trans' hgw hg).block b hb2 (by simp;omega)
          have k2:w'.heap[w.heap.size]?=wr.heap[w.heap.size]?:=hg.block _ (by omega) (by simp;omega)
          exact ⟨(World.cell?_of_block k2).trans x2,(World.cell?_of_block k1).trans z0,(World.cell?_of_block k1).trans z1,(World.cell?_of_block k1).trans z2,(World.cell?_of_block k1).trans z3,(World.cell?_of_block k1).trans z4,(World.cell?_of_block k1).trans z5⟩
        have HCp:Hid (∀ W:World,wr.grownBy W (some p)→Calls Try.prog 63 #[.agg #[.int .i64 t.A[0].K,.int .i64 t.A[0].N,.slice f1 m1 g1]] W fun e w'=>∃ ao2 len2 cap2,e=.returned (.agg #[.int .i64 t.A[0].K,.int .i64 t.A[0].N,.slice ao2 len2 cap2])∧Below W.heap.size W w'∧OwR W.heap.size w'.heap.size w' k' ao2 len2 t.A[0].A):=fun W hg =>
          lc_any k' _ _ _ _ _ _ _ _ W (Nat.le_refl _) (hp0.keep (fun q hq1 hq2=>(grown_trans' hgw hg).block q hq2 (by simp;omega)) (Nat.le_refl _) (grown_trans' hgw hg).size) (by have:=cntS_get t.A 0 hA0;omega)
        have HWi:Hid (∀ (W:World) (s:ByteArray),wr.grownBy W (some p)→s.size=1→Calls Try.prog 59 #[.slice ae n ce,.string s,.int .i64 0,.agg #[.int .i64 t.A[0].K,.int .i64 t.A[0].N,.slice f1 m1 g1]] W fun e w'=>∃ v',e=.returned v'∧En2 w' p 14 v' (es ++ [⟨s,0,t.A[0]⟩])∧Below W.heap.size W w'):=by
          intro W s hg hs1
          have hvW:=(hvX.grown hD.grown).grown hg
          rw [← HN.out] at hvW
          have hz:=(grown_trans' hgw hg).size
          refine (l3With_any p 14 _ es s 0 _ t.A[0] W (by omega) hvW.1 ⟨f1,m1,g1,rfl,(hp0.keep (fun q hq1 hq2=>(grown_trans' hgw hg).block q hq2 (by simp;omega)) (Nat.le_refl _) (grown_trans' hgw hg).size).deeper (by omega)⟩ (by have:=HN.out;omega)).mono ?_
          rintro e w' ⟨v',rfl,hE,hb⟩
          refine ⟨v',rfl,⟨hE,fun e he=>?_⟩,hb⟩
          rcases List.mem_append.1 he with he | he
          · exact hvW.2 e he
          · rw [List.mem_singleton.1 he]
            exact ⟨⟨n0,nodesW_le (by omega) hn0⟩,Or.inl rfl,by show s.size≤8;omega⟩
        have HL1:Hid (∀ (W:World) (s:ByteArray) (v':Value),wr.grownBy W (some p)→Cur W p cao clen ccap→En2 W p 14 v' (es ++ [⟨s,0,t.A[0]⟩])→Calls Try.prog 41 #[.pointer (some ⟨p,0,none⟩),.agg #[.int .i64 t.A[1].K,.int .i64 t.A[1].N,.slice f2 m2 g2],v'] W fun e w'=>∃ rv tm,e=.returned rv∧TmV w' W.heap.size 14 (k'+1) rv tm∧Drw W w' p cao clen ccap):=fun W s v' hg hcu hE =>
          IH k' (by omega) p cao clen ccap _ t.A[1] _ _ W hcu ⟨⟨f2,m2,g2,rfl,hp1.keep (fun q hq1 hq2=>(grown_trans' hgw hg).block q hq2 (by simp;omega)) (Nat.le_refl _) (grown_trans' hgw hg).size⟩,n1,hn1⟩ hE (by have:=HN.out;simp;omega)
        have hnb:b≠w.heap.size+1:=by omega
        have hnw:w.heap.size≠w.heap.size+1:=by omega
        subst hlen2
        generalize t.A[0]=u0 at *
        generalize t.A[1]=u1 at *
        clear hcnt hmlt hparts hnk hsr hn0 hn1
        have SF:Hid (∀ (W:World),wr.grownBy W (some p)→∀ (a0 a1 a2 a3 a4 a5 a6 a7 a8:Value) (O:Obj),((((((((((W.setCell ⟨w.heap.size+1,0,none⟩ a0).setCell ⟨w.heap.size+1,1,none⟩ a1).setCell ⟨w.heap.size+1,2,none⟩ a2).setCell ⟨w.heap.size+1,3,none⟩ a3).setCell ⟨w.heap.size+1,4,none⟩ a4).setCell ⟨w.heap.size+1,5,none⟩ a5).setCell ⟨w.heap.size+1,6,none⟩ a6).setCell ⟨w.heap.size+1,7,none⟩ a7).setCell ⟨w.heap.size+1,8,none⟩ a8).alloc O).cell? ⟨w.heap.size,2,none⟩=some (.slice (some ⟨b,o,none⟩) 2 cap)∧((((((((((W.setCell ⟨w.heap.size+1,0,none⟩ a0).setCell ⟨w.heap.size+1,1,none⟩ a1).setCell ⟨w.heap.size+1,2,none⟩ a2).setCell ⟨w.heap.size+1,3,none⟩ a3).setCell ⟨w.heap.size+1,4,none⟩ a4).setCell ⟨w.heap.size+1,5,none⟩ a5).setCell ⟨w.heap.size+1,6,none⟩ a6).setCell ⟨w.heap.size+1,7,none⟩ a7).setCell ⟨w.heap.size+1,8,none⟩ a8).alloc O).cell? ⟨b,o,none⟩=some (.int .i64 u0.K)∧((((((((((W.setCell ⟨w.heap.size+1,0,none⟩ a0).setCell ⟨w.heap.size+1,1,none⟩ a1).setCell ⟨w.heap.size+1,2,none⟩ a2).setCell ⟨w.heap.size+1,3,none⟩ a3).setCell ⟨w.heap.size+1,4,none⟩ a4).setCell ⟨w.heap.size+1,5,none⟩ a5).setCell ⟨w.heap.size+1,6,none⟩ a6).setCell ⟨w.heap.size+1,7,none⟩ a7).setCell ⟨w.heap.size+1,8,none⟩ a8).alloc O).cell? ⟨b,o+1,none⟩=some (.int .i64 u0.N)∧((((((((((W.setCell ⟨w.heap.size+1,0,none⟩ a0).setCell ⟨w.heap.size+1,1,none⟩ a1).setCell ⟨w.heap.size+1,2,none⟩ a2).setCell ⟨w.heap.size+1,3,none⟩ a3).setCell ⟨w.heap.size+1,4,none⟩ a4).setCell ⟨w.heap.size+1,5,none⟩ a5).setCell ⟨w.heap.size+1,6,none⟩ a6).setCell ⟨w.heap.size+1,7,none⟩ a7).setCell ⟨w.heap.size+1,8,none⟩ a8).alloc O).cell? ⟨b,o+2,none⟩=some (.slice f1 m1 g1)∧((((((((((W.setCell ⟨w.heap.size+1,0,none⟩ a0).setCell ⟨w.heap.size+1,1,none⟩ a1).setCell ⟨w.heap.size+1,2,none⟩ a2).setCell ⟨w.heap.size+1,3,none⟩ a3).setCell ⟨w.heap.size+1,4,none⟩ a4).setCell ⟨w.heap.size+1,5,none⟩ a5).setCell ⟨w.heap.size+1,6,none⟩ a6).setCell ⟨w.heap.size+1,7,none⟩ a7).setCell ⟨w.heap.size+1,8,none⟩ a8).alloc O).cell? ⟨b,o+3,none⟩=some (.int .i64 u1.K)∧((((((((((W.setCell ⟨w.heap.size+1,0,none⟩ a0).setCell ⟨w.heap.size+1,1,none⟩ a1).setCell ⟨w.heap.size+1,2,none⟩ a2).setCell ⟨w.heap.size+1,3,none⟩ a3).setCell ⟨w.heap.size+1,4,none⟩ a4).setCell ⟨w.heap.size+1,5,none⟩ a5).setCell ⟨w.heap.size+1,6,none⟩ a6).setCell ⟨w.heap.size+1,7,none⟩ a7).setCell ⟨w.heap.size+1,8,none⟩ a8).alloc O).cell? ⟨b,o+3+1,none⟩=some (.int .i64 u1.N)∧((((((((((W.setCell ⟨w.heap.size+1,0,none⟩ a0).setCell ⟨w.heap.size+1,1,none⟩ a1).setCell ⟨w.heap.size+1,2,none⟩ a2).setCell ⟨w.heap.size+1,3,none⟩ a3).setCell ⟨w.heap.size+1,4,none⟩ a4).setCell ⟨w.heap.size+1,5,none⟩ a5).setCell ⟨w.heap.size+1,6,none⟩ a6).setCell ⟨w.heap.size+1,7,none⟩ a7).setCell ⟨w.heap.size+1,8,none⟩ a8).alloc O).cell? ⟨b,o+3+2,none⟩=some (.slice f2 m2 g2)):=by
          intro W hg a0 a1 a2 a3 a4 a5 a6 a7 a8 O
          obtain ⟨v0,v1,v2,v3,v4,v5,v6⟩:=HS.out W hg
          have hz:=(grown_trans' hgw hg).size
          have hzz:=hg.size
          have kb:b < W.heap.size:=by omega
          have kw:w.heap.size < W.heap.size:=by omega
          exact ⟨(nest9_cell W (w.heap.size+1) a0 a1 a2 a3 a4 a5 a6 a7 a8 O w.heap.size 2 hnw kw).trans v0,(nest9_cell W (w.heap.size+1) a0 a1 a2 a3 a4 a5 a6 a7 a8 O b o hnb kb).trans v1,(nest9_cell W (w.heap.size+1) a0 a1 a2 a3 a4 a5 a6 a7 a8 O b (o+1) hnb kb).trans v2,(nest9_cell W (w.heap.size+1) a0 a1 a2 a3 a4 a5 a6 a7 a8 O b (o+2) hnb kb).trans v3,(nest9_cell W (w.heap.size+1) a0 a1 a2 a3 a4 a5 a6 a7 a8 O b (o+3) hnb kb).trans v4,(nest9_cell W (w.heap.size+1) a0 a1 a2 a3 a4 a5 a6 a7 a8 O b (o+3+1) hnb kb).trans v5,(nest9_cell W (w.heap.size+1) a0 a1 a2 a3 a4 a5 a6 a7 a8 O b (o+3+2) hnb kb).trans v6⟩
        go_wp2_with fail
        refine (l3Fresh_any p cao clen ccap wr hcur).mono ?_
        rintro e v1 ⟨s,rfl,hs1,hDf⟩
        have q0:wr.grownBy v1.drew (some p):=grown_trans' hDf.grown (grown_below _ ((Below.refl _ _).drew))
        have hc0:Cur v1.drew p cao clen ccap:=hDf.cur.keep (w':=v1.drew) (fun _ _=>rfl)
        have HS1:Hid (s.size=1):=hs1
        clear hs1
        obtain ⟨d0,d1,d2,d3,d4,d5,d6⟩:=HS.out v1 hDf.grown
        go_wp2_with fail
        go_region_held3 (fun w'=>w'.cell? ⟨w.heap.size,2,none⟩=some (.slice (some ⟨b,o,none⟩) 2 cap)∧w'.cell? ⟨b,o,none⟩=some (.int .i64 u0.K)∧w'.cell? ⟨b,o+1,none⟩=some (.int .i64 u0.N)∧w'.cell? ⟨b,o+2,none⟩=some (.slice f1 m1 g1)∧w'.cell? ⟨b,o+3,none⟩=some (.int .i64 u1.K)∧w'.cell? ⟨b,o+3+1,none⟩=some (.int .i64 u1.N)∧w'.cell? ⟨b,o+3+2,none⟩=some (.slice f2 m2 g2))
          (first | with_reducible exact HS.out _ (q3a _) | with_reducible exact HS.out _ q3 | with_reducible exact HS.out _ q2 | with_reducible exact HS.out _ q1 | with_reducible exact HS.out _ q0 | with_reducible exact SF.out _ q3 _ _ _ _ _ _ _ _ _ _)
          (first
            | (go_at_call 41;refine (HL1.out _ _ _ q2 hc2 hE2).mono ?_;rintro e w2 ⟨rv2,tm2,rfl,⟨b1,n1,e1,b2,n2,e2,b3,n3,e3,rfl,hF2⟩,hD2⟩;have q3:wr.grownBy w2 (some p):=grown_trans' q2 hD2.grown;have q3a:∀ o,wr.grownBy (w2.alloc o) (some p):=fun o=>grown_trans' q3 (grown_below _ ((Below.refl _ _).alloc (Nat.le_refl _) _));have hrl:w.heap.size+1 < w2.heap.size:=Nat.lt_of_lt_of_le hrp q3.size;obtain ⟨v0,v1,v2,v3,v4,v5,v6⟩:=HS.out _ q3;have r2:=HR.out w2 q3;obtain ⟨y0,y1,y2,y3,y4,y5,y6,y7,y8⟩:=Nine.box r2;have yf:=row_free r2;have hbl2:b < w2.heap.size:=Nat.lt_of_lt_of_le hb2 (Nat.le_trans hgw.size q3.size);have hwl2:w.heap.size < w2.heap.size:=Nat.lt_of_succ_lt hrl)
            | (go_at_call 59;refine (HWi.out _ _ q1 HS1.out).mono ?_;rintro e v3 ⟨v',rfl,hE2,hb3⟩;have q2:wr.grownBy v3 (some p):=grown_trans' q1 (grown_below _ hb3);have hc2:=hc1.below hb3)
            | (go_at_call 63;refine (HCp.out _ q0).mono ?_;rintro e v2 ⟨ao2,len2,cap2,rfl,hb1',ho1⟩;have q1:wr.grownBy v2 (some p):=grown_trans' q0 (grown_below _ hb1');have hc1:=hc0.below hb1'))
        all_goals
          go_wp2_with fail
          have hzq0:=q0.size
          have hzq1:=q1.size
          have hzq2:=q2.size
          have hzb3:=hb3.size
          have hzd2:=hD2.grown.size
          have hG2:Fm wr.heap.size w2.heap.size w2 14 (k'+1) tm2 b1 n1 b2 n2 b3 n3:=Fm.keep (fun _ _ _=>rfl) hzq2 (Nat.le_refl _) hF2
          have hba:Below w2.heap.size w2 (w2.alloc (.cells #[.int .i64 tm2.K,.int .i64 tm2.N,.string tm2.S,.string tm2.Z,.int .i64 tm2.T.K,.int .i64 tm2.T.N,.slice b1 n1 e1,.slice b2 n2 e2,.slice b3 n3 e3] 29)):=(Below.refl _ _).alloc (Nat.le_refl _) _
          have hsT:Hs wr.heap.size (w2.alloc (.cells #[.int .i64 tm2.K,.int .i64 tm2.N,.string tm2.S,.string tm2.Z,.int .i64 tm2.T.K,.int .i64 tm2.T.N,.slice b1 n1 e1,.slice b2 n2 e2,.slice b3 n3 e3] 29)).heap.size (w2.alloc (.cells #[.int .i64 tm2.K,.int .i64 tm2.N,.string tm2.S,.string tm2.Z,.int .i64 tm2.T.K,.int .i64 tm2.T.N,.slice b1 n1 e1,.slice b2 n2 e2,.slice b3 n3 e3] 29)) 14 ao2 len2 u0.A:=(ho1.hs.keep (fun q h1 h2=>(hba.block q (by omega)).trans ((hD2.grown.block q (by omega) (by simp;omega)).trans (hb3.block q h2))) hzq0 (by have:=hba.size;omega)).deeper (by omega)
          have fin:=fin_alloc (w:=w) (w3:=w2) (O:=.cells #[.int .i64 tm2.K,.int .i64 tm2.N,.string tm2.S,.string tm2.Z,.int .i64 tm2.T.K,.int .i64 tm2.T.N,.slice b1 n1 e1,.slice b2 n2 e2,.slice b3 n3 e3] 29) (r:=w.heap.size+1) (L:=wr.heap.size) (D:=14) (d:=k'+1+1) (t:=⟨4,0,s,⟨#[]⟩,u0,[],[tm2]⟩) (a1:=ao2) (l1:=len2) (c1:=cap2) (a2:=none) (l2:=0) (c2:=0) (a3:=some ⟨w2.heap.size,0,none⟩) (l3:=1) (c3:=1)
            ⟨by have:=HS1.out;show s.size≤_;omega,Nat.zero_le _,hsT,Hs.nil _ _ _ _ _,hm_new1 hG2 q3.size⟩ (by omega) (by omega) hp (HDr.out w2 q3 hD2.cur)
          exact bodyPost_ret (v:=.agg #[.int .i64 4,.int .i64 0,.string s,.string ⟨#[]⟩,.int .i64 u0.K,.int .i64 u0.N,.slice ao2 len2 cap2,.slice none 0 0,.slice (some ⟨w2.heap.size,0,none⟩) 1 1]) (by simp [results,Try.results41,go_sem,y0,y1,y2,y3,y4,y5,y6,y7,y8,hrl]) rfl ⟨_,_,rfl,fin.1,fin.2⟩
      · rw [hK] at x0
        have hlen2:len=2:=by have h1:=hsr.len.1;have h2:=(nodeOk_parts hnk).1;rw [hK] at h2;simp [parts] at h2;omega
        have hA0:0 < t.A.length:=by have h1:=hsr.len.1;omega
        have hA1:1 < t.A.length:=by have h1:=hsr.len.1;omega
        obtain ⟨b,o,rfl,hb1,hb2,f1,m1,g1,z0,z1,z2,hp0⟩:=hs.get 0 hA0
        obtain ⟨b',o',e',_,_,f2,m2,g2,z3,z4,z5,hp1⟩:=hs.get 1 hA1
        injection e' with e'
        injection e' with e1 e2
        subst e1 e2
        rw [Nat.zero_mul,Nat.add_zero] at z0 z1 z2
        rw [Nat.one_mul] at z3 z4 z5
        obtain ⟨n0,hn0⟩:=hparts 0 hA0
        obtain ⟨n1,hn1⟩:=hparts 1 hA1
        have HS:Hid (∀ w':World,wr.grownBy w' (some p)→w'.cell? ⟨w.heap.size,2,none⟩=some (.slice (some ⟨b,o,none⟩) len cap)∧w'.cell? ⟨b,o,none⟩=some (.int .i64 t.A[0].K)∧w'.cell? ⟨b,o+1,none⟩=some (.int .i64 t.A[0].N)∧w'.cell? ⟨b,o+2,none⟩=some (.slice f1 m1 g1)∧w'.cell? ⟨b,o+3,none⟩=some (.int .i64 t.A[1].K)∧w'.cell? ⟨b,o+3+1,none⟩=some (.int .i64 t.A[1].N)∧w'.cell? ⟨b,o+3+2,none⟩=some (.slice f2 m2 g2)):=by
          intro w' hg
          have k1:w'.heap[b]?=w.heap[b]?:=(grown_trans' hgw hg).block b hb2 (by simp;omega)
          have k2:w'.heap[w.heap.size]?=wr.heap[w.heap.size]?:=hg.block _ (by omega) (by simp;omega)
          exact ⟨(World.cell?_of_block k2).trans x2,(World.cell?_of_block k1).trans z0,(World.cell?_of_block k1).trans z1,(World.cell?_of_block k1).trans z2,(World.cell?_of_block k1).trans z3,(World.cell?_of_block k1).trans z4,(World.cell?_of_block k1).trans z5⟩
        have HL0:Hid (∀ W:World,wr.grownBy W (some p)→Cur W p cao clen ccap→Calls Try.prog 41 #[.pointer (some ⟨p,0,none⟩),.agg #[.int .i64 t.A[0].K,.int .i64 t.A[0].N,.slice f1 m1 g1],.slice ae n ce] W fun e w'=>∃ rv tm,e=.returned rv∧TmV w' W.heap.size 14 (k'+1) rv tm∧Drw W w' p cao clen ccap):=fun W hg hcu =>
          IH k' (by omega) p cao clen ccap _ t.A[0] _ es W hcu ⟨⟨f1,m1,g1,rfl,hp0.keep (fun q hq1 hq2=>(grown_trans' hgw hg).block q hq2 (by simp;omega)) (Nat.le_refl _) (grown_trans' hgw hg).size⟩,n0,hn0⟩ (by have:=(hvX.grown hD.grown).grown hg;rw [← HN.out] at this;exact this) (by have:=HN.out;omega)
        have HL1:Hid (∀ W:World,wr.grownBy W (some p)→Cur W p cao clen ccap→Calls Try.prog 41 #[.pointer (some ⟨p,0,none⟩),.agg #[.int .i64 t.A[1].K,.int .i64 t.A[1].N,.slice f2 m2 g2],.slice ae n ce] W fun e w'=>∃ rv tm,e=.returned rv∧TmV w' W.heap.size 14 (k'+1) rv tm∧Drw W w' p cao clen ccap):=fun W hg hcu =>
          IH k' (by omega) p cao clen ccap _ t.A[1] _ es W hcu ⟨⟨f2,m2,g2,rfl,hp1.keep (fun q hq1 hq2=>(grown_trans' hgw hg).block q hq2 (by simp;omega)) (Nat.le_refl _) (grown_trans' hgw hg).size⟩,n1,hn1⟩ (by have:=(hvX.grown hD.grown).grown hg;rw [← HN.out] at this;exact this) (by have:=HN.out;omega)
        have q0:wr.grownBy wr.drew (some p):=grown_below _ ((Below.refl _ _).drew)
        have hc0:Cur wr.drew p cao clen ccap:=hcur.keep (w':=wr.drew) (fun _ _=>rfl)
        have hnb:b≠w.heap.size+1:=by omega
        have hnw:w.heap.size≠w.heap.size+1:=by omega
        subst hlen2
        generalize t.A[0]=u0 at *
        generalize t.A[1]=u1 at *
        clear hcnt hmlt hparts hnk hsr hn0 hn1
        have SF:Hid (∀ (W:World),wr.grownBy W (some p)→∀ (a0 a1 a2 a3 a4 a5 a6 a7 a8:Value) (O:Obj),((((((((((W.setCell ⟨w.heap.size+1,0,none⟩ a0).setCell ⟨w.heap.size+1,1,none⟩ a1).setCell ⟨w.heap.size+1,2,none⟩ a2).setCell ⟨w.heap.size+1,3,none⟩ a3).setCell ⟨w.heap.size+1,4,none⟩ a4).setCell ⟨w.heap.size+1,5,none⟩ a5).setCell ⟨w.heap.size+1,6,none⟩ a6).setCell ⟨w.heap.size+1,7,none⟩ a7).setCell ⟨w.heap.size+1,8,none⟩ a8).alloc O).cell? ⟨w.heap.size,2,none⟩=some (.slice (some ⟨b,o,none⟩) 2 cap)∧((((((((((W.setCell ⟨w.heap.size+1,0,none⟩ a0).setCell ⟨w.heap.size+1,1,none⟩ a1).setCell ⟨w.heap.size+1,2,none⟩ a2).setCell ⟨w.heap.size+1,3,none⟩ a3).setCell ⟨w.heap.size+1,4,none⟩ a4).setCell ⟨w.heap.size+1,5,none⟩ a5).setCell ⟨w.heap.size+1,6,none⟩ a6).setCell ⟨w.heap.size+1,7,none⟩ a7).setCell ⟨w.heap.size+1,8,none⟩ a8).alloc O).cell? ⟨b,o,none⟩=some (.int .i64 u0.K)∧((((((((((W.setCell ⟨w.heap.size+1,0,none⟩ a0).setCell ⟨w.heap.size+1,1,none⟩ a1).setCell ⟨w.heap.size+1,2,none⟩ a2).setCell ⟨w.heap.size+1,3,none⟩ a3).setCell ⟨w.heap.size+1,4,none⟩ a4).setCell ⟨w.heap.size+1,5,none⟩ a5).setCell ⟨w.heap.size+1,6,none⟩ a6).setCell ⟨w.heap.size+1,7,none⟩ a7).setCell ⟨w.heap.size+1,8,none⟩ a8).alloc O).cell? ⟨b,o+1,none⟩=some (.int .i64 u0.N)∧((((((((((W.setCell ⟨w.heap.size+1,0,none⟩ a0).setCell ⟨w.heap.size+1,1,none⟩ a1).setCell ⟨w.heap.size+1,2,none⟩ a2).setCell ⟨w.heap.size+1,3,none⟩ a3).setCell ⟨w.heap.size+1,4,none⟩ a4).setCell ⟨w.heap.size+1,5,none⟩ a5).setCell ⟨w.heap.size+1,6,none⟩ a6).setCell ⟨w.heap.size+1,7,none⟩ a7).setCell ⟨w.heap.size+1,8,none⟩ a8).alloc O).cell? ⟨b,o+2,none⟩=some (.slice f1 m1 g1)∧((((((((((W.setCell ⟨w.heap.size+1,0,none⟩ a0).setCell ⟨w.heap.size+1,1,none⟩ a1).setCell ⟨w.heap.size+1,2,none⟩ a2).setCell ⟨w.heap.size+1,3,none⟩ a3).setCell ⟨w.heap.size+1,4,none⟩ a4).setCell ⟨w.heap.size+1,5,none⟩ a5).setCell ⟨w.heap.size+1,6,none⟩ a6).setCell ⟨w.heap.size+1,7,none⟩ a7).setCell ⟨w.heap.size+1,8,none⟩ a8).alloc O).cell? ⟨b,o+3,none⟩=some (.int .i64 u1.K)∧((((((((((W.setCell ⟨w.heap.size+1,0,none⟩ a0).setCell ⟨w.heap.size+1,1,none⟩ a1).setCell ⟨w.heap.size+1,2,none⟩ a2).setCell ⟨w.heap.size+1,3,none⟩ a3).setCell ⟨w.heap.size+1,4,none⟩ a4).setCell ⟨w.heap.size+1,5,none⟩ a5).setCell ⟨w.heap.size+1,6,none⟩ a6).setCell ⟨w.heap.size+1,7,none⟩ a7).setCell ⟨w.heap.size+1,8,none⟩ a8).alloc O).cell? ⟨b,o+3+1,none⟩=some (.int .i64 u1.N)∧((((((((((W.setCell ⟨w.heap.size+1,0,none⟩ a0).setCell ⟨w.heap.size+1,1,none⟩ a1).setCell ⟨w.heap.size+1,2,none⟩ a2).setCell ⟨w.heap.size+1,3,none⟩ a3).setCell ⟨w.heap.size+1,4,none⟩ a4).setCell ⟨w.heap.size+1,5,none⟩ a5).setCell ⟨w.heap.size+1,6,none⟩ a6).setCell ⟨w.heap.size+1,7,none⟩ a7).setCell ⟨w.heap.size+1,8,none⟩ a8).alloc O).cell? ⟨b,o+3+2,none⟩=some (.slice f2 m2 g2)):=by
          intro W hg a0 a1 a2 a3 a4 a5 a6 a7 a8 O
          obtain ⟨v0,v1,v2,v3,v4,v5,v6⟩:=HS.out W hg
          have hz:=(grown_trans' hgw hg).size
          have hzz:=hg.size
          have kb:b < W.heap.size:=by omega
          have kw:w.heap.size < W.heap.size:=by omega
          exact ⟨(nest9_cell W (w.heap.size+1) a0 a1 a2 a3 a4 a5 a6 a7 a8 O w.heap.size 2 hnw kw).trans v0,(nest9_cell W (w.heap.size+1) a0 a1 a2 a3 a4 a5 a6 a7 a8 O b o hnb kb).trans v1,(nest9_cell W (w.heap.size+1) a0 a1 a2 a3 a4 a5 a6 a7 a8 O b (o+1) hnb kb).trans v2,(nest9_cell W (w.heap.size+1) a0 a1 a2 a3 a4 a5 a6 a7 a8 O b (o+2) hnb kb).trans v3,(nest9_cell W (w.heap.size+1) a0 a1 a2 a3 a4 a5 a6 a7 a8 O b (o+3) hnb kb).trans v4,(nest9_cell W (w.heap.size+1) a0 a1 a2 a3 a4 a5 a6 a7 a8 O b (o+3+1) hnb kb).trans v5,(nest9_cell W (w.heap.size+1) a0 a1 a2 a3 a4 a5 a6 a7 a8 O b (o+3+2) hnb kb).trans v6⟩
        go_wp2_with fail
        go_region_held3 (fun w'=>w'.cell? ⟨w.heap.size,2,none⟩=some (.slice (some ⟨b,o,none⟩) 2 cap)∧w'.cell? ⟨b,o,none⟩=some (.int .i64 u0.K)∧w'.cell? ⟨b,o+1,none⟩=some (.int .i64 u0.N)∧w'.cell? ⟨b,o+2,none⟩=some (.slice f1 m1 g1)∧w'.cell? ⟨b,o+3,none⟩=some (.int .i64 u1.K)∧w'.cell? ⟨b,o+3+1,none⟩=some (.int .i64 u1.N)∧w'.cell? ⟨b,o+3+2,none⟩=some (.slice f2 m2 g2))
          (first | with_reducible exact HS.out _ (q2a _) | with_reducible exact HS.out _ q2 | with_reducible exact HS.out _ q1 | with_reducible exact HS.out _ q0 | with_reducible exact SF.out _ q2 _ _ _ _ _ _ _ _ _ _)
          (first
            | (go_at_call 41;refine (HL1.out _ q1 hc1).mono ?_;rintro e w2 ⟨rv2,tm2,rfl,⟨b1,n1,e1,b2,n2,e2,b3,n3,e3,rfl,hF2⟩,hD2⟩;have q2:wr.grownBy w2 (some p):=grown_trans' q1 hD2.grown;have q2a:∀ o,wr.grownBy (w2.alloc o) (some p):=fun o=>grown_trans' q2 (grown_below _ ((Below.refl _ _).alloc (Nat.le_refl _) _));have hrl:w.heap.size+1 < w2.heap.size:=Nat.lt_of_lt_of_le hrp q2.size;obtain ⟨v0,v1,v2,v3,v4,v5,v6⟩:=HS.out _ q2;have r2:=HR.out w2 q2;obtain ⟨y0,y1,y2,y3,y4,y5,y6,y7,y8⟩:=Nine.box r2;have yf:=row_free r2;have hbl2:b < w2.heap.size:=Nat.lt_of_lt_of_le hb2 (Nat.le_trans hgw.size q2.size);have hwl2:w.heap.size < w2.heap.size:=Nat.lt_of_succ_lt hrl)
            | (go_at_call 41;refine (HL0.out _ q0 hc0).mono ?_;rintro e w1 ⟨rv1,tm1,rfl,⟨a1,l1,c1,a2,l2,c2,a3,l3,c3,rfl,hF1⟩,hD1⟩;have q1:wr.grownBy w1 (some p):=grown_trans' q0 hD1.grown;have hc1:=hD1.cur))
        all_goals
          go_wp2_with fail
          have hzq1:=q1.size
          have hzq2:=hD2.grown.size
          have hG1:Fm wr.heap.size w2.heap.size w2 14 (k'+1) tm1 a1 l1 a2 l2 a3 l3:=Fm.keep (fun q h1 h2=>hD2.grown.block q h2 (by have h1':wr.heap.size≤q:=h1;simp;omega)) (Nat.le_refl _) hzq2 hF1
          have hG2:Fm wr.heap.size w2.heap.size w2 14 (k'+1) tm2 b1 n1 b2 n2 b3 n3:=Fm.keep (fun _ _ _=>rfl) hzq1 (Nat.le_refl _) hF2
          have fin:=fin_alloc (w:=w) (w3:=w2) (O:=.cells #[.int .i64 tm1.K,.int .i64 tm1.N,.string tm1.S,.string tm1.Z,.int .i64 tm1.T.K,.int .i64 tm1.T.N,.slice a1 l1 c1,.slice a2 l2 c2,.slice a3 l3 c3,.int .i64 tm2.K,.int .i64 tm2.N,.string tm2.S,.string tm2.Z,.int .i64 tm2.T.K,.int .i64 tm2.T.N,.slice b1 n1 e1,.slice b2 n2 e2,.slice b3 n3 e3] 29) (r:=w.heap.size+1) (L:=wr.heap.size) (D:=14) (d:=k'+1+1) (t:=⟨9,0,⟨#[]⟩,⟨#[]⟩,⟨0,0,[]⟩,[],[tm1,tm2]⟩) (a1:=none) (l1:=0) (c1:=0) (a2:=none) (l2:=0) (c2:=0) (a3:=some ⟨w2.heap.size,0,none⟩) (l3:=2) (c3:=2)
            ⟨Nat.zero_le _,Nat.zero_le _,Hs.nil _ _ _ _ _,Hs.nil _ _ _ _ _,hm_new2 hG1 hG2 q2.size⟩ (by omega) (by omega) hp (HDr.out w2 q2 hD2.cur)
          exact bodyPost_ret (v:=.agg #[.int .i64 9,.int .i64 0,.string ⟨#[]⟩,.string ⟨#[]⟩,.int .i64 0,.int .i64 0,.slice none 0 0,.slice none 0 0,.slice (some ⟨w2.heap.size,0,none⟩) 2 2]) (by simp [results,Try.results41,go_sem,y0,y1,y2,y3,y4,y5,y6,y7,y8,hrl]) rfl ⟨_,_,rfl,fin.1,fin.2⟩
      · rw [hK] at x0
        have hlen1:len=1:=by have h1:=hsr.len.1;have h2:=(nodeOk_parts hnk).1;rw [hK] at h2;simp [parts] at h2;omega
        have hA0:0 < t.A.length:=by have h1:=hsr.len.1;omega
        obtain ⟨b,o,rfl,hb1,hb2,f1,m1,g1,z0,z1,z2,hp0⟩:=hsr.get 0 hA0
        rw [Nat.zero_mul,Nat.add_zero] at z0 z1 z2
        have hc0:cntS t.A[0].A≤1048576:=by have:=cntS_get t.A 0 hA0;omega
        subst hlen1
        generalize t.A[0]=u0 at *
        clear hcnt hmlt hparts hnk hsr
        go_wp2_with fail
        refine (lc_any k' _ _ u0.K u0.N f1 m1 g1 u0.A wr (Nat.le_refl _) hp0 hc0).mono ?_
        rintro e w2 ⟨ao2,len2,cap2,rfl,hb3,ho1⟩
        have g2:wr.grownBy w2 (some p):=grown_below _ hb3
        have r2:=HR.out w2 g2
        have hz2:=hb3.size
        obtain ⟨y0,y1,y2,y3,y4,y5,y6,y7,y8⟩:=Nine.box r2
        have yf:=row_free r2
        go_wp2_with fail
        have hF:Fm wr.heap.size w2.heap.size w2 14 (k'+1+1) ⟨12,0,⟨#[]⟩,⟨#[]⟩,u0,[],[]⟩ ao2 len2 none 0 none 0:=⟨Nat.zero_le _,Nat.zero_le _,ho1.hs.deeper (by omega),Hs.nil _ _ _ _ _,Hm.nil _ _ _ _ _ _⟩
        have fin:=fin_term (w:=w) (r:=w.heap.size+1) (c1:=cap2) (c2:=0) (c3:=0) hF (by omega) (by omega) hp (HDr.out w2 g2 (hcur.below hb3))
        exact bodyPost_ret (v:=.agg #[.int .i64 12,.int .i64 0,.string ⟨#[]⟩,.string ⟨#[]⟩,.int .i64 u0.K,.int .i64 u0.N,.slice ao2 len2 cap2,.slice none 0 0,.slice none 0 0]) (by simp [results,Try.results41,go_sem,y0,y1,y2,y3,y4,y5,y6,y7,y8]) rfl ⟨_,_,rfl,fin.1,fin.2⟩
    | succ j =>
      have hj':j < es.length:=by have:=HN.out;omega
      have hvr:=hvX.grown hD.grown
      obtain ⟨b,o,cp,a1,l1,c1,e,hb1,hb2,e0,e1,e2,e3,e4,hs1⟩:=hvr.1.get j hj'
      rw [← HN.out] at e
      injection e with ee1 ee2 ee3
      subst ee1 ee3
      have hw1:((j+1:Nat):Int) - 1=(j:Int):=by omega
      rw [hw1]
      have hge:0≤(j:Int):=by omega
      have hjn:(j:Int) < (n:Int):=by omega
      obtain ⟨sm,hsm⟩:=same_bool es[j].t t
      have HSame:Hid (∀ w',wr.grownBy w' (some p)→Calls Try.prog 62 #[.agg #[.int .i64 es[j].t.K,.int .i64 es[j].t.N,.slice a1 l1 c1],.agg #[.int .i64 t.K,.int .i64 t.N,.slice ao len cap]] w' fun e w''=>e=.returned (.bool sm)∧Below w'.heap.size w' w''):=by
        intro w' hg
        have h1:Hs (p+1) w'.heap.size w' 14 a1 l1 es[j].t.A:=hs1.keep (fun q hq1 hq2=>hg.block q hq2 (by simp;omega)) (Nat.le_refl _) hg.size
        have h2:Hs (p+1) w'.heap.size w' 14 ao len t.A:=(hsX.deeper hk14).keep (fun q hq1 hq2=>(hg.block q (by omega) (by simp;omega)).trans (hD.grown.block q hq2 (by simp;omega))) (Nat.le_refl _) (by have:=hg.size;omega)
        exact ss_any 14 _ _ _ _ _ _ _ _ _ _ _ _ _ _ _ _ sm w' (Nat.le_refl _) (Nat.le_refl _) h1 h2 (by rw [tr_eta,tr_eta];exact hsm)
      obtain ⟨fi,hfi⟩:∃ fi,fi=fndK es es[j].s es.length:=⟨_,rfl⟩
      have HFind:Hid (∀ w',wr.grownBy w' (some p)→Calls Try.prog 65 #[.slice (some ⟨b,o,none⟩) n ce,.string es[j].s] w' fun e w''=>e=.returned (.int .i64 fi)∧w''=w'):=by
        intro w' hg
        have:=l3Find_any p 14 _ es es[j].s w' (hvr.1.grown hg) (by have:=HN.out;omega)
        rw [← hfi] at this
        rw [← HN.out] at this
        exact this
      have HSz:Hid (es[j].s.size≤1000):=by have:=(hvr.2 es[j] (List.getElem_mem hj')).2.2;show _≤_;omega
      have HS:Hid (∀ w':World,wr.grownBy w' (some p)→w'.cell? ⟨b,o+j * 5,none⟩=some (.string es[j].s)∧w'.cell? ⟨b,o+j * 5+1,none⟩=some (.int .i64 es[j].n)∧w'.cell? ⟨b,o+j * 5+2,none⟩=some (.int .i64 es[j].t.K)∧w'.cell? ⟨b,o+j * 5+3,none⟩=some (.int .i64 es[j].t.N)∧w'.cell? ⟨b,o+j * 5+4,none⟩=some (.slice a1 l1 c1)∧w'.cell? ⟨w.heap.size,0,none⟩=some (.int .i64 t.K)∧w'.cell? ⟨w.heap.size,1,none⟩=some (.int .i64 t.N)∧w'.cell? ⟨w.heap.size,2,none⟩=some (.slice ao len cap)):=by
        intro w' hg
        have k1:w'.heap[b]?=wr.heap[b]?:=hg.block b hb2 (by simp;omega)
        have k2:w'.heap[w.heap.size]?=wr.heap[w.heap.size]?:=hg.block _ (by omega) (by simp;omega)
        exact ⟨(World.cell?_of_block k1).trans e0,(World.cell?_of_block k1).trans e1,(World.cell?_of_block k1).trans e2,(World.cell?_of_block k1).trans e3,(World.cell?_of_block k1).trans e4,(World.cell?_of_block k2).trans x0,(World.cell?_of_block k2).trans x1,(World.cell?_of_block k2).trans x2⟩
      clear hsm hfi e2 e3 e4
      generalize es[j]=ev at *
      go_upto_region 4 with fail
      go_cut [46] from 16 to 46 (fun v wx=>∃ bb:Bool,v=.bool bb∧wr.grownBy wx (some p)∧Drw X wx p cao clen ccap)
      case first =>
        have HC:Hid (∀ w':World,wr.grownBy w' (some p)→Cur w' p cao clen ccap→Calls Try.prog 28 #[.pointer (some ⟨p,0,none⟩),.int .i64 3] w' fun e w''=>∃ b:Bool,e=.returned (.bool b)∧wr.grownBy w'' (some p)∧Drw X w'' p cao clen ccap):=by
          intro w' hg hcu
          exact (l1Once_any p cao clen ccap 3 w' hcu (by omega) (by omega)).mono fun e w'' ⟨bb,h1,h2⟩=>⟨bb,h1,grown_trans' hg h2.grown,⟨grown_trans' hD.grown (grown_trans' hg h2.grown),h2.cur⟩⟩
        have HB:Hid (∀ w':World,Below wr.heap.size wr w'→Drw X w' p cao clen ccap):=fun w' hb=>⟨grown_trans' hD.grown (grown_below _ hb),hD.cur.below hb⟩
        by_cases hn0:ev.n=0
        · have hnb:(ev.n == 0)=true:=by simp [hn0]
          have hnc:(ev.n:Int)=0:=hn0
          rw [hn0] at e1 HS hnb
          cases sm with
          | false =>
            refine wp_region_below (by kernel_rfl) (by kernel_rfl) ?_
            repeat (first
              | go_big_quiet_skip
              | (go_big_quiet_want;unfold Oper.quiet;apply Exists.intro;refine ⟨fun w' hC=>?_,?_⟩;(obtain ⟨g0,g1,g2,g3,g4,g5,g6,g7⟩:=HS.out w' (grown_below _ hC);unfold Oper.quietAt;go_simp;first | exact rfl | exact ⟨rfl,rfl⟩ | (go_at_call 62;exact (HSame.out w' (grown_below _ hC)).mono fun e w'' ⟨h1,h2⟩=>⟨h1,hC.trans (h2.mono hC.size)⟩));go_big_quiet_on;simp only [Act.put,List.setIfInBounds_toArray,List.set_cons_zero,List.set_cons_succ]))
            refine wpQuiet_nil ?_
            intro w3 hb3
            go_wp2_with fail
            go_meet
            exact ⟨_,rfl,grown_below _ hb3,HB.out _ hb3⟩
          | true =>
            by_cases hfj:fi=(j:Int)
            · subst hfj
              have q0:wr.grownBy wr.drew (some p):=grown_below _ ((Below.refl _ _).drew)
              go_region_held3 (fun w'=>w'.cell? ⟨b,o+j * 5,none⟩=some (.string ev.s)∧w'.cell? ⟨b,o+j * 5+1,none⟩=some (.int .i64 0)∧w'.cell? ⟨b,o+j * 5+2,none⟩=some (.int .i64 ev.t.K)∧w'.cell? ⟨b,o+j * 5+3,none⟩=some (.int .i64 ev.t.N)∧w'.cell? ⟨b,o+j * 5+4,none⟩=some (.slice a1 l1 c1)∧w'.cell? ⟨w.heap.size,0,none⟩=some (.int .i64 t.K)∧w'.cell? ⟨w.heap.size,1,none⟩=some (.int .i64 t.N)∧w'.cell? ⟨w.heap.size,2,none⟩=some (.slice ao len cap))
                (first | with_reducible exact HS.out _ q2 | with_reducible exact HS.out _ q1 | with_reducible exact HS.out _ q0)
                (first
                  | (go_at_call 28;refine (HC.out _ q1 hcu1).mono ?_;rintro e w2 ⟨bb,rfl,q2,hD2⟩)
                  | (go_at_call 65;refine (HFind.out _ q1).mono ?_;rintro e w9 ⟨rfl,rfl⟩)
                  | (go_at_call 62;refine (HSame.out _ q0).mono ?_;rintro e w1 ⟨rfl,hb1'⟩;have q1:wr.grownBy w1 (some p):=grown_trans' q0 (grown_below _ hb1');have hcu1:Cur w1 p cao clen ccap:=(hD.cur.keep (w':=wr.drew) (fun _ _=>rfl)).below hb1'))
              all_goals
                go_wp2_with fail
                go_meet
                exact ⟨_,rfl,q2,hD2⟩
            · have hfb:(fi == (j:Int))=false:=by simp [hfj]
              refine wp_region_below (by kernel_rfl) (by kernel_rfl) ?_
              repeat (first
                | go_big_quiet_skip
                | (go_big_quiet_want;unfold Oper.quiet;apply Exists.intro;refine ⟨fun w' hC=>?_,?_⟩;(obtain ⟨g0,g1,g2,g3,g4,g5,g6,g7⟩:=HS.out w' (grown_below _ hC);unfold Oper.quietAt;go_simp;first | exact rfl | exact ⟨rfl,rfl⟩ | (go_at_call 62;exact (HSame.out w' (grown_below _ hC)).mono fun e w'' ⟨h1,h2⟩=>⟨h1,hC.trans (h2.mono hC.size)⟩) | (go_at_call 65;exact (HFind.out w' (grown_below _ hC)).mono fun e w'' ⟨h1,h2⟩=>⟨h1,by rw [h2];exact hC⟩));go_big_quiet_on;simp only [Act.put,List.setIfInBounds_toArray,List.set_cons_zero,List.set_cons_succ]))
              refine wpQuiet_nil ?_
              intro w3 hb3
              go_wp2_with fail
              go_meet
              exact ⟨_,rfl,grown_below _ hb3,HB.out _ hb3⟩
        · have hnb:(ev.n == 0)=false:=by simp [hn0]
          go_quiet (fail)
          go_wp2_with fail
          go_meet
          exact ⟨_,rfl,⟨rfl,rfl,rfl,Nat.le_refl _,fun _ _ _=>rfl⟩,hD.drewN _⟩
      case rest =>
        obtain ⟨bb,rfl,hgc,hD2⟩:=hcut
        have hz2:=hD2.grown.size
        have r2:=(hD2.grown.block (w.heap.size+1) (by omega) (by simp;omega)).trans hX1
        have hb2':wc.heap[b]?=wr.heap[b]?:=hgc.block b hb2 (by simp;omega)
        have f0:=(World.cell?_of_block hb2').trans e0
        cases bb with
        | true =>
          go_wp2_with fail
          refine (l3V_any wc.heap.size 14 (k+1) ev.s wc HSz.out).mono ?_
          rintro e w3 ⟨rv,rfl,⟨q1,q2,q3,q4,q5,q6,q7,q8,q9,rfl,hF⟩,hb3⟩
          have r3:=(hb3.block _ (by omega)).trans r2
          obtain ⟨y0,y1,y2,y3,y4,y5,y6,y7,y8⟩:=Nine.box r3
          have yf:=row_free r3
          go_wp2_with fail
          have fin:=fin_term (w:=w) (r:=w.heap.size+1) (c1:=q3) (c2:=q6) (c3:=q9) hF (by omega) (by omega) hp ⟨grown_trans' hgX (grown_trans' hD2.grown (grown_below _ hb3)),hD2.cur.below hb3⟩
          exact bodyPost_ret (v:=.agg #[.int .i64 3,.int .i64 0,.string ev.s,.string ⟨#[]⟩,.int .i64 0,.int .i64 0,.slice q1 q2 q3,.slice q4 q5 q6,.slice q7 q8 q9]) (by simp [results,Try.results41,go_sem,y0,y1,y2,y3,y4,y5,y6,y7,y8]) rfl ⟨_,_,rfl,fin.1,fin.2⟩
        | false =>
          go_wp2_with fail
          go_roundw
          case rel=>exact ⟨j,by omega,by go_num,hD2⟩
          case measure=>simp [intOf]
theorem leaf_any (k:Nat) (hk:k≤14):SaidLeaf k:=by
  induction k using Nat.strongRecOn with
  | _ k ih=>exact leaf_step k hk (fun j hj=>ih j hj (by omega))
end Go.Proofs.Ytleghjgpnefliaa
