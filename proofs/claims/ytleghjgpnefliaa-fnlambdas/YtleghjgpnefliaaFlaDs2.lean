/-
  What the model's 'l3Spine' comes to where something is left to bind, given itself with one less.
-/
import Derived.Test.YtleghjgpnefliaaFlaZ40
import Derived.Test.YtleghjgpnefliaaFlaDs3
import Derived.Deep.CutBlock
namespace Go.Proofs.Ytleghjgpnefliaa
open Go.RowKit
set_option linter.unusedVariables false
set_option linter.unusedSimpArgs false
def SpEnd (w X wx:World) (p:Nat) (cao:Option Addr) (clen ccap:Nat):Prop :=
  ∃ (tK tN:Int) (tS:ByteArray) (y:Tr) (b1:Option Addr) (m1 d1:Nat) (v8:Value) (u:Tr) (au:Option Addr) (lu cu:Nat),
    Spn X wx p cao clen ccap (w.heap.size+4) tK tN tS y.K y.N (.slice b1 m1 d1) v8 u.K u.N (.slice au lu cu)∧(0≤tN∧tN≤2)∧tS.size≤8∧Hs (w.heap.size+6) wx.heap.size wx 4 b1 m1 y.A∧Hs (w.heap.size+6) wx.heap.size wx 4 au lu u.A∧(∃ m,nodesW 4 u=some m)∧(tN=0∨RtV 4 tN u) ∧
    (v8=.slice none 0 0∨∃ (g:Nat) (t1:Tm) (q1:Option Addr) (n1 o1:Nat) (q2:Option Addr) (n2 o2:Nat) (q3:Option Addr) (n3 o3:Nat),v8=.slice (some ⟨g,0,none⟩) 1 1∧w.heap.size+6≤g∧wx.heap[g]?=some (.cells (cellsT t1 q1 n1 o1 q2 n2 o2 q3 n3 o3).toArray 29 (0,0))∧Fm (w.heap.size+6) wx.heap.size wx 14 19 t1 q1 n1 q2 n2 q3 n3)
theorem set3_hi {W:World} {b k:Nat} (h:k≠b) (o1 o2 o3:Nat) (a1 a2 a3:Value):(((W.setCell ⟨b,o1,none⟩ a1).setCell ⟨b,o2,none⟩ a2).setCell ⟨b,o3,none⟩ a3).heap[k]?=W.heap[k]? :=
  (row_other _ _ _ h).trans ((row_other _ _ _ h).trans (row_other _ _ _ h))
theorem hs_set3 {W:World} {L D b:Nat} {ao:Option Addr} {len:Nat} {ts:List Tr} (h:Hs L W.heap.size W D ao len ts) (hb:b < L) (o1 o2 o3:Nat) (a1 a2 a3:Value):Hs L (((W.setCell ⟨b,o1,none⟩ a1).setCell ⟨b,o2,none⟩ a2).setCell ⟨b,o3,none⟩ a3).heap.size (((W.setCell ⟨b,o1,none⟩ a1).setCell ⟨b,o2,none⟩ a2).setCell ⟨b,o3,none⟩ a3) D ao len ts :=
  h.keep (fun k hk _=>set3_hi (by omega) _ _ _ _ _ _) (Nat.le_refl _) (by simp)
theorem hs_up6 {W W':World} {L D:Nat} {ao:Option Addr} {len:Nat} {ts:List Tr} (h:Hs L W.heap.size W D ao len ts) (hb:Below W.heap.size W W'):Hs L W'.heap.size W' D ao len ts:=h.keep (fun k _ hk=>hb.block k hk) (Nat.le_refl _) hb.size
theorem hs_set1 {W:World} {L D b:Nat} {ao:Option Addr} {len:Nat} {ts:List Tr} (h:Hs L W.heap.size W D ao len ts) (hb:b < L) (o1:Nat) (a1:Value):Hs L (W.setCell ⟨b,o1,none⟩ a1).heap.size (W.setCell ⟨b,o1,none⟩ a1) D ao len ts :=
  h.keep (fun k hk _=>row_other _ _ _ (by omega)) (Nat.le_refl _) (by simp)
theorem Spn.facts {X W:World} {p:Nat} {cao:Option Addr} {clen ccap:Nat} {s:Nat} {tK tN:Int} {tS:ByteArray} {yK yN:Int} {v6 v8:Value} {uK uN:Int} {u2:Value} (h:Spn X W p cao clen ccap (s+4) tK tN tS yK yN v6 v8 uK uN u2) (hp:p < s)
    (h0:X.heap[s+2]?=some (.cells #[.int .i64 3,.int .i64 0,.slice none 0 0] 26 (0,0))) (h1:X.heap[s+3]?=some (.cells #[.int .i64 3,.int .i64 1,.slice none 0 0] 26 (0,0))) :
    (W.cell? ⟨s+4,0,none⟩=some (.int .i64 tK)∧W.cell? ⟨s+4,1,none⟩=some (.int .i64 tN)∧W.cell? ⟨s+4,2,none⟩=some (.string tS)∧W.cell? ⟨s+4,4,none⟩=some (.int .i64 yK)∧W.cell? ⟨s+4,5,none⟩=some (.int .i64 yN)∧W.cell? ⟨s+4,6,none⟩=some v6∧W.cell? ⟨s+4,8,none⟩=some v8∧∀ o,W.frozen? ⟨s+4,o,none⟩=false) ∧
    (W.cell? ⟨s+5,0,none⟩=some (.int .i64 uK)∧W.cell? ⟨s+5,1,none⟩=some (.int .i64 uN)∧W.cell? ⟨s+5,2,none⟩=some u2∧∀ o,W.frozen? ⟨s+5,o,none⟩=false) ∧
    (W.cell? ⟨s+2,0,none⟩=some (.int .i64 3)∧W.cell? ⟨s+2,1,none⟩=some (.int .i64 0)∧W.cell? ⟨s+2,2,none⟩=some (.slice none 0 0)) ∧
    (W.cell? ⟨s+3,0,none⟩=some (.int .i64 3)∧W.cell? ⟨s+3,1,none⟩=some (.int .i64 1)∧W.cell? ⟨s+3,2,none⟩=some (.slice none 0 0)):=by
  have hb:=h.tb
  have hu:W.heap[s+5]?=_:=h.ub
  exact ⟨⟨row_cell hb 0,row_cell hb 1,row_cell hb 2,row_cell hb 4,row_cell hb 5,row_cell hb 6,row_cell hb 8,row_free hb⟩,⟨row_cell hu 0,row_cell hu 1,row_cell hu 2,row_free hu⟩,box_cells ((h.old (by omega) (by omega)).trans h0),box_cells ((h.old (by omega) (by omega)).trans h1)⟩
theorem rt_var {N vs:Int} {d:Nat} (hd:1≤d) (h0:0≤N) (h1:N < 2) (h2:N < vs):RtV d vs ⟨3,N,[]⟩:=varV d hd N vs h0 h1 h2
theorem rt_two {d:Nat} {vs:Int} {a b:Tr} (h0:0≤vs) (ha:RtV d vs a) (hb:RtV d vs b):RtV (d+1) vs ⟨4,0,[a,b]⟩:=rtV_mk h0 (by omega) (by rfl) (fun u hu=>by
  simp at hu
  rcases hu with h | h
  · rw [h];exact ha
  · rw [h];exact hb)
theorem vars_same:∀ (l:Nat) (t:Tr) (m:Nat),nodesW l t=some m→varsW (l+1) t=varsW l t
  | 0,t,m,h=>by simp [nodesW] at h
  | l+1,t,m,h=>by
    obtain ⟨_,hp⟩:=nodesW_inv (k:=t.K) (n:=t.N) (ts:=t.A) (m:=m) (by rw [tr_eta];exact h)
    show (t.A.map (varsW (l+1))).foldl max (var0 t.K t.N)=(t.A.map (varsW l)).foldl max (var0 t.K t.N)
    congr 1
    refine List.map_congr_left fun a ha=>?_
    obtain ⟨j,hj,rfl⟩:=List.mem_iff_getElem.1 ha
    obtain ⟨b,hb⟩:=hp j hj
    exact vars_same l _ b hb
theorem rt_up {d:Nat} {vs:Int} {t:Tr} (h:RtV d vs t):RtV (d+1) vs t:=by
  obtain ⟨⟨m,hm⟩,hv⟩:=h
  exact ⟨⟨m,nodesW_up _ _ _ hm⟩,by rw [vars_same _ _ _ hm];exact hv⟩
theorem rt_list {d:Nat} {vs:Int} {a:Tr} (h0:0≤vs) (ha:RtV d vs a):RtV (d+1) vs ⟨6,0,[a]⟩:=rtV_mk h0 (by omega) (by rfl) (fun u hu=>by rw [List.mem_singleton.1 hu];exact ha)
set_option maxRecDepth 100000 in
set_option maxHeartbeats 40000000 in
theorem spine_step (left:Nat) (hleft:left≤3) (IH:SaidSpine left):SaidSpine (left+1):=by
  intro p cao clen ccap wv t v es w hc hwv hv hlen
  have hp:=hc.lt
  obtain ⟨⟨ao,len,cap,rfl,hs⟩,m,hm⟩:=hwv
  obtain ⟨ae,ce,rfl⟩:=hv.1.form
  obtain ⟨X,hX⟩:∃ X,X=(((w.alloc (.cells #[.int .i64 t.K,.int .i64 t.N,.slice ao len cap] 26)).alloc (.cells #[.int .i64 0,.int .i64 0,.string ⟨#[]⟩,.string ⟨#[]⟩,.int .i64 0,.int .i64 0,.slice none 0 0,.slice none 0 0,.slice none 0 0] 29)).alloc (.cells #[.int .i64 3,.int .i64 0,.slice none 0 0] 26)).alloc (.cells #[.int .i64 3,.int .i64 1,.slice none 0 0] 26):=⟨_,rfl⟩
  have hXs:X.heap.size=w.heap.size+4:=by rw [hX];simp
  have hXb:Below w.heap.size w X:=by rw [hX];exact (((((Below.refl _ _).alloc (Nat.le_refl _) _).alloc (by simp) _).alloc (by simp <;> omega) _).alloc (by simp <;> omega) _)
  have hX0:X.heap[w.heap.size]?=some (.cells #[.int .i64 t.K,.int .i64 t.N,.slice ao len cap] 26 (0,0)):=by rw [hX,Below.heap_alloc _ _ _ (by simp <;> omega),Below.heap_alloc _ _ _ (by simp <;> omega),Below.heap_alloc _ _ _ (by simp)];exact heap_new rfl
  have hX1:X.heap[w.heap.size+1]?=some (.cells #[.int .i64 0,.int .i64 0,.string ⟨#[]⟩,.string ⟨#[]⟩,.int .i64 0,.int .i64 0,.slice none 0 0,.slice none 0 0,.slice none 0 0] 29 (0,0)):=by rw [hX,Below.heap_alloc _ _ _ (by simp <;> omega),Below.heap_alloc _ _ _ (by simp)];exact heap_new (by simp)
  have hX2:X.heap[w.heap.size+2]?=some (.cells #[.int .i64 3,.int .i64 0,.slice none 0 0] 26 (0,0)):=by rw [hX,Below.heap_alloc _ _ _ (by simp)];exact heap_new (by simp)
  have hX3:X.heap[w.heap.size+3]?=some (.cells #[.int .i64 3,.int .i64 1,.slice none 0 0] 26 (0,0)):=by rw [hX];exact heap_new (by simp)
  have hgX:w.grownBy X (some p):=grown_below _ hXb
  have hcX:=hc.below hXb
  obtain ⟨Y,hY⟩:∃ Y,Y=(X.alloc (.cells #[.int .i64 6,.int .i64 1,.string ⟨#[]⟩,.string ⟨#[]⟩,.int .i64 0,.int .i64 0,.slice none 0 0,.slice none 0 0,.slice none 0 0] 29)).alloc (.cells #[.int .i64 3,.int .i64 0,.slice none 0 0] 26):=⟨_,rfl⟩
  have hYb:Below X.heap.size X Y:=by rw [hY];exact ((Below.refl _ _).alloc (Nat.le_refl _) _).alloc (by simp) _
  have hY0:Y.heap[w.heap.size+4]?=some (.cells #[.int .i64 6,.int .i64 1,.string ⟨#[]⟩,.string ⟨#[]⟩,.int .i64 0,.int .i64 0,.slice none 0 0,.slice none 0 0,.slice none 0 0] 29 (0,0)):=by rw [hY,Below.heap_alloc _ _ _ (by simp;omega)];exact heap_new hXs.symm
  have hY1:Y.heap[w.heap.size+4+1]?=some (.cells #[.int .i64 3,.int .i64 0,.slice none 0 0] 26 (0,0)):=by rw [hY];exact heap_new (by simp;omega)
  have hSY:Spn X Y p cao clen ccap (w.heap.size+4) 6 1 ⟨#[]⟩ 0 0 (.slice none 0 0) (.slice none 0 0) 3 0 (.slice none 0 0):=⟨⟨grown_below _ hYb,hcX.below hYb⟩,hXs,by omega,hY0,hY1⟩
  have HTX:Hid (∀ W:World,X.grownBy W (some p)→Ty2 W p 3 (.agg #[.int .i64 t.K,.int .i64 t.N,.slice ao len cap]) t):=fun W hg=>Ty2.grown (w:=X) ⟨⟨ao,len,cap,rfl,hs_up hs hXb⟩,m,hm⟩ hg
  have HEX:Hid (∀ W:World,X.grownBy W (some p)→En2 W p 14 (.slice ae es.length ce) es):=fun W hg=>(hv.grown hgX).grown hg
  have HX:Hid (X=_):=hX
  have HY:Hid (Y=_):=hY
  have HXS:Hid (X.heap.size=w.heap.size+4):=hXs
  obtain ⟨n,hn⟩:∃ n,n=es.length:=⟨_,rfl⟩
  have HN:Hid (n=es.length):=hn
  rw [← hn] at hlen HEX ⊢
  have hl0:((((left+1:Nat):Int)) == 0)=false:=by simp;omega
  clear hX hY hn hXs
  go_enter Try.func38,Try.ntmps38
  go_wp2_with fail
  simp only [Nat.add_assoc,Nat.reduceAdd]
  rw [← HX.out,← HY.out]
  refine (l1Below_any p cao clen ccap 6 Y hSY.drw.cur (by omega) (by omega)).mono ?_
  rintro e w1 ⟨x,rfl,hx0,hx1,hD1⟩
  have hS1:=hSY.call hD1
  have hz1:=hS1.lt
  clear hY0 hY1 hSY hYb
  go_upto_block 0 with fail
  go_cut [] from 13 to 156 (fun wx=>SpEnd w X wx p cao clen ccap)
  case first =>
    obtain ⟨⟨y0,y1,y2,y4,y5,y6,y8,yf⟩,⟨z0,z1,z2,zf⟩,⟨k0,k1,k2⟩,⟨j0,j1,j2⟩⟩:=(hS1).facts hp hX2 hX3
    have hx:x=0∨x=1∨x=2∨x=3∨x=4∨x=5:=by omega
    clear hx0 hx1
    rcases hx with rfl | rfl | rfl | rfl | rfl | rfl
    · go_wp2_with fail
      have h1:=hS1.setS ⟨#[105,100]⟩
      refine (l3Two_any (w.heap.size+5) 1 4 ⟨3,0,[]⟩ ⟨3,0,[]⟩ _ _ _ (by simp;omega) ⟨none,0,0,rfl,Hs.nil _ _ _ _ _⟩ ⟨none,0,0,rfl,Hs.nil _ _ _ _ _⟩).mono ?_
      rintro e w2 ⟨v',rfl,⟨a2,l2,c2,rfl,hs2⟩,hb2⟩
      have h2:=h1.below hb2
      clear y0 y1 y2 y4 y5 y6 y8 yf z0 z1 z2 zf k0 k1 k2 j0 j1 j2
      obtain ⟨⟨y0,y1,y2,y4,y5,y6,y8,yf⟩,⟨z0,z1,z2,zf⟩,⟨k0,k1,k2⟩,⟨j0,j1,j2⟩⟩:=(h2).facts hp hX2 hX3
      go_wp2_with fail
      go_meet
      exact ⟨6,1,⟨#[105,100]⟩,⟨0,0,[]⟩,none,0,0,.slice none 0 0,⟨4,0,[⟨3,0,[]⟩,⟨3,0,[]⟩]⟩,a2,l2,c2,h2.setU _ _ _,by omega,by decide,Hs.nil _ _ _ _ _,hs_set3 (hs2.deeper (by omega)) (by omega) _ _ _ _ _ _,(rt_two (vs:=1) (by omega) (rt_var (d:=3) (by omega) (by omega) (by omega) (by omega)) (rt_var (by omega) (by omega) (by omega) (by omega))).1,Or.inr (rt_two (by omega) (rt_var (by omega) (by omega) (by omega) (by omega)) (rt_var (by omega) (by omega) (by omega) (by omega))),Or.inl rfl⟩
    · go_wp2_with fail
      have h2:=(hS1.setS ⟨#[107]⟩).setN 2
      obtain ⟨W,hW⟩:∃ W,W=(w1.setCell ⟨w.heap.size+4,2,none⟩ (.string ⟨#[107]⟩)).setCell ⟨w.heap.size+4,1,none⟩ (.int .i64 2):=⟨_,rfl⟩
      rw [← hW] at h2
      rw [← hW]
      have hzW:=h2.lt
      have HF:Hid (∀ W':World,Below W.heap.size W W'→W'.cell? ⟨w.heap.size+2,0,none⟩=some (.int .i64 3)∧W'.cell? ⟨w.heap.size+2,1,none⟩=some (.int .i64 0)∧W'.cell? ⟨w.heap.size+2,2,none⟩=some (.slice none 0 0)∧W'.cell? ⟨w.heap.size+3,0,none⟩=some (.int .i64 3)∧W'.cell? ⟨w.heap.size+3,1,none⟩=some (.int .i64 1)∧W'.cell? ⟨w.heap.size+3,2,none⟩=some (.slice none 0 0)):=fun W' hb=>let f:=(h2.below hb).facts hp hX2 hX3;⟨f.2.2.1.1,f.2.2.1.2.1,f.2.2.1.2.2,f.2.2.2.1,f.2.2.2.2.1,f.2.2.2.2.2⟩
      have HFU:Hid (∀ (W':World),Below W.heap.size W W'→∀ (a b:Int) (v:Value),(((W'.setCell ⟨w.heap.size+5,0,none⟩ (.int .i64 a)).setCell ⟨w.heap.size+5,1,none⟩ (.int .i64 b)).setCell ⟨w.heap.size+5,2,none⟩ v).cell? ⟨w.heap.size+2,0,none⟩=some (.int .i64 3)∧(((W'.setCell ⟨w.heap.size+5,0,none⟩ (.int .i64 a)).setCell ⟨w.heap.size+5,1,none⟩ (.int .i64 b)).setCell ⟨w.heap.size+5,2,none⟩ v).cell? ⟨w.heap.size+2,1,none⟩=some (.int .i64 0)∧(((W'.setCell ⟨w.heap.size+5,0,none⟩ (.int .i64 a)).setCell ⟨w.heap.size+5,1,none⟩ (.int .i64 b)).setCell ⟨w.heap.size+5,2,none⟩ v).cell? ⟨w.heap.size+2,2,none⟩=some (.slice none 0 0)∧(((W'.setCell ⟨w.heap.size+5,0,none⟩ (.int .i64 a)).setCell ⟨w.heap.size+5,1,none⟩ (.int .i64 b)).setCell ⟨w.heap.size+5,2,none⟩ v).cell? ⟨w.heap.size+3,0,none⟩=some (.int .i64 3)∧(((W'.setCell ⟨w.heap.size+5,0,none⟩ (.int .i64 a)).setCell ⟨w.heap.size+5,1,none⟩ (.int .i64 b)).setCell ⟨w.heap.size+5,2,none⟩ v).cell? ⟨w.heap.size+3,1,none⟩=some (.int .i64 1)∧(((W'.setCell ⟨w.heap.size+5,0,none⟩ (.int .i64 a)).setCell ⟨w.heap.size+5,1,none⟩ (.int .i64 b)).setCell ⟨w.heap.size+5,2,none⟩ v).cell? ⟨w.heap.size+3,2,none⟩=some (.slice none 0 0)):=fun W' hb a b v=>let f:=((h2.below hb).setU a b v).facts hp hX2 hX3;⟨f.2.2.1.1,f.2.2.1.2.1,f.2.2.1.2.2,f.2.2.2.1,f.2.2.2.2.1,f.2.2.2.2.2⟩
      have bb0:Below W.heap.size W W.drew:=(Below.refl _ _).drew
      have hq0:w.heap.size+5 < W.drew.heap.size:=by show _ < W.heap.size;omega
      clear y0 y1 y2 y4 y5 y6 y8 yf z0 z1 z2 zf k0 k1 k2 j0 j1 j2
      clear hW
      go_region_held3 (fun w'=>w'.cell? ⟨w.heap.size+2,0,none⟩=some (.int .i64 3)∧w'.cell? ⟨w.heap.size+2,1,none⟩=some (.int .i64 0)∧w'.cell? ⟨w.heap.size+2,2,none⟩=some (.slice none 0 0)∧w'.cell? ⟨w.heap.size+3,0,none⟩=some (.int .i64 3)∧w'.cell? ⟨w.heap.size+3,1,none⟩=some (.int .i64 1)∧w'.cell? ⟨w.heap.size+3,2,none⟩=some (.slice none 0 0))
        (first | with_reducible exact HFU.out _ bb2 _ _ _ | with_reducible exact HF.out _ bb2 | with_reducible exact HF.out _ bb1 | with_reducible exact HF.out _ bb0)
        (first
          | (go_at_call 55;refine (l3Two_any (w.heap.size+5) 2 4 ⟨3,0,[]⟩ ⟨4,0,[⟨3,1,[]⟩,⟨3,0,[]⟩]⟩ _ tv1 _ hq1 ⟨none,0,0,rfl,Hs.nil _ _ _ _ _⟩ hT1).mono ?_;rintro e v2 ⟨tv2,rfl,⟨a2,l2,c2,rfl,hs2⟩,hb2⟩;have bb2:Below W.heap.size W v2:=bb1.trans (hb2.mono bb1.size);obtain ⟨_,⟨z0,z1,z2,zf⟩,_,_⟩:=(h2.below bb2).facts hp hX2 hX3)
          | (go_at_call 55;refine (l3Two_any (w.heap.size+5) 1 4 ⟨3,1,[]⟩ ⟨3,0,[]⟩ _ _ _ hq0 ⟨none,0,0,rfl,Hs.nil _ _ _ _ _⟩ ⟨none,0,0,rfl,Hs.nil _ _ _ _ _⟩).mono ?_;rintro e v1 ⟨tv1,rfl,hT1,hb1⟩;have bb1:Below W.heap.size W v1:=bb0.trans hb1;have hq1:w.heap.size+5 < v1.heap.size:=Nat.lt_of_lt_of_le hq0 hb1.size))
      all_goals
        go_wp2_with fail
        go_meet
        exact ⟨6,2,⟨#[107]⟩,⟨0,0,[]⟩,none,0,0,.slice none 0 0,⟨4,0,[⟨3,0,[]⟩,⟨4,0,[⟨3,1,[]⟩,⟨3,0,[]⟩]⟩]⟩,a2,l2,c2,(h2.below bb2).setU _ _ _,by omega,by decide,Hs.nil _ _ _ _ _,hs_set3 (hs2.deeper (by omega)) (by omega) _ _ _ _ _ _,(rt_two (vs:=2) (by omega) (rt_var (d:=3) (by omega) (by omega) (by omega) (by omega)) (rt_two (by omega) (rt_var (by omega) (by omega) (by omega) (by omega)) (rt_var (by omega) (by omega) (by omega) (by omega)))).1,Or.inr (rt_two (by omega) (rt_var (by omega) (by omega) (by omega) (by omega)) (rt_two (by omega) (rt_var (by omega) (by omega) (by omega) (by omega)) (rt_var (by omega) (by omega) (by omega) (by omega)))),Or.inl rfl⟩
    · go_wp2_with fail
      have h1:=(hS1.setS ⟨#[108,101,110]⟩).setK 7
      refine (l3List_any (w.heap.size+5) 1 ⟨3,0,[]⟩ _ _ (by simp;omega) ⟨none,0,0,rfl,Hs.nil _ _ _ _ _⟩).mono ?_
      rintro e w2 ⟨v',rfl,⟨a1,l1,c1,rfl,hs1⟩,hb2⟩
      have h2:=h1.below hb2
      go_wp2_with fail
      refine (l3Int_lit _).mono ?_
      rintro e w3 ⟨rfl,hbw3⟩
      have h3:=h2.below hbw3
      have hz3:=h3.lt
      have hs3:=hs_up6 hs1 hbw3
      go_wp2_with fail
      refine (l3Two_any (w.heap.size+5) 2 4 ⟨6,0,[⟨3,0,[]⟩]⟩ ⟨1,0,[]⟩ _ _ w3 (by omega) ⟨a1,l1,c1,rfl,hs3⟩ ⟨none,0,0,rfl,Hs.nil _ _ _ _ _⟩).mono ?_
      rintro e w4 ⟨v',rfl,⟨a2,l2,c2,rfl,hs2⟩,hb4⟩
      have h4:=h3.below hb4
      clear y0 y1 y2 y4 y5 y6 y8 yf z0 z1 z2 zf k0 k1 k2 j0 j1 j2
      obtain ⟨⟨y0,y1,y2,y4,y5,y6,y8,yf⟩,⟨z0,z1,z2,zf⟩,⟨k0,k1,k2⟩,⟨j0,j1,j2⟩⟩:=(h4).facts hp hX2 hX3
      go_wp2_with fail
      have h5:=(h4.setU 4 0 (.slice a2 l2 c2)).setY 4 0 (.slice a2 l2 c2)
      have hz5:=h5.lt
      have hs5:=hs_set3 (hs_set3 (hs2.deeper (show 3≤4 by omega)) (show w.heap.size+5 < _ by omega) 0 1 2 (.int .i64 4) (.int .i64 0) (.slice a2 l2 c2)) (show w.heap.size+4 < _ by omega) 4 5 6 (.int .i64 4) (.int .i64 0) (.slice a2 l2 c2)
      refine (l3List_any (w.heap.size+5) 1 ⟨3,0,[]⟩ _ _ (by omega) ⟨none,0,0,rfl,Hs.nil _ _ _ _ _⟩).mono ?_
      rintro e w6 ⟨v',rfl,⟨aL,lL,cL,rfl,hsL⟩,hbw6⟩
      have h6:=h5.below hbw6
      have hs6:=hs_up6 hs5 hbw6
      clear y0 y1 y2 y4 y5 y6 y8 yf z0 z1 z2 zf k0 k1 k2 j0 j1 j2
      go_wp2_with fail
      refine (l3V_lit _ _).mono ?_
      rintro e w7 ⟨rfl,hbw7⟩
      have h7:=h6.below hbw7
      go_wp2_with fail
      refine (l3N_lit _ _).mono ?_
      rintro e w8 ⟨rfl,hbw8⟩
      have h8:=h7.below hbw8
      go_wp2_with fail
      refine (l3N_lit _ _).mono ?_
      rintro e w9 ⟨rfl,hbw9⟩
      have h9:=h8.below hbw9
      go_wp2_with fail
      refine (l3V_lit _ _).mono ?_
      rintro e w10 ⟨rfl,hbw10⟩
      have h10:=h9.below hbw10
      go_wp2_with fail
      refine (l3V_lit _ _).mono ?_
      rintro e w11 ⟨rfl,hbw11⟩
      have h11:=h10.below hbw11
      have hz11:=h11.lt
      have B1:Below w6.heap.size w6 w11:=((((hbw7.trans (hbw8.mono hbw7.size)).trans (hbw9.mono (hbw7.trans (hbw8.mono hbw7.size)).size))).trans (hbw10.mono (((hbw7.trans (hbw8.mono hbw7.size)).trans (hbw9.mono (hbw7.trans (hbw8.mono hbw7.size)).size))).size)).trans (hbw11.mono ((((hbw7.trans (hbw8.mono hbw7.size)).trans (hbw9.mono (hbw7.trans (hbw8.mono hbw7.size)).size))).trans (hbw10.mono (((hbw7.trans (hbw8.mono hbw7.size)).trans (hbw9.mono (hbw7.trans (hbw8.mono hbw7.size)).size))).size)).size)
      obtain ⟨V,hV⟩:∃ V,V=w11.setCell ⟨w.heap.size+4,8,none⟩ (.slice (some ⟨w11.heap.size+1+1+1+1,0,none⟩) 1 1):=⟨_,rfl⟩
      have zV:V.heap.size=w11.heap.size:=by rw [hV];simp
      have hSV:=h11.setA (.slice (some ⟨w11.heap.size+1+1+1+1,0,none⟩) 1 1)
      rw [← hV] at hSV
      obtain ⟨Z2,hZ2⟩:∃ Z,Z=V.alloc (.cells #[.int .i64 3,.int .i64 0,.string ⟨#[108,101,110]⟩,.string ⟨#[]⟩,.int .i64 0,.int .i64 0,.slice none 0 0,.slice none 0 0,.slice none 0 0,.int .i64 3,.int .i64 0,.string ⟨#[114]⟩,.string ⟨#[]⟩,.int .i64 0,.int .i64 0,.slice none 0 0,.slice none 0 0,.slice none 0 0] 29):=⟨_,rfl⟩
      have bZ2:Below V.heap.size V Z2:=by rw [hZ2];exact (Below.refl _ _).alloc (Nat.le_refl _) _
      have zZ2:Z2.heap.size=V.heap.size+1:=by rw [hZ2];simp
      obtain ⟨Z3,hZ3⟩:∃ Z,Z=Z2.alloc (.cells #[.int .i64 1,.int .i64 1,.string ⟨#[]⟩,.string ⟨#[]⟩,.int .i64 0,.int .i64 0,.slice none 0 0,.slice none 0 0,.slice none 0 0,.int .i64 5,.int .i64 0,.string ⟨#[]⟩,.string ⟨#[]⟩,.int .i64 0,.int .i64 0,.slice none 0 0,.slice none 0 0,.slice (some ⟨w11.heap.size,0,none⟩) 2 2] 29):=⟨_,rfl⟩
      have bZ3:Below Z2.heap.size Z2 Z3:=by rw [hZ3];exact (Below.refl _ _).alloc (Nat.le_refl _) _
      have zZ3:Z3.heap.size=Z2.heap.size+1:=by rw [hZ3];simp
      obtain ⟨Z4,hZ4⟩:∃ Z,Z=Z3.alloc (.cells #[.int .i64 3,.int .i64 0,.string ⟨#[108]⟩,.string ⟨#[]⟩,.int .i64 0,.int .i64 0,.slice none 0 0,.slice none 0 0,.slice none 0 0,.int .i64 1,.int .i64 0,.string ⟨#[]⟩,.string ⟨#[]⟩,.int .i64 0,.int .i64 0,.slice none 0 0,.slice none 0 0,.slice none 0 0,.int .i64 15,.int .i64 1,.string ⟨#[]⟩,.string ⟨#[]⟩,.int .i64 0,.int .i64 0,.slice none 0 0,.slice none 0 0,.slice (some ⟨w11.heap.size+1,0,none⟩) 2 2] 29):=⟨_,rfl⟩
      have bZ4:Below Z3.heap.size Z3 Z4:=by rw [hZ4];exact (Below.refl _ _).alloc (Nat.le_refl _) _
      have zZ4:Z4.heap.size=Z3.heap.size+1:=by rw [hZ4];simp
      obtain ⟨Z5,hZ5⟩:∃ Z,Z=Z4.alloc (.cells #[.int .i64 14,.int .i64 0,.string ⟨#[104]⟩,.string ⟨#[114]⟩,.int .i64 0,.int .i64 0,.slice none 0 0,.slice none 0 0,.slice (some ⟨w11.heap.size+1+1,0,none⟩) 3 3] 29):=⟨_,rfl⟩
      have bZ5:Below Z4.heap.size Z4 Z5:=by rw [hZ5];exact (Below.refl _ _).alloc (Nat.le_refl _) _
      have zZ5:Z5.heap.size=Z4.heap.size+1:=by rw [hZ5];simp
      obtain ⟨Z6,hZ6⟩:∃ Z,Z=Z5.alloc (.cells #[.int .i64 4,.int .i64 0,.string ⟨#[108]⟩,.string ⟨#[]⟩,.int .i64 6,.int .i64 0,.slice aL lL cL,.slice none 0 0,.slice (some ⟨w11.heap.size+1+1+1,0,none⟩) 1 1] 29):=⟨_,rfl⟩
      have bZ6:Below Z5.heap.size Z5 Z6:=by rw [hZ6];exact (Below.refl _ _).alloc (Nat.le_refl _) _
      have zZ6:Z6.heap.size=Z5.heap.size+1:=by rw [hZ6];simp
      have BB5:Below V.heap.size V Z5:=((bZ2.trans (bZ3.mono bZ2.size)).trans (bZ4.mono (bZ2.trans (bZ3.mono bZ2.size)).size)).trans (bZ5.mono ((bZ2.trans (bZ3.mono bZ2.size)).trans (bZ4.mono (bZ2.trans (bZ3.mono bZ2.size)).size)).size)
      have hL0:=hs_set1 (hs_up6 (hsL.deeper (show 2≤14 by omega)) B1) (show w.heap.size+4 < w.heap.size+5+1 by omega) 8 (.slice (some ⟨w11.heap.size+1+1+1+1,0,none⟩) 1 1)
      rw [← hV] at hL0
      have hL1:=hs_up6 hL0 BB5
      have M2:Hm (w.heap.size+6) Z2.heap.size Z2 14 1 (some ⟨w11.heap.size,0,none⟩) 2 [⟨3,0,⟨#[108,101,110]⟩,⟨#[]⟩,⟨0,0,[]⟩,[],[]⟩,⟨3,0,⟨#[114]⟩,⟨#[]⟩,⟨0,0,[]⟩,[],[]⟩]:=by rw [show w11.heap.size=V.heap.size by omega,hZ2];exact hm_new2 (t:=⟨3,0,⟨#[108,101,110]⟩,⟨#[]⟩,⟨0,0,[]⟩,[],[]⟩) (u:=⟨3,0,⟨#[114]⟩,⟨#[]⟩,⟨0,0,[]⟩,[],[]⟩) (fm_leaf _ _ _ _ _ _ _ _ (by decide)) (fm_leaf _ _ _ _ _ _ _ _ (by decide)) (by omega)
      have M3:Hm (w.heap.size+6) Z3.heap.size Z3 14 2 (some ⟨(w11.heap.size+1),0,none⟩) 2 [⟨1,1,⟨#[]⟩,⟨#[]⟩,⟨0,0,[]⟩,[],[]⟩,⟨5,0,⟨#[]⟩,⟨#[]⟩,⟨0,0,[]⟩,[],[⟨3,0,⟨#[108,101,110]⟩,⟨#[]⟩,⟨0,0,[]⟩,[],[]⟩,⟨3,0,⟨#[114]⟩,⟨#[]⟩,⟨0,0,[]⟩,[],[]⟩]⟩]:=by rw [show (w11.heap.size+1)=Z2.heap.size by omega,hZ3];exact hm_new2 (t:=⟨1,1,⟨#[]⟩,⟨#[]⟩,⟨0,0,[]⟩,[],[]⟩) (u:=⟨5,0,⟨#[]⟩,⟨#[]⟩,⟨0,0,[]⟩,[],[⟨3,0,⟨#[108,101,110]⟩,⟨#[]⟩,⟨0,0,[]⟩,[],[]⟩,⟨3,0,⟨#[114]⟩,⟨#[]⟩,⟨0,0,[]⟩,[],[]⟩]⟩) (fm_leaf _ _ _ _ _ _ _ _ (by decide)) (fm_node 5 0 ⟨#[]⟩ ⟨#[]⟩ ⟨0,0,[]⟩ [⟨3,0,⟨#[108,101,110]⟩,⟨#[]⟩,⟨0,0,[]⟩,[],[]⟩,⟨3,0,⟨#[114]⟩,⟨#[]⟩,⟨0,0,[]⟩,[],[]⟩] (by decide) (by decide) (Hs.nil _ _ _ _ none) M2) (by omega)
      have M4:Hm (w.heap.size+6) Z4.heap.size Z4 14 3 (some ⟨(w11.heap.size+1+1),0,none⟩) 3 [⟨3,0,⟨#[108]⟩,⟨#[]⟩,⟨0,0,[]⟩,[],[]⟩,⟨1,0,⟨#[]⟩,⟨#[]⟩,⟨0,0,[]⟩,[],[]⟩,⟨15,1,⟨#[]⟩,⟨#[]⟩,⟨0,0,[]⟩,[],[⟨1,1,⟨#[]⟩,⟨#[]⟩,⟨0,0,[]⟩,[],[]⟩,⟨5,0,⟨#[]⟩,⟨#[]⟩,⟨0,0,[]⟩,[],[⟨3,0,⟨#[108,101,110]⟩,⟨#[]⟩,⟨0,0,[]⟩,[],[]⟩,⟨3,0,⟨#[114]⟩,⟨#[]⟩,⟨0,0,[]⟩,[],[]⟩]⟩]⟩]:=by rw [show (w11.heap.size+1+1)=Z3.heap.size by omega,hZ4];exact hm_new3 (t:=⟨3,0,⟨#[108]⟩,⟨#[]⟩,⟨0,0,[]⟩,[],[]⟩) (u:=⟨1,0,⟨#[]⟩,⟨#[]⟩,⟨0,0,[]⟩,[],[]⟩) (x:=⟨15,1,⟨#[]⟩,⟨#[]⟩,⟨0,0,[]⟩,[],[⟨1,1,⟨#[]⟩,⟨#[]⟩,⟨0,0,[]⟩,[],[]⟩,⟨5,0,⟨#[]⟩,⟨#[]⟩,⟨0,0,[]⟩,[],[⟨3,0,⟨#[108,101,110]⟩,⟨#[]⟩,⟨0,0,[]⟩,[],[]⟩,⟨3,0,⟨#[114]⟩,⟨#[]⟩,⟨0,0,[]⟩,[],[]⟩]⟩]⟩) (fm_leaf _ _ _ _ _ _ _ _ (by decide)) (fm_leaf _ _ _ _ _ _ _ _ (by decide)) (fm_node 15 1 ⟨#[]⟩ ⟨#[]⟩ ⟨0,0,[]⟩ [⟨1,1,⟨#[]⟩,⟨#[]⟩,⟨0,0,[]⟩,[],[]⟩,⟨5,0,⟨#[]⟩,⟨#[]⟩,⟨0,0,[]⟩,[],[⟨3,0,⟨#[108,101,110]⟩,⟨#[]⟩,⟨0,0,[]⟩,[],[]⟩,⟨3,0,⟨#[114]⟩,⟨#[]⟩,⟨0,0,[]⟩,[],[]⟩]⟩] (by decide) (by decide) (Hs.nil _ _ _ _ none) M3) (by omega)
      have M5:Hm (w.heap.size+6) Z5.heap.size Z5 14 4 (some ⟨(w11.heap.size+1+1+1),0,none⟩) 1 [⟨14,0,⟨#[104]⟩,⟨#[114]⟩,⟨0,0,[]⟩,[],[⟨3,0,⟨#[108]⟩,⟨#[]⟩,⟨0,0,[]⟩,[],[]⟩,⟨1,0,⟨#[]⟩,⟨#[]⟩,⟨0,0,[]⟩,[],[]⟩,⟨15,1,⟨#[]⟩,⟨#[]⟩,⟨0,0,[]⟩,[],[⟨1,1,⟨#[]⟩,⟨#[]⟩,⟨0,0,[]⟩,[],[]⟩,⟨5,0,⟨#[]⟩,⟨#[]⟩,⟨0,0,[]⟩,[],[⟨3,0,⟨#[108,101,110]⟩,⟨#[]⟩,⟨0,0,[]⟩,[],[]⟩,⟨3,0,⟨#[114]⟩,⟨#[]⟩,⟨0,0,[]⟩,[],[]⟩]⟩]⟩]⟩]:=by rw [show (w11.heap.size+1+1+1)=Z4.heap.size by omega,hZ5];exact hm_new1 (t:=⟨14,0,⟨#[104]⟩,⟨#[114]⟩,⟨0,0,[]⟩,[],[⟨3,0,⟨#[108]⟩,⟨#[]⟩,⟨0,0,[]⟩,[],[]⟩,⟨1,0,⟨#[]⟩,⟨#[]⟩,⟨0,0,[]⟩,[],[]⟩,⟨15,1,⟨#[]⟩,⟨#[]⟩,⟨0,0,[]⟩,[],[⟨1,1,⟨#[]⟩,⟨#[]⟩,⟨0,0,[]⟩,[],[]⟩,⟨5,0,⟨#[]⟩,⟨#[]⟩,⟨0,0,[]⟩,[],[⟨3,0,⟨#[108,101,110]⟩,⟨#[]⟩,⟨0,0,[]⟩,[],[]⟩,⟨3,0,⟨#[114]⟩,⟨#[]⟩,⟨0,0,[]⟩,[],[]⟩]⟩]⟩]⟩) (fm_node 14 0 ⟨#[104]⟩ ⟨#[114]⟩ ⟨0,0,[]⟩ [⟨3,0,⟨#[108]⟩,⟨#[]⟩,⟨0,0,[]⟩,[],[]⟩,⟨1,0,⟨#[]⟩,⟨#[]⟩,⟨0,0,[]⟩,[],[]⟩,⟨15,1,⟨#[]⟩,⟨#[]⟩,⟨0,0,[]⟩,[],[⟨1,1,⟨#[]⟩,⟨#[]⟩,⟨0,0,[]⟩,[],[]⟩,⟨5,0,⟨#[]⟩,⟨#[]⟩,⟨0,0,[]⟩,[],[⟨3,0,⟨#[108,101,110]⟩,⟨#[]⟩,⟨0,0,[]⟩,[],[]⟩,⟨3,0,⟨#[114]⟩,⟨#[]⟩,⟨0,0,[]⟩,[],[]⟩]⟩]⟩] (by decide) (by decide) (Hs.nil _ _ _ _ none) M4) (by omega)
      have N6:=fm_up (fm_node 4 0 ⟨#[108]⟩ ⟨#[]⟩ ⟨6,0,[⟨3,0,[]⟩]⟩ [⟨14,0,⟨#[104]⟩,⟨#[114]⟩,⟨0,0,[]⟩,[],[⟨3,0,⟨#[108]⟩,⟨#[]⟩,⟨0,0,[]⟩,[],[]⟩,⟨1,0,⟨#[]⟩,⟨#[]⟩,⟨0,0,[]⟩,[],[]⟩,⟨15,1,⟨#[]⟩,⟨#[]⟩,⟨0,0,[]⟩,[],[⟨1,1,⟨#[]⟩,⟨#[]⟩,⟨0,0,[]⟩,[],[]⟩,⟨5,0,⟨#[]⟩,⟨#[]⟩,⟨0,0,[]⟩,[],[⟨3,0,⟨#[108,101,110]⟩,⟨#[]⟩,⟨0,0,[]⟩,[],[]⟩,⟨3,0,⟨#[114]⟩,⟨#[]⟩,⟨0,0,[]⟩,[],[]⟩]⟩]⟩]⟩] (by decide) (by decide) hL1 M5) bZ6
      have g6:Z6.heap[w11.heap.size+1+1+1+1]?=some (.cells #[.int .i64 4,.int .i64 0,.string ⟨#[108]⟩,.string ⟨#[]⟩,.int .i64 6,.int .i64 0,.slice aL lL cL,.slice none 0 0,.slice (some ⟨w11.heap.size+1+1+1,0,none⟩) 1 1] 29 (0,0)):=by rw [hZ6];exact heap_new (by omega)
      have BB6:Below V.heap.size V Z6:=BB5.trans (bZ6.mono BB5.size)
      have h14:=hSV.below BB6
      have hs13:=hs_set1 (hs_up6 hs6 B1) (show w.heap.size+4 < w.heap.size+5+1 by omega) 8 (.slice (some ⟨w11.heap.size+1+1+1+1,0,none⟩) 1 1)
      rw [← hV] at hs13
      have hs14:=hs_up6 hs13 BB6
      obtain ⟨⟨y0,y1,y2,y4,y5,y6,y8,yf⟩,⟨z0,z1,z2,zf⟩,⟨k0,k1,k2⟩,⟨j0,j1,j2⟩⟩:=(h11).facts hp hX2 hX3
      have hq0:w.heap.size+4 < w11.heap.size:=by omega
      have hq1:w.heap.size+4 < w11.heap.size+1:=by omega
      have hq2:w.heap.size+4 < w11.heap.size+1+1:=by omega
      have hq3:w.heap.size+4 < w11.heap.size+1+1+1:=by omega
      have hq4:w.heap.size+4 < w11.heap.size+1+1+1+1:=by omega
      go_wp2_with fail
      have hTY:RtV 4 1 ⟨4,0,[⟨6,0,[⟨3,0,[]⟩]⟩,⟨1,0,[]⟩]⟩:=rt_two (by omega) (rt_list (by omega) (rt_var (by omega) (by omega) (by omega) (by omega))) (leafV 3 (by omega) (by omega) (by omega) (by decide))
      go_meet
      rw [← hV,← hZ2,← hZ3,← hZ4,← hZ5,← hZ6]
      exact ⟨7,1,⟨#[108,101,110]⟩,⟨4,0,[⟨6,0,[⟨3,0,[]⟩]⟩,⟨1,0,[]⟩]⟩,a2,l2,c2,.slice (some ⟨w11.heap.size+1+1+1+1,0,none⟩) 1 1,⟨4,0,[⟨6,0,[⟨3,0,[]⟩]⟩,⟨1,0,[]⟩]⟩,a2,l2,c2,h14,by omega,by decide,hs14,hs14,hTY.1,Or.inr hTY,Or.inr ⟨_,⟨4,0,⟨#[108]⟩,⟨#[]⟩,⟨6,0,[⟨3,0,[]⟩]⟩,[],[⟨14,0,⟨#[104]⟩,⟨#[114]⟩,⟨0,0,[]⟩,[],[⟨3,0,⟨#[108]⟩,⟨#[]⟩,⟨0,0,[]⟩,[],[]⟩,⟨1,0,⟨#[]⟩,⟨#[]⟩,⟨0,0,[]⟩,[],[]⟩,⟨15,1,⟨#[]⟩,⟨#[]⟩,⟨0,0,[]⟩,[],[⟨1,1,⟨#[]⟩,⟨#[]⟩,⟨0,0,[]⟩,[],[]⟩,⟨5,0,⟨#[]⟩,⟨#[]⟩,⟨0,0,[]⟩,[],[⟨3,0,⟨#[108,101,110]⟩,⟨#[]⟩,⟨0,0,[]⟩,[],[]⟩,⟨3,0,⟨#[114]⟩,⟨#[]⟩,⟨0,0,[]⟩,[],[]⟩]⟩]⟩]⟩]⟩,_,_,_,_,_,_,_,_,_,rfl,by omega,g6,N6.wider (fun _ _ _ h=>h) (fun _ _ _ h=>h.deeper (by omega) (Nat.le_refl _))⟩⟩
    · go_wp2_with fail
      have h1:=((hS1.setS ⟨#[109,97,112]⟩).setK 7).setN 2
      refine (l3Two_any (w.heap.size+5) 1 4 ⟨3,0,[]⟩ ⟨3,1,[]⟩ _ _ _ (by simp;omega) ⟨none,0,0,rfl,Hs.nil _ _ _ _ _⟩ ⟨none,0,0,rfl,Hs.nil _ _ _ _ _⟩).mono ?_
      rintro e w2 ⟨v',rfl,⟨aF,lF,cF,rfl,hsF⟩,hb2⟩
      have h2:=h1.below hb2
      have hz2:=h2.lt
      obtain ⟨Wf,hWf⟩:∃ Z,Z=w2.alloc (.cells #[.int .i64 4,.int .i64 0,.slice aF lF cF] 26):=⟨_,rfl⟩
      have bWf:Below w2.heap.size w2 Wf:=by rw [hWf];exact (Below.refl _ _).alloc (Nat.le_refl _) _
      have zWf:Wf.heap.size=w2.heap.size+1:=by rw [hWf];simp
      have gF:Wf.heap[w2.heap.size]?=some (.cells #[.int .i64 4,.int .i64 0,.slice aF lF cF] 26 (0,0)):=by rw [hWf];exact heap_new rfl
      have h3:=h2.below bWf
      have hz3:=h3.lt
      clear y0 y1 y2 y4 y5 y6 y8 yf z0 z1 z2 zf k0 k1 k2 j0 j1 j2
      go_wp2_with fail
      rw [← hWf]
      have HG:Hid (∀ W':World,Below Wf.heap.size Wf W'→W'.heap[w2.heap.size]?=some (.cells #[.int .i64 4,.int .i64 0,.slice aF lF cF] 26 (0,0))):=fun W' hb=>(hb.block _ (by omega)).trans gF
      have HF:Hid (∀ W':World,Below Wf.heap.size Wf W'→W'.cell? ⟨w2.heap.size,0,none⟩=some (.int .i64 4)∧W'.cell? ⟨w2.heap.size,1,none⟩=some (.int .i64 0)∧W'.cell? ⟨w2.heap.size,2,none⟩=some (.slice aF lF cF)∧W'.cell? ⟨w.heap.size+2,0,none⟩=some (.int .i64 3)∧W'.cell? ⟨w.heap.size+2,1,none⟩=some (.int .i64 0)∧W'.cell? ⟨w.heap.size+2,2,none⟩=some (.slice none 0 0)∧W'.cell? ⟨w.heap.size+3,0,none⟩=some (.int .i64 3)∧W'.cell? ⟨w.heap.size+3,1,none⟩=some (.int .i64 1)∧W'.cell? ⟨w.heap.size+3,2,none⟩=some (.slice none 0 0)):=fun W' hb=>let f:=(h3.below hb).facts hp hX2 hX3;let g:=box_cells (HG.out W' hb);⟨g.1,g.2.1,g.2.2,f.2.2.1.1,f.2.2.1.2.1,f.2.2.1.2.2,f.2.2.2.1,f.2.2.2.2.1,f.2.2.2.2.2⟩
      have HFU:Hid (∀ (W':World),Below Wf.heap.size Wf W'→∀ (a b:Int) (v:Value),(((W'.setCell ⟨w.heap.size+5,0,none⟩ (.int .i64 a)).setCell ⟨w.heap.size+5,1,none⟩ (.int .i64 b)).setCell ⟨w.heap.size+5,2,none⟩ v).cell? ⟨w2.heap.size,0,none⟩=some (.int .i64 4)∧(((W'.setCell ⟨w.heap.size+5,0,none⟩ (.int .i64 a)).setCell ⟨w.heap.size+5,1,none⟩ (.int .i64 b)).setCell ⟨w.heap.size+5,2,none⟩ v).cell? ⟨w2.heap.size,1,none⟩=some (.int .i64 0)∧(((W'.setCell ⟨w.heap.size+5,0,none⟩ (.int .i64 a)).setCell ⟨w.heap.size+5,1,none⟩ (.int .i64 b)).setCell ⟨w.heap.size+5,2,none⟩ v).cell? ⟨w2.heap.size,2,none⟩=some (.slice aF lF cF)∧(((W'.setCell ⟨w.heap.size+5,0,none⟩ (.int .i64 a)).setCell ⟨w.heap.size+5,1,none⟩ (.int .i64 b)).setCell ⟨w.heap.size+5,2,none⟩ v).cell? ⟨w.heap.size+2,0,none⟩=some (.int .i64 3)∧(((W'.setCell ⟨w.heap.size+5,0,none⟩ (.int .i64 a)).setCell ⟨w.heap.size+5,1,none⟩ (.int .i64 b)).setCell ⟨w.heap.size+5,2,none⟩ v).cell? ⟨w.heap.size+2,1,none⟩=some (.int .i64 0)∧(((W'.setCell ⟨w.heap.size+5,0,none⟩ (.int .i64 a)).setCell ⟨w.heap.size+5,1,none⟩ (.int .i64 b)).setCell ⟨w.heap.size+5,2,none⟩ v).cell? ⟨w.heap.size+2,2,none⟩=some (.slice none 0 0)∧(((W'.setCell ⟨w.heap.size+5,0,none⟩ (.int .i64 a)).setCell ⟨w.heap.size+5,1,none⟩ (.int .i64 b)).setCell ⟨w.heap.size+5,2,none⟩ v).cell? ⟨w.heap.size+3,0,none⟩=some (.int .i64 3)∧(((W'.setCell ⟨w.heap.size+5,0,none⟩ (.int .i64 a)).setCell ⟨w.heap.size+5,1,none⟩ (.int .i64 b)).setCell ⟨w.heap.size+5,2,none⟩ v).cell? ⟨w.heap.size+3,1,none⟩=some (.int .i64 1)∧(((W'.setCell ⟨w.heap.size+5,0,none⟩ (.int .i64 a)).setCell ⟨w.heap.size+5,1,none⟩ (.int .i64 b)).setCell ⟨w.heap.size+5,2,none⟩ v).cell? ⟨w.heap.size+3,2,none⟩=some (.slice none 0 0)):=fun W' hb a b v=>let f:=((h3.below hb).setU a b v).facts hp hX2 hX3;let g:=box_cells ((set3_hi (W:=W') (b:=w.heap.size+5) (k:=w2.heap.size) (by omega) 0 1 2 (.int .i64 a) (.int .i64 b) v).trans (HG.out W' hb));⟨g.1,g.2.1,g.2.2,f.2.2.1.1,f.2.2.1.2.1,f.2.2.1.2.2,f.2.2.2.1,f.2.2.2.2.1,f.2.2.2.2.2⟩
      have bb0:Below Wf.heap.size Wf Wf.drew:=(Below.refl _ _).drew
      have hq0:w.heap.size+5 < Wf.drew.heap.size:=by show _ < Wf.heap.size;omega
      have hsF0:=hs_up6 hsF bWf
      clear hWf
      go_region_held3 (fun w'=>w'.cell? ⟨w2.heap.size,0,none⟩=some (.int .i64 4)∧w'.cell? ⟨w2.heap.size,1,none⟩=some (.int .i64 0)∧w'.cell? ⟨w2.heap.size,2,none⟩=some (.slice aF lF cF)∧w'.cell? ⟨w.heap.size+2,0,none⟩=some (.int .i64 3)∧w'.cell? ⟨w.heap.size+2,1,none⟩=some (.int .i64 0)∧w'.cell? ⟨w.heap.size+2,2,none⟩=some (.slice none 0 0)∧w'.cell? ⟨w.heap.size+3,0,none⟩=some (.int .i64 3)∧w'.cell? ⟨w.heap.size+3,1,none⟩=some (.int .i64 1)∧w'.cell? ⟨w.heap.size+3,2,none⟩=some (.slice none 0 0))
        (first | with_reducible exact HFU.out _ bb4 _ _ _ | with_reducible exact HF.out _ bb4 | with_reducible exact HF.out _ bb3 | with_reducible exact HF.out _ bb2 | with_reducible exact HF.out _ bb1 | with_reducible exact HF.out _ bb0)
        (first
          | (go_at_call 55;refine (l3Two_any (w.heap.size+5) 3 4 ⟨4,0,[⟨3,0,[]⟩,⟨3,1,[]⟩]⟩ ⟨4,0,[⟨6,0,[⟨3,0,[]⟩]⟩,⟨6,0,[⟨3,1,[]⟩]⟩]⟩ _ tv3 _ hq3 ⟨aF,lF,cF,rfl,hsF3.deeper (by omega)⟩ hT3).mono ?_;rintro e v4 ⟨tv4,rfl,⟨a2,l2,c2,rfl,hs2⟩,hb4⟩;have bb4:Below Wf.heap.size Wf v4:=bb3.trans (hb4.mono bb3.size);obtain ⟨_,⟨z0,z1,z2,zf⟩,_,_⟩:=(h3.below bb4).facts hp hX2 hX3)
          | (go_at_call 55;refine (l3Two_any (w.heap.size+5) 2 4 ⟨6,0,[⟨3,0,[]⟩]⟩ ⟨6,0,[⟨3,1,[]⟩]⟩ tv1 tv2 _ hq2 hT1b hT2).mono ?_;rintro e v3 ⟨tv3,rfl,hT3,hb3⟩;have bb3:Below Wf.heap.size Wf v3:=bb2.trans (hb3.mono bb2.size);have hq3:w.heap.size+5 < v3.heap.size:=Nat.lt_of_lt_of_le hq2 hb3.size;have hsF3:=hs_up6 hsF0 bb3)
          | (go_at_call 37;refine (l3List_any (w.heap.size+5) 1 ⟨3,1,[]⟩ _ _ hq1 ⟨none,0,0,rfl,Hs.nil _ _ _ _ _⟩).mono ?_;rintro e v2 ⟨tv2,rfl,hT2,hbv2⟩;have bb2:Below Wf.heap.size Wf v2:=bb1.trans (hbv2.mono bb1.size);have hq2:w.heap.size+5 < v2.heap.size:=Nat.lt_of_lt_of_le hq1 hbv2.size;have hT1b:=hT1.grown (grown_below (some (w.heap.size+5)) hbv2))
          | (go_at_call 37;refine (l3List_any (w.heap.size+5) 1 ⟨3,0,[]⟩ _ _ hq0 ⟨none,0,0,rfl,Hs.nil _ _ _ _ _⟩).mono ?_;rintro e v1 ⟨tv1,rfl,hT1,hbv1⟩;have bb1:Below Wf.heap.size Wf v1:=bb0.trans hbv1;have hq1:w.heap.size+5 < v1.heap.size:=Nat.lt_of_lt_of_le hq0 hbv1.size))
      all_goals
        have h4:=(h3.below bb4).setU 4 0 (.slice a2 l2 c2)
        have hz4:=h4.lt
        have hs4:=hs_set3 (hs2.deeper (show 4≤4 by omega)) (show w.heap.size+5 < _ by omega) 0 1 2 (.int .i64 4) (.int .i64 0) (.slice a2 l2 c2)
        go_wp2_with fail
        have h5:=h4.setY 4 0 (.slice a2 l2 c2)
        have hz5:=h5.lt
        have hs5:=hs_set3 hs4 (show w.heap.size+4 < _ by omega) 4 5 6 (.int .i64 4) (.int .i64 0) (.slice a2 l2 c2)
        obtain ⟨W5,hW5⟩:∃ Z,Z=(((((v4.setCell ⟨w.heap.size+5,0,none⟩ (.int .i64 4)).setCell ⟨w.heap.size+5,1,none⟩ (.int .i64 0)).setCell ⟨w.heap.size+5,2,none⟩ (.slice a2 l2 c2)).setCell ⟨w.heap.size+4,4,none⟩ (.int .i64 4)).setCell ⟨w.heap.size+4,5,none⟩ (.int .i64 0)).setCell ⟨w.heap.size+4,6,none⟩ (.slice a2 l2 c2):=⟨_,rfl⟩
        rw [← hW5] at h5 hs5 hz5
        rw [← hW5]
        have hF5:W5.heap[w2.heap.size]?=some (.cells #[.int .i64 4,.int .i64 0,.slice aF lF cF] 26 (0,0)):=by rw [hW5];exact (set3_hi (by omega) _ _ _ _ _ _).trans ((set3_hi (by omega) _ _ _ _ _ _).trans (HG.out v4 bb4))
        have hsF5:Hs (w.heap.size+6) W5.heap.size W5 2 aF lF [⟨3,0,[]⟩,⟨3,1,[]⟩]:=by rw [hW5];exact hs_set3 (hs_set3 (hs_up6 hsF0 bb4) (by omega) _ _ _ _ _ _) (by omega) _ _ _ _ _ _
        have hlF5:w2.heap.size < W5.heap.size:=(Array.getElem?_eq_some_iff.1 hF5).1
        refine (l3V_lit _ _).mono ?_
        rintro e w5 ⟨rfl,hbw5⟩
        have h5a:=h5.below hbw5
        go_wp2_with fail
        refine (l3V_lit _ _).mono ?_
        rintro e w6 ⟨rfl,hbw6⟩
        have h6:=h5a.below hbw6
        have hz6:=h6.lt
        obtain ⟨Z1,hZ1⟩:∃ Z,Z=w6.alloc (.cells #[.int .i64 3,.int .i64 0,.string ⟨#[109,97,112]⟩,.string ⟨#[]⟩,.int .i64 0,.int .i64 0,.slice none 0 0,.slice none 0 0,.slice none 0 0,.int .i64 3,.int .i64 0,.string ⟨#[103]⟩,.string ⟨#[]⟩,.int .i64 0,.int .i64 0,.slice none 0 0,.slice none 0 0,.slice none 0 0] 29):=⟨_,rfl⟩
        have bZ1:Below w6.heap.size w6 Z1:=by rw [hZ1];exact (Below.refl _ _).alloc (Nat.le_refl _) _
        have zZ1:Z1.heap.size=w6.heap.size+1:=by rw [hZ1];simp
        have M1:Hm (w.heap.size+6) Z1.heap.size Z1 14 1 (some ⟨w6.heap.size,0,none⟩) 2 [⟨3,0,⟨#[109,97,112]⟩,⟨#[]⟩,⟨0,0,[]⟩,[],[]⟩,⟨3,0,⟨#[103]⟩,⟨#[]⟩,⟨0,0,[]⟩,[],[]⟩]:=by rw [hZ1];exact hm_new2 (t:=⟨3,0,⟨#[109,97,112]⟩,⟨#[]⟩,⟨0,0,[]⟩,[],[]⟩) (u:=⟨3,0,⟨#[103]⟩,⟨#[]⟩,⟨0,0,[]⟩,[],[]⟩) (fm_leaf _ _ _ _ _ _ _ _ (by decide)) (fm_leaf _ _ _ _ _ _ _ _ (by decide)) (by omega)
        go_wp2_with fail
        rw [← hZ1]
        have h6a:=h6.below bZ1
        refine (l3V_lit _ _).mono ?_
        rintro e w7 ⟨rfl,hbw7⟩
        have h7:=h6a.below hbw7
        have hz7:=h7.lt
        obtain ⟨Z2,hZ2⟩:∃ Z,Z=w7.alloc (.cells #[.int .i64 5,.int .i64 0,.string ⟨#[]⟩,.string ⟨#[]⟩,.int .i64 0,.int .i64 0,.slice none 0 0,.slice none 0 0,.slice (some ⟨w6.heap.size,0,none⟩) 2 2,.int .i64 3,.int .i64 0,.string ⟨#[114]⟩,.string ⟨#[]⟩,.int .i64 0,.int .i64 0,.slice none 0 0,.slice none 0 0,.slice none 0 0] 29):=⟨_,rfl⟩
        have bZ2:Below w7.heap.size w7 Z2:=by rw [hZ2];exact (Below.refl _ _).alloc (Nat.le_refl _) _
        have zZ2:Z2.heap.size=w7.heap.size+1:=by rw [hZ2];simp
        have M2:Hm (w.heap.size+6) Z2.heap.size Z2 14 2 (some ⟨w7.heap.size,0,none⟩) 2 [⟨5,0,⟨#[]⟩,⟨#[]⟩,⟨0,0,[]⟩,[],[⟨3,0,⟨#[109,97,112]⟩,⟨#[]⟩,⟨0,0,[]⟩,[],[]⟩,⟨3,0,⟨#[103]⟩,⟨#[]⟩,⟨0,0,[]⟩,[],[]⟩]⟩,⟨3,0,⟨#[114]⟩,⟨#[]⟩,⟨0,0,[]⟩,[],[]⟩]:=by rw [hZ2];exact hm_new2 (t:=⟨5,0,⟨#[]⟩,⟨#[]⟩,⟨0,0,[]⟩,[],[⟨3,0,⟨#[109,97,112]⟩,⟨#[]⟩,⟨0,0,[]⟩,[],[]⟩,⟨3,0,⟨#[103]⟩,⟨#[]⟩,⟨0,0,[]⟩,[],[]⟩]⟩) (u:=⟨3,0,⟨#[114]⟩,⟨#[]⟩,⟨0,0,[]⟩,[],[]⟩) (fm_up (fm_node 5 0 ⟨#[]⟩ ⟨#[]⟩ ⟨0,0,[]⟩ [⟨3,0,⟨#[109,97,112]⟩,⟨#[]⟩,⟨0,0,[]⟩,[],[]⟩,⟨3,0,⟨#[103]⟩,⟨#[]⟩,⟨0,0,[]⟩,[],[]⟩] (by decide) (by decide) (Hs.nil _ _ _ _ none) M1) hbw7) (fm_leaf _ _ _ _ _ _ _ _ (by decide)) (by omega)
        obtain ⟨Z3,hZ3⟩:∃ Z,Z=Z2.alloc (.cells #[.int .i64 5,.int .i64 0,.string ⟨#[]⟩,.string ⟨#[]⟩,.int .i64 0,.int .i64 0,.slice none 0 0,.slice none 0 0,.slice (some ⟨w7.heap.size,0,none⟩) 2 2] 29):=⟨_,rfl⟩
        have bZ3:Below Z2.heap.size Z2 Z3:=by rw [hZ3];exact (Below.refl _ _).alloc (Nat.le_refl _) _
        have zZ3:Z3.heap.size=Z2.heap.size+1:=by rw [hZ3];simp
        have gR:Z3.heap[w7.heap.size+1]?=some (.cells #[.int .i64 5,.int .i64 0,.string ⟨#[]⟩,.string ⟨#[]⟩,.int .i64 0,.int .i64 0,.slice none 0 0,.slice none 0 0,.slice (some ⟨w7.heap.size,0,none⟩) 2 2] 29 (0,0)):=by rw [hZ3];exact heap_new (by omega)
        have NR:=fm_up (fm_node 5 0 ⟨#[]⟩ ⟨#[]⟩ ⟨0,0,[]⟩ [⟨5,0,⟨#[]⟩,⟨#[]⟩,⟨0,0,[]⟩,[],[⟨3,0,⟨#[109,97,112]⟩,⟨#[]⟩,⟨0,0,[]⟩,[],[]⟩,⟨3,0,⟨#[103]⟩,⟨#[]⟩,⟨0,0,[]⟩,[],[]⟩]⟩,⟨3,0,⟨#[114]⟩,⟨#[]⟩,⟨0,0,[]⟩,[],[]⟩] (by decide) (by decide) (Hs.nil _ _ _ _ none) M2) bZ3
        have h8:=(h7.below bZ2).below bZ3
        have hz8:=h8.lt
        have BF:Below W5.heap.size W5 Z3:=((((hbw5.trans (hbw6.mono hbw5.size)).trans (bZ1.mono (hbw5.trans (hbw6.mono hbw5.size)).size)).trans (hbw7.mono ((hbw5.trans (hbw6.mono hbw5.size)).trans (bZ1.mono (hbw5.trans (hbw6.mono hbw5.size)).size)).size)).trans (bZ2.mono (((hbw5.trans (hbw6.mono hbw5.size)).trans (bZ1.mono (hbw5.trans (hbw6.mono hbw5.size)).size)).trans (hbw7.mono ((hbw5.trans (hbw6.mono hbw5.size)).trans (bZ1.mono (hbw5.trans (hbw6.mono hbw5.size)).size)).size)).size)).trans (bZ3.mono ((((hbw5.trans (hbw6.mono hbw5.size)).trans (bZ1.mono (hbw5.trans (hbw6.mono hbw5.size)).size)).trans (hbw7.mono ((hbw5.trans (hbw6.mono hbw5.size)).trans (bZ1.mono (hbw5.trans (hbw6.mono hbw5.size)).size)).size)).trans (bZ2.mono (((hbw5.trans (hbw6.mono hbw5.size)).trans (bZ1.mono (hbw5.trans (hbw6.mono hbw5.size)).size)).trans (hbw7.mono ((hbw5.trans (hbw6.mono hbw5.size)).trans (bZ1.mono (hbw5.trans (hbw6.mono hbw5.size)).size)).size)).size)).size)
        have hF8:=(BF.block _ hlF5).trans hF5
        have hsF8:=hs_up6 hsF5 BF
        have hs8:=hs_up6 hs5 BF
        go_upto_region 35 with fail
        rw [← hZ2,← hZ3]
        have HR:Hid (∀ W':World,Below Z3.heap.size Z3 W'→W'.heap[w7.heap.size+1]?=some (.cells #[.int .i64 5,.int .i64 0,.string ⟨#[]⟩,.string ⟨#[]⟩,.int .i64 0,.int .i64 0,.slice none 0 0,.slice none 0 0,.slice (some ⟨w7.heap.size,0,none⟩) 2 2] 29 (0,0))):=fun W' hb=>(hb.block _ (by omega)).trans gR
        have HP:Hid (∀ W':World,Below Z3.heap.size Z3 W'→W'.cell? ⟨w.heap.size+3,0,none⟩=some (.int .i64 3)∧W'.cell? ⟨w.heap.size+3,1,none⟩=some (.int .i64 1)∧W'.cell? ⟨w.heap.size+3,2,none⟩=some (.slice none 0 0)∧W'.cell? ⟨w7.heap.size+1,0,none⟩=some (.int .i64 5)∧W'.cell? ⟨w7.heap.size+1,1,none⟩=some (.int .i64 0)∧W'.cell? ⟨w7.heap.size+1,2,none⟩=some (.string ⟨#[]⟩)∧W'.cell? ⟨w7.heap.size+1,3,none⟩=some (.string ⟨#[]⟩)∧W'.cell? ⟨w7.heap.size+1,4,none⟩=some (.int .i64 0)∧W'.cell? ⟨w7.heap.size+1,5,none⟩=some (.int .i64 0)∧W'.cell? ⟨w7.heap.size+1,6,none⟩=some (.slice none 0 0)∧W'.cell? ⟨w7.heap.size+1,7,none⟩=some (.slice none 0 0)∧W'.cell? ⟨w7.heap.size+1,8,none⟩=some (.slice (some ⟨w7.heap.size,0,none⟩) 2 2)):=fun W' hb=>let f:=(h8.below hb).facts hp hX2 hX3;let g:=HR.out W' hb;⟨f.2.2.2.1,f.2.2.2.2.1,f.2.2.2.2.2,row_cell g 0,row_cell g 1,row_cell g 2,row_cell g 3,row_cell g 4,row_cell g 5,row_cell g 6,row_cell g 7,row_cell g 8⟩
        have cb0:Below Z3.heap.size Z3 Z3.drew:=(Below.refl _ _).drew
        have cb0a:∀ o,Below Z3.heap.size Z3 (Z3.alloc o).drew:=fun o=>((Below.refl _ _).alloc (Nat.le_refl _) _).drew
        have hA:((Z3.alloc (.cells #[.int .i64 0,.int .i64 0,.string ⟨#[]⟩,.string ⟨#[]⟩,.int .i64 0,.int .i64 0,.slice none 0 0,.slice none 0 0,.slice none 0 0] 29)).drew).heap[Z3.heap.size]?=some (.cells #[.int .i64 0,.int .i64 0,.string ⟨#[]⟩,.string ⟨#[]⟩,.int .i64 0,.int .i64 0,.slice none 0 0,.slice none 0 0,.slice none 0 0] 29 (0,0)):=by show (Z3.alloc _).heap[_]?=_;exact heap_new rfl
        have hRow:Hm (w.heap.size+6) Z3.heap.size Z3 14 2 (some ⟨w7.heap.size,0,none⟩) 2 [⟨5,0,⟨#[]⟩,⟨#[]⟩,⟨0,0,[]⟩,[],[⟨3,0,⟨#[109,97,112]⟩,⟨#[]⟩,⟨0,0,[]⟩,[],[]⟩,⟨3,0,⟨#[103]⟩,⟨#[]⟩,⟨0,0,[]⟩,[],[]⟩]⟩,⟨3,0,⟨#[114]⟩,⟨#[]⟩,⟨0,0,[]⟩,[],[]⟩]:=Hm.keep (fun k _ hk=>bZ3.block k hk) (Nat.le_refl _) bZ3.size M2
        have hL6:w.heap.size+6≤Z3.heap.size:=by omega
        have hlF8:w2.heap.size < Z3.heap.size:=(Array.getElem?_eq_some_iff.1 hF8).1
        clear hZ1 hZ2 hZ3 hW5 zZ1 zZ2 zZ3
        go_cut [15] from 127 to 138 (fun v wx=>BodyEnd Z3 wx (w.heap.size+6) w6.heap.size w7.heap.size v)
        case first =>
          go_wp2_with fail
          go_region_held3 (fun w'=>w'.cell? ⟨w.heap.size+3,0,none⟩=some (.int .i64 3)∧w'.cell? ⟨w.heap.size+3,1,none⟩=some (.int .i64 1)∧w'.cell? ⟨w.heap.size+3,2,none⟩=some (.slice none 0 0)∧w'.cell? ⟨w7.heap.size+1,0,none⟩=some (.int .i64 5)∧w'.cell? ⟨w7.heap.size+1,1,none⟩=some (.int .i64 0)∧w'.cell? ⟨w7.heap.size+1,2,none⟩=some (.string ⟨#[]⟩)∧w'.cell? ⟨w7.heap.size+1,3,none⟩=some (.string ⟨#[]⟩)∧w'.cell? ⟨w7.heap.size+1,4,none⟩=some (.int .i64 0)∧w'.cell? ⟨w7.heap.size+1,5,none⟩=some (.int .i64 0)∧w'.cell? ⟨w7.heap.size+1,6,none⟩=some (.slice none 0 0)∧w'.cell? ⟨w7.heap.size+1,7,none⟩=some (.slice none 0 0)∧w'.cell? ⟨w7.heap.size+1,8,none⟩=some (.slice (some ⟨w7.heap.size,0,none⟩) 2 2))
            (first | with_reducible exact HP.out _ (bel_al (bel_al (bel_al (bel_al cb3 _) _) _) _) | with_reducible exact HP.out _ (bel_al (bel_al (bel_al cb3 _) _) _) | with_reducible exact HP.out _ (bel_al (bel_al cb3 _) _) | with_reducible exact HP.out _ (bel_al cb3 _) | with_reducible exact HP.out _ cb3 | with_reducible exact HP.out _ (bel_al (bel_al (bel_al (cbN _ _ _ _ _ _ _ _ _) _) _) _) | with_reducible exact HP.out _ (bel_al (bel_al (cbN _ _ _ _ _ _ _ _ _) _) _) | with_reducible exact HP.out _ (bel_al (cbN _ _ _ _ _ _ _ _ _) _) | with_reducible exact HP.out _ (cbN _ _ _ _ _ _ _ _ _) | with_reducible exact HP.out _ (bel_al cb2 _) | with_reducible exact HP.out _ cb2 | with_reducible exact HP.out _ (bel_al cb1 _) | with_reducible exact HP.out _ cb1 | with_reducible exact HP.out _ (cb0a _) | with_reducible exact HP.out _ cb0)
            (first
              | (go_at_call 56;refine (l3V_lit _ _).mono ?_;rintro e x3 ⟨rfl,hx3⟩;have cb3:Below Z3.heap.size Z3 x3:=(bel_al cb2 _).trans (hx3.mono (bel_al cb2 _).size);have bq3:=(hx3.block x2.heap.size (by simp)).trans (heap_new rfl);have ql3:Z3.heap.size≤x2.heap.size:=cb2.size;obtain ⟨n0,n1,n2,n3,n4,n5,n6,n7,n8⟩:=Nine.box bq3;have nf:=row_free bq3;have nl:=(Array.getElem?_eq_some_iff.1 bq3).1;have cbN:=fun (a0 a1 a2 a3 a4 a5 a6 a7 a8:Value)=>cb3.trans ((nest9_below x3 _ a0 a1 a2 a3 a4 a5 a6 a7 a8).mono ql3);have nl1:=Nat.lt_add_right 1 nl;have nl2:=Nat.lt_add_right 1 nl1;have nl3:=Nat.lt_add_right 1 nl2)
              | (go_at_call 56;refine (l3V_lit _ _).mono ?_;rintro e x3 ⟨rfl,hx3⟩;have cb3:Below Z3.heap.size Z3 x3:=cb2.trans (hx3.mono cb2.size);have bq3:=(hx3.block _ (Array.getElem?_eq_some_iff.1 bq2).1).trans bq2;have ql3:=ql2;obtain ⟨n0,n1,n2,n3,n4,n5,n6,n7,n8⟩:=Nine.box bq3;have nf:=row_free bq3;have nl:=(Array.getElem?_eq_some_iff.1 bq3).1;have cbN:=fun (a0 a1 a2 a3 a4 a5 a6 a7 a8:Value)=>cb3.trans ((nest9_below x3 _ a0 a1 a2 a3 a4 a5 a6 a7 a8).mono ql3);have nl1:=Nat.lt_add_right 1 nl;have nl2:=Nat.lt_add_right 1 nl1;have nl3:=Nat.lt_add_right 1 nl2)
              | (go_at_call 56;refine (l3V_lit _ _).mono ?_;rintro e x3 ⟨rfl,hx3⟩;have cb3:Below Z3.heap.size Z3 x3:=cb2.trans (hx3.mono cb2.size);have mm:x3.heap.size < x3.heap.size+1:=Nat.lt_succ_self _;have mm1:=Nat.lt_add_right 1 mm;have mm2:=Nat.lt_add_right 1 mm1;have mm3:=Nat.lt_add_right 1 mm2;have mn:x3.heap.size+1 < x3.heap.size+1+1:=Nat.lt_succ_self _;have mn1:=Nat.lt_add_right 1 mn;have mn2:=Nat.lt_add_right 1 mn1;have mo:x3.heap.size+1+1 < x3.heap.size+1+1+1:=Nat.lt_succ_self _;have mo1:=Nat.lt_add_right 1 mo)
              | (go_at_call 56;refine (l3V_lit _ _).mono ?_;rintro e x2 ⟨rfl,hx2⟩;have cb2:Below Z3.heap.size Z3 x2:=(bel_al cb1 _).trans (hx2.mono (bel_al cb1 _).size);have bq2:=(hx2.block x1.heap.size (by simp)).trans (heap_new rfl);have ql2:Z3.heap.size≤x1.heap.size:=cb1.size)
              | (go_at_call 56;refine (l3V_lit _ _).mono ?_;rintro e x2 ⟨rfl,hx2⟩;have cb2:Below Z3.heap.size Z3 x2:=cb1.trans (hx2.mono cb1.size);have bq2:=(hx2.block _ (Array.getElem?_eq_some_iff.1 bq1).1).trans bq1;have ql2:=ql1)
              | (go_at_call 56;refine (l3V_lit _ _).mono ?_;rintro e x2 ⟨rfl,hx2⟩;have cb2:Below Z3.heap.size Z3 x2:=cb1.trans (hx2.mono cb1.size))
              | (go_at_call 56;refine (l3V_lit _ _).mono ?_;rintro e x1 ⟨rfl,hx1⟩;have cb1:Below Z3.heap.size Z3 x1:=(cb0a _).trans (hx1.mono (cb0a _).size);have bq1:=(hx1.block Z3.heap.size (by simp)).trans hA;have ql1:Z3.heap.size≤Z3.heap.size:=Nat.le_refl _)
              | (go_at_call 56;refine (l3V_lit _ _).mono ?_;rintro e x1 ⟨rfl,hx1⟩;have cb1:Below Z3.heap.size Z3 x1:=cb0.trans (hx1.mono cb0.size)))
          all_goals
            go_wp2_with fail
            go_meet
            first
              | with_reducible exact body_fin (x3.heap.size+1+1+1) x3.heap.size (x3.heap.size+1) (x3.heap.size+1+1) (bel_al (bel_al (bel_al (bel_al cb3 _) _) _) _) hL6 (by have:=cb3.size;omega) (by have:=cb3.size;omega) (by have:=cb3.size;omega) (by have:=cb3.size;omega) (al4_0 _ _ _ _ _) (al4_1 _ _ _ _ _) (al4_2 _ _ _ _ _) (al4_3 _ _ _ _ _) hRow
              | with_reducible exact body_fin (x3.heap.size+1+1) x3.heap.size (x3.heap.size+1) (x3.heap.size+1+1+1) (bel_al (bel_al (bel_al (bel_al cb3 _) _) _) _) hL6 (by have:=cb3.size;omega) (by have:=cb3.size;omega) (by have:=cb3.size;omega) (by have:=cb3.size;omega) (al4_0 _ _ _ _ _) (al4_1 _ _ _ _ _) (al4_3 _ _ _ _ _) (al4_2 _ _ _ _ _) hRow
              | with_reducible exact body_fin (x3.heap.size+1) x3.heap.size (x3.heap.size+1+1) (x3.heap.size+1+1+1) (bel_al (bel_al (bel_al (bel_al cb3 _) _) _) _) hL6 (by have:=cb3.size;omega) (by have:=cb3.size;omega) (by have:=cb3.size;omega) (by have:=cb3.size;omega) (al4_0 _ _ _ _ _) (al4_2 _ _ _ _ _) (al4_3 _ _ _ _ _) (al4_1 _ _ _ _ _) hRow
              | with_reducible exact body_fin x3.heap.size (x3.heap.size+1) (x3.heap.size+1+1) (x3.heap.size+1+1+1) (bel_al (bel_al (bel_al (bel_al cb3 _) _) _) _) hL6 (by have:=cb3.size;omega) (by have:=cb3.size;omega) (by have:=cb3.size;omega) (by have:=cb3.size;omega) (al4_1 _ _ _ _ _) (al4_2 _ _ _ _ _) (al4_3 _ _ _ _ _) (al4_0 _ _ _ _ _) hRow
              | with_reducible exact body_fin _ x3.heap.size (x3.heap.size+1) (x3.heap.size+1+1) (bel_al (bel_al (bel_al (cbN _ _ _ _ _ _ _ _ _) _) _) _) hL6 (by have:=cb3.size;omega) (by have:=cb3.size;omega) (by have:=cb3.size;omega) ql3 (al3_0 _ _ _ _ (by simp)) (al3_1 _ _ _ _ (by simp)) (al3_2 _ _ _ _ (by simp)) ((al3_x _ _ _ _ (by simpa using nl)).trans (nest9_row bq3 _ _ _ _ _ _ _ _ _)) hRow
        case rest =>
          obtain ⟨qB,b1,b2,b3,rfl,hqB,cbB,hB,hMB⟩:=hcut
          have h9:=h8.below cbB
          have hz9:=h9.lt
          have hzB:=cbB.size
          have hF9:=(cbB.block _ hlF8).trans hF8
          have hsF9:=hs_up6 hsF8 cbB
          have hs9:=hs_up6 hs8 cbB
          have hlB:qB < wc.heap.size:=(Array.getElem?_eq_some_iff.1 hB).1
          have HQ:Hid (∀ W':World,Ksw (w.heap.size+4) wc W'→W'.cell? ⟨w2.heap.size,0,none⟩=some (.int .i64 4)∧W'.cell? ⟨w2.heap.size,1,none⟩=some (.int .i64 0)∧W'.cell? ⟨w2.heap.size,2,none⟩=some (.slice aF lF cF)∧W'.cell? ⟨w.heap.size+2,0,none⟩=some (.int .i64 3)∧W'.cell? ⟨w.heap.size+2,1,none⟩=some (.int .i64 0)∧W'.cell? ⟨w.heap.size+2,2,none⟩=some (.slice none 0 0)∧W'.cell? ⟨qB,0,none⟩=some (.int .i64 14)∧W'.cell? ⟨qB,1,none⟩=some (.int .i64 0)∧W'.cell? ⟨qB,2,none⟩=some (.string ⟨#[104]⟩)∧W'.cell? ⟨qB,3,none⟩=some (.string ⟨#[114]⟩)∧W'.cell? ⟨qB,4,none⟩=some (.int .i64 0)∧W'.cell? ⟨qB,5,none⟩=some (.int .i64 0)∧W'.cell? ⟨qB,6,none⟩=some (.slice none 0 0)∧W'.cell? ⟨qB,7,none⟩=some (.slice none 0 0)∧W'.cell? ⟨qB,8,none⟩=some (.slice (some ⟨b3,0,none⟩) 3 3)):=fun W' hk=>let f:=h9.facts hp hX2 hX3;let gf:=(hk.block w2.heap.size (by omega) (by omega)).trans hF9;let gb:=(hk.block qB (by omega) (by omega)).trans hB;let g0:=World.cell?_of_block (a:=⟨w.heap.size+2,0,none⟩) (hk.block (w.heap.size+2) (by omega) (by omega));⟨row_cell gf 0,row_cell gf 1,row_cell gf 2,g0.trans f.2.2.1.1,(World.cell?_of_block (a:=⟨w.heap.size+2,1,none⟩) (hk.block (w.heap.size+2) (by omega) (by omega))).trans f.2.2.1.2.1,(World.cell?_of_block (a:=⟨w.heap.size+2,2,none⟩) (hk.block (w.heap.size+2) (by omega) (by omega))).trans f.2.2.1.2.2,row_cell gb 0,row_cell gb 1,row_cell gb 2,row_cell gb 3,row_cell gb 4,row_cell gb 5,row_cell gb 6,row_cell gb 7,row_cell gb 8⟩
          have db0:Below wc.heap.size wc wc.drew:=(Below.refl _ _).drew
          have db0a:∀ o,Below wc.heap.size wc (wc.alloc o).drew:=fun o=>((Below.refl _ _).alloc (Nat.le_refl _) _).drew
          have hA2:((wc.alloc (.cells #[.int .i64 14,.int .i64 0,.string ⟨#[104]⟩,.string ⟨#[114]⟩,.int .i64 0,.int .i64 0,.slice none 0 0,.slice none 0 0,.slice (some ⟨b3,0,none⟩) 3 3] 29)).drew).heap[wc.heap.size]?=some (.cells #[.int .i64 14,.int .i64 0,.string ⟨#[104]⟩,.string ⟨#[114]⟩,.int .i64 0,.int .i64 0,.slice none 0 0,.slice none 0 0,.slice (some ⟨b3,0,none⟩) 3 3] 29 (0,0)):=by show (wc.alloc _).heap[_]?=_;exact heap_new rfl
          have hq5:w.heap.size+5 < wc.drew.heap.size:=by show _ < wc.heap.size;omega
          have hq5a:∀ o,w.heap.size+5 < (wc.alloc o).drew.heap.size:=fun o=>by show _ < (wc.alloc o).heap.size;simp;omega
          have hT4:w.heap.size+4 < wc.heap.size:=by omega
          clear HP HR HF HFU HG
          go_wp2_with fail
          go_region_held3 (fun w'=>w'.cell? ⟨w2.heap.size,0,none⟩=some (.int .i64 4)∧w'.cell? ⟨w2.heap.size,1,none⟩=some (.int .i64 0)∧w'.cell? ⟨w2.heap.size,2,none⟩=some (.slice aF lF cF)∧w'.cell? ⟨w.heap.size+2,0,none⟩=some (.int .i64 3)∧w'.cell? ⟨w.heap.size+2,1,none⟩=some (.int .i64 0)∧w'.cell? ⟨w.heap.size+2,2,none⟩=some (.slice none 0 0)∧w'.cell? ⟨qB,0,none⟩=some (.int .i64 14)∧w'.cell? ⟨qB,1,none⟩=some (.int .i64 0)∧w'.cell? ⟨qB,2,none⟩=some (.string ⟨#[104]⟩)∧w'.cell? ⟨qB,3,none⟩=some (.string ⟨#[114]⟩)∧w'.cell? ⟨qB,4,none⟩=some (.int .i64 0)∧w'.cell? ⟨qB,5,none⟩=some (.int .i64 0)∧w'.cell? ⟨qB,6,none⟩=some (.slice none 0 0)∧w'.cell? ⟨qB,7,none⟩=some (.slice none 0 0)∧w'.cell? ⟨qB,8,none⟩=some (.slice (some ⟨b3,0,none⟩) 3 3))
            (first | with_reducible exact HQ.out _ (((((Ksw.bel db1).set _ _).al _).al _).al _) | with_reducible exact HQ.out _ ((((Ksw.bel db1).set _ _).al _).al _) | with_reducible exact HQ.out _ (((Ksw.bel db1).set _ _).al _) | with_reducible exact HQ.out _ ((Ksw.bel db1).set _ _) | with_reducible exact HQ.out _ ((((Ksw.bel db1).al _).al _).al _) | with_reducible exact HQ.out _ (((Ksw.bel db1).al _).al _) | with_reducible exact HQ.out _ ((Ksw.bel db1).al _) | with_reducible exact HQ.out _ (Ksw.bel db1) | with_reducible exact HQ.out _ (Ksw.bel (db0a _)) | with_reducible exact HQ.out _ (Ksw.bel db0) | with_reducible exact HQ.out _ (((((Ksw.bel db1).al _).al _).al _).set _ _) | with_reducible exact HQ.out _ ((((Ksw.bel db1).al _).al _).set _ _))
            (first
              | (go_at_call 37;refine (l3List_any (w.heap.size+5) 1 ⟨3,0,[]⟩ _ _ (hq5a _) ⟨none,0,0,rfl,Hs.nil _ _ _ _ _⟩).mono ?_;rintro e x1 ⟨tvL,rfl,⟨aL,lL,cL,rfl,hsL⟩,hy1⟩;have db1:Below wc.heap.size wc x1:=(db0a _).trans (hy1.mono (db0a _).size);have bqB:=(hy1.block wc.heap.size (by simp)).trans hA2;have hz1:=db1.size;obtain ⟨⟨y0,y1,y2,y4,y5,y6,y8,yf⟩,_,_,_⟩:=(h9.below db1).facts hp hX2 hX3;have hqa:w.heap.size+4 < x1.heap.size:=Nat.lt_of_lt_of_le hT4 hz1;have hqb:=Nat.lt_add_right 1 hqa;have hqc:=Nat.lt_add_right 1 hqb;have hqd:=Nat.lt_add_right 1 hqc)
              | (go_at_call 37;refine (l3List_any (w.heap.size+5) 1 ⟨3,0,[]⟩ _ _ hq5 ⟨none,0,0,rfl,Hs.nil _ _ _ _ _⟩).mono ?_;rintro e x1 ⟨tvL,rfl,⟨aL,lL,cL,rfl,hsL⟩,hy1⟩;have db1:Below wc.heap.size wc x1:=db0.trans (hy1.mono db0.size);have hz1:=db1.size;obtain ⟨⟨y0,y1,y2,y4,y5,y6,y8,yf⟩,_,_,_⟩:=(h9.below db1).facts hp hX2 hX3;have hqa:w.heap.size+4 < x1.heap.size:=Nat.lt_of_lt_of_le hT4 hz1;have hqb:=Nat.lt_add_right 1 hqa;have hqc:=Nat.lt_add_right 1 hqb;have hqd:=Nat.lt_add_right 1 hqc))
          all_goals
            go_wp2_with fail
            go_meet
            first
              | (have hbq:=bqB
                 obtain ⟨Vw,hVw⟩:∃ Z,Z=x1.setCell ⟨w.heap.size+4,8,none⟩ (.slice (some ⟨x1.heap.size+1,0,none⟩) 1 1):=⟨_,rfl⟩
                 obtain ⟨Yb,hYb⟩:∃ Z,Z=Vw.alloc (.cells #[.int .i64 4,.int .i64 0,.string ⟨#[108]⟩,.string ⟨#[]⟩,.int .i64 6,.int .i64 0,.slice aL lL cL,.slice none 0 0,.slice (some ⟨wc.heap.size,0,none⟩) 1 1] 29):=⟨_,rfl⟩
                 obtain ⟨Yc,hYc⟩:∃ Z,Z=Yb.alloc (.cells #[.int .i64 4,.int .i64 0,.string ⟨#[103]⟩,.string ⟨#[]⟩,.int .i64 4,.int .i64 0,.slice aF lF cF,.slice none 0 0,.slice (some ⟨x1.heap.size,0,none⟩) 1 1] 29):=⟨_,rfl⟩
                 rw [← hVw,← hYb,← hYc]
                 have zV:Vw.heap.size=x1.heap.size:=by rw [hVw];simp
                 have hSV:=(h9.below db1).setA (.slice (some ⟨x1.heap.size+1,0,none⟩) 1 1)
                 rw [← hVw] at hSV
                 have bY:Below Vw.heap.size Vw Yc:=by rw [hYc,hYb];exact bel_al (bel_al (Below.refl _ _) _) _
                 have gA:Yc.heap[wc.heap.size]?=some (.cells #[.int .i64 14,.int .i64 0,.string ⟨#[104]⟩,.string ⟨#[114]⟩,.int .i64 0,.int .i64 0,.slice none 0 0,.slice none 0 0,.slice (some ⟨b3,0,none⟩) 3 3] 29 (0,0)):=(bY.block _ (by rw [zV];exact (Array.getElem?_eq_some_iff.1 hbq).1)).trans (by rw [hVw];exact (row_other _ _ _ (by omega)).trans hbq)
                 have gB:Yc.heap[x1.heap.size]?=some (.cells #[.int .i64 4,.int .i64 0,.string ⟨#[108]⟩,.string ⟨#[]⟩,.int .i64 6,.int .i64 0,.slice aL lL cL,.slice none 0 0,.slice (some ⟨wc.heap.size,0,none⟩) 1 1] 29 (0,0)):=by rw [hYc,hYb];exact (Below.heap_alloc _ _ _ (by simp [zV])).trans (heap_new zV.symm)
                 have gC:Yc.heap[x1.heap.size+1]?=some (.cells #[.int .i64 4,.int .i64 0,.string ⟨#[103]⟩,.string ⟨#[]⟩,.int .i64 4,.int .i64 0,.slice aF lF cF,.slice none 0 0,.slice (some ⟨x1.heap.size,0,none⟩) 1 1] 29 (0,0)):=by rw [hYc,hYb];exact heap_new (by simp [zV])
                 have zY:=bY.size
                 have kp:∀ k,w.heap.size+6≤k→k < x1.heap.size→Yc.heap[k]?=x1.heap[k]?:=fun k h1 h2=>(bY.block k (by omega)).trans (by rw [hVw];exact row_other _ _ _ (by omega))
                 have kw:∀ k,w.heap.size+6≤k→k < wc.heap.size→Yc.heap[k]?=wc.heap[k]?:=fun k h1 h2=>(kp k h1 (by omega)).trans (db1.block k h2)
                 have hMY:Hm (w.heap.size+6) Yc.heap.size Yc 14 4 (some ⟨b3,0,none⟩) 3 [⟨3,0,⟨#[108]⟩,⟨#[]⟩,⟨0,0,[]⟩,[],[]⟩,⟨12,0,⟨#[]⟩,⟨#[]⟩,⟨3,1,[]⟩,[],[]⟩,⟨13,0,⟨#[]⟩,⟨#[]⟩,⟨0,0,[]⟩,[],[⟨5,0,⟨#[]⟩,⟨#[]⟩,⟨0,0,[]⟩,[],[⟨3,0,⟨#[103]⟩,⟨#[]⟩,⟨0,0,[]⟩,[],[]⟩,⟨3,0,⟨#[104]⟩,⟨#[]⟩,⟨0,0,[]⟩,[],[]⟩]⟩,⟨5,0,⟨#[]⟩,⟨#[]⟩,⟨0,0,[]⟩,[],[⟨5,0,⟨#[]⟩,⟨#[]⟩,⟨0,0,[]⟩,[],[⟨3,0,⟨#[109,97,112]⟩,⟨#[]⟩,⟨0,0,[]⟩,[],[]⟩,⟨3,0,⟨#[103]⟩,⟨#[]⟩,⟨0,0,[]⟩,[],[]⟩]⟩,⟨3,0,⟨#[114]⟩,⟨#[]⟩,⟨0,0,[]⟩,[],[]⟩]⟩]⟩]:=Hm.keep (fun k h1 h2=>kw k h1 h2) (Nat.le_refl _) (by omega) hMB
                 have hLY:Hs (w.heap.size+6) Yc.heap.size Yc 14 aL lL [⟨3,0,[]⟩]:=(hsL.keep (fun k h1 h2=>kp k h1 h2) (Nat.le_refl _) (by omega)).deeper (by omega)
                 have hFY:Hs (w.heap.size+6) Yc.heap.size Yc 14 aF lF [⟨3,0,[]⟩,⟨3,1,[]⟩]:=(hsF9.keep (fun k h1 h2=>kw k h1 h2) (Nat.le_refl _) (by omega)).deeper (by omega)
                 have hUY:=hs9.keep (w':=Yc) (B':=Yc.heap.size) (fun k h1 h2=>kw k h1 h2) (Nat.le_refl _) (by omega)
                 have hTY:RtV 4 2 ⟨4,0,[⟨4,0,[⟨3,0,[]⟩,⟨3,1,[]⟩]⟩,⟨4,0,[⟨6,0,[⟨3,0,[]⟩]⟩,⟨6,0,[⟨3,1,[]⟩]⟩]⟩]⟩:=rt_two (by omega) (rt_up (rt_two (by omega) (rt_var (d:=1) (by omega) (by omega) (by omega) (by omega)) (rt_var (by omega) (by omega) (by omega) (by omega)))) (rt_two (by omega) (rt_list (by omega) (rt_var (by omega) (by omega) (by omega) (by omega))) (rt_list (by omega) (rt_var (by omega) (by omega) (by omega) (by omega))))
                 exact ⟨7,2,⟨#[109,97,112]⟩,⟨4,0,[⟨4,0,[⟨3,0,[]⟩,⟨3,1,[]⟩]⟩,⟨4,0,[⟨6,0,[⟨3,0,[]⟩]⟩,⟨6,0,[⟨3,1,[]⟩]⟩]⟩]⟩,a2,l2,c2,.slice (some ⟨x1.heap.size+1,0,none⟩) 1 1,⟨4,0,[⟨4,0,[⟨3,0,[]⟩,⟨3,1,[]⟩]⟩,⟨4,0,[⟨6,0,[⟨3,0,[]⟩]⟩,⟨6,0,[⟨3,1,[]⟩]⟩]⟩]⟩,a2,l2,c2,hSV.below bY,by omega,by decide,hUY,hUY,hTY.1,Or.inr hTY,Or.inr ⟨(x1.heap.size+1),⟨4,0,⟨#[103]⟩,⟨#[]⟩,⟨4,0,[⟨3,0,[]⟩,⟨3,1,[]⟩]⟩,[],[⟨4,0,⟨#[108]⟩,⟨#[]⟩,⟨6,0,[⟨3,0,[]⟩]⟩,[],[⟨14,0,⟨#[104]⟩,⟨#[114]⟩,⟨0,0,[]⟩,[],[⟨3,0,⟨#[108]⟩,⟨#[]⟩,⟨0,0,[]⟩,[],[]⟩,⟨12,0,⟨#[]⟩,⟨#[]⟩,⟨3,1,[]⟩,[],[]⟩,⟨13,0,⟨#[]⟩,⟨#[]⟩,⟨0,0,[]⟩,[],[⟨5,0,⟨#[]⟩,⟨#[]⟩,⟨0,0,[]⟩,[],[⟨3,0,⟨#[103]⟩,⟨#[]⟩,⟨0,0,[]⟩,[],[]⟩,⟨3,0,⟨#[104]⟩,⟨#[]⟩,⟨0,0,[]⟩,[],[]⟩]⟩,⟨5,0,⟨#[]⟩,⟨#[]⟩,⟨0,0,[]⟩,[],[⟨5,0,⟨#[]⟩,⟨#[]⟩,⟨0,0,[]⟩,[],[⟨3,0,⟨#[109,97,112]⟩,⟨#[]⟩,⟨0,0,[]⟩,[],[]⟩,⟨3,0,⟨#[103]⟩,⟨#[]⟩,⟨0,0,[]⟩,[],[]⟩]⟩,⟨3,0,⟨#[114]⟩,⟨#[]⟩,⟨0,0,[]⟩,[],[]⟩]⟩]⟩]⟩]⟩]⟩,aF,lF,cF,none,0,0,some ⟨x1.heap.size,0,none⟩,1,1,rfl,by omega,gC,map_fin (b1:=b1) (b2:=b2) (f0:=w6.heap.size) (g0:=w7.heap.size) (cF:=cF) gA gB (by omega) (by omega) hMY hLY hFY⟩⟩)
              | (obtain ⟨Vw,hVw⟩:∃ Z,Z=x1.setCell ⟨w.heap.size+4,8,none⟩ (.slice (some ⟨x1.heap.size+1+1,0,none⟩) 1 1):=⟨_,rfl⟩
                 obtain ⟨Ya,hYa⟩:∃ Z,Z=Vw.alloc (.cells #[.int .i64 14,.int .i64 0,.string ⟨#[104]⟩,.string ⟨#[114]⟩,.int .i64 0,.int .i64 0,.slice none 0 0,.slice none 0 0,.slice (some ⟨b3,0,none⟩) 3 3] 29):=⟨_,rfl⟩
                 obtain ⟨Yb,hYb⟩:∃ Z,Z=Ya.alloc (.cells #[.int .i64 4,.int .i64 0,.string ⟨#[108]⟩,.string ⟨#[]⟩,.int .i64 6,.int .i64 0,.slice aL lL cL,.slice none 0 0,.slice (some ⟨x1.heap.size,0,none⟩) 1 1] 29):=⟨_,rfl⟩
                 obtain ⟨Yc,hYc⟩:∃ Z,Z=Yb.alloc (.cells #[.int .i64 4,.int .i64 0,.string ⟨#[103]⟩,.string ⟨#[]⟩,.int .i64 4,.int .i64 0,.slice aF lF cF,.slice none 0 0,.slice (some ⟨x1.heap.size+1,0,none⟩) 1 1] 29):=⟨_,rfl⟩
                 rw [← hVw,← hYa,← hYb,← hYc]
                 have zV:Vw.heap.size=x1.heap.size:=by rw [hVw];simp
                 have hSV:=(h9.below db1).setA (.slice (some ⟨x1.heap.size+1+1,0,none⟩) 1 1)
                 rw [← hVw] at hSV
                 have gA:Yc.heap[x1.heap.size]?=some (.cells #[.int .i64 14,.int .i64 0,.string ⟨#[104]⟩,.string ⟨#[114]⟩,.int .i64 0,.int .i64 0,.slice none 0 0,.slice none 0 0,.slice (some ⟨b3,0,none⟩) 3 3] 29 (0,0)):=by rw [hYc,hYb,hYa];exact al3_0 _ _ _ _ zV.symm
                 have gB:Yc.heap[x1.heap.size+1]?=some (.cells #[.int .i64 4,.int .i64 0,.string ⟨#[108]⟩,.string ⟨#[]⟩,.int .i64 6,.int .i64 0,.slice aL lL cL,.slice none 0 0,.slice (some ⟨x1.heap.size,0,none⟩) 1 1] 29 (0,0)):=by rw [hYc,hYb,hYa];exact al3_1 _ _ _ _ (by rw [zV])
                 have bY:Below Vw.heap.size Vw Yc:=by rw [hYc,hYb,hYa];exact bel_al (bel_al (bel_al (Below.refl _ _) _) _) _
                 have gC:Yc.heap[x1.heap.size+1+1]?=some (.cells #[.int .i64 4,.int .i64 0,.string ⟨#[103]⟩,.string ⟨#[]⟩,.int .i64 4,.int .i64 0,.slice aF lF cF,.slice none 0 0,.slice (some ⟨x1.heap.size+1,0,none⟩) 1 1] 29 (0,0)):=by rw [hYc,hYb,hYa];exact heap_new (by simp [zV])
                 have zY:=bY.size
                 have kp:∀ k,w.heap.size+6≤k→k < x1.heap.size→Yc.heap[k]?=x1.heap[k]?:=fun k h1 h2=>(bY.block k (by omega)).trans (by rw [hVw];exact row_other _ _ _ (by omega))
                 have kw:∀ k,w.heap.size+6≤k→k < wc.heap.size→Yc.heap[k]?=wc.heap[k]?:=fun k h1 h2=>(kp k h1 (by omega)).trans (db1.block k h2)
                 have hMY:Hm (w.heap.size+6) Yc.heap.size Yc 14 4 (some ⟨b3,0,none⟩) 3 [⟨3,0,⟨#[108]⟩,⟨#[]⟩,⟨0,0,[]⟩,[],[]⟩,⟨12,0,⟨#[]⟩,⟨#[]⟩,⟨3,1,[]⟩,[],[]⟩,⟨13,0,⟨#[]⟩,⟨#[]⟩,⟨0,0,[]⟩,[],[⟨5,0,⟨#[]⟩,⟨#[]⟩,⟨0,0,[]⟩,[],[⟨3,0,⟨#[103]⟩,⟨#[]⟩,⟨0,0,[]⟩,[],[]⟩,⟨3,0,⟨#[104]⟩,⟨#[]⟩,⟨0,0,[]⟩,[],[]⟩]⟩,⟨5,0,⟨#[]⟩,⟨#[]⟩,⟨0,0,[]⟩,[],[⟨5,0,⟨#[]⟩,⟨#[]⟩,⟨0,0,[]⟩,[],[⟨3,0,⟨#[109,97,112]⟩,⟨#[]⟩,⟨0,0,[]⟩,[],[]⟩,⟨3,0,⟨#[103]⟩,⟨#[]⟩,⟨0,0,[]⟩,[],[]⟩]⟩,⟨3,0,⟨#[114]⟩,⟨#[]⟩,⟨0,0,[]⟩,[],[]⟩]⟩]⟩]:=Hm.keep (fun k h1 h2=>kw k h1 h2) (Nat.le_refl _) (by omega) hMB
                 have hLY:Hs (w.heap.size+6) Yc.heap.size Yc 14 aL lL [⟨3,0,[]⟩]:=(hsL.keep (fun k h1 h2=>kp k h1 h2) (Nat.le_refl _) (by omega)).deeper (by omega)
                 have hFY:Hs (w.heap.size+6) Yc.heap.size Yc 14 aF lF [⟨3,0,[]⟩,⟨3,1,[]⟩]:=(hsF9.keep (fun k h1 h2=>kw k h1 h2) (Nat.le_refl _) (by omega)).deeper (by omega)
                 have hUY:=hs9.keep (w':=Yc) (B':=Yc.heap.size) (fun k h1 h2=>kw k h1 h2) (Nat.le_refl _) (by omega)
                 have hTY:RtV 4 2 ⟨4,0,[⟨4,0,[⟨3,0,[]⟩,⟨3,1,[]⟩]⟩,⟨4,0,[⟨6,0,[⟨3,0,[]⟩]⟩,⟨6,0,[⟨3,1,[]⟩]⟩]⟩]⟩:=rt_two (by omega) (rt_up (rt_two (by omega) (rt_var (d:=1) (by omega) (by omega) (by omega) (by omega)) (rt_var (by omega) (by omega) (by omega) (by omega)))) (rt_two (by omega) (rt_list (by omega) (rt_var (by omega) (by omega) (by omega) (by omega))) (rt_list (by omega) (rt_var (by omega) (by omega) (by omega) (by omega))))
                 exact ⟨7,2,⟨#[109,97,112]⟩,⟨4,0,[⟨4,0,[⟨3,0,[]⟩,⟨3,1,[]⟩]⟩,⟨4,0,[⟨6,0,[⟨3,0,[]⟩]⟩,⟨6,0,[⟨3,1,[]⟩]⟩]⟩]⟩,a2,l2,c2,.slice (some ⟨x1.heap.size+1+1,0,none⟩) 1 1,⟨4,0,[⟨4,0,[⟨3,0,[]⟩,⟨3,1,[]⟩]⟩,⟨4,0,[⟨6,0,[⟨3,0,[]⟩]⟩,⟨6,0,[⟨3,1,[]⟩]⟩]⟩]⟩,a2,l2,c2,hSV.below bY,by omega,by decide,hUY,hUY,hTY.1,Or.inr hTY,Or.inr ⟨(x1.heap.size+1+1),⟨4,0,⟨#[103]⟩,⟨#[]⟩,⟨4,0,[⟨3,0,[]⟩,⟨3,1,[]⟩]⟩,[],[⟨4,0,⟨#[108]⟩,⟨#[]⟩,⟨6,0,[⟨3,0,[]⟩]⟩,[],[⟨14,0,⟨#[104]⟩,⟨#[114]⟩,⟨0,0,[]⟩,[],[⟨3,0,⟨#[108]⟩,⟨#[]⟩,⟨0,0,[]⟩,[],[]⟩,⟨12,0,⟨#[]⟩,⟨#[]⟩,⟨3,1,[]⟩,[],[]⟩,⟨13,0,⟨#[]⟩,⟨#[]⟩,⟨0,0,[]⟩,[],[⟨5,0,⟨#[]⟩,⟨#[]⟩,⟨0,0,[]⟩,[],[⟨3,0,⟨#[103]⟩,⟨#[]⟩,⟨0,0,[]⟩,[],[]⟩,⟨3,0,⟨#[104]⟩,⟨#[]⟩,⟨0,0,[]⟩,[],[]⟩]⟩,⟨5,0,⟨#[]⟩,⟨#[]⟩,⟨0,0,[]⟩,[],[⟨5,0,⟨#[]⟩,⟨#[]⟩,⟨0,0,[]⟩,[],[⟨3,0,⟨#[109,97,112]⟩,⟨#[]⟩,⟨0,0,[]⟩,[],[]⟩,⟨3,0,⟨#[103]⟩,⟨#[]⟩,⟨0,0,[]⟩,[],[]⟩]⟩,⟨3,0,⟨#[114]⟩,⟨#[]⟩,⟨0,0,[]⟩,[],[]⟩]⟩]⟩]⟩]⟩]⟩,aF,lF,cF,none,0,0,some ⟨x1.heap.size+1,0,none⟩,1,1,rfl,by omega,gC,map_fin (b1:=b1) (b2:=b2) (f0:=w6.heap.size) (g0:=w7.heap.size) (cF:=cF) gA gB (by omega) (by omega) hMY hLY hFY⟩⟩)
    · go_wp2_with fail
      have h1:=hS1.setS ⟨#[113]⟩
      refine (tv_any 2 (by omega) (by omega) p cao clen ccap 1 _ h1.drw.cur (by omega) (by omega)).mono ?_
      rintro e w2 ⟨sK,sN,aS,lS,cS,sA,rfl,hDt,hoS,_,hR1⟩
      have h2:=h1.call hDt
      have hz2:=h2.lt
      go_wp2_with fail
      refine (tv_any 2 (by omega) (by omega) p cao clen ccap 1 _ h2.drw.cur (by omega) (by omega)).mono ?_
      rintro e w3 ⟨rK,rN,aR,lR,cR,rA,rfl,hDr,hoR,_,hR2⟩
      have h3:=h2.call hDr
      have hz3:=h3.lt
      have hpz:p < w2.heap.size:=by omega
      go_wp2_with fail
      refine (l3Two_any (w.heap.size+5) 2 4 ⟨sK,sN,sA⟩ ⟨rK,rN,rA⟩ _ _ w3 (by omega) ⟨aS,lS,cS,rfl,hoS.hs.keep (fun q hq1 hq2=>hDr.grown.block q hq2 (by simp at hq1 ⊢;omega)) (by simp;omega) hDr.grown.size⟩ ⟨aR,lR,cR,rfl,hoR.hs.keep (fun _ _ _=>rfl) (by omega) (Nat.le_refl _)⟩).mono ?_
      rintro e w4 ⟨v',rfl,⟨a2,l2,c2,rfl,hs2⟩,hb2⟩
      have h4:=h3.below hb2
      clear y0 y1 y2 y4 y5 y6 y8 yf z0 z1 z2 zf k0 k1 k2 j0 j1 j2
      obtain ⟨⟨y0,y1,y2,y4,y5,y6,y8,yf⟩,⟨z0,z1,z2,zf⟩,⟨k0,k1,k2⟩,⟨j0,j1,j2⟩⟩:=(h4).facts hp hX2 hX3
      go_wp2_with fail
      go_meet
      exact ⟨6,1,⟨#[113]⟩,⟨0,0,[]⟩,none,0,0,.slice none 0 0,⟨4,0,[⟨sK,sN,sA⟩,⟨rK,rN,rA⟩]⟩,a2,l2,c2,h4.setU _ _ _,by omega,by decide,Hs.nil _ _ _ _ _,hs_set3 (hs2.deeper (by omega)) (by omega) _ _ _ _ _ _,⟨(rt_up (rt_two (by omega) hR1 hR2)).1.choose,(rt_up (rt_two (by omega) hR1 hR2)).1.choose_spec⟩,Or.inr (rt_up (rt_two (by omega) hR1 hR2)),Or.inl rfl⟩
    · go_wp2_with fail
      have h1:=((hS1.setS ⟨#[115,117,109]⟩).setK 7).setN 0
      refine (l3Int_lit _).mono ?_
      rintro e w2 ⟨rfl,hbw2⟩
      have h2:=h1.below hbw2
      go_wp2_with fail
      refine (l3Int_lit _).mono ?_
      rintro e w3 ⟨rfl,hbw3⟩
      have h3:=h2.below hbw3
      have hz3:=h3.lt
      go_wp2_with fail
      refine (l3Two_any (w.heap.size+5) 1 4 ⟨1,0,[]⟩ ⟨1,0,[]⟩ _ _ w3 (by omega) ⟨none,0,0,rfl,Hs.nil _ _ _ _ _⟩ ⟨none,0,0,rfl,Hs.nil _ _ _ _ _⟩).mono ?_
      rintro e w4 ⟨v',rfl,⟨a2,l2,c2,rfl,hs2⟩,hb4⟩
      have h4:=h3.below hb4
      clear y0 y1 y2 y4 y5 y6 y8 yf z0 z1 z2 zf k0 k1 k2 j0 j1 j2
      obtain ⟨⟨y0,y1,y2,y4,y5,y6,y8,yf⟩,⟨z0,z1,z2,zf⟩,⟨k0,k1,k2⟩,⟨j0,j1,j2⟩⟩:=(h4).facts hp hX2 hX3
      go_wp2_with fail
      have h5:=(h4.setU 4 0 (.slice a2 l2 c2)).setY 4 0 (.slice a2 l2 c2)
      have hs5:=hs_set3 (hs_set3 (hs2.deeper (show 2≤4 by omega)) (show w.heap.size+5 < _ by omega) 0 1 2 (.int .i64 4) (.int .i64 0) (.slice a2 l2 c2)) (show w.heap.size+4 < _ by omega) 4 5 6 (.int .i64 4) (.int .i64 0) (.slice a2 l2 c2)
      refine (l3Int_lit _).mono ?_
      rintro e w6 ⟨rfl,hbw6⟩
      have h6:=h5.below hbw6
      have hs6:=hs_up6 hs5 hbw6
      clear y0 y1 y2 y4 y5 y6 y8 yf z0 z1 z2 zf k0 k1 k2 j0 j1 j2
      go_wp2_with fail
      refine (l3V_lit _ _).mono ?_
      rintro e w7 ⟨rfl,hbw7⟩
      have h7:=h6.below hbw7
      go_wp2_with fail
      refine (l3N_lit _ _).mono ?_
      rintro e w8 ⟨rfl,hbw8⟩
      have h8:=h7.below hbw8
      have hz8:=h8.lt
      obtain ⟨Z1,hZ1⟩:∃ Z,Z=w8.alloc (.cells #[.int .i64 3,.int .i64 0,.string ⟨#[110]⟩,.string ⟨#[]⟩,.int .i64 0,.int .i64 0,.slice none 0 0,.slice none 0 0,.slice none 0 0,.int .i64 1,.int .i64 1,.string ⟨#[]⟩,.string ⟨#[]⟩,.int .i64 0,.int .i64 0,.slice none 0 0,.slice none 0 0,.slice none 0 0] 29):=⟨_,rfl⟩
      have bZ1:Below w8.heap.size w8 Z1:=by rw [hZ1];exact (Below.refl _ _).alloc (Nat.le_refl _) _
      have zZ1:Z1.heap.size=w8.heap.size+1:=by rw [hZ1];simp
      have M1:Hm (w.heap.size+6) Z1.heap.size Z1 14 1 (some ⟨w8.heap.size,0,none⟩) 2 [⟨3,0,⟨#[110]⟩,⟨#[]⟩,⟨0,0,[]⟩,[],[]⟩,⟨1,1,⟨#[]⟩,⟨#[]⟩,⟨0,0,[]⟩,[],[]⟩]:=by rw [hZ1];exact hm_new2 (t:=⟨3,0,⟨#[110]⟩,⟨#[]⟩,⟨0,0,[]⟩,[],[]⟩) (u:=⟨1,1,⟨#[]⟩,⟨#[]⟩,⟨0,0,[]⟩,[],[]⟩) (fm_leaf _ _ _ _ _ _ _ _ (by decide)) (fm_leaf _ _ _ _ _ _ _ _ (by decide)) (by omega)
      go_wp2_with fail
      rw [← hZ1]
      have h8a:=h8.below bZ1
      refine (l3N_lit _ _).mono ?_
      rintro e w9 ⟨rfl,hbw9⟩
      have h9:=h8a.below hbw9
      go_wp2_with fail
      refine (l3V_lit _ _).mono ?_
      rintro e w10 ⟨rfl,hbw10⟩
      have h10:=h9.below hbw10
      go_wp2_with fail
      refine (l3V_lit _ _).mono ?_
      rintro e w11 ⟨rfl,hbw11⟩
      have h11:=h10.below hbw11
      go_wp2_with fail
      refine (l3V_lit _ _).mono ?_
      rintro e w12 ⟨rfl,hbw12⟩
      have h12:=h11.below hbw12
      go_wp2_with fail
      refine (l3N_lit _ _).mono ?_
      rintro e w13 ⟨rfl,hbw13⟩
      have h13:=h12.below hbw13
      have hz13:=h13.lt
      have B1:Below Z1.heap.size Z1 w13:=(((hbw9.trans (hbw10.mono hbw9.size)).trans (hbw11.mono (hbw9.trans (hbw10.mono hbw9.size)).size)).trans (hbw12.mono ((hbw9.trans (hbw10.mono hbw9.size)).trans (hbw11.mono (hbw9.trans (hbw10.mono hbw9.size)).size)).size)).trans (hbw13.mono (((hbw9.trans (hbw10.mono hbw9.size)).trans (hbw11.mono (hbw9.trans (hbw10.mono hbw9.size)).size)).trans (hbw12.mono ((hbw9.trans (hbw10.mono hbw9.size)).trans (hbw11.mono (hbw9.trans (hbw10.mono hbw9.size)).size)).size)).size)
      obtain ⟨V,hV⟩:∃ V,V=w13.setCell ⟨w.heap.size+4,8,none⟩ (.slice (some ⟨w13.heap.size+1+1+1+1+1,0,none⟩) 1 1):=⟨_,rfl⟩
      have zV:V.heap.size=w13.heap.size:=by rw [hV];simp
      have hSV:=h13.setA (.slice (some ⟨w13.heap.size+1+1+1+1+1,0,none⟩) 1 1)
      rw [← hV] at hSV
      obtain ⟨Z2,hZ2⟩:∃ Z,Z=V.alloc (.cells #[.int .i64 3,.int .i64 0,.string ⟨#[110]⟩,.string ⟨#[]⟩,.int .i64 0,.int .i64 0,.slice none 0 0,.slice none 0 0,.slice none 0 0,.int .i64 1,.int .i64 1,.string ⟨#[]⟩,.string ⟨#[]⟩,.int .i64 0,.int .i64 0,.slice none 0 0,.slice none 0 0,.slice none 0 0] 29):=⟨_,rfl⟩
      have bZ2:Below V.heap.size V Z2:=by rw [hZ2];exact (Below.refl _ _).alloc (Nat.le_refl _) _
      have zZ2:Z2.heap.size=V.heap.size+1:=by rw [hZ2];simp
      obtain ⟨Z3,hZ3⟩:∃ Z,Z=Z2.alloc (.cells #[.int .i64 3,.int .i64 0,.string ⟨#[115,117,109]⟩,.string ⟨#[]⟩,.int .i64 0,.int .i64 0,.slice none 0 0,.slice none 0 0,.slice none 0 0,.int .i64 15,.int .i64 2,.string ⟨#[]⟩,.string ⟨#[]⟩,.int .i64 0,.int .i64 0,.slice none 0 0,.slice none 0 0,.slice (some ⟨w13.heap.size,0,none⟩) 2 2] 29):=⟨_,rfl⟩
      have bZ3:Below Z2.heap.size Z2 Z3:=by rw [hZ3];exact (Below.refl _ _).alloc (Nat.le_refl _) _
      have zZ3:Z3.heap.size=Z2.heap.size+1:=by rw [hZ3];simp
      obtain ⟨Z4,hZ4⟩:∃ Z,Z=Z3.alloc (.cells #[.int .i64 3,.int .i64 0,.string ⟨#[110]⟩,.string ⟨#[]⟩,.int .i64 0,.int .i64 0,.slice none 0 0,.slice none 0 0,.slice none 0 0,.int .i64 5,.int .i64 0,.string ⟨#[]⟩,.string ⟨#[]⟩,.int .i64 0,.int .i64 0,.slice none 0 0,.slice none 0 0,.slice (some ⟨(w13.heap.size+1),0,none⟩) 2 2] 29):=⟨_,rfl⟩
      have bZ4:Below Z3.heap.size Z3 Z4:=by rw [hZ4];exact (Below.refl _ _).alloc (Nat.le_refl _) _
      have zZ4:Z4.heap.size=Z3.heap.size+1:=by rw [hZ4];simp
      obtain ⟨Z5,hZ5⟩:∃ Z,Z=Z4.alloc (.cells #[.int .i64 15,.int .i64 4,.string ⟨#[]⟩,.string ⟨#[]⟩,.int .i64 0,.int .i64 0,.slice none 0 0,.slice none 0 0,.slice (some ⟨w8.heap.size,0,none⟩) 2 2,.int .i64 1,.int .i64 0,.string ⟨#[]⟩,.string ⟨#[]⟩,.int .i64 0,.int .i64 0,.slice none 0 0,.slice none 0 0,.slice none 0 0,.int .i64 15,.int .i64 1,.string ⟨#[]⟩,.string ⟨#[]⟩,.int .i64 0,.int .i64 0,.slice none 0 0,.slice none 0 0,.slice (some ⟨(w13.heap.size+1+1),0,none⟩) 2 2] 29):=⟨_,rfl⟩
      have bZ5:Below Z4.heap.size Z4 Z5:=by rw [hZ5];exact (Below.refl _ _).alloc (Nat.le_refl _) _
      have zZ5:Z5.heap.size=Z4.heap.size+1:=by rw [hZ5];simp
      obtain ⟨Z6,hZ6⟩:∃ Z,Z=Z5.alloc (.cells #[.int .i64 8,.int .i64 0,.string ⟨#[]⟩,.string ⟨#[]⟩,.int .i64 0,.int .i64 0,.slice none 0 0,.slice none 0 0,.slice (some ⟨(w13.heap.size+1+1+1),0,none⟩) 3 3] 29):=⟨_,rfl⟩
      have bZ6:Below Z5.heap.size Z5 Z6:=by rw [hZ6];exact (Below.refl _ _).alloc (Nat.le_refl _) _
      have zZ6:Z6.heap.size=Z5.heap.size+1:=by rw [hZ6];simp
      obtain ⟨Z7,hZ7⟩:∃ Z,Z=Z6.alloc (.cells #[.int .i64 4,.int .i64 0,.string ⟨#[110]⟩,.string ⟨#[]⟩,.int .i64 1,.int .i64 0,.slice none 0 0,.slice none 0 0,.slice (some ⟨(w13.heap.size+1+1+1+1),0,none⟩) 1 1] 29):=⟨_,rfl⟩
      have bZ7:Below Z6.heap.size Z6 Z7:=by rw [hZ7];exact (Below.refl _ _).alloc (Nat.le_refl _) _
      have zZ7:Z7.heap.size=Z6.heap.size+1:=by rw [hZ7];simp
      have BB4:Below V.heap.size V Z4:=(bZ2.trans (bZ3.mono bZ2.size)).trans (bZ4.mono (bZ2.trans (bZ3.mono bZ2.size)).size)
      have N0:=fm_set1 (fm_up (fm_node 15 4 ⟨#[]⟩ ⟨#[]⟩ ⟨0,0,[]⟩ [⟨3,0,⟨#[110]⟩,⟨#[]⟩,⟨0,0,[]⟩,[],[]⟩,⟨1,1,⟨#[]⟩,⟨#[]⟩,⟨0,0,[]⟩,[],[]⟩] (by decide) (by decide) (Hs.nil _ _ _ _ none) M1) B1) (show w.heap.size+4 < w.heap.size+6 by omega) 8 (.slice (some ⟨w13.heap.size+1+1+1+1+1,0,none⟩) 1 1)
      rw [← hV] at N0
      have N1:=fm_up N0 BB4
      have M2:Hm (w.heap.size+6) Z2.heap.size Z2 14 1 (some ⟨w13.heap.size,0,none⟩) 2 [⟨3,0,⟨#[110]⟩,⟨#[]⟩,⟨0,0,[]⟩,[],[]⟩,⟨1,1,⟨#[]⟩,⟨#[]⟩,⟨0,0,[]⟩,[],[]⟩]:=by rw [show w13.heap.size=V.heap.size by omega,hZ2];exact hm_new2 (t:=⟨3,0,⟨#[110]⟩,⟨#[]⟩,⟨0,0,[]⟩,[],[]⟩) (u:=⟨1,1,⟨#[]⟩,⟨#[]⟩,⟨0,0,[]⟩,[],[]⟩) (fm_leaf _ _ _ _ _ _ _ _ (by decide)) (fm_leaf _ _ _ _ _ _ _ _ (by decide)) (by omega)
      have M3:Hm (w.heap.size+6) Z3.heap.size Z3 14 2 (some ⟨(w13.heap.size+1),0,none⟩) 2 [⟨3,0,⟨#[115,117,109]⟩,⟨#[]⟩,⟨0,0,[]⟩,[],[]⟩,⟨15,2,⟨#[]⟩,⟨#[]⟩,⟨0,0,[]⟩,[],[⟨3,0,⟨#[110]⟩,⟨#[]⟩,⟨0,0,[]⟩,[],[]⟩,⟨1,1,⟨#[]⟩,⟨#[]⟩,⟨0,0,[]⟩,[],[]⟩]⟩]:=by rw [show (w13.heap.size+1)=Z2.heap.size by omega,hZ3];exact hm_new2 (t:=⟨3,0,⟨#[115,117,109]⟩,⟨#[]⟩,⟨0,0,[]⟩,[],[]⟩) (u:=⟨15,2,⟨#[]⟩,⟨#[]⟩,⟨0,0,[]⟩,[],[⟨3,0,⟨#[110]⟩,⟨#[]⟩,⟨0,0,[]⟩,[],[]⟩,⟨1,1,⟨#[]⟩,⟨#[]⟩,⟨0,0,[]⟩,[],[]⟩]⟩) (fm_leaf _ _ _ _ _ _ _ _ (by decide)) (fm_node 15 2 ⟨#[]⟩ ⟨#[]⟩ ⟨0,0,[]⟩ [⟨3,0,⟨#[110]⟩,⟨#[]⟩,⟨0,0,[]⟩,[],[]⟩,⟨1,1,⟨#[]⟩,⟨#[]⟩,⟨0,0,[]⟩,[],[]⟩] (by decide) (by decide) (Hs.nil _ _ _ _ none) M2) (by omega)
      have M4:Hm (w.heap.size+6) Z4.heap.size Z4 14 3 (some ⟨(w13.heap.size+1+1),0,none⟩) 2 [⟨3,0,⟨#[110]⟩,⟨#[]⟩,⟨0,0,[]⟩,[],[]⟩,⟨5,0,⟨#[]⟩,⟨#[]⟩,⟨0,0,[]⟩,[],[⟨3,0,⟨#[115,117,109]⟩,⟨#[]⟩,⟨0,0,[]⟩,[],[]⟩,⟨15,2,⟨#[]⟩,⟨#[]⟩,⟨0,0,[]⟩,[],[⟨3,0,⟨#[110]⟩,⟨#[]⟩,⟨0,0,[]⟩,[],[]⟩,⟨1,1,⟨#[]⟩,⟨#[]⟩,⟨0,0,[]⟩,[],[]⟩]⟩]⟩]:=by rw [show (w13.heap.size+1+1)=Z3.heap.size by omega,hZ4];exact hm_new2 (t:=⟨3,0,⟨#[110]⟩,⟨#[]⟩,⟨0,0,[]⟩,[],[]⟩) (u:=⟨5,0,⟨#[]⟩,⟨#[]⟩,⟨0,0,[]⟩,[],[⟨3,0,⟨#[115,117,109]⟩,⟨#[]⟩,⟨0,0,[]⟩,[],[]⟩,⟨15,2,⟨#[]⟩,⟨#[]⟩,⟨0,0,[]⟩,[],[⟨3,0,⟨#[110]⟩,⟨#[]⟩,⟨0,0,[]⟩,[],[]⟩,⟨1,1,⟨#[]⟩,⟨#[]⟩,⟨0,0,[]⟩,[],[]⟩]⟩]⟩) (fm_leaf _ _ _ _ _ _ _ _ (by decide)) (fm_node 5 0 ⟨#[]⟩ ⟨#[]⟩ ⟨0,0,[]⟩ [⟨3,0,⟨#[115,117,109]⟩,⟨#[]⟩,⟨0,0,[]⟩,[],[]⟩,⟨15,2,⟨#[]⟩,⟨#[]⟩,⟨0,0,[]⟩,[],[⟨3,0,⟨#[110]⟩,⟨#[]⟩,⟨0,0,[]⟩,[],[]⟩,⟨1,1,⟨#[]⟩,⟨#[]⟩,⟨0,0,[]⟩,[],[]⟩]⟩] (by decide) (by decide) (Hs.nil _ _ _ _ none) M3) (by omega)
      have M5:Hm (w.heap.size+6) Z5.heap.size Z5 14 4 (some ⟨(w13.heap.size+1+1+1),0,none⟩) 3 [⟨15,4,⟨#[]⟩,⟨#[]⟩,⟨0,0,[]⟩,[],[⟨3,0,⟨#[110]⟩,⟨#[]⟩,⟨0,0,[]⟩,[],[]⟩,⟨1,1,⟨#[]⟩,⟨#[]⟩,⟨0,0,[]⟩,[],[]⟩]⟩,⟨1,0,⟨#[]⟩,⟨#[]⟩,⟨0,0,[]⟩,[],[]⟩,⟨15,1,⟨#[]⟩,⟨#[]⟩,⟨0,0,[]⟩,[],[⟨3,0,⟨#[110]⟩,⟨#[]⟩,⟨0,0,[]⟩,[],[]⟩,⟨5,0,⟨#[]⟩,⟨#[]⟩,⟨0,0,[]⟩,[],[⟨3,0,⟨#[115,117,109]⟩,⟨#[]⟩,⟨0,0,[]⟩,[],[]⟩,⟨15,2,⟨#[]⟩,⟨#[]⟩,⟨0,0,[]⟩,[],[⟨3,0,⟨#[110]⟩,⟨#[]⟩,⟨0,0,[]⟩,[],[]⟩,⟨1,1,⟨#[]⟩,⟨#[]⟩,⟨0,0,[]⟩,[],[]⟩]⟩]⟩]⟩]:=by rw [show (w13.heap.size+1+1+1)=Z4.heap.size by omega,hZ5];exact hm_new3 (t:=⟨15,4,⟨#[]⟩,⟨#[]⟩,⟨0,0,[]⟩,[],[⟨3,0,⟨#[110]⟩,⟨#[]⟩,⟨0,0,[]⟩,[],[]⟩,⟨1,1,⟨#[]⟩,⟨#[]⟩,⟨0,0,[]⟩,[],[]⟩]⟩) (u:=⟨1,0,⟨#[]⟩,⟨#[]⟩,⟨0,0,[]⟩,[],[]⟩) (x:=⟨15,1,⟨#[]⟩,⟨#[]⟩,⟨0,0,[]⟩,[],[⟨3,0,⟨#[110]⟩,⟨#[]⟩,⟨0,0,[]⟩,[],[]⟩,⟨5,0,⟨#[]⟩,⟨#[]⟩,⟨0,0,[]⟩,[],[⟨3,0,⟨#[115,117,109]⟩,⟨#[]⟩,⟨0,0,[]⟩,[],[]⟩,⟨15,2,⟨#[]⟩,⟨#[]⟩,⟨0,0,[]⟩,[],[⟨3,0,⟨#[110]⟩,⟨#[]⟩,⟨0,0,[]⟩,[],[]⟩,⟨1,1,⟨#[]⟩,⟨#[]⟩,⟨0,0,[]⟩,[],[]⟩]⟩]⟩]⟩) (N1.wider (fun _ _ _ h=>h) (fun _ _ _ h=>h.deeper (by omega) (Nat.le_refl _))) (fm_leaf _ _ _ _ _ _ _ _ (by decide)) (fm_node 15 1 ⟨#[]⟩ ⟨#[]⟩ ⟨0,0,[]⟩ [⟨3,0,⟨#[110]⟩,⟨#[]⟩,⟨0,0,[]⟩,[],[]⟩,⟨5,0,⟨#[]⟩,⟨#[]⟩,⟨0,0,[]⟩,[],[⟨3,0,⟨#[115,117,109]⟩,⟨#[]⟩,⟨0,0,[]⟩,[],[]⟩,⟨15,2,⟨#[]⟩,⟨#[]⟩,⟨0,0,[]⟩,[],[⟨3,0,⟨#[110]⟩,⟨#[]⟩,⟨0,0,[]⟩,[],[]⟩,⟨1,1,⟨#[]⟩,⟨#[]⟩,⟨0,0,[]⟩,[],[]⟩]⟩]⟩] (by decide) (by decide) (Hs.nil _ _ _ _ none) M4) (by omega)
      have M6:Hm (w.heap.size+6) Z6.heap.size Z6 14 5 (some ⟨(w13.heap.size+1+1+1+1),0,none⟩) 1 [⟨8,0,⟨#[]⟩,⟨#[]⟩,⟨0,0,[]⟩,[],[⟨15,4,⟨#[]⟩,⟨#[]⟩,⟨0,0,[]⟩,[],[⟨3,0,⟨#[110]⟩,⟨#[]⟩,⟨0,0,[]⟩,[],[]⟩,⟨1,1,⟨#[]⟩,⟨#[]⟩,⟨0,0,[]⟩,[],[]⟩]⟩,⟨1,0,⟨#[]⟩,⟨#[]⟩,⟨0,0,[]⟩,[],[]⟩,⟨15,1,⟨#[]⟩,⟨#[]⟩,⟨0,0,[]⟩,[],[⟨3,0,⟨#[110]⟩,⟨#[]⟩,⟨0,0,[]⟩,[],[]⟩,⟨5,0,⟨#[]⟩,⟨#[]⟩,⟨0,0,[]⟩,[],[⟨3,0,⟨#[115,117,109]⟩,⟨#[]⟩,⟨0,0,[]⟩,[],[]⟩,⟨15,2,⟨#[]⟩,⟨#[]⟩,⟨0,0,[]⟩,[],[⟨3,0,⟨#[110]⟩,⟨#[]⟩,⟨0,0,[]⟩,[],[]⟩,⟨1,1,⟨#[]⟩,⟨#[]⟩,⟨0,0,[]⟩,[],[]⟩]⟩]⟩]⟩]⟩]:=by rw [show (w13.heap.size+1+1+1+1)=Z5.heap.size by omega,hZ6];exact hm_new1 (t:=⟨8,0,⟨#[]⟩,⟨#[]⟩,⟨0,0,[]⟩,[],[⟨15,4,⟨#[]⟩,⟨#[]⟩,⟨0,0,[]⟩,[],[⟨3,0,⟨#[110]⟩,⟨#[]⟩,⟨0,0,[]⟩,[],[]⟩,⟨1,1,⟨#[]⟩,⟨#[]⟩,⟨0,0,[]⟩,[],[]⟩]⟩,⟨1,0,⟨#[]⟩,⟨#[]⟩,⟨0,0,[]⟩,[],[]⟩,⟨15,1,⟨#[]⟩,⟨#[]⟩,⟨0,0,[]⟩,[],[⟨3,0,⟨#[110]⟩,⟨#[]⟩,⟨0,0,[]⟩,[],[]⟩,⟨5,0,⟨#[]⟩,⟨#[]⟩,⟨0,0,[]⟩,[],[⟨3,0,⟨#[115,117,109]⟩,⟨#[]⟩,⟨0,0,[]⟩,[],[]⟩,⟨15,2,⟨#[]⟩,⟨#[]⟩,⟨0,0,[]⟩,[],[⟨3,0,⟨#[110]⟩,⟨#[]⟩,⟨0,0,[]⟩,[],[]⟩,⟨1,1,⟨#[]⟩,⟨#[]⟩,⟨0,0,[]⟩,[],[]⟩]⟩]⟩]⟩]⟩) (fm_node 8 0 ⟨#[]⟩ ⟨#[]⟩ ⟨0,0,[]⟩ [⟨15,4,⟨#[]⟩,⟨#[]⟩,⟨0,0,[]⟩,[],[⟨3,0,⟨#[110]⟩,⟨#[]⟩,⟨0,0,[]⟩,[],[]⟩,⟨1,1,⟨#[]⟩,⟨#[]⟩,⟨0,0,[]⟩,[],[]⟩]⟩,⟨1,0,⟨#[]⟩,⟨#[]⟩,⟨0,0,[]⟩,[],[]⟩,⟨15,1,⟨#[]⟩,⟨#[]⟩,⟨0,0,[]⟩,[],[⟨3,0,⟨#[110]⟩,⟨#[]⟩,⟨0,0,[]⟩,[],[]⟩,⟨5,0,⟨#[]⟩,⟨#[]⟩,⟨0,0,[]⟩,[],[⟨3,0,⟨#[115,117,109]⟩,⟨#[]⟩,⟨0,0,[]⟩,[],[]⟩,⟨15,2,⟨#[]⟩,⟨#[]⟩,⟨0,0,[]⟩,[],[⟨3,0,⟨#[110]⟩,⟨#[]⟩,⟨0,0,[]⟩,[],[]⟩,⟨1,1,⟨#[]⟩,⟨#[]⟩,⟨0,0,[]⟩,[],[]⟩]⟩]⟩]⟩] (by decide) (by decide) (Hs.nil _ _ _ _ none) M5) (by omega)
      have N7:=fm_up (fm_node 4 0 ⟨#[110]⟩ ⟨#[]⟩ ⟨1,0,[]⟩ [⟨8,0,⟨#[]⟩,⟨#[]⟩,⟨0,0,[]⟩,[],[⟨15,4,⟨#[]⟩,⟨#[]⟩,⟨0,0,[]⟩,[],[⟨3,0,⟨#[110]⟩,⟨#[]⟩,⟨0,0,[]⟩,[],[]⟩,⟨1,1,⟨#[]⟩,⟨#[]⟩,⟨0,0,[]⟩,[],[]⟩]⟩,⟨1,0,⟨#[]⟩,⟨#[]⟩,⟨0,0,[]⟩,[],[]⟩,⟨15,1,⟨#[]⟩,⟨#[]⟩,⟨0,0,[]⟩,[],[⟨3,0,⟨#[110]⟩,⟨#[]⟩,⟨0,0,[]⟩,[],[]⟩,⟨5,0,⟨#[]⟩,⟨#[]⟩,⟨0,0,[]⟩,[],[⟨3,0,⟨#[115,117,109]⟩,⟨#[]⟩,⟨0,0,[]⟩,[],[]⟩,⟨15,2,⟨#[]⟩,⟨#[]⟩,⟨0,0,[]⟩,[],[⟨3,0,⟨#[110]⟩,⟨#[]⟩,⟨0,0,[]⟩,[],[]⟩,⟨1,1,⟨#[]⟩,⟨#[]⟩,⟨0,0,[]⟩,[],[]⟩]⟩]⟩]⟩]⟩] (by decide) (by decide) (Hs.nil _ _ _ _ none) M6) bZ7
      have g7:Z7.heap[w13.heap.size+1+1+1+1+1]?=some (.cells #[.int .i64 4,.int .i64 0,.string ⟨#[110]⟩,.string ⟨#[]⟩,.int .i64 1,.int .i64 0,.slice none 0 0,.slice none 0 0,.slice (some ⟨(w13.heap.size+1+1+1+1),0,none⟩) 1 1] 29 (0,0)):=by rw [hZ7];exact heap_new (by omega)
      have BB7:Below V.heap.size V Z7:=((BB4.trans (bZ5.mono BB4.size)).trans (bZ6.mono (BB4.trans (bZ5.mono BB4.size)).size)).trans (bZ7.mono ((BB4.trans (bZ5.mono BB4.size)).trans (bZ6.mono (BB4.trans (bZ5.mono BB4.size)).size)).size)
      have h14:=hSV.below BB7
      have hs13:=hs_set1 (hs_up6 (hs_up6 (hs_up6 (hs_up6 hs6 hbw7) hbw8) bZ1) B1) (show w.heap.size+4 < w.heap.size+6 by omega) 8 (.slice (some ⟨w13.heap.size+1+1+1+1+1,0,none⟩) 1 1)
      rw [← hV] at hs13
      have hs14:=hs_up6 hs13 BB7
      obtain ⟨⟨y0,y1,y2,y4,y5,y6,y8,yf⟩,⟨z0,z1,z2,zf⟩,⟨k0,k1,k2⟩,⟨j0,j1,j2⟩⟩:=(h13).facts hp hX2 hX3
      have hq0:w.heap.size+4 < w13.heap.size:=by omega
      have hq1:w.heap.size+4 < w13.heap.size+1:=by omega
      have hq2:w.heap.size+4 < w13.heap.size+1+1:=by omega
      have hq3:w.heap.size+4 < w13.heap.size+1+1+1:=by omega
      have hq4:w.heap.size+4 < w13.heap.size+1+1+1+1:=by omega
      have hq5:w.heap.size+4 < w13.heap.size+1+1+1+1+1:=by omega
      go_wp2_with fail
      go_meet
      rw [← hV,← hZ2,← hZ3,← hZ4,← hZ5,← hZ6,← hZ7]
      exact ⟨7,0,⟨#[115,117,109]⟩,⟨4,0,[⟨1,0,[]⟩,⟨1,0,[]⟩]⟩,a2,l2,c2,.slice (some ⟨w13.heap.size+1+1+1+1+1,0,none⟩) 1 1,⟨4,0,[⟨1,0,[]⟩,⟨1,0,[]⟩]⟩,a2,l2,c2,h14,by omega,by decide,hs14,hs14,(rt_two (d:=3) (vs:=0) (by omega) (leafV 3 (by omega) (by omega) (by omega) (by decide)) (leafV 3 (by omega) (by omega) (by omega) (by decide))).1,Or.inl rfl,Or.inr ⟨_,⟨4,0,⟨#[110]⟩,⟨#[]⟩,⟨1,0,[]⟩,[],[⟨8,0,⟨#[]⟩,⟨#[]⟩,⟨0,0,[]⟩,[],[⟨15,4,⟨#[]⟩,⟨#[]⟩,⟨0,0,[]⟩,[],[⟨3,0,⟨#[110]⟩,⟨#[]⟩,⟨0,0,[]⟩,[],[]⟩,⟨1,1,⟨#[]⟩,⟨#[]⟩,⟨0,0,[]⟩,[],[]⟩]⟩,⟨1,0,⟨#[]⟩,⟨#[]⟩,⟨0,0,[]⟩,[],[]⟩,⟨15,1,⟨#[]⟩,⟨#[]⟩,⟨0,0,[]⟩,[],[⟨3,0,⟨#[110]⟩,⟨#[]⟩,⟨0,0,[]⟩,[],[]⟩,⟨5,0,⟨#[]⟩,⟨#[]⟩,⟨0,0,[]⟩,[],[⟨3,0,⟨#[115,117,109]⟩,⟨#[]⟩,⟨0,0,[]⟩,[],[]⟩,⟨15,2,⟨#[]⟩,⟨#[]⟩,⟨0,0,[]⟩,[],[⟨3,0,⟨#[110]⟩,⟨#[]⟩,⟨0,0,[]⟩,[],[]⟩,⟨1,1,⟨#[]⟩,⟨#[]⟩,⟨0,0,[]⟩,[],[]⟩]⟩]⟩]⟩]⟩]⟩,_,_,_,_,_,_,_,_,_,rfl,by omega,g7,N7.wider (fun _ _ _ h=>h) (fun _ _ _ h=>h.deeper (by omega) (Nat.le_refl _))⟩⟩
  case rest =>
    obtain ⟨tK,tN,tS,y,b1,m1,d1,v8,u,au,lu,cu,hSp,⟨hN0,hN2⟩,hS8,hsY,hsU,hU4,hUV,hA⟩:=hcut
    have hgc:=hSp.drw.grown
    have hcc:=hSp.drw.cur
    have hzc:=hSp.lt
    have HTy:Hid (∀ W:World,Below wc.heap.size wc W→Ty2 W p 4 (.agg #[.int .i64 u.K,.int .i64 u.N,.slice au lu cu]) u):=fun W hb=>⟨⟨au,lu,cu,rfl,(hs_up6 hsU hb).keep (fun _ _ _=>rfl) (by omega) (Nat.le_refl _)⟩,hU4⟩
    have hA2:∃ (a8:Option Addr) (l8 c8:Nat),v8=.slice a8 l8 c8∧(l8=0∨∃ (g:Nat) (t1:Tm) (q1:Option Addr) (n1 o1:Nat) (q2:Option Addr) (n2 o2:Nat) (q3:Option Addr) (n3 o3:Nat),a8=some ⟨g,0,none⟩∧l8=1∧c8=1∧w.heap.size+6≤g∧wc.heap[g]?=some (.cells (cellsT t1 q1 n1 o1 q2 n2 o2 q3 n3 o3).toArray 29 (0,0))∧Fm (w.heap.size+6) wc.heap.size wc 14 19 t1 q1 n1 q2 n2 q3 n3):=by
      rcases hA with rfl | ⟨g,t1,q1,n1,o1,q2,n2,o2,q3,n3,o3,rfl,r⟩
      · exact ⟨none,0,0,rfl,Or.inl rfl⟩
      · exact ⟨_,1,1,rfl,Or.inr ⟨g,t1,q1,n1,o1,q2,n2,o2,q3,n3,o3,rfl,rfl,rfl,r⟩⟩
    obtain ⟨a8,l8,c8,rfl,hA3⟩:=hA2
    clear hA
    obtain ⟨⟨y0,y1,y2,y4,y5,y6,y8,yf⟩,⟨z0,z1,z2,zf⟩,⟨k0,k1,k2⟩,⟨j0,j1,j2⟩⟩:=(hSp).facts hp hX2 hX3
    go_upto_if 160 with fail
    go_cut [] from 161 to 168 (fun wx=>∃ (g:Nat) (t1:Tm) (q1:Option Addr) (n1 o1:Nat) (q2:Option Addr) (n2 o2:Nat) (q3:Option Addr) (n3 o3:Nat),Spn X wx p cao clen ccap (w.heap.size+4) tK tN tS y.K y.N (.slice b1 m1 d1) (.slice (some ⟨g,0,none⟩) 1 1) u.K u.N (.slice au lu cu)∧w.heap.size+6≤g∧wx.heap[g]?=some (.cells (cellsT t1 q1 n1 o1 q2 n2 o2 q3 n3 o3).toArray 29 (0,0))∧Fm (w.heap.size+6) wx.heap.size wx 14 19 t1 q1 n1 q2 n2 q3 n3∧Hs (w.heap.size+6) wx.heap.size wx 4 b1 m1 y.A∧Hs (w.heap.size+6) wx.heap.size wx 4 au lu u.A)
    case first =>
      rcases hA3 with rfl | ⟨g,t1,q1,n1,o1,q2,n2,o2,q3,n3,o3,rfl,rfl,rfl,hg6,hgb,hF1⟩
      · have KS:Calls Try.prog 58 #[.pointer (some ⟨p,0,none⟩),.agg #[.int .i64 u.K,.int .i64 u.N,.slice au lu cu],.slice ae n ce,.int .i64 3,.int .i64 tN] wc fun e w'=>∃ rv tm,e=.returned rv∧TmV w' wc.heap.size 14 19 rv tm∧Drw wc w' p cao clen ccap:=by
          have:=shape_any 2 (by omega) p cao clen ccap _ u _ es tN wc hcc ((HTy.out wc (Below.refl _ _)).up (by omega)) (HEX.out wc hgc) (by have:=HN.out;omega) hN0 hN2
          simpa using this
        go_wp2_with fail
        refine KS.mono ?_
        rintro e w2 ⟨rv,tm,rfl,⟨p1,p2,p3,p4,p5,p6,p7,p8,p9,rfl,hF⟩,hD2⟩
        have hS2:=hSp.call hD2
        have hz2:=hS2.lt
        have hzz:=hD2.grown.size
        have hq0:w.heap.size+4 < w2.heap.size:=by omega
        clear y0 y1 y2 y4 y5 y6 y8 yf z0 z1 z2 zf k0 k1 k2 j0 j1 j2
        obtain ⟨⟨y0,y1,y2,y4,y5,y6,y8,yf⟩,⟨z0,z1,z2,zf⟩,⟨k0,k1,k2⟩,⟨j0,j1,j2⟩⟩:=(hS2).facts hp hX2 hX3
        go_wp2_with fail
        go_meet
        obtain ⟨V,hV⟩:∃ V,V=w2.setCell ⟨w.heap.size+4,8,none⟩ (.slice (some ⟨w2.heap.size,0,none⟩) 1 1):=⟨_,rfl⟩
        have hSV:=hS2.setA (.slice (some ⟨w2.heap.size,0,none⟩) 1 1)
        have zV:V.heap.size=w2.heap.size:=by rw [hV];simp
        rw [← hV] at hSV
        obtain ⟨Z,hZ⟩:∃ Z,Z=V.alloc (.cells #[.int .i64 tm.K,.int .i64 tm.N,.string tm.S,.string tm.Z,.int .i64 tm.T.K,.int .i64 tm.T.N,.slice p1 p2 p3,.slice p4 p5 p6,.slice p7 p8 p9] 29):=⟨_,rfl⟩
        have bZ:Below V.heap.size V Z:=by rw [hZ];exact (Below.refl _ _).alloc (Nat.le_refl _) _
        have gZ:Z.heap[w2.heap.size]?=some (.cells #[.int .i64 tm.K,.int .i64 tm.N,.string tm.S,.string tm.Z,.int .i64 tm.T.K,.int .i64 tm.T.N,.slice p1 p2 p3,.slice p4 p5 p6,.slice p7 p8 p9] 29 (0,0)):=by rw [hZ];exact heap_new zV.symm
        rw [← hV,← hZ]
        have kp:∀ k,w.heap.size+6≤k→k < wc.heap.size→Z.heap[k]?=wc.heap[k]?:=fun k h1 h2=>(bZ.block k (by omega)).trans (by rw [hV];exact (row_other _ _ _ (by omega)).trans (hD2.grown.block k h2 (by simp;omega)))
        have zZ:=bZ.size
        exact ⟨w2.heap.size,tm,p1,p2,p3,p4,p5,p6,p7,p8,p9,hSV.below bZ,by omega,gZ,Fm.keep (fun k h1 h2=>(bZ.block k (by omega)).trans (by rw [hV];exact row_other _ _ _ (by omega))) (by omega) (by omega) hF,hsY.keep (fun k h1 h2=>kp k h1 h2) (Nat.le_refl _) (by omega),hsU.keep (fun k h1 h2=>kp k h1 h2) (Nat.le_refl _) (by omega)⟩
      · go_wp2_with fail
        go_meet
        exact ⟨g,t1,q1,n1,o1,q2,n2,o2,q3,n3,o3,hSp,hg6,hgb,hF1,hsY,hsU⟩
    case rest =>
      clear hA3 hSp hsY hsU hgc hcc hzc HTy y0 y1 y2 y4 y5 y6 y8 yf z0 z1 z2 zf k0 k1 k2 j0 j1 j2
      obtain ⟨g,t1,q1,n1,o1,q2,n2,o2,q3,n3,o3,hSp,hg6,hgb,hF1,hsY,hsU⟩:=hcut
      have hgc:=hSp.drw.grown
      have hcc:=hSp.drw.cur
      have hzc:=hSp.lt
      have hzX:=hgc.size
      have hXs:=HXS.out
      have hgl:g < wc.heap.size:=(Array.getElem?_eq_some_iff.1 hgb).1
      have HW0:Hid (∀ W:World,wc.grownBy W (some p)→W.heap[w.heap.size]?=some (.cells #[.int .i64 t.K,.int .i64 t.N,.slice ao len cap] 26 (0,0))):=fun W hg=>(hg.block _ (by omega) (by simp;omega)).trans ((hgc.block _ (by omega) (by simp;omega)).trans hX0)
      have HR1:Hid (∀ W:World,wc.grownBy W (some p)→W.heap[w.heap.size+1]?=some (.cells #[.int .i64 0,.int .i64 0,.string ⟨#[]⟩,.string ⟨#[]⟩,.int .i64 0,.int .i64 0,.slice none 0 0,.slice none 0 0,.slice none 0 0] 29 (0,0))):=fun W hg=>(hg.block _ (by omega) (by simp;omega)).trans ((hgc.block _ (by omega) (by simp;omega)).trans hX1)
      have HT4:Hid (∀ W:World,wc.grownBy W (some p)→W.heap[w.heap.size+4]?=_):=fun W hg=>(hg.block _ (by omega) (by simp;omega)).trans hSp.tb
      have HT5:Hid (∀ W:World,wc.grownBy W (some p)→W.heap[w.heap.size+5]?=_):=fun W hg=>(hg.block _ (by omega) (by simp;omega)).trans hSp.ub
      have HS:Hid (∀ W:World,wc.grownBy W (some p)→W.cell? ⟨w.heap.size+4,0,none⟩=some (.int .i64 tK)∧W.cell? ⟨w.heap.size+4,1,none⟩=some (.int .i64 tN)∧W.cell? ⟨w.heap.size+4,2,none⟩=some (.string tS)∧W.cell? ⟨w.heap.size+4,4,none⟩=some (.int .i64 y.K)∧W.cell? ⟨w.heap.size+4,5,none⟩=some (.int .i64 y.N)∧W.cell? ⟨w.heap.size+4,6,none⟩=some (.slice b1 m1 d1)∧W.cell? ⟨w.heap.size+4,8,none⟩=some (.slice (some ⟨g,0,none⟩) 1 1)∧W.cell? ⟨w.heap.size,0,none⟩=some (.int .i64 t.K)∧W.cell? ⟨w.heap.size,1,none⟩=some (.int .i64 t.N)∧W.cell? ⟨w.heap.size,2,none⟩=some (.slice ao len cap)∧W.cell? ⟨w.heap.size+5,0,none⟩=some (.int .i64 u.K)∧W.cell? ⟨w.heap.size+5,1,none⟩=some (.int .i64 u.N)∧W.cell? ⟨w.heap.size+5,2,none⟩=some (.slice au lu cu)):=fun W hg=>let a:=HT4.out W hg;let b:=HT5.out W hg;let c:=HW0.out W hg;⟨row_cell a 0,row_cell a 1,row_cell a 2,row_cell a 4,row_cell a 5,row_cell a 6,row_cell a 8,row_cell c 0,row_cell c 1,row_cell c 2,row_cell b 0,row_cell b 1,row_cell b 2⟩
      have HSN:Hid (∀ W:World,wc.grownBy W (some p)→∀ a0 a1 a2 a3 a4 a5 a6 a7 a8:Value,(((((((((W.setCell ⟨w.heap.size+1,0,none⟩ a0).setCell ⟨w.heap.size+1,1,none⟩ a1).setCell ⟨w.heap.size+1,2,none⟩ a2).setCell ⟨w.heap.size+1,3,none⟩ a3).setCell ⟨w.heap.size+1,4,none⟩ a4).setCell ⟨w.heap.size+1,5,none⟩ a5).setCell ⟨w.heap.size+1,6,none⟩ a6).setCell ⟨w.heap.size+1,7,none⟩ a7).setCell ⟨w.heap.size+1,8,none⟩ a8).cell? ⟨w.heap.size+4,0,none⟩=some (.int .i64 tK)∧(((((((((W.setCell ⟨w.heap.size+1,0,none⟩ a0).setCell ⟨w.heap.size+1,1,none⟩ a1).setCell ⟨w.heap.size+1,2,none⟩ a2).setCell ⟨w.heap.size+1,3,none⟩ a3).setCell ⟨w.heap.size+1,4,none⟩ a4).setCell ⟨w.heap.size+1,5,none⟩ a5).setCell ⟨w.heap.size+1,6,none⟩ a6).setCell ⟨w.heap.size+1,7,none⟩ a7).setCell ⟨w.heap.size+1,8,none⟩ a8).cell? ⟨w.heap.size+4,1,none⟩=some (.int .i64 tN)∧(((((((((W.setCell ⟨w.heap.size+1,0,none⟩ a0).setCell ⟨w.heap.size+1,1,none⟩ a1).setCell ⟨w.heap.size+1,2,none⟩ a2).setCell ⟨w.heap.size+1,3,none⟩ a3).setCell ⟨w.heap.size+1,4,none⟩ a4).setCell ⟨w.heap.size+1,5,none⟩ a5).setCell ⟨w.heap.size+1,6,none⟩ a6).setCell ⟨w.heap.size+1,7,none⟩ a7).setCell ⟨w.heap.size+1,8,none⟩ a8).cell? ⟨w.heap.size+4,2,none⟩=some (.string tS)∧(((((((((W.setCell ⟨w.heap.size+1,0,none⟩ a0).setCell ⟨w.heap.size+1,1,none⟩ a1).setCell ⟨w.heap.size+1,2,none⟩ a2).setCell ⟨w.heap.size+1,3,none⟩ a3).setCell ⟨w.heap.size+1,4,none⟩ a4).setCell ⟨w.heap.size+1,5,none⟩ a5).setCell ⟨w.heap.size+1,6,none⟩ a6).setCell ⟨w.heap.size+1,7,none⟩ a7).setCell ⟨w.heap.size+1,8,none⟩ a8).cell? ⟨w.heap.size+4,4,none⟩=some (.int .i64 y.K)∧(((((((((W.setCell ⟨w.heap.size+1,0,none⟩ a0).setCell ⟨w.heap.size+1,1,none⟩ a1).setCell ⟨w.heap.size+1,2,none⟩ a2).setCell ⟨w.heap.size+1,3,none⟩ a3).setCell ⟨w.heap.size+1,4,none⟩ a4).setCell ⟨w.heap.size+1,5,none⟩ a5).setCell ⟨w.heap.size+1,6,none⟩ a6).setCell ⟨w.heap.size+1,7,none⟩ a7).setCell ⟨w.heap.size+1,8,none⟩ a8).cell? ⟨w.heap.size+4,5,none⟩=some (.int .i64 y.N)∧(((((((((W.setCell ⟨w.heap.size+1,0,none⟩ a0).setCell ⟨w.heap.size+1,1,none⟩ a1).setCell ⟨w.heap.size+1,2,none⟩ a2).setCell ⟨w.heap.size+1,3,none⟩ a3).setCell ⟨w.heap.size+1,4,none⟩ a4).setCell ⟨w.heap.size+1,5,none⟩ a5).setCell ⟨w.heap.size+1,6,none⟩ a6).setCell ⟨w.heap.size+1,7,none⟩ a7).setCell ⟨w.heap.size+1,8,none⟩ a8).cell? ⟨w.heap.size+4,6,none⟩=some (.slice b1 m1 d1)∧(((((((((W.setCell ⟨w.heap.size+1,0,none⟩ a0).setCell ⟨w.heap.size+1,1,none⟩ a1).setCell ⟨w.heap.size+1,2,none⟩ a2).setCell ⟨w.heap.size+1,3,none⟩ a3).setCell ⟨w.heap.size+1,4,none⟩ a4).setCell ⟨w.heap.size+1,5,none⟩ a5).setCell ⟨w.heap.size+1,6,none⟩ a6).setCell ⟨w.heap.size+1,7,none⟩ a7).setCell ⟨w.heap.size+1,8,none⟩ a8).cell? ⟨w.heap.size+4,8,none⟩=some (.slice (some ⟨g,0,none⟩) 1 1)∧(((((((((W.setCell ⟨w.heap.size+1,0,none⟩ a0).setCell ⟨w.heap.size+1,1,none⟩ a1).setCell ⟨w.heap.size+1,2,none⟩ a2).setCell ⟨w.heap.size+1,3,none⟩ a3).setCell ⟨w.heap.size+1,4,none⟩ a4).setCell ⟨w.heap.size+1,5,none⟩ a5).setCell ⟨w.heap.size+1,6,none⟩ a6).setCell ⟨w.heap.size+1,7,none⟩ a7).setCell ⟨w.heap.size+1,8,none⟩ a8).cell? ⟨w.heap.size,0,none⟩=some (.int .i64 t.K)∧(((((((((W.setCell ⟨w.heap.size+1,0,none⟩ a0).setCell ⟨w.heap.size+1,1,none⟩ a1).setCell ⟨w.heap.size+1,2,none⟩ a2).setCell ⟨w.heap.size+1,3,none⟩ a3).setCell ⟨w.heap.size+1,4,none⟩ a4).setCell ⟨w.heap.size+1,5,none⟩ a5).setCell ⟨w.heap.size+1,6,none⟩ a6).setCell ⟨w.heap.size+1,7,none⟩ a7).setCell ⟨w.heap.size+1,8,none⟩ a8).cell? ⟨w.heap.size,1,none⟩=some (.int .i64 t.N)∧(((((((((W.setCell ⟨w.heap.size+1,0,none⟩ a0).setCell ⟨w.heap.size+1,1,none⟩ a1).setCell ⟨w.heap.size+1,2,none⟩ a2).setCell ⟨w.heap.size+1,3,none⟩ a3).setCell ⟨w.heap.size+1,4,none⟩ a4).setCell ⟨w.heap.size+1,5,none⟩ a5).setCell ⟨w.heap.size+1,6,none⟩ a6).setCell ⟨w.heap.size+1,7,none⟩ a7).setCell ⟨w.heap.size+1,8,none⟩ a8).cell? ⟨w.heap.size,2,none⟩=some (.slice ao len cap)∧(((((((((W.setCell ⟨w.heap.size+1,0,none⟩ a0).setCell ⟨w.heap.size+1,1,none⟩ a1).setCell ⟨w.heap.size+1,2,none⟩ a2).setCell ⟨w.heap.size+1,3,none⟩ a3).setCell ⟨w.heap.size+1,4,none⟩ a4).setCell ⟨w.heap.size+1,5,none⟩ a5).setCell ⟨w.heap.size+1,6,none⟩ a6).setCell ⟨w.heap.size+1,7,none⟩ a7).setCell ⟨w.heap.size+1,8,none⟩ a8).cell? ⟨w.heap.size+5,0,none⟩=some (.int .i64 u.K)∧(((((((((W.setCell ⟨w.heap.size+1,0,none⟩ a0).setCell ⟨w.heap.size+1,1,none⟩ a1).setCell ⟨w.heap.size+1,2,none⟩ a2).setCell ⟨w.heap.size+1,3,none⟩ a3).setCell ⟨w.heap.size+1,4,none⟩ a4).setCell ⟨w.heap.size+1,5,none⟩ a5).setCell ⟨w.heap.size+1,6,none⟩ a6).setCell ⟨w.heap.size+1,7,none⟩ a7).setCell ⟨w.heap.size+1,8,none⟩ a8).cell? ⟨w.heap.size+5,1,none⟩=some (.int .i64 u.N)∧(((((((((W.setCell ⟨w.heap.size+1,0,none⟩ a0).setCell ⟨w.heap.size+1,1,none⟩ a1).setCell ⟨w.heap.size+1,2,none⟩ a2).setCell ⟨w.heap.size+1,3,none⟩ a3).setCell ⟨w.heap.size+1,4,none⟩ a4).setCell ⟨w.heap.size+1,5,none⟩ a5).setCell ⟨w.heap.size+1,6,none⟩ a6).setCell ⟨w.heap.size+1,7,none⟩ a7).setCell ⟨w.heap.size+1,8,none⟩ a8).cell? ⟨w.heap.size+5,2,none⟩=some (.slice au lu cu)):=fun W hg a0 a1 a2 a3 a4 a5 a6 a7 a8 =>
        have e:∀ q,q≠w.heap.size+1→(((((((((W.setCell ⟨w.heap.size+1,0,none⟩ a0).setCell ⟨w.heap.size+1,1,none⟩ a1).setCell ⟨w.heap.size+1,2,none⟩ a2).setCell ⟨w.heap.size+1,3,none⟩ a3).setCell ⟨w.heap.size+1,4,none⟩ a4).setCell ⟨w.heap.size+1,5,none⟩ a5).setCell ⟨w.heap.size+1,6,none⟩ a6).setCell ⟨w.heap.size+1,7,none⟩ a7).setCell ⟨w.heap.size+1,8,none⟩ a8).heap[q]?=W.heap[q]?:=fun q hq=>nest9_other W (w.heap.size+1) a0 a1 a2 a3 a4 a5 a6 a7 a8 q hq
        let a:=(e (w.heap.size+4) (by omega)).trans (HT4.out W hg);let b:=(e (w.heap.size+5) (by omega)).trans (HT5.out W hg);let c:=(e w.heap.size (by omega)).trans (HW0.out W hg);⟨row_cell a 0,row_cell a 1,row_cell a 2,row_cell a 4,row_cell a 5,row_cell a 6,row_cell a 8,row_cell c 0,row_cell c 1,row_cell c 2,row_cell b 0,row_cell b 1,row_cell b 2⟩
      have g0:wc.grownBy wc.drew (some p):=grown_below _ ((Below.refl _ _).drew)
      have cu0:Cur wc.drew p cao clen ccap:=hcc.keep (w':=wc.drew) (fun _ _=>rfl)
      have HTy:Hid (∀ W:World,wc.grownBy W (some p)→TyV W p 14 (.agg #[.int .i64 u.K,.int .i64 u.N,.slice au lu cu]) u):=fun W hg=>⟨au,lu,cu,rfl,(hsU.keep (fun k h1 h2=>hg.block k h2 (by simp;omega)) (by omega) hg.size).deeper (by omega)⟩
      have HWi:Hid (∀ W:World,wc.grownBy W (some p)→Cur W p cao clen ccap→Calls Try.prog 59 #[.slice ae n ce,.string tS,.int .i64 tN,.agg #[.int .i64 u.K,.int .i64 u.N,.slice au lu cu]] W fun e w'=>∃ v2,e=.returned v2∧En2 w' p 14 v2 (es ++ [⟨tS,tN,u⟩])∧Below W.heap.size W w'):=fun W hg hcu=>by
        have hE:=HEX.out W (grown_trans' hgc hg)
        refine (l3With_any p 14 _ es tS tN _ u W hcu.lt hE.1 (HTy.out W hg) (by have:=HN.out;omega)).mono ?_
        rintro e w' ⟨v2,rfl,hE2,hb⟩
        refine ⟨v2,rfl,⟨hE2,fun e he=>?_⟩,hb⟩
        rcases List.mem_append.1 he with he | he
        · exact hE.2 e he
        · rw [List.mem_singleton.1 he]
          obtain ⟨mu,hmu⟩:=hU4
          refine ⟨⟨mu,nodesW_le (by omega) hmu⟩,?_,hS8⟩
          rcases hUV with h | h
          · exact Or.inl h
          · exact Or.inr ⟨hN0,hN2,h⟩
      have HSpn:Hid (∀ (W:World) (v2:Value),wc.grownBy W (some p)→Cur W p cao clen ccap→En2 W p 14 v2 (es ++ [⟨tS,tN,u⟩])→Calls Try.prog 38 #[.pointer (some ⟨p,0,none⟩),.agg #[.int .i64 t.K,.int .i64 t.N,.slice ao len cap],v2,.int .i64 (left:Int)] W fun e w'=>∃ rv tm,e=.returned rv∧TmV w' W.heap.size 14 (20+left) rv tm∧Drw W w' p cao clen ccap):=fun W v2 hg hcu hE=>IH p cao clen ccap _ t v2 _ W hcu (HTX.out W (grown_trans' hgc hg)) hE (by have:=HN.out;simp;omega)
      have hnr:w.heap.size+1 < wc.heap.size:=by omega
      have hw0:IntKind.i64.wrap (left:Int)=left:=by rw [IntKind.wrap_i64];omega
      have hw1:IntKind.i64.wrap ((left:Int)+1 - 1)=left:=by rw [IntKind.wrap_i64];omega
      clear hX0 hX1 hX2 hX3 hU4 hUV HEX HTX IH
      go_wp2_with fail
      go_region_held3 (fun w'=>w'.cell? ⟨w.heap.size+4,0,none⟩=some (.int .i64 tK)∧w'.cell? ⟨w.heap.size+4,1,none⟩=some (.int .i64 tN)∧w'.cell? ⟨w.heap.size+4,2,none⟩=some (.string tS)∧w'.cell? ⟨w.heap.size+4,4,none⟩=some (.int .i64 y.K)∧w'.cell? ⟨w.heap.size+4,5,none⟩=some (.int .i64 y.N)∧w'.cell? ⟨w.heap.size+4,6,none⟩=some (.slice b1 m1 d1)∧w'.cell? ⟨w.heap.size+4,8,none⟩=some (.slice (some ⟨g,0,none⟩) 1 1)∧w'.cell? ⟨w.heap.size,0,none⟩=some (.int .i64 t.K)∧w'.cell? ⟨w.heap.size,1,none⟩=some (.int .i64 t.N)∧w'.cell? ⟨w.heap.size,2,none⟩=some (.slice ao len cap)∧w'.cell? ⟨w.heap.size+5,0,none⟩=some (.int .i64 u.K)∧w'.cell? ⟨w.heap.size+5,1,none⟩=some (.int .i64 u.N)∧w'.cell? ⟨w.heap.size+5,2,none⟩=some (.slice au lu cu))
        (first | with_reducible exact HSN.out _ g3 _ _ _ _ _ _ _ _ _ | with_reducible exact HS.out _ g3 | with_reducible exact HS.out _ (g2a _) | with_reducible exact HS.out _ g2 | with_reducible exact HS.out _ g1 | with_reducible exact HS.out _ g0)
        (first
          | (refine step_run hr3 (by rfl) _ _ (by rfl) (by rfl) (by rfl) (by rfl) ?_)
          | (go_at_call 38;(try rw [hw1]);(try rw [hw0]);(with_reducible refine (HSpn.out _ ev g1 cu1 hE1).mono ?_);rintro e x2 ⟨rv,tm,rfl,⟨p1,p2,p3,p4,p5,p6,p7,p8,p9,rfl,hF⟩,hD2⟩;have g2:wc.grownBy x2 (some p):=grown_trans' g1 hD2.grown;have g2a:∀ o,wc.grownBy (x2.alloc o) (some p):=(fun o=>grown_trans' g2 (grown_below _ ((Below.refl _ _).alloc (Nat.le_refl _) _)));have hgx:g < x2.heap.size:=Nat.lt_of_lt_of_le hgl g2.size;obtain ⟨cp3,x3,hr3,hb3,hl3,hc3⟩:=app_two (W:=x2.alloc (.cells #[.int .i64 tm.K,.int .i64 tm.N,.string tm.S,.string tm.Z,.int .i64 tm.T.K,.int .i64 tm.T.N,.slice p1 p2 p3,.slice p4 p5 p6,.slice p7 p8 p9] 29)) (g:=g) (s:=x2.heap.size) (t:=t1) (u:=tm) (a1:=q1) (l1:=n1) (c1:=o1) (a2:=q2) (l2:=n2) (c2:=o2) (a3:=q3) (l3:=n3) (c3:=o3) (b1:=p1) (m1:=p2) (e1:=p3) (b2:=p4) (m2:=p5) (e2:=p6) (b3:=p7) (m3:=p8) (e3:=p9) ((Below.heap_alloc _ _ _ hgx).trans ((g2.block g hgl (by simp;omega)).trans hgb)) (heap_new rfl);have g3:wc.grownBy x3 (some p):=grown_trans' (g2a _) (grown_below _ hb3);have r3:=HR1.out x3 g3;obtain ⟨y0,y1,y2,y3,y4,y5,y6,y7,y8⟩:=Nine.box r3;have yf:=row_free r3)
          | (go_at_call 59;refine (HWi.out _ g0 cu0).mono ?_;rintro e x1 ⟨ev,rfl,hE1,hb1⟩;have g1:wc.grownBy x1 (some p):=grown_trans' g0 (grown_below _ hb1);have cu1:=cu0.below hb1))
      all_goals
        go_wp2_with fail
        have hz1:=g1.size
        have hz2:=hD2.grown.size
        have hz3:=hb3.size
        have eA:(x2.alloc (.cells #[.int .i64 tm.K,.int .i64 tm.N,.string tm.S,.string tm.Z,.int .i64 tm.T.K,.int .i64 tm.T.N,.slice p1 p2 p3,.slice p4 p5 p6,.slice p7 p8 p9] 29)).heap.size=x2.heap.size+1:=by simp
        have hFa:Fm (w.heap.size+6) x3.heap.size x3 14 (20+left) t1 q1 n1 q2 n2 q3 n3:=(Fm.keep (fun k h1 h2=>g3.block k h2 (by simp;omega)) (Nat.le_refl _) g3.size hF1).wider (fun _ _ _ h=>h) (fun _ _ _ h=>h.deeper (by omega) (Nat.le_refl _))
        have hFb:Fm (w.heap.size+6) x3.heap.size x3 14 (20+left) tm p1 p2 p4 p5 p7 p8:=Fm.keep (fun k h1 h2=>(hb3.block k (by omega)).trans (Below.heap_alloc _ _ _ h2)) (by omega) (by omega) hF
        have hMr:Hm (w.heap.size+6) x3.heap.size x3 14 (20+left+1) (some ⟨x2.heap.size+1,0,none⟩) 2 [t1,tm]:=hm_two (fun j v hv=>by have:=hc3 j v hv;rw [eA] at this;exact this) (by omega) (by omega) hFa hFb
        have hFt:Fm (w.heap.size+6) x3.heap.size x3 14 (20+left+1) ⟨tK,tN,tS,⟨#[]⟩,y,[],[t1,tm]⟩ b1 m1 none 0 (some ⟨x2.heap.size+1,0,none⟩) 2:=⟨by show tS.size≤_;omega,Nat.zero_le _,(hsY.keep (fun k h1 h2=>g3.block k h2 (by simp;omega)) (Nat.le_refl _) g3.size).deeper (by omega),Hs.nil _ _ _ _ _,hMr⟩
        have fin:=fin_term (w:=w) (r:=w.heap.size+1) (c1:=d1) (c2:=0) (c3:=cp3) hFt (by omega) (by omega) hp ⟨grown_trans' (grown_trans' hgX hgc) g3,(hD2.cur.below ((Below.refl _ _).alloc (Nat.le_refl _) _)).below hb3⟩
        exact bodyPost_ret (v:=.agg #[.int .i64 tK,.int .i64 tN,.string tS,.string ⟨#[]⟩,.int .i64 y.K,.int .i64 y.N,.slice b1 m1 d1,.slice none 0 0,.slice (some ⟨x2.heap.size+1,0,none⟩) 2 cp3]) (by simp [results,Try.results38,go_sem,y0,y1,y2,y3,y4,y5,y6,y7,y8]) rfl ⟨_,_,rfl,fin.1.deeper (Nat.le_refl _) (by omega),fin.2⟩
end Go.Proofs.Ytleghjgpnefliaa
