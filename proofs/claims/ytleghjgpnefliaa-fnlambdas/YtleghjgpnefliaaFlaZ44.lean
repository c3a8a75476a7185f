/-
  What the model's 'l1New' comes to: a cursor over the bytes.
-/
import Derived.Test.YtleghjgpnefliaaFlaZ5
import Derived.Test.YtleghjgpnefliaaFlaLd3
import Derived.Test.YtleghjgpnefliaaFlaLb1
import Derived.Test.YtleghjgpnefliaaFlaZ3
namespace Go.Proofs.Ytleghjgpnefliaa
open Go.RowKit
set_option linter.unusedVariables false
set_option linter.unusedSimpArgs false
def Bts (w:World) (cao:Option Addr) (clen:Nat):Prop:=∀ j,j < clen→∃ b o x,cao=some ⟨b,o,none⟩∧b < w.heap.size∧w.cell? ⟨b,o+j,none⟩=some (.int .u8 x)∧0≤x∧x≤255
set_option maxRecDepth 100000 in
set_option maxHeartbeats 1000000 in
theorem l1New_any (cao:Option Addr) (clen ccap:Nat) (w:World) (hb:Bts w cao clen) (hl:clen≤1048576) :
    Calls Try.prog 15 #[.slice cao clen ccap] w fun e w'=>∃ p,e=.returned (.pointer (some ⟨p,0,none⟩))∧Below w.heap.size w w'∧w.heap.size≤p∧Cur w' p cao clen ccap:=by
  go_enter Try.func15,Try.ntmps15
  go_wp2_with fail
  go_loopw [3,4] (fun hv i wr=>∃ (x:Int) (j:Nat),j≤clen∧hv=.int .i64 x∧i=.int .i64 j∧wr=w) (fun _ i _=>clen - (intOf i).toNat)
  case atStart=>exact ⟨_,0,by omega,rfl,rfl,rfl⟩
  case round =>
    obtain ⟨x,j,hj,rfl,rfl,rfl⟩:=hrel
    by_cases hlt:j < clen
    · by_cases hlt2:j < 4000
      · obtain ⟨b,o,y,rfl,hbw,hy,hy0,hy1⟩:=hb j hlt
        go_wp2_with fail
        go_roundw
        case rel=>exact ⟨_,j+1,by omega,rfl,by go_num,by first | rfl | trivial⟩
        case measure=>simp [intOf];omega
      · go_wp2_with fail
        go_ret
        refine ⟨wr.heap.size,rfl,(Below.refl _ _).alloc (Nat.le_refl _) _,Nat.le_refl _,⟨0,x,heap_new rfl,by omega,by omega⟩,fun q hq=>?_,hl⟩
        obtain ⟨b,o,y,e,hbw,hy,hy0⟩:=hb q hq
        exact ⟨b,o,y,e,hbw,(World.cell?_of_block (Below.heap_alloc _ _ _ hbw)).trans hy,hy0⟩
    · go_wp2_with fail
      go_ret
      refine ⟨wr.heap.size,rfl,(Below.refl _ _).alloc (Nat.le_refl _) _,Nat.le_refl _,⟨0,x,heap_new rfl,by omega,by omega⟩,fun q hq=>?_,hl⟩
      obtain ⟨b,o,y,e,hbw,hy,hy0⟩:=hb q hq
      exact ⟨b,o,y,e,hbw,(World.cell?_of_block (Below.heap_alloc _ _ _ hbw)).trans hy,hy0⟩
end Go.Proofs.Ytleghjgpnefliaa

/-
  What the model's 'DrawTerm' comes to: a term that is right, in new memory.
-/
namespace Go.Proofs.Ytleghjgpnefliaa
open Go.RowKit
set_option linter.unusedVariables false
set_option linter.unusedSimpArgs false
theorem bts_bel {w w':World} {cao:Option Addr} {clen:Nat} (h:Bts w cao clen) (hb:Below w.heap.size w w'):Bts w' cao clen:=fun j hj=>by
  obtain ⟨b,o,x,e,hbl,hc,h0,h1⟩:=h j hj
  exact ⟨b,o,x,e,by have:=hb.size;omega,(bcell hb hbl _).trans hc,h0,h1⟩
end Go.Proofs.Ytleghjgpnefliaa

/-
  What the model's 'l2Any' comes to: some term, in new memory.
-/
namespace Go.Proofs.Ytleghjgpnefliaa
open Go.RowKit
set_option linter.unusedVariables false
set_option linter.unusedSimpArgs false
theorem bm_any:∀ l,SaidBm l:=by
  intro l
  induction l with
  | zero =>
    intro p cao clen ccap L B D d m t a1 l1 c1 a2 l2 c2 a3 l3 c3 w _ _ _ _ hm
    simp [nodesM] at hm
  | succ l ih=>exact bm_step l ih
set_option maxRecDepth 100000 in
set_option maxHeartbeats 4000000 in
theorem l2Any_any (p:Nat) (cao:Option Addr) (clen ccap:Nat) (w:World) (hcw:Cur w p cao clen ccap) :
    Calls Try.prog 16 #[.pointer (some ⟨p,0,none⟩)] w fun e w'=>∃ rv tm,e=.returned rv∧TmV w' w.heap.size 50 25 rv tm∧cntM tm≤40000∧Drw w w' p cao clen ccap:=by
  have hpw:=hcw.lt
  obtain ⟨X,hX⟩:∃ X,X=w.alloc (.cells #[.int .i64 0,.int .i64 0,.string ⟨#[]⟩,.string ⟨#[]⟩,.int .i64 0,.int .i64 0,.slice none 0 0,.slice none 0 0,.slice none 0 0] 29):=⟨_,rfl⟩
  have hXb:Below w.heap.size w X:=by rw [hX];exact (Below.refl _ _).alloc (Nat.le_refl _) _
  have hXz:X.heap.size=w.heap.size+1:=by rw [hX];simp
  have hX0:X.heap[w.heap.size]?=some (.cells #[.int .i64 0,.int .i64 0,.string ⟨#[]⟩,.string ⟨#[]⟩,.int .i64 0,.int .i64 0,.slice none 0 0,.slice none 0 0,.slice none 0 0] 29 (0,0)):=by rw [hX];exact heap_new rfl
  have hcX:=hcw.below hXb
  have HX:Hid (X=_):=hX
  clear hX
  go_enter Try.func16,Try.ntmps16
  go_wp2_with fail
  rw [← HX.out]
  refine (l3Draw_any p cao clen ccap X hcX).mono ?_
  rintro e w1 ⟨rv,tm,rfl,⟨a1,l1,c1,a2,l2,c2,a3,l3,c3,rfl,hF⟩,hok,hD1⟩
  have hz1:=hD1.grown.size
  obtain ⟨m,hm,hm6⟩:=okM_some hok
  have hcm:=nodesM_cnt _ _ _ hm
  obtain ⟨Y,hY⟩:∃ Y,Y=w1.alloc (.cells #[.int .i64 tm.K,.int .i64 tm.N,.string tm.S,.string tm.Z,.int .i64 tm.T.K,.int .i64 tm.T.N,.slice a1 l1 c1,.slice a2 l2 c2,.slice a3 l3 c3] 29):=⟨_,rfl⟩
  have hYb:Below w1.heap.size w1 Y:=by rw [hY];exact (Below.refl _ _).alloc (Nat.le_refl _) _
  have hYs:Y.heap.size=w1.heap.size+1:=by rw [hY];simp
  have hYq:Y.heap[w1.heap.size]?=some (.cells #[.int .i64 tm.K,.int .i64 tm.N,.string tm.S,.string tm.Z,.int .i64 tm.T.K,.int .i64 tm.T.N,.slice a1 l1 c1,.slice a2 l2 c2,.slice a3 l3 c3] 29 (0,0)):=by rw [hY];exact heap_new rfl
  have hYr:Y.heap[w.heap.size]?=some (.cells #[.int .i64 0,.int .i64 0,.string ⟨#[]⟩,.string ⟨#[]⟩,.int .i64 0,.int .i64 0,.slice none 0 0,.slice none 0 0,.slice none 0 0] 29 (0,0)):=(hYb.block _ (by omega)).trans ((hD1.grown.block w.heap.size (by omega) (by simp;omega)).trans hX0)
  have hFY:Fm X.heap.size Y.heap.size Y 15 24 tm a1 l1 a2 l2 a3 l3:=Fm.keep (fun k _ hk=>hYb.block k hk) (Nat.le_refl _) hYb.size hF
  have hDY:Drw w Y p cao clen ccap:=⟨grown_trans' (grown_trans' (grown_below _ hXb) hD1.grown) (grown_below _ (hYb.mono (by omega))),hD1.cur.below hYb⟩
  have hYz:=hYb.size
  have HY:Hid (Y=_):=hY
  have HQW:Hid (w.heap.size < w1.heap.size):=by show _ < _;omega
  go_wp2_with fail
  rw [← HY.out]
  refine (l1Once_any p cao clen ccap 4 Y hDY.cur (by omega) (by omega)).mono ?_
  rintro e v0 ⟨bb,rfl,hD0⟩
  have hz0:=hD0.grown.size
  have hqp:p≠w1.heap.size:=by omega
  have hrq:w.heap.size≠w1.heap.size:=by omega
  have hqr:w1.heap.size≠w.heap.size:=by omega
  have hq0:v0.heap[w1.heap.size]?=some (.cells #[.int .i64 tm.K,.int .i64 tm.N,.string tm.S,.string tm.Z,.int .i64 tm.T.K,.int .i64 tm.T.N,.slice a1 l1 c1,.slice a2 l2 c2,.slice a3 l3 c3] 29 (0,0)):=(hD0.grown.block w1.heap.size (by omega) (by simp;omega)).trans hYq
  have hr0:=(hD0.grown.block w.heap.size (by omega) (by simp;omega)).trans hYr
  have hDw0:Drw w v0 p cao clen ccap:=Drw.trans hDY hD0
  have hF0:Fm (w.heap.size+1) v0.heap.size v0 50 25 tm a1 l1 a2 l2 a3 l3:=Fm.keep (fun k h1 h2=>hD0.grown.block k h2 (by simp;omega)) (by omega) (by omega) (hFY.wider (fun _ _ _ k=>k.deeper (by omega)) (fun _ _ _ k=>k.deeper (by omega) (by omega)))
  have HW0:=hFY
  have hqz:w1.heap.size < v0.heap.size:=(Array.getElem?_eq_some_iff.1 hq0).1
  clear hX0 hYq hYr hXb hYb hok HX HY HQW hF hFY
  obtain ⟨x0,x1,x2,x3,x4,x5,x6,x7,x8⟩:=Nine.box hq0
  have xf:=row_free hq0
  obtain ⟨y0,y1,y2,y3,y4,y5,y6,y7,y8⟩:=Nine.box hr0
  have yf:=row_free hr0
  cases bb with
  | false =>
    go_wp2_with fail
    have fin:=fin_term (w:=w) (w3:=v0) (r:=w.heap.size) (L:=w.heap.size+1) (D:=50) (d:=25) (t:=tm) (c1:=c1) (c2:=c2) (c3:=c3) hF0 (by omega) (by omega) hpw hDw0
    exact bodyPost_ret (v:=.agg #[.int .i64 tm.K,.int .i64 tm.N,.string tm.S,.string tm.Z,.int .i64 tm.T.K,.int .i64 tm.T.N,.slice a1 l1 c1,.slice a2 l2 c2,.slice a3 l3 c3]) (by simp [results,Try.results16,go_sem,y0,y1,y2,y3,y4,y5,y6,y7,y8]) rfl ⟨_,_,rfl,fin.1,(by omega),fin.2⟩
  | true =>
    have HB:=bm_any 24 p cao clen ccap X.heap.size v0.heap.size 15 24 m tm a1 l1 c1 a2 l2 c2 a3 l3 c3 v0 hDw0.cur (by omega) (Nat.le_refl _) (Fm.keep (fun k h1 h2=>hD0.grown.block k h2 (by simp;omega)) (Nat.le_refl _) (by omega) HW0) hm (by omega) (by omega)
    clear hF0 HW0
    go_wp2_with fail
    refine HB.mono ?_
    rintro e v1 ⟨rv,tm2,rfl,⟨b1,m1,d1,b2,m2,d2,b3,m3,d3,rfl,hF1⟩,hc1,hD2⟩
    have hz2:=hD2.grown.size
    have hq1:=(hD2.grown.block w1.heap.size (by omega) (by simp;omega)).trans hq0
    have hr1:=(hD2.grown.block w.heap.size (by omega) (by simp;omega)).trans hr0
    have hDw1:Drw w v1 p cao clen ccap:=Drw.trans hDw0 hD2
    obtain ⟨Z,hZ⟩:∃ Z,Z=(((((((((v1.setCell ⟨w1.heap.size,0,none⟩ (.int .i64 tm2.K)).setCell ⟨w1.heap.size,1,none⟩ (.int .i64 tm2.N)).setCell ⟨w1.heap.size,2,none⟩ (.string tm2.S)).setCell ⟨w1.heap.size,3,none⟩ (.string tm2.Z)).setCell ⟨w1.heap.size,4,none⟩ (.int .i64 tm2.T.K)).setCell ⟨w1.heap.size,5,none⟩ (.int .i64 tm2.T.N)).setCell ⟨w1.heap.size,6,none⟩ (.slice b1 m1 d1)).setCell ⟨w1.heap.size,7,none⟩ (.slice b2 m2 d2)).setCell ⟨w1.heap.size,8,none⟩ (.slice b3 m3 d3)):=⟨_,rfl⟩
    have hZq:Z.heap[w1.heap.size]?=some (.cells #[.int .i64 tm2.K,.int .i64 tm2.N,.string tm2.S,.string tm2.Z,.int .i64 tm2.T.K,.int .i64 tm2.T.N,.slice b1 m1 d1,.slice b2 m2 d2,.slice b3 m3 d3] 29 (0,0)):=by rw [hZ];exact nest9_row hq1 _ _ _ _ _ _ _ _ _
    have hZo:∀ k,k≠w1.heap.size→Z.heap[k]?=v1.heap[k]?:=fun k hk=>by rw [hZ];exact nest9_other _ _ _ _ _ _ _ _ _ _ _ k hk
    have hZs:Z.heap.size=v1.heap.size:=by rw [hZ];exact nest9_size _ _ _ _ _ _ _ _ _ _ _
    have hZb:Below w1.heap.size v1 Z:=by rw [hZ];exact nest9_below _ _ _ _ _ _ _ _ _ _ _
    have hrZ:=(hZo w.heap.size (by omega)).trans hr1
    have hDZ:Drw w Z p cao clen ccap:=⟨⟨hZb.os.trans hDw1.grown.os,hZb.tape.trans hDw1.grown.tape,hZb.output.trans hDw1.grown.output,by have:=hDw1.grown.size;omega,fun k hk hne=>(hZo k (by omega)).trans (hDw1.grown.block k hk hne)⟩,hDw1.cur.keep fun k hk=>hZo k (by omega)⟩
    have hFZ:Fm (w.heap.size+1) Z.heap.size Z 50 25 tm2 b1 m1 b2 m2 b3 m3:=Fm.keep (fun k h1 h2=>hZo k (by omega)) (by omega) (by omega) hF1
    have HZ:Hid (Z=_):=hZ
    clear hZ x0 x1 x2 x3 x4 x5 x6 x7 x8 xf y0 y1 y2 y3 y4 y5 y6 y7 y8 yf hZo hZb HB
    obtain ⟨x10,x11,x12,x13,x14,x15,x16,x17,x18⟩:=Nine.box hq1
    have x1f:=row_free hq1
    go_upto_region 4 with fail
    rw [← HZ.out]
    clear x10 x11 x12 x13 x14 x15 x16 x17 x18 x1f
    obtain ⟨x0,x1,x2,x3,x4,x5,x6,x7,x8⟩:=Nine.box hZq
    have xf:=row_free hZq
    obtain ⟨y0,y1,y2,y3,y4,y5,y6,y7,y8⟩:=Nine.box hrZ
    have yf:=row_free hrZ
    go_wp2_with fail
    have fin:=fin_term (w:=w) (w3:=Z) (r:=w.heap.size) (L:=w.heap.size+1) (D:=50) (d:=25) (t:=tm2) (c1:=d1) (c2:=d2) (c3:=d3) hFZ (by omega) (by omega) hpw hDZ
    exact bodyPost_ret (v:=.agg #[.int .i64 tm2.K,.int .i64 tm2.N,.string tm2.S,.string tm2.Z,.int .i64 tm2.T.K,.int .i64 tm2.T.N,.slice b1 m1 d1,.slice b2 m2 d2,.slice b3 m3 d3]) (by simp [results,Try.results16,go_sem,y0,y1,y2,y3,y4,y5,y6,y7,y8]) rfl ⟨_,_,rfl,fin.1,(by omega),fin.2⟩
end Go.Proofs.Ytleghjgpnefliaa

/-
  What the model's 'DrawLambdaAt' and 'DrawNodeAt' come to: some term, in new memory, and a number.
-/
namespace Go.Proofs.Ytleghjgpnefliaa
open Go.RowKit
set_option linter.unusedVariables false
set_option linter.unusedSimpArgs false
def DrTN (e:Ending) (w w':World):Prop:=∃ (tm:Tm) (n:Int) (a1:Option Addr) (l1 c1:Nat) (a2:Option Addr) (l2 c2:Nat) (a3:Option Addr) (l3 c3:Nat),e=.returned (.tuple #[.agg #[.int .i64 tm.K,.int .i64 tm.N,.string tm.S,.string tm.Z,.int .i64 tm.T.K,.int .i64 tm.T.N,.slice a1 l1 c1,.slice a2 l2 c2,.slice a3 l3 c3],.int .i64 n])∧Fm w.heap.size w'.heap.size w' 50 25 tm a1 l1 a2 l2 a3 l3∧cntM tm≤40000∧-1≤n∧n≤150∧Below w.heap.size w w'
set_option maxRecDepth 100000 in
set_option maxHeartbeats 4000000 in
theorem drawLambdaAt_any (cao:Option Addr) (clen ccap:Nat) (w:World) (hb:Bts w cao clen) (hl:clen≤1048576) :
    Calls Try.prog 6 #[.slice cao clen ccap] w fun e w'=>DrTN e w w':=by
  obtain ⟨X,hX⟩:∃ X,X=w.alloc (.cells #[.int .i64 0,.int .i64 0,.string ⟨#[]⟩,.string ⟨#[]⟩,.int .i64 0,.int .i64 0,.slice none 0 0,.slice none 0 0,.slice none 0 0] 29):=⟨_,rfl⟩
  have hXb:Below w.heap.size w X:=by rw [hX];exact (Below.refl _ _).alloc (Nat.le_refl _) _
  have hXz:X.heap.size=w.heap.size+1:=by rw [hX];simp
  have hX0:X.heap[w.heap.size]?=some (.cells #[.int .i64 0,.int .i64 0,.string ⟨#[]⟩,.string ⟨#[]⟩,.int .i64 0,.int .i64 0,.slice none 0 0,.slice none 0 0,.slice none 0 0] 29 (0,0)):=by rw [hX];exact heap_new rfl
  have HX:Hid (X=_):=hX
  have hbX:Bts X cao clen:=bts_bel hb hXb
  clear hX
  go_enter Try.func6,Try.ntmps6
  go_wp2_with fail
  rw [← HX.out]
  refine (l1New_any cao clen ccap X hbX hl).mono ?_
  rintro e w1 ⟨p,rfl,hb1,hp,hc1⟩
  have hz1:=hb1.size
  have r1:=(hb1.block w.heap.size (by omega)).trans hX0
  go_wp2_with fail
  refine (l2Any_any p cao clen ccap w1 hc1).mono ?_
  rintro e w2 ⟨rv,tm,rfl,⟨a1,l1,c1,a2,l2,c2,a3,l3,c3,rfl,hF⟩,hcm,hD⟩
  have hz2:=hD.grown.size
  have hpl:=hc1.lt
  have hba:Below w2.heap.size w2 (w2.alloc (.cells #[.int .i64 0,.int .i64 1,.int .i64 2,.int .i64 3,.int .i64 (-1),.int .i64 9] 3)):=(Below.refl _ _).alloc (Nat.le_refl _) _
  have hpv:p < w2.heap.size:=hD.cur.lt
  go_wp2_with fail
  refine (l1Int_any p cao clen ccap w2.heap.size 6 6 [0,1,2,3,-1,9] _ (hD.cur.below hba) (heap_new rfl) (by omega) rfl (by omega) (by omega)).mono ?_
  rintro e w3 ⟨n,rfl,hn,hD3⟩
  have hN:-1≤n∧n≤150:=by
    simp only [List.mem_cons,List.not_mem_nil,or_false] at hn
    omega
  have hz3:w2.heap.size+1≤w3.heap.size:=by have:=hD3.grown.size;simp at this;omega
  have hb3:∀ k,k < w2.heap.size→k≠p→w3.heap[k]?=w2.heap[k]?:=fun k hk hne=>(hD3.grown.block k (by simp;omega) (by simp;omega)).trans (hba.block k hk)
  have r3:=(hb3 w.heap.size (by omega) (by omega)).trans ((hD.grown.block w.heap.size (by omega) (by simp;omega)).trans r1)
  have hbw:Below w.heap.size w w3:=⟨hD3.grown.os.trans (hba.os.trans (hD.grown.os.trans (hb1.os.trans hXb.os))),hD3.grown.tape.trans (hba.tape.trans (hD.grown.tape.trans (hb1.tape.trans hXb.tape))),hD3.grown.output.trans (hba.output.trans (hD.grown.output.trans (hb1.output.trans hXb.output))),by omega,fun k hk=>(hb3 k (by omega) (by omega)).trans ((hD.grown.block k (by omega) (by simp;omega)).trans ((hb1.block k (by omega)).trans (hXb.block k hk)))⟩
  have hF3:Fm w1.heap.size w3.heap.size w3 50 25 tm a1 l1 a2 l2 a3 l3:=Fm.keep (fun k h1 h2=>hb3 k h2 (by omega)) (Nat.le_refl _) (by omega) hF
  have HN:Hid (-1≤n∧n≤150):=hN
  clear hn hN hX0 r1 hb3 hba
  obtain ⟨y0,y1,y2,y3,y4,y5,y6,y7,y8⟩:=Nine.box r3
  have yf:=row_free r3
  go_wp2_with fail
  refine bodyPost_ret (v:=.tuple #[.agg #[.int .i64 tm.K,.int .i64 tm.N,.string tm.S,.string tm.Z,.int .i64 tm.T.K,.int .i64 tm.T.N,.slice a1 l1 c1,.slice a2 l2 c2,.slice a3 l3 c3],.int .i64 n]) (by simp [results,Try.results6,go_sem,y0,y1,y2,y3,y4,y5,y6,y7,y8]) rfl ⟨tm,n,a1,l1,c1,a2,l2,c2,a3,l3,c3,rfl,?_,hcm,HN.out.1,HN.out.2,?_⟩
  · exact Fm.keep (fun k h1 _=>nest9_other _ _ _ _ _ _ _ _ _ _ _ k (by omega)) (by omega) (by rw [nest9_size];exact Nat.le_refl _) hF3
  · exact hbw.trans ((nest9_below _ _ _ _ _ _ _ _ _ _ _).mono (Nat.le_refl _))
end Go.Proofs.Ytleghjgpnefliaa

/-
  The binders of a term, and all terms within it, in plain words; what a call leaves that changes no block but a few of its own.
-/
namespace Go.Proofs.Ytleghjgpnefliaa
open Go.RowKit
set_option linter.unusedVariables false
set_option linter.unusedSimpArgs false
def allW:Tm→List Tm
  | ⟨k,n,s,z,t,ts,a⟩=>⟨k,n,s,z,t,ts,a⟩ :: (a.attach.map fun ⟨x,_⟩=>allW x).flatten
theorem allW_eq (t:Tm):allW t=t :: (t.A.map allW).flatten:=by
  cases t;rw [allW];simp
theorem allW_lenG {f:Tm→Option Nat} (hf:∀ t m,f t=some m→(allW t).length=m):∀ (ts:List Tm) (m:Nat),nodesG f ts=some m→((ts.map allW).flatten).length=m:=by
  intro ts
  induction ts with
  | nil=>intro m h;simp [nodesG] at h;simp [h]
  | cons t ts ih =>
    intro m h
    simp only [nodesG] at h
    cases ht:f t with
    | none=>simp [ht] at h
    | some a =>
      cases hz:nodesG f ts with
      | none=>simp [ht,hz] at h
      | some b =>
        simp [ht,hz] at h
        have h1:=hf t a ht
        have h2:=ih b hz
        simp only [List.map_cons,List.flatten_cons,List.length_append]
        omega
theorem allW_len:∀ (l:Nat) (t:Tm) (m:Nat),nodesM l t=some m→(allW t).length=m:=by
  intro l
  induction l with
  | zero=>intro t m h;simp [nodesM] at h
  | succ l ih =>
    intro t m h
    have hn:=(nodesM_inv h).1
    simp only [nodesM,hn,if_true] at h
    cases hz:nodesG (nodesM l) t.A with
    | none=>simp [hz] at h
    | some b =>
      simp [hz] at h
      have h1:=allW_lenG ih t.A b hz
      rw [allW_eq,List.length_cons,h1]
      omega
def preW (t:Tm) (j:Nat):List Tm:=((t.A.take j).map allW).flatten
theorem preW_zero (t:Tm):preW t 0=[]:=rfl
theorem preW_succ (t:Tm) (j:Nat) (hj:j < t.A.length):preW t (j+1)=preW t j ++ allW t.A[j]:=by
  unfold preW
  rw [List.take_succ_eq_append_getElem hj,List.map_append,List.flatten_append]
  simp only [List.map_cons,List.map_nil,List.flatten_cons,List.flatten_nil,List.append_nil]
theorem preW_all (t:Tm) (j:Nat) (hj:t.A.length≤j):allW t=t :: preW t j:=by
  unfold preW
  rw [List.take_of_length_le hj,allW_eq]
theorem preW_len {l:Nat} {t:Tm} {m:Nat} (h:nodesM (l+1) t=some m) (j:Nat) (hj:j < t.A.length) {a:Nat} (ha:nodesM l t.A[j]=some a):(preW t j).length+1+a≤m:=by
  have h1:=allW_len _ t m h
  have h2:=allW_len _ _ a ha
  have h3:=preW_all t t.A.length (Nat.le_refl _)
  have h4:=congrArg List.length h3
  have h5:(preW t (j+1)).length≤(preW t t.A.length).length:=by
    unfold preW
    have e:t.A.take t.A.length=t.A.take (j+1) ++ (t.A.drop (j+1)):=by rw [List.take_length,List.take_append_drop]
    rw [e,List.map_append,List.flatten_append,List.length_append]
    omega
  have h6:=congrArg List.length (preW_succ t j hj)
  rw [List.length_append] at h6
  rw [List.length_cons] at h4
  omega
structure Kf (F:Nat→Prop) (w:World) (F':Nat→Prop) (w':World):Prop where
  os:w'.os=w.os
  tape:w'.tape=w.tape
  output:w'.output=w.output
  size:w.heap.size≤w'.heap.size
  block:∀ k,k < w.heap.size→¬ F k→w'.heap[k]?=w.heap[k]?
  own:∀ k,F' k→F k∨w.heap.size≤k
theorem Kf.trans {F F' F'':Nat→Prop} {w w' w'':World} (h:Kf F w F' w') (k:Kf F' w' F'' w''):Kf F w F'' w'':=by
  refine ⟨k.os.trans h.os,k.tape.trans h.tape,k.output.trans h.output,Nat.le_trans h.size k.size,fun i hi h1=>?_,fun i hi=>?_⟩
  · exact (k.block i (Nat.lt_of_lt_of_le hi h.size) (fun e=>by rcases h.own i e with e | e;exact h1 e;omega)).trans (h.block i hi h1)
  · rcases k.own i hi with e | e
    · exact h.own i e
    · exact Or.inr (Nat.le_trans h.size e)
theorem Kf.of_below {F:Nat→Prop} {w w':World} (h:Below w.heap.size w w'):Kf F w F w' :=
  ⟨h.os,h.tape,h.output,h.size,fun k hk _=>h.block k hk,fun k hk=>Or.inl hk⟩
theorem Kf.below {base:Nat} {F F':Nat→Prop} {w w':World} (h:Kf F w F' w') (hF:∀ k,F k→base≤k) (hb:base≤w.heap.size):Below base w w' :=
  ⟨h.os,h.tape,h.output,h.size,fun k hk=>h.block k (by omega) (fun e=>by have:=hF k e;omega)⟩
theorem cell_1 {w:World} {b:Nat} {a0:Value} {t:TypeId} {fr:Nat × Nat} (h:w.heap[b]?=some (.cells #[a0] t fr)):w.cell? ⟨b,0,none⟩=some a0:=row_cell h 0
end Go.Proofs.Ytleghjgpnefliaa
