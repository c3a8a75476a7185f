/-
  Draws of terms: how a call that answers a term ends. No walk, no statement.
-/
import Derived.Test.YtleghjgpnefliaaFlaDg
import Derived.Test.YtleghjgpnefliaaFlaZ8
namespace Go.Proofs.Ytleghjgpnefliaa
open Go.RowKit
set_option linter.unusedVariables false
set_option linter.unusedSimpArgs false
theorem nest9_other (W:World) (r:Nat) (a0 a1 a2 a3 a4 a5 a6 a7 a8:Value) (q:Nat) (h:q≠r):(((((((((W.setCell ⟨r,0,none⟩ a0).setCell ⟨r,1,none⟩ a1).setCell ⟨r,2,none⟩ a2).setCell ⟨r,3,none⟩ a3).setCell ⟨r,4,none⟩ a4).setCell ⟨r,5,none⟩ a5).setCell ⟨r,6,none⟩ a6).setCell ⟨r,7,none⟩ a7).setCell ⟨r,8,none⟩ a8).heap[q]?=W.heap[q]?:=by
  rw [row_other _ _ _ h,row_other _ _ _ h,row_other _ _ _ h,row_other _ _ _ h,row_other _ _ _ h,row_other _ _ _ h,row_other _ _ _ h,row_other _ _ _ h,row_other _ _ _ h]
theorem nest9_size (W:World) (r:Nat) (a0 a1 a2 a3 a4 a5 a6 a7 a8:Value):(((((((((W.setCell ⟨r,0,none⟩ a0).setCell ⟨r,1,none⟩ a1).setCell ⟨r,2,none⟩ a2).setCell ⟨r,3,none⟩ a3).setCell ⟨r,4,none⟩ a4).setCell ⟨r,5,none⟩ a5).setCell ⟨r,6,none⟩ a6).setCell ⟨r,7,none⟩ a7).setCell ⟨r,8,none⟩ a8).heap.size=W.heap.size:=by simp
theorem nest9_below (W:World) (r:Nat) (a0 a1 a2 a3 a4 a5 a6 a7 a8:Value):Below r W (((((((((W.setCell ⟨r,0,none⟩ a0).setCell ⟨r,1,none⟩ a1).setCell ⟨r,2,none⟩ a2).setCell ⟨r,3,none⟩ a3).setCell ⟨r,4,none⟩ a4).setCell ⟨r,5,none⟩ a5).setCell ⟨r,6,none⟩ a6).setCell ⟨r,7,none⟩ a7).setCell ⟨r,8,none⟩ a8):=((((((((((Below.refl _ _).setCell (p:=⟨r,0,none⟩) (Nat.le_refl _) _).setCell (p:=⟨r,1,none⟩) (Nat.le_refl _) _).setCell (p:=⟨r,2,none⟩) (Nat.le_refl _) _).setCell (p:=⟨r,3,none⟩) (Nat.le_refl _) _).setCell (p:=⟨r,4,none⟩) (Nat.le_refl _) _).setCell (p:=⟨r,5,none⟩) (Nat.le_refl _) _).setCell (p:=⟨r,6,none⟩) (Nat.le_refl _) _).setCell (p:=⟨r,7,none⟩) (Nat.le_refl _) _).setCell (p:=⟨r,8,none⟩) (Nat.le_refl _) _)
theorem nest9_cell (W:World) (r:Nat) (a0 a1 a2 a3 a4 a5 a6 a7 a8:Value) (O:Obj) (q o:Nat) (h:q≠r) (hq:q < W.heap.size):((((((((((W.setCell ⟨r,0,none⟩ a0).setCell ⟨r,1,none⟩ a1).setCell ⟨r,2,none⟩ a2).setCell ⟨r,3,none⟩ a3).setCell ⟨r,4,none⟩ a4).setCell ⟨r,5,none⟩ a5).setCell ⟨r,6,none⟩ a6).setCell ⟨r,7,none⟩ a7).setCell ⟨r,8,none⟩ a8).alloc O).cell? ⟨q,o,none⟩=W.cell? ⟨q,o,none⟩:=by
  have e:((((((((((W.setCell ⟨r,0,none⟩ a0).setCell ⟨r,1,none⟩ a1).setCell ⟨r,2,none⟩ a2).setCell ⟨r,3,none⟩ a3).setCell ⟨r,4,none⟩ a4).setCell ⟨r,5,none⟩ a5).setCell ⟨r,6,none⟩ a6).setCell ⟨r,7,none⟩ a7).setCell ⟨r,8,none⟩ a8).alloc O).heap[q]?=W.heap[q]?:=(Below.heap_alloc _ _ _ (by rw [nest9_size];exact hq)).trans (nest9_other _ _ _ _ _ _ _ _ _ _ _ q h)
  exact World.cell?_of_block (a:=⟨q,o,none⟩) e
theorem fin_term {w w3:World} {p r L D d:Nat} {cao:Option Addr} {clen ccap:Nat} {t:Tm} {a1 a2 a3:Option Addr} {l1 c1 l2 c2 l3 c3:Nat} (hF:Fm L w3.heap.size w3 D d t a1 l1 a2 l2 a3 l3) (hr:r < L) (hr0:w.heap.size≤r) (hp:p < w.heap.size) (hD:Drw w w3 p cao clen ccap) :
    TmV (((((((((w3.setCell ⟨r,0,none⟩ (.int .i64 t.K)).setCell ⟨r,1,none⟩ (.int .i64 t.N)).setCell ⟨r,2,none⟩ (.string t.S)).setCell ⟨r,3,none⟩ (.string t.Z)).setCell ⟨r,4,none⟩ (.int .i64 t.T.K)).setCell ⟨r,5,none⟩ (.int .i64 t.T.N)).setCell ⟨r,6,none⟩ (.slice a1 l1 c1)).setCell ⟨r,7,none⟩ (.slice a2 l2 c2)).setCell ⟨r,8,none⟩ (.slice a3 l3 c3)) w.heap.size D d (.agg #[.int .i64 t.K,.int .i64 t.N,.string t.S,.string t.Z,.int .i64 t.T.K,.int .i64 t.T.N,.slice a1 l1 c1,.slice a2 l2 c2,.slice a3 l3 c3]) t∧Drw w (((((((((w3.setCell ⟨r,0,none⟩ (.int .i64 t.K)).setCell ⟨r,1,none⟩ (.int .i64 t.N)).setCell ⟨r,2,none⟩ (.string t.S)).setCell ⟨r,3,none⟩ (.string t.Z)).setCell ⟨r,4,none⟩ (.int .i64 t.T.K)).setCell ⟨r,5,none⟩ (.int .i64 t.T.N)).setCell ⟨r,6,none⟩ (.slice a1 l1 c1)).setCell ⟨r,7,none⟩ (.slice a2 l2 c2)).setCell ⟨r,8,none⟩ (.slice a3 l3 c3)) p cao clen ccap:=by
  obtain ⟨Y,hY⟩:∃ Y,Y=(((((((((w3.setCell ⟨r,0,none⟩ (.int .i64 t.K)).setCell ⟨r,1,none⟩ (.int .i64 t.N)).setCell ⟨r,2,none⟩ (.string t.S)).setCell ⟨r,3,none⟩ (.string t.Z)).setCell ⟨r,4,none⟩ (.int .i64 t.T.K)).setCell ⟨r,5,none⟩ (.int .i64 t.T.N)).setCell ⟨r,6,none⟩ (.slice a1 l1 c1)).setCell ⟨r,7,none⟩ (.slice a2 l2 c2)).setCell ⟨r,8,none⟩ (.slice a3 l3 c3)):=⟨_,rfl⟩
  rw [← hY]
  have hYs:Y.heap.size=w3.heap.size:=by rw [hY];exact nest9_size _ _ _ _ _ _ _ _ _ _ _
  have hYo:∀ k,k≠r→Y.heap[k]?=w3.heap[k]?:=fun k hk=>by rw [hY];exact nest9_other _ _ _ _ _ _ _ _ _ _ _ k hk
  have hYb:Below r w3 Y:=by rw [hY];exact nest9_below _ _ _ _ _ _ _ _ _ _ _
  refine ⟨⟨a1,l1,c1,a2,l2,c2,a3,l3,c3,rfl,Fm.keep (fun k hk1 hk2=>hYo k (by omega)) (by omega) (by omega) hF⟩,⟨⟨hYb.os.trans hD.grown.os,hYb.tape.trans hD.grown.tape,hYb.output.trans hD.grown.output,by have:=hD.grown.size;omega,fun k hk hne=>(hYo k (by omega)).trans (hD.grown.block k hk hne)⟩,hD.cur.keep fun k hk=>hYo k (by omega)⟩⟩
theorem fin_alloc {w w3:World} {O:Obj} {p r L D d:Nat} {cao:Option Addr} {clen ccap:Nat} {t:Tm} {a1 a2 a3:Option Addr} {l1 c1 l2 c2 l3 c3:Nat} (hF:Fm L (w3.alloc O).heap.size (w3.alloc O) D d t a1 l1 a2 l2 a3 l3) (hr:r < L) (hr0:w.heap.size≤r) (hp:p < w.heap.size) (hD:Drw w w3 p cao clen ccap) :
    TmV ((((((((((w3.setCell ⟨r,0,none⟩ (.int .i64 t.K)).setCell ⟨r,1,none⟩ (.int .i64 t.N)).setCell ⟨r,2,none⟩ (.string t.S)).setCell ⟨r,3,none⟩ (.string t.Z)).setCell ⟨r,4,none⟩ (.int .i64 t.T.K)).setCell ⟨r,5,none⟩ (.int .i64 t.T.N)).setCell ⟨r,6,none⟩ (.slice a1 l1 c1)).setCell ⟨r,7,none⟩ (.slice a2 l2 c2)).setCell ⟨r,8,none⟩ (.slice a3 l3 c3)).alloc O) w.heap.size D d (.agg #[.int .i64 t.K,.int .i64 t.N,.string t.S,.string t.Z,.int .i64 t.T.K,.int .i64 t.T.N,.slice a1 l1 c1,.slice a2 l2 c2,.slice a3 l3 c3]) t∧Drw w ((((((((((w3.setCell ⟨r,0,none⟩ (.int .i64 t.K)).setCell ⟨r,1,none⟩ (.int .i64 t.N)).setCell ⟨r,2,none⟩ (.string t.S)).setCell ⟨r,3,none⟩ (.string t.Z)).setCell ⟨r,4,none⟩ (.int .i64 t.T.K)).setCell ⟨r,5,none⟩ (.int .i64 t.T.N)).setCell ⟨r,6,none⟩ (.slice a1 l1 c1)).setCell ⟨r,7,none⟩ (.slice a2 l2 c2)).setCell ⟨r,8,none⟩ (.slice a3 l3 c3)).alloc O) p cao clen ccap:=by
  obtain ⟨Y,hY⟩:∃ Y,Y=(((((((((w3.setCell ⟨r,0,none⟩ (.int .i64 t.K)).setCell ⟨r,1,none⟩ (.int .i64 t.N)).setCell ⟨r,2,none⟩ (.string t.S)).setCell ⟨r,3,none⟩ (.string t.Z)).setCell ⟨r,4,none⟩ (.int .i64 t.T.K)).setCell ⟨r,5,none⟩ (.int .i64 t.T.N)).setCell ⟨r,6,none⟩ (.slice a1 l1 c1)).setCell ⟨r,7,none⟩ (.slice a2 l2 c2)).setCell ⟨r,8,none⟩ (.slice a3 l3 c3)):=⟨_,rfl⟩
  rw [← hY]
  have hYs:Y.heap.size=w3.heap.size:=by rw [hY];exact nest9_size _ _ _ _ _ _ _ _ _ _ _
  have hYo:∀ k,k≠r→Y.heap[k]?=w3.heap[k]?:=fun k hk=>by rw [hY];exact nest9_other _ _ _ _ _ _ _ _ _ _ _ k hk
  have hYb:Below r w3 Y:=by rw [hY];exact nest9_below _ _ _ _ _ _ _ _ _ _ _
  have hZ:∀ k,k≠r→(Y.alloc O).heap[k]?=(w3.alloc O).heap[k]?:=by
    intro k hk
    by_cases h:k < w3.heap.size
    · rw [Below.heap_alloc _ _ _ (by omega),Below.heap_alloc _ _ _ h];exact hYo k hk
    · by_cases h2:k=w3.heap.size
      · subst h2
        have e1:(Y.alloc O).heap[w3.heap.size]?=some O:=by rw [← hYs];exact heap_alloc_new _ _
        rw [e1];exact (heap_alloc_new _ _).symm
      · rw [Array.getElem?_eq_none (by simp;omega),Array.getElem?_eq_none (by simp;omega)]
  have hb1:Below Y.heap.size Y (Y.alloc O):=(Below.refl _ _).alloc (Nat.le_refl _) _
  refine ⟨⟨a1,l1,c1,a2,l2,c2,a3,l3,c3,rfl,Fm.keep (fun k hk1 hk2=>hZ k (by omega)) (by omega) (by simp;omega) hF⟩,⟨⟨(hb1.os.trans hYb.os).trans hD.grown.os,(hb1.tape.trans hYb.tape).trans hD.grown.tape,(hb1.output.trans hYb.output).trans hD.grown.output,by have:=hD.grown.size;simp;omega,fun k hk hne=>?_⟩,?_⟩⟩
  · have:=hD.grown.size
    exact (hb1.block k (by omega)).trans ((hYo k (by omega)).trans (hD.grown.block k hk hne))
  · have:=hD.cur.lt
    exact hD.cur.keep fun k hk=>(hb1.block k (by omega)).trans (hYo k (by omega))
theorem hm_new1 {w:World} {L D d:Nat} {t:Tm} {a1 a2 a3:Option Addr} {l1 c1 l2 c2 l3 c3:Nat} {τ:TypeId} (hs:Fm L w.heap.size w D d t a1 l1 a2 l2 a3 l3) (hL:L≤w.heap.size) :
    Hm L (w.alloc (.cells #[.int .i64 t.K,.int .i64 t.N,.string t.S,.string t.Z,.int .i64 t.T.K,.int .i64 t.T.N,.slice a1 l1 c1,.slice a2 l2 c2,.slice a3 l3 c3] τ)).heap.size (w.alloc (.cells #[.int .i64 t.K,.int .i64 t.N,.string t.S,.string t.Z,.int .i64 t.T.K,.int .i64 t.T.N,.slice a1 l1 c1,.slice a2 l2 c2,.slice a3 l3 c3] τ)) D (d+1) (some ⟨w.heap.size,0,none⟩) 1 [t]:=by
  have hb:Below w.heap.size w (w.alloc (.cells #[.int .i64 t.K,.int .i64 t.N,.string t.S,.string t.Z,.int .i64 t.T.K,.int .i64 t.T.N,.slice a1 l1 c1,.slice a2 l2 c2,.slice a3 l3 c3] τ)):=(Below.refl _ _).alloc (Nat.le_refl _) _
  exact hm_lit1 (heap_new rfl) hL (by simp) (Fm.keep (fun q _ hq=>hb.block q hq) (Nat.le_refl _) hb.size hs)
theorem hm_new2 {w:World} {L D d:Nat} {t u:Tm} {a1 a2 a3:Option Addr} {l1 c1 l2 c2 l3 c3:Nat} {b1 b2 b3:Option Addr} {m1 e1 m2 e2 m3 e3:Nat} {τ:TypeId} (hs:Fm L w.heap.size w D d t a1 l1 a2 l2 a3 l3) (hu:Fm L w.heap.size w D d u b1 m1 b2 m2 b3 m3) (hL:L≤w.heap.size) :
    Hm L (w.alloc (.cells #[.int .i64 t.K,.int .i64 t.N,.string t.S,.string t.Z,.int .i64 t.T.K,.int .i64 t.T.N,.slice a1 l1 c1,.slice a2 l2 c2,.slice a3 l3 c3,.int .i64 u.K,.int .i64 u.N,.string u.S,.string u.Z,.int .i64 u.T.K,.int .i64 u.T.N,.slice b1 m1 e1,.slice b2 m2 e2,.slice b3 m3 e3] τ)).heap.size (w.alloc (.cells #[.int .i64 t.K,.int .i64 t.N,.string t.S,.string t.Z,.int .i64 t.T.K,.int .i64 t.T.N,.slice a1 l1 c1,.slice a2 l2 c2,.slice a3 l3 c3,.int .i64 u.K,.int .i64 u.N,.string u.S,.string u.Z,.int .i64 u.T.K,.int .i64 u.T.N,.slice b1 m1 e1,.slice b2 m2 e2,.slice b3 m3 e3] τ)) D (d+1) (some ⟨w.heap.size,0,none⟩) 2 [t,u]:=by
  have hb:Below w.heap.size w (w.alloc (.cells #[.int .i64 t.K,.int .i64 t.N,.string t.S,.string t.Z,.int .i64 t.T.K,.int .i64 t.T.N,.slice a1 l1 c1,.slice a2 l2 c2,.slice a3 l3 c3,.int .i64 u.K,.int .i64 u.N,.string u.S,.string u.Z,.int .i64 u.T.K,.int .i64 u.T.N,.slice b1 m1 e1,.slice b2 m2 e2,.slice b3 m3 e3] τ)):=(Below.refl _ _).alloc (Nat.le_refl _) _
  exact hm_lit2 (heap_new rfl) hL (by simp) (Fm.keep (fun q _ hq=>hb.block q hq) (Nat.le_refl _) hb.size hs) (Fm.keep (fun q _ hq=>hb.block q hq) (Nat.le_refl _) hb.size hu)
theorem hm_new3 {w:World} {L D d:Nat} {t u x:Tm} {a1 a2 a3:Option Addr} {l1 c1 l2 c2 l3 c3:Nat} {b1 b2 b3:Option Addr} {m1 e1 m2 e2 m3 e3:Nat} {f1 f2 f3:Option Addr} {n1 g1 n2 g2 n3 g3:Nat} {τ:TypeId} (hs:Fm L w.heap.size w D d t a1 l1 a2 l2 a3 l3) (hu:Fm L w.heap.size w D d u b1 m1 b2 m2 b3 m3) (hx:Fm L w.heap.size w D d x f1 n1 f2 n2 f3 n3) (hL:L≤w.heap.size) :
    Hm L (w.alloc (.cells #[.int .i64 t.K,.int .i64 t.N,.string t.S,.string t.Z,.int .i64 t.T.K,.int .i64 t.T.N,.slice a1 l1 c1,.slice a2 l2 c2,.slice a3 l3 c3,.int .i64 u.K,.int .i64 u.N,.string u.S,.string u.Z,.int .i64 u.T.K,.int .i64 u.T.N,.slice b1 m1 e1,.slice b2 m2 e2,.slice b3 m3 e3,.int .i64 x.K,.int .i64 x.N,.string x.S,.string x.Z,.int .i64 x.T.K,.int .i64 x.T.N,.slice f1 n1 g1,.slice f2 n2 g2,.slice f3 n3 g3] τ)).heap.size (w.alloc (.cells #[.int .i64 t.K,.int .i64 t.N,.string t.S,.string t.Z,.int .i64 t.T.K,.int .i64 t.T.N,.slice a1 l1 c1,.slice a2 l2 c2,.slice a3 l3 c3,.int .i64 u.K,.int .i64 u.N,.string u.S,.string u.Z,.int .i64 u.T.K,.int .i64 u.T.N,.slice b1 m1 e1,.slice b2 m2 e2,.slice b3 m3 e3,.int .i64 x.K,.int .i64 x.N,.string x.S,.string x.Z,.int .i64 x.T.K,.int .i64 x.T.N,.slice f1 n1 g1,.slice f2 n2 g2,.slice f3 n3 g3] τ)) D (d+1) (some ⟨w.heap.size,0,none⟩) 3 [t,u,x]:=by
  have hb:Below w.heap.size w (w.alloc (.cells #[.int .i64 t.K,.int .i64 t.N,.string t.S,.string t.Z,.int .i64 t.T.K,.int .i64 t.T.N,.slice a1 l1 c1,.slice a2 l2 c2,.slice a3 l3 c3,.int .i64 u.K,.int .i64 u.N,.string u.S,.string u.Z,.int .i64 u.T.K,.int .i64 u.T.N,.slice b1 m1 e1,.slice b2 m2 e2,.slice b3 m3 e3,.int .i64 x.K,.int .i64 x.N,.string x.S,.string x.Z,.int .i64 x.T.K,.int .i64 x.T.N,.slice f1 n1 g1,.slice f2 n2 g2,.slice f3 n3 g3] τ)):=(Below.refl _ _).alloc (Nat.le_refl _) _
  exact hm_lit3 (heap_new rfl) hL (by simp) (Fm.keep (fun q _ hq=>hb.block q hq) (Nat.le_refl _) hb.size hs) (Fm.keep (fun q _ hq=>hb.block q hq) (Nat.le_refl _) hb.size hu) (Fm.keep (fun q _ hq=>hb.block q hq) (Nat.le_refl _) hb.size hx)
end Go.Proofs.Ytleghjgpnefliaa

/-
  What 'l3Spine' has in memory on its way: the term's box and the type's box behind it. No walk, no statement.
-/
namespace Go.Proofs.Ytleghjgpnefliaa
open Go.RowKit
set_option linter.unusedVariables false
set_option linter.unusedSimpArgs false
structure Spn (X W:World) (p:Nat) (cao:Option Addr) (clen ccap:Nat) (T:Nat) (tK tN:Int) (tS:ByteArray) (yK yN:Int) (v6 v8:Value) (uK uN:Int) (u2:Value):Prop where
  drw:Drw X W p cao clen ccap
  at_:X.heap.size=T
  px:p < T
  tb:W.heap[T]?=some (.cells #[.int .i64 tK,.int .i64 tN,.string tS,.string ⟨#[]⟩,.int .i64 yK,.int .i64 yN,v6,.slice none 0 0,v8] 29 (0,0))
  ub:W.heap[T+1]?=some (.cells #[.int .i64 uK,.int .i64 uN,u2] 26 (0,0))
section
variable {X W:World} {p:Nat} {cao:Option Addr} {clen ccap:Nat} {T:Nat} {tK tN:Int} {tS:ByteArray} {yK yN:Int} {v6 v8:Value} {uK uN:Int} {u2:Value}
theorem Spn.lt (h:Spn X W p cao clen ccap T tK tN tS yK yN v6 v8 uK uN u2):T+1 < W.heap.size:=(Array.getElem?_eq_some_iff.1 h.ub).1
theorem Spn.call (h:Spn X W p cao clen ccap T tK tN tS yK yN v6 v8 uK uN u2) {W':World} (hD:Drw W W' p cao clen ccap):Spn X W' p cao clen ccap T tK tN tS yK yN v6 v8 uK uN u2:=by
  have:=h.lt
  have:=h.px
  exact ⟨h.drw.trans hD,h.at_,h.px,(hD.grown.block _ (by omega) (by simp;omega)).trans h.tb,(hD.grown.block _ (by omega) (by simp;omega)).trans h.ub⟩
theorem Spn.below (h:Spn X W p cao clen ccap T tK tN tS yK yN v6 v8 uK uN u2) {W':World} (hb:Below W.heap.size W W'):Spn X W' p cao clen ccap T tK tN tS yK yN v6 v8 uK uN u2 :=
  h.call ⟨grown_below _ hb,h.drw.cur.below hb⟩
theorem Spn.setD (h:Spn X W p cao clen ccap T tK tN tS yK yN v6 v8 uK uN u2) {q:Nat} (hq:T≤q) (o:Nat) (v:Value):Drw X (W.setCell ⟨q,o,none⟩ v) p cao clen ccap:=by
  have:=h.px
  have:=h.at_
  exact ⟨⟨h.drw.grown.os,h.drw.grown.tape,h.drw.grown.output,by have:=h.drw.grown.size;simpa using this,fun k hk hne=>(row_other _ _ _ (by show k≠q;omega)).trans (h.drw.grown.block k hk hne)⟩,h.drw.cur.keep fun k hk=>row_other _ _ _ (by show k≠q;omega)⟩
theorem Spn.setK (h:Spn X W p cao clen ccap T tK tN tS yK yN v6 v8 uK uN u2) (k:Int):Spn X (W.setCell ⟨T,0,none⟩ (.int .i64 k)) p cao clen ccap T k tN tS yK yN v6 v8 uK uN u2 :=
  ⟨h.setD (Nat.le_refl _) _ _,h.at_,h.px,row_set h.tb 0 _,(row_other _ _ _ (by omega)).trans h.ub⟩
theorem Spn.setN (h:Spn X W p cao clen ccap T tK tN tS yK yN v6 v8 uK uN u2) (k:Int):Spn X (W.setCell ⟨T,1,none⟩ (.int .i64 k)) p cao clen ccap T tK k tS yK yN v6 v8 uK uN u2 :=
  ⟨h.setD (Nat.le_refl _) _ _,h.at_,h.px,row_set h.tb 1 _,(row_other _ _ _ (by omega)).trans h.ub⟩
theorem Spn.setS (h:Spn X W p cao clen ccap T tK tN tS yK yN v6 v8 uK uN u2) (s:ByteArray):Spn X (W.setCell ⟨T,2,none⟩ (.string s)) p cao clen ccap T tK tN s yK yN v6 v8 uK uN u2 :=
  ⟨h.setD (Nat.le_refl _) _ _,h.at_,h.px,row_set h.tb 2 _,(row_other _ _ _ (by omega)).trans h.ub⟩
theorem Spn.setA (h:Spn X W p cao clen ccap T tK tN tS yK yN v6 v8 uK uN u2) (v:Value):Spn X (W.setCell ⟨T,8,none⟩ v) p cao clen ccap T tK tN tS yK yN v6 v uK uN u2 :=
  ⟨h.setD (Nat.le_refl _) _ _,h.at_,h.px,row_set h.tb 8 _,(row_other _ _ _ (by omega)).trans h.ub⟩
theorem Spn.set4 (h:Spn X W p cao clen ccap T tK tN tS yK yN v6 v8 uK uN u2) (k:Int):Spn X (W.setCell ⟨T,4,none⟩ (.int .i64 k)) p cao clen ccap T tK tN tS k yN v6 v8 uK uN u2 :=
  ⟨h.setD (Nat.le_refl _) _ _,h.at_,h.px,row_set h.tb 4 _,(row_other _ _ _ (by omega)).trans h.ub⟩
theorem Spn.set5 (h:Spn X W p cao clen ccap T tK tN tS yK yN v6 v8 uK uN u2) (k:Int):Spn X (W.setCell ⟨T,5,none⟩ (.int .i64 k)) p cao clen ccap T tK tN tS yK k v6 v8 uK uN u2 :=
  ⟨h.setD (Nat.le_refl _) _ _,h.at_,h.px,row_set h.tb 5 _,(row_other _ _ _ (by omega)).trans h.ub⟩
theorem Spn.set6 (h:Spn X W p cao clen ccap T tK tN tS yK yN v6 v8 uK uN u2) (v:Value):Spn X (W.setCell ⟨T,6,none⟩ v) p cao clen ccap T tK tN tS yK yN v v8 uK uN u2 :=
  ⟨h.setD (Nat.le_refl _) _ _,h.at_,h.px,row_set h.tb 6 _,(row_other _ _ _ (by omega)).trans h.ub⟩
theorem Spn.setY (h:Spn X W p cao clen ccap T tK tN tS yK yN v6 v8 uK uN u2) (a b:Int) (v:Value):Spn X (((W.setCell ⟨T,4,none⟩ (.int .i64 a)).setCell ⟨T,5,none⟩ (.int .i64 b)).setCell ⟨T,6,none⟩ v) p cao clen ccap T tK tN tS a b v v8 uK uN u2 :=
  ((h.set4 a).set5 b).set6 v
theorem Spn.setU (h:Spn X W p cao clen ccap T tK tN tS yK yN v6 v8 uK uN u2) (a b:Int) (v:Value):Spn X (((W.setCell ⟨T+1,0,none⟩ (.int .i64 a)).setCell ⟨T+1,1,none⟩ (.int .i64 b)).setCell ⟨T+1,2,none⟩ v) p cao clen ccap T tK tN tS yK yN v6 v8 a b v:=by
  have h1:Spn X (W.setCell ⟨T+1,0,none⟩ (.int .i64 a)) p cao clen ccap T tK tN tS yK yN v6 v8 a uN u2:=⟨h.setD (by omega) _ _,h.at_,h.px,(row_other _ _ _ (by omega)).trans h.tb,row_set h.ub 0 _⟩
  have h2:Spn X ((W.setCell ⟨T+1,0,none⟩ (.int .i64 a)).setCell ⟨T+1,1,none⟩ (.int .i64 b)) p cao clen ccap T tK tN tS yK yN v6 v8 a b u2:=⟨h1.setD (by omega) _ _,h1.at_,h1.px,(row_other _ _ _ (by omega)).trans h1.tb,row_set h1.ub 1 _⟩
  exact ⟨h2.setD (by omega) _ _,h2.at_,h2.px,(row_other _ _ _ (by omega)).trans h2.tb,row_set h2.ub 2 _⟩
theorem Spn.old (h:Spn X W p cao clen ccap T tK tN tS yK yN v6 v8 uK uN u2) {b:Nat} (hb:b < T) (hbp:b≠p):W.heap[b]?=X.heap[b]?:=h.drw.grown.block b (by have:=h.at_;omega) (by simpa using hbp)
end
def TyL (w:World) (L D:Nat) (v:Value) (t:Tr):Prop:=∃ ao len cap,v=.agg #[.int .i64 t.K,.int .i64 t.N,.slice ao len cap]∧Hs L w.heap.size w D ao len t.A
theorem TyL.of {w:World} {q D:Nat} {v:Value} {t:Tr} (h:TyV w q D v t):TyL w (q+1) D v t:=h
theorem TyL.grown {w w':World} {p L D:Nat} {v:Value} {t:Tr} (h:TyL w L D v t) (hp:p < L) (g:w.grownBy w' (some p)):TyL w' L D v t:=by
  obtain ⟨ao,len,cap,e,hs⟩:=h
  exact ⟨ao,len,cap,e,hs.keep (fun k hk1 hk2=>g.block k hk2 (by simp;omega)) (Nat.le_refl _) g.size⟩
theorem TyL.deeper {w:World} {L D D':Nat} {v:Value} {t:Tr} (h:TyL w L D v t) (hd:D≤D'):TyL w L D' v t:=by
  obtain ⟨ao,len,cap,e,hs⟩:=h
  exact ⟨ao,len,cap,e,hs.deeper hd⟩
theorem hm_two {w:World} {L B D d b:Nat} {t u:Tm} {a1 a2 a3:Option Addr} {l1 c1 l2 c2 l3 c3:Nat} {b1 b2 b3:Option Addr} {m1 e1 m2 e2 m3 e3:Nat} (h:∀ (j:Nat) (x:Value),(cellsT t a1 l1 c1 a2 l2 c2 a3 l3 c3 ++ cellsT u b1 m1 e1 b2 m2 e2 b3 m3 e3)[j]?=some x→w.cell? ⟨b,j,none⟩=some x) (hb:L≤b) (hB:b < B) (hs:Fm L B w D d t a1 l1 a2 l2 a3 l3) (hu:Fm L B w D d u b1 m1 b2 m2 b3 m3) :
    Hm L B w D (d+1) (some ⟨b,0,none⟩) 2 [t,u]:=by
  refine ⟨rfl,by omega,fun i hi=>?_⟩
  have:i=0∨i=1:=by simp at hi;omega
  rcases this with rfl | rfl
  · exact ⟨b,0,rfl,hb,hB,a1,l1,c1,a2,l2,c2,a3,l3,c3,⟨h 0 _ rfl,h 1 _ rfl,h 2 _ rfl,h 3 _ rfl,h 4 _ rfl,h 5 _ rfl,h 6 _ rfl,h 7 _ rfl,h 8 _ rfl⟩,hs⟩
  · exact ⟨b,0,rfl,hb,hB,b1,m1,e1,b2,m2,e2,b3,m3,e3,⟨h 9 _ rfl,h 10 _ rfl,h 11 _ rfl,h 12 _ rfl,h 13 _ rfl,h 14 _ rfl,h 15 _ rfl,h 16 _ rfl,h 17 _ rfl⟩,hu⟩
set_option maxRecDepth 100000 in
theorem app_two {W:World} {g s:Nat} {t u:Tm} {a1 a2 a3:Option Addr} {l1 c1 l2 c2 l3 c3:Nat} {b1 b2 b3:Option Addr} {m1 e1 m2 e2 m3 e3:Nat} (h1:W.heap[g]?=some (.cells (cellsT t a1 l1 c1 a2 l2 c2 a3 l3 c3).toArray 29 (0,0))) (h2:W.heap[s]?=some (.cells (cellsT u b1 m1 e1 b2 m2 e2 b3 m3 e3).toArray 29 (0,0))) :
    ∃ cap w2,(Builtin.append_ #[27,27] 27 #[.slice (some ⟨g,0,none⟩) 1 1,.slice (some ⟨s,0,none⟩) 1 1]).run Try.prog W=.ok (.slice (some ⟨W.heap.size,0,none⟩) 2 cap) w2∧Below W.heap.size W w2∧W.heap.size < w2.heap.size ∧
      ∀ (j:Nat) (x:Value),(cellsT t a1 l1 c1 a2 l2 c2 a3 l3 c3 ++ cellsT u b1 m1 e1 b2 m2 e2 b3 m3 e3)[j]?=some x→w2.cell? ⟨W.heap.size,j,none⟩=some x:=by
  obtain ⟨i0,hi,hz0,hz1,hz2⟩:=info_parts Try.infoTerm
  have ea:∀ (b j:Nat),(⟨b,0,none⟩:Addr).add j=⟨b,j,none⟩:=fun b j=>by unfold Addr.add;split <;> simp_all
  have hr:=run_append_grow (P:=Try.prog) W 27 27 29 i0 _ Try.underlying27 hi hz0 ⟨g,0,none⟩ 1 1 (cellsT t a1 l1 c1 a2 l2 c2 a3 l3 c3) (by rw [hz1];rfl)
    (fun j v hj=>by rw [ea,row_cell h1];simpa using hj) ⟨s,0,none⟩ 1 1 (cellsT u b1 m1 e1 b2 m2 e2 b3 m3 e3) (by rw [hz1];rfl) (fun j v hj=>by rw [ea,row_cell h2];simpa using hj) (by omega) (by omega) (by rw [hz2];decide)
  refine ⟨_,_,hr,?_,by simp,?_⟩
  · exact ((Below.refl _ _).drew).alloc (Nat.le_refl _) _
  · intro j x hx
    show (W.drew.alloc _).cell? ⟨W.drew.heap.size,j,none⟩=some x
    rw [row_cell (heap_new (w:=W.drew) rfl)]
    rw [← hx]
    have hl:j < (cellsT t a1 l1 c1 a2 l2 c2 a3 l3 c3 ++ cellsT u b1 m1 e1 b2 m2 e2 b3 m3 e3).length:=(List.getElem?_eq_some_iff.1 hx).1
    rw [Array.getElem?_append_left (by simpa using hl)];simp
theorem l3V_lit (s:ByteArray) (w:World):Calls Try.prog 56 #[.string s] w fun e w'=>e=.returned (.agg #[.int .i64 3,.int .i64 0,.string s,.string ⟨#[]⟩,.int .i64 0,.int .i64 0,.slice none 0 0,.slice none 0 0,.slice none 0 0])∧Below w.heap.size w w':=by
  go_enter Try.func56,Try.ntmps56
  go_wp2_with fail
  exact bodyPost_ret (v:=.agg #[.int .i64 3,.int .i64 0,.string s,.string ⟨#[]⟩,.int .i64 0,.int .i64 0,.slice none 0 0,.slice none 0 0,.slice none 0 0]) (by simp [results,Try.results56,go_sem]) rfl ⟨rfl,(Below.refl _ _).alloc (Nat.le_refl _) _⟩
theorem l3N_lit (n:Int) (w:World):Calls Try.prog 57 #[.int .i64 n] w fun e w'=>e=.returned (.agg #[.int .i64 1,.int .i64 n,.string ⟨#[]⟩,.string ⟨#[]⟩,.int .i64 0,.int .i64 0,.slice none 0 0,.slice none 0 0,.slice none 0 0])∧Below w.heap.size w w':=by
  go_enter Try.func57,Try.ntmps57
  go_wp2_with fail
  exact bodyPost_ret (v:=.agg #[.int .i64 1,.int .i64 n,.string ⟨#[]⟩,.string ⟨#[]⟩,.int .i64 0,.int .i64 0,.slice none 0 0,.slice none 0 0,.slice none 0 0]) (by simp [results,Try.results57,go_sem]) rfl ⟨rfl,(Below.refl _ _).alloc (Nat.le_refl _) _⟩
theorem l3Int_lit (w:World):Calls Try.prog 35 #[] w fun e w'=>e=.returned (.agg #[.int .i64 1,.int .i64 0,.slice none 0 0])∧Below w.heap.size w w':=by
  go_enter Try.func35,Try.ntmps35
  go_wp2_with fail
  exact bodyPost_ret (v:=.agg #[.int .i64 1,.int .i64 0,.slice none 0 0]) (by simp [results,Try.results35,go_sem]) rfl ⟨rfl,(Below.refl _ _).alloc (Nat.le_refl _) _⟩
theorem fm_up {W W':World} {L D d:Nat} {t:Tm} {a1 a2 a3:Option Addr} {l1 l2 l3:Nat} (h:Fm L W.heap.size W D d t a1 l1 a2 l2 a3 l3) (hb:Below W.heap.size W W'):Fm L W'.heap.size W' D d t a1 l1 a2 l2 a3 l3:=Fm.keep (fun k _ hk=>hb.block k hk) (Nat.le_refl _) hb.size h
theorem fm_set1 {W:World} {L D d b:Nat} {t:Tm} {a1 a2 a3:Option Addr} {l1 l2 l3:Nat} (h:Fm L W.heap.size W D d t a1 l1 a2 l2 a3 l3) (hb:b < L) (o:Nat) (v:Value):Fm L (W.setCell ⟨b,o,none⟩ v).heap.size (W.setCell ⟨b,o,none⟩ v) D d t a1 l1 a2 l2 a3 l3:=Fm.keep (fun k hk _=>row_other _ _ _ (by omega)) (Nat.le_refl _) (by simp) h
theorem fm_leaf (L B:Nat) (W:World) (D d:Nat) (k n:Int) (s:ByteArray) (hs:s.size≤1000):Fm L B W D d ⟨k,n,s,⟨#[]⟩,⟨0,0,[]⟩,[],[]⟩ none 0 none 0 none 0:=⟨by show s.size≤_;omega,Nat.zero_le _,Hs.nil _ _ _ _ _,Hs.nil _ _ _ _ _,Hm.nil _ _ _ _ _ _⟩
theorem fm_node {L B:Nat} {W:World} {D d:Nat} (k n:Int) (s z:ByteArray) (T:Tr) (A:List Tm) {a1 a3:Option Addr} {l1 l3:Nat} (hs:s.size≤1000) (hz:z.size≤1000) (hT:Hs L B W D a1 l1 T.A) (hA:Hm L B W D d a3 l3 A):Fm L B W D d ⟨k,n,s,z,T,[],A⟩ a1 l1 none 0 a3 l3 :=
  ⟨by show s.size≤_;omega,by show z.size≤_;omega,hT,Hs.nil _ _ _ _ _,hA⟩
end Go.Proofs.Ytleghjgpnefliaa
