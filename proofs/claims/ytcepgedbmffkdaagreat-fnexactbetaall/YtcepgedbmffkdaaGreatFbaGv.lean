/-
  What the program's 'givenBy' comes to.
-/
import Derived.Test.YtcepgedbmffkdaaGreatFbaZ27
import Derived.Test.YtcepgedbmffkdaaGreatFbaZ7
import Derived.Handy
import Derived.Deep.RegionHeld3
import Derived.Deep.MidRow
namespace Go.Proofs.YtcepgedbmffkdaaGreat
open Go.RowKit
set_option linter.unusedVariables false
set_option linter.unusedSimpArgs false
theorem cells19 {w:World} {b:Nat} {v0 v1 v2 v3 v4 v5 v6 v7 v8 v9 v10 v11 v12 v13 v14 v15 v16 v17 v18:Value} {t:TypeId} {fr:Nat × Nat} (h:w.heap[b]?=some (.cells #[v0,v1,v2,v3,v4,v5,v6,v7,v8,v9,v10,v11,v12,v13,v14,v15,v16,v17,v18] t fr)) :
    w.cell? ⟨b,0,none⟩=some v0∧w.cell? ⟨b,1,none⟩=some v1∧w.cell? ⟨b,2,none⟩=some v2∧w.cell? ⟨b,3,none⟩=some v3∧w.cell? ⟨b,4,none⟩=some v4∧w.cell? ⟨b,5,none⟩=some v5∧w.cell? ⟨b,6,none⟩=some v6∧w.cell? ⟨b,7,none⟩=some v7∧w.cell? ⟨b,8,none⟩=some v8∧w.cell? ⟨b,9,none⟩=some v9∧w.cell? ⟨b,10,none⟩=some v10∧w.cell? ⟨b,11,none⟩=some v11∧w.cell? ⟨b,12,none⟩=some v12∧w.cell? ⟨b,13,none⟩=some v13∧w.cell? ⟨b,14,none⟩=some v14∧w.cell? ⟨b,15,none⟩=some v15∧w.cell? ⟨b,16,none⟩=some v16∧w.cell? ⟨b,17,none⟩=some v17∧w.cell? ⟨b,18,none⟩=some v18:=⟨row_cell h 0,row_cell h 1,row_cell h 2,row_cell h 3,row_cell h 4,row_cell h 5,row_cell h 6,row_cell h 7,row_cell h 8,row_cell h 9,row_cell h 10,row_cell h 11,row_cell h 12,row_cell h 13,row_cell h 14,row_cell h 15,row_cell h 16,row_cell h 17,row_cell h 18⟩
theorem results_two {P:Program} {fn:Func} {tmps:Array Value} {a k:Tmp} {ty:TypeId} {A:Addr} {v:Value} {b:Bool} {W:World} (hf:fn.results=#[.cell a ty,.tmp k]) (ha:tmps.getD a undef=.pointer (some A)) (hb:tmps.getD k undef=.bool b) (hl:(loadVar ty A).run P W=.ok v W):(results fn tmps).run P W=.ok (.tuple #[v,.bool b]) W:=by
  simp only [Array.getD_eq_getD_getElem?] at ha hb
  simp [results,hf,ha,hb,hl,asAddr]
theorem range_row {W:World} {b:Nat} {cs:List Value} {t:TypeId} {fr:Nat × Nat} (h:W.heap[b]?=some (.cells cs.toArray t fr)):W.rangeAt b 0 cs:=by
  intro j v hv
  rw [row_cell h]
  simpa using hv
theorem there_row {w:World} {b n:Nat} {cs:Array Value} {t:TypeId} (h:w.heap[b]?=some (.cells cs t (0,0))) (hn:n≤cs.size):w.drew.there b 0 n:=by
  intro j hj
  refine ⟨?_,row_free (w:=w.drew) h _⟩
  rw [row_cell (w:=w.drew) h]
  rw [Nat.zero_add,Array.getElem?_eq_getElem (by omega)]
  rfl
theorem store_cells {P:Program} {X Y:World} {b:Nat} {cs vs GC:Array Value} {t:TypeId} (h:X.heap[b]?=some (.cells cs t (0,0))) (hG:vs=GC) (hn:vs.size≤cs.size) (hY:Y=X.drew.setCells b 0 vs.toList) (h1:vs.all (·.oneCell')=true):(storeCells ⟨b,0,none⟩ GC.toList).run P X.drew=.ok () Y:=by
  subst hG
  have ht:=there_row h hn
  have:=run_storeCells_cells (P:=P) b 0 vs.toList 0 X.drew (fun j hj=>by simpa using (ht j (by simpa using hj)).1) (fun j hj=>by simpa using (ht j (by simpa using hj)).2)
    (fun v hv=>(Array.all_eq_true_iff_forall_mem.1 h1) v (by simpa using hv))
  rw [hY]
  simpa using this
theorem store_cellsP {P:Program} {X Y:World} {b:Nat} {cs vs GC:Array Value} {t:TypeId} (h:X.heap[b]?=some (.cells cs t (0,0))) (hG:vs=GC) (hn:vs.size≤cs.size) (hY:Y=X.setCells b 0 vs.toList) (h1:vs.all (·.oneCell')=true):(storeCells ⟨b,0,none⟩ GC.toList).run P X=.ok () Y:=by
  subst hG
  have ht:X.there b 0 vs.size:=there_row h hn
  have:=run_storeCells_cells (P:=P) b 0 vs.toList 0 X (fun j hj=>by simpa using (ht j (by simpa using hj)).1) (fun j hj=>by simpa using (ht j (by simpa using hj)).2)
    (fun v hv=>(Array.all_eq_true_iff_forall_mem.1 h1) v (by simpa using hv))
  rw [hY]
  simpa using this
theorem setCells_other (b:Nat):∀ (vs:List Value) (w:World) (o:Nat) (k:Nat) (hk:k≠b),(w.setCells b o vs).heap[k]?=w.heap[k]?
  | [],_,_,_,_=>rfl
  | v :: vs,w,o,k,hk=>by
    rw [World.setCells,setCells_other b vs _ _ k hk]
    exact row_other _ _ _ hk
theorem setCells_below {n:Nat} {w:World} {b:Nat} (hb:n≤b):∀ (vs:List Value) {W:World} (o:Nat),Below n w W→Below n w (W.setCells b o vs)
  | [],_,_,h=>h
  | v :: vs,W,o,h=>by
    rw [World.setCells]
    exact setCells_below hb vs _ (h.setCell (p:=⟨b,o,none⟩) hb v)
theorem setCells_rowG {b:Nat} {t:TypeId} {fr:Nat × Nat}:∀ (vs:List Value) (w:World) (o:Nat) (cs:Array Value),w.heap[b]?=some (.cells cs t fr)→∃ cs',(w.setCells b o vs).heap[b]?=some (.cells cs' t fr)∧cs'.size=cs.size∧(∀ j,j < vs.length→o+j < cs.size→cs'[o+j]?=vs[j]?)∧(∀ j,j < o→cs'[j]?=cs[j]?)
  | [],w,o,cs,h=>⟨cs,h,rfl,fun j hj=>by simp at hj,fun _ _=>rfl⟩
  | v :: vs,w,o,cs,h=>by
    obtain ⟨cs',h1,h2,h3,h4⟩:=setCells_rowG vs (w.setCell ⟨b,o,none⟩ v) (o+1) _ (row_set h o v)
    refine ⟨cs',h1,by simpa using h2,fun j hj hjs=>?_,fun j hj=>?_⟩
    · cases j with
      | zero =>
        rw [Nat.add_zero] at hjs ⊢
        rw [h4 o (by omega)]
        simp [hjs]
      | succ j =>
        have:=h3 j (by simpa using hj) (by simp;omega)
        rw [show o+(j+1)=o+1+j by omega,this]
        simp
    · rw [h4 j (by omega),Array.getElem?_setIfInBounds_ne (by omega)]
theorem setCells_row {w:World} {b:Nat} {cs cs':Array Value} {t:TypeId} {fr:Nat × Nat} (h:w.heap[b]?=some (.cells cs t fr)) (hs:cs'.size=cs.size):(w.drew.setCells b 0 cs'.toList).heap[b]?=some (.cells cs' t fr):=by
  obtain ⟨c2,h1,h2,h3,_⟩:=setCells_rowG cs'.toList w.drew 0 cs h
  have:c2=cs':=by
    apply Array.ext_getElem?
    intro i
    by_cases hi:i < cs.size
    · have:=h3 i (by simpa [hs] using hi) (by omega)
      rw [Nat.zero_add] at this
      rw [this,Array.getElem?_toList]
    · rw [Array.getElem?_eq_none (by omega),Array.getElem?_eq_none (by omega)]
  rw [h1,this]
theorem setCells_rowP {w:World} {b:Nat} {cs cs':Array Value} {t:TypeId} {fr:Nat × Nat} (h:w.heap[b]?=some (.cells cs t fr)) (hs:cs'.size=cs.size):(w.setCells b 0 cs'.toList).heap[b]?=some (.cells cs' t fr):=by
  obtain ⟨c2,h1,h2,h3,_⟩:=setCells_rowG cs'.toList w 0 cs h
  have:c2=cs':=by
    apply Array.ext_getElem?
    intro i
    by_cases hi:i < cs.size
    · have:=h3 i (by simpa [hs] using hi) (by omega)
      rw [Nat.zero_add] at this
      rw [this,Array.getElem?_toList]
    · rw [Array.getElem?_eq_none (by omega),Array.getElem?_eq_none (by omega)]
  rw [h1,this]
theorem drewG' (W:World) (k:Nat):W.drew.heap[k]?=W.heap[k]?:=rfl
set_option maxRecDepth 100000 in
set_option maxHeartbeats 4000000 in
theorem givenBy_let (t:Tm) (a1:Option Addr) (l1 c1:Nat) (a2:Option Addr) (l2 c2:Nat) (c3:Nat) (x:Tm) (b1:Option Addr) (m1 e1:Nat) (b2:Option Addr) (m2 e2:Nat) (b3:Option Addr) (m3 e3:Nat) (y:Tm) (d1:Option Addr) (n1 f1:Nat) (d2:Option Addr) (n2 f2:Nat) (d3:Option Addr) (n3 f3:Nat) (s:ByteArray) (nn:Int) (τ0 τ1:TypeId) (u0 u1:Value) (g:Nat) (w:World) (hgw:g < w.heap.size) (hx:Nine w g 0 x.K x.N x.S x.Z x.T.K x.T.N (.slice b1 m1 e1) (.slice b2 m2 e2) (.slice b3 m3 e3)) (hy:Nine w g 9 y.K y.N y.S y.Z y.T.K y.T.N (.slice d1 n1 f1) (.slice d2 n2 f2) (.slice d3 n3 f3)) :
    Calls Tryz.prog 74 #[.agg #[.int .i64 t.K,.int .i64 t.N,.string t.S,.string t.Z,.int .i64 t.T.K,.int .i64 t.T.N,.slice a1 l1 c1,.slice a2 l2 c2,.slice (some ⟨g,0,none⟩) 2 c3],.iface 114 (.agg #[.string s,.int .i64 nn,.iface τ0 u0,.iface τ1 u1])] w fun e w'=>e=.returned (.tuple #[.agg #[.string s,.int .i64 x.K,.int .i64 x.N,.string x.S,.string x.Z,.int .i64 x.T.K,.int .i64 x.T.N,.slice b1 m1 e1,.slice b2 m2 e2,.slice b3 m3 e3,.int .i64 y.K,.int .i64 y.N,.string y.S,.string y.Z,.int .i64 y.T.K,.int .i64 y.T.N,.slice d1 n1 f1,.slice d2 n2 f2,.slice d3 n3 f3],.bool true])∧Below w.heap.size w w':=by
  have as0:=fun (W:World) (v:Value)=>is_letForm W v
  obtain ⟨X,hX⟩:∃ X,X=(w.alloc (.cells #[.int .i64 t.K,.int .i64 t.N,.string t.S,.string t.Z,.int .i64 t.T.K,.int .i64 t.T.N,.slice a1 l1 c1,.slice a2 l2 c2,.slice (some ⟨g,0,none⟩) 2 c3] 34)).alloc (.cells #[.string ⟨#[]⟩,.int .i64 0,.int .i64 0,.string ⟨#[]⟩,.string ⟨#[]⟩,.int .i64 0,.int .i64 0,.slice none 0 0,.slice none 0 0,.slice none 0 0,.int .i64 0,.int .i64 0,.string ⟨#[]⟩,.string ⟨#[]⟩,.int .i64 0,.int .i64 0,.slice none 0 0,.slice none 0 0,.slice none 0 0] 97):=⟨_,rfl⟩
  have hXs:X.heap.size=w.heap.size+2:=by rw [hX];simp
  have hXb:Below w.heap.size w X:=by rw [hX];exact ((Below.refl _ _).alloc (Nat.le_refl _) _).alloc (by simp) _
  have hX0:X.heap[w.heap.size]?=some (.cells #[.int .i64 t.K,.int .i64 t.N,.string t.S,.string t.Z,.int .i64 t.T.K,.int .i64 t.T.N,.slice a1 l1 c1,.slice a2 l2 c2,.slice (some ⟨g,0,none⟩) 2 c3] 34 (0,0)):=by rw [hX,Below.heap_alloc _ _ _ (by simp)];exact heap_new rfl
  have hX1:X.heap[w.heap.size+1]?=some (.cells #[.string ⟨#[]⟩,.int .i64 0,.int .i64 0,.string ⟨#[]⟩,.string ⟨#[]⟩,.int .i64 0,.int .i64 0,.slice none 0 0,.slice none 0 0,.slice none 0 0,.int .i64 0,.int .i64 0,.string ⟨#[]⟩,.string ⟨#[]⟩,.int .i64 0,.int .i64 0,.slice none 0 0,.slice none 0 0,.slice none 0 0] 97 (0,0)):=by rw [hX];exact heap_new (by simp)
  have HX:Hid (X=_):=hX
  clear hX
  obtain ⟨X2,hX2⟩:∃ X2,X2=X.alloc (.cells #[.string s,.int .i64 nn,.iface τ0 u0,.iface τ1 u1] 114):=⟨_,rfl⟩
  have hX2X:Below X.heap.size X X2:=by rw [hX2];exact (Below.refl _ _).alloc (Nat.le_refl _) _
  have hX2b:Below w.heap.size w X2:=hXb.trans (hX2X.mono (by omega))
  have hX2s:X2.heap.size=X.heap.size+1:=by rw [hX2];simp
  have hX2n:X2.heap[X.heap.size]?=some (.cells #[.string s,.int .i64 nn,.iface τ0 u0,.iface τ1 u1] 114 (0,0)):=by rw [hX2];exact heap_new rfl
  have HX2:Hid (X2=_):=hX2
  clear hX2
  have hLX:Below X.heap.size X X2:=hX2X
  have rT:=(hLX.block w.heap.size (by omega)).trans hX0
  have rZ:=(hLX.block (w.heap.size+1) (by omega)).trans hX1
  obtain ⟨y0,y1,y2,y3,y4,y5,y6,y7,y8⟩:=Nine.box rT
  obtain ⟨z0,z1,z2,z3,z4,z5,z6,z7,z8,z9,z10,z11,z12,z13,z14,z15,z16,z17,z18⟩:=cells19 rZ
  have zf:=row_free rZ
  have HB:Hid (Below w.heap.size w X2):=hX2b
  obtain ⟨p0,p1,p2,p3,p4,p5,p6,p7,p8⟩:=hx.below hX2b hgw
  obtain ⟨q0,q1,q2,q3,q4,q5,q6,q7,q8⟩:=hy.below hX2b hgw
  have k0:X2.cell? ⟨w.heap.size+2,0,none⟩=some (.string s):=by rw [← hXs];exact row_cell hX2n 0
  have HBX:Hid (∀ W:World,(∀ k,k≠w.heap.size+1→W.heap[k]?=X2.heap[k]?)→(W.cell? ⟨w.heap.size+2,0,none⟩=some (.string s)∧W.cell? ⟨w.heap.size,8,none⟩=some (.slice (some ⟨g,0,none⟩) 2 c3)∧W.cell? ⟨g,0,none⟩=some (.int .i64 x.K)∧W.cell? ⟨g,1,none⟩=some (.int .i64 x.N)∧W.cell? ⟨g,2,none⟩=some (.string x.S)∧W.cell? ⟨g,3,none⟩=some (.string x.Z)∧W.cell? ⟨g,4,none⟩=some (.int .i64 x.T.K)∧W.cell? ⟨g,5,none⟩=some (.int .i64 x.T.N)∧W.cell? ⟨g,6,none⟩=some (.slice b1 m1 e1)∧W.cell? ⟨g,7,none⟩=some (.slice b2 m2 e2)∧W.cell? ⟨g,8,none⟩=some (.slice b3 m3 e3)∧W.cell? ⟨g,9,none⟩=some (.int .i64 y.K)∧W.cell? ⟨g,10,none⟩=some (.int .i64 y.N)∧W.cell? ⟨g,11,none⟩=some (.string y.S)∧W.cell? ⟨g,12,none⟩=some (.string y.Z)∧W.cell? ⟨g,13,none⟩=some (.int .i64 y.T.K)∧W.cell? ⟨g,14,none⟩=some (.int .i64 y.T.N)∧W.cell? ⟨g,15,none⟩=some (.slice d1 n1 f1)∧W.cell? ⟨g,16,none⟩=some (.slice d2 n2 f2)∧W.cell? ⟨g,17,none⟩=some (.slice d3 n3 f3))):=fun W hW=>by
    have hc:∀ b o,b≠w.heap.size+1→W.cell? ⟨b,o,none⟩=X2.cell? ⟨b,o,none⟩:=fun b o h=>World.cell?_of_block (hW b h)
    refine ⟨?_,?_,?_,?_,?_,?_,?_,?_,?_,?_,?_,?_,?_,?_,?_,?_,?_,?_,?_,?_⟩
    all_goals (rw [hc _ _ (by omega)];assumption)
  obtain ⟨Y,hY⟩:∃ Y,Y=X2.drew.setCells (w.heap.size+1) 0 (#[.string s,.int .i64 x.K,.int .i64 x.N,.string x.S,.string x.Z,.int .i64 x.T.K,.int .i64 x.T.N,.slice b1 m1 e1,.slice b2 m2 e2,.slice b3 m3 e3,.int .i64 y.K,.int .i64 y.N,.string y.S,.string y.Z,.int .i64 y.T.K,.int .i64 y.T.N,.slice d1 n1 f1,.slice d2 n2 f2,.slice d3 n3 f3]:Array Value).toList:=⟨_,rfl⟩
  have hYo:∀ k,k≠w.heap.size+1→Y.heap[k]?=X2.heap[k]?:=fun k hk=>by rw [hY];exact setCells_other _ _ _ _ k hk
  have hYb:Below w.heap.size w Y:=by rw [hY];exact setCells_below (Nat.le_succ _) _ _ hX2b.drew
  have hYr:Y.heap[w.heap.size+1]?=some (.cells #[.string s,.int .i64 x.K,.int .i64 x.N,.string x.S,.string x.Z,.int .i64 x.T.K,.int .i64 x.T.N,.slice b1 m1 e1,.slice b2 m2 e2,.slice b3 m3 e3,.int .i64 y.K,.int .i64 y.N,.string y.S,.string y.Z,.int .i64 y.T.K,.int .i64 y.T.N,.slice d1 n1 f1,.slice d2 n2 f2,.slice d3 n3 f3] 97 (0,0)):=by rw [hY];exact setCells_row (cs':=#[.string s,.int .i64 x.K,.int .i64 x.N,.string x.S,.string x.Z,.int .i64 x.T.K,.int .i64 x.T.N,.slice b1 m1 e1,.slice b2 m2 e2,.slice b3 m3 e3,.int .i64 y.K,.int .i64 y.N,.string y.S,.string y.Z,.int .i64 y.T.K,.int .i64 y.T.N,.slice d1 n1 f1,.slice d2 n2 f2,.slice d3 n3 f3]) rZ rfl
  have HYO:Hid (∀ k,k≠w.heap.size+1→Y.heap[k]?=X2.heap[k]?):=hYo
  have HYR:Hid (Y.heap[w.heap.size+1]?=some (.cells #[.string s,.int .i64 x.K,.int .i64 x.N,.string x.S,.string x.Z,.int .i64 x.T.K,.int .i64 x.T.N,.slice b1 m1 e1,.slice b2 m2 e2,.slice b3 m3 e3,.int .i64 y.K,.int .i64 y.N,.string y.S,.string y.Z,.int .i64 y.T.K,.int .i64 y.T.N,.slice d1 n1 f1,.slice d2 n2 f2,.slice d3 n3 f3] 97 (0,0))):=hYr
  have HLV:Hid ((loadVar 97 ⟨w.heap.size+1,0,none⟩).run Tryz.prog Y=.ok (.agg #[.string s,.int .i64 x.K,.int .i64 x.N,.string x.S,.string x.Z,.int .i64 x.T.K,.int .i64 x.T.N,.slice b1 m1 e1,.slice b2 m2 e2,.slice b3 m3 e3,.int .i64 y.K,.int .i64 y.N,.string y.S,.string y.Z,.int .i64 y.T.K,.int .i64 y.T.N,.slice d1 n1 f1,.slice d2 n2 f2,.slice d3 n3 f3]) Y):=run_loadVar_mid (cs:=[.string s,.int .i64 x.K,.int .i64 x.N,.string x.S,.string x.Z,.int .i64 x.T.K,.int .i64 x.T.N,.slice b1 m1 e1,.slice b2 m2 e2,.slice b3 m3 e3,.int .i64 y.K,.int .i64 y.N,.string y.S,.string y.Z,.int .i64 y.T.K,.int .i64 y.T.N,.slice d1 n1 f1,.slice d2 n2 f2,.slice d3 n3 f3]) Y (w.heap.size+1) 0 97 _ (range_row hYr) Tryz.underlying97 rfl (by rfl)
  obtain ⟨GC,hG0⟩:∃ GC,(#[.string s,.int .i64 x.K,.int .i64 x.N,.string x.S,.string x.Z,.int .i64 x.T.K,.int .i64 x.T.N,.slice b1 m1 e1,.slice b2 m2 e2,.slice b3 m3 e3,.int .i64 y.K,.int .i64 y.N,.string y.S,.string y.Z,.int .i64 y.T.K,.int .i64 y.T.N,.slice d1 n1 f1,.slice d2 n2 f2,.slice d3 n3 f3]:Array Value)=GC:=⟨_,rfl⟩
  have hGs:GC.size=19:=by rw [← hG0];rfl
  obtain ⟨G,hG⟩:∃ G,Value.agg #[.string s,.int .i64 x.K,.int .i64 x.N,.string x.S,.string x.Z,.int .i64 x.T.K,.int .i64 x.T.N,.slice b1 m1 e1,.slice b2 m2 e2,.slice b3 m3 e3,.int .i64 y.K,.int .i64 y.N,.string y.S,.string y.Z,.int .i64 y.T.K,.int .i64 y.T.N,.slice d1 n1 f1,.slice d2 n2 f2,.slice d3 n3 f3]=G:=⟨_,rfl⟩
  have hM:G.cells=GC:=by rw [← hG,← hG0];rfl
  have hST:(storeCells ⟨w.heap.size+1,0,none⟩ GC.toList).run Tryz.prog X2.drew=.ok () Y:=store_cells rZ hG0 (Nat.le_refl _) hY (by simp [Value.oneCell'])
  unfold Value.cells at hM
  clear hG0
  clear hY hYo hYr
  go_enter Tryz.func74,Tryz.ntmps74
  go_upto_region 1 with fail
  rw [← HX.out]
  go_upto_region 3 with fail
  rw [← HX2.out]
  go_region_held3 (fun W=>W.cell? ⟨w.heap.size+2,0,none⟩=some (.string s)∧W.cell? ⟨w.heap.size,8,none⟩=some (.slice (some ⟨g,0,none⟩) 2 c3)∧W.cell? ⟨g,0,none⟩=some (.int .i64 x.K)∧W.cell? ⟨g,1,none⟩=some (.int .i64 x.N)∧W.cell? ⟨g,2,none⟩=some (.string x.S)∧W.cell? ⟨g,3,none⟩=some (.string x.Z)∧W.cell? ⟨g,4,none⟩=some (.int .i64 x.T.K)∧W.cell? ⟨g,5,none⟩=some (.int .i64 x.T.N)∧W.cell? ⟨g,6,none⟩=some (.slice b1 m1 e1)∧W.cell? ⟨g,7,none⟩=some (.slice b2 m2 e2)∧W.cell? ⟨g,8,none⟩=some (.slice b3 m3 e3)∧W.cell? ⟨g,9,none⟩=some (.int .i64 y.K)∧W.cell? ⟨g,10,none⟩=some (.int .i64 y.N)∧W.cell? ⟨g,11,none⟩=some (.string y.S)∧W.cell? ⟨g,12,none⟩=some (.string y.Z)∧W.cell? ⟨g,13,none⟩=some (.int .i64 y.T.K)∧W.cell? ⟨g,14,none⟩=some (.int .i64 y.T.N)∧W.cell? ⟨g,15,none⟩=some (.slice d1 n1 f1)∧W.cell? ⟨g,16,none⟩=some (.slice d2 n2 f2)∧W.cell? ⟨g,17,none⟩=some (.slice d3 n3 f3))
    (with_reducible refine HBX.out _ (fun k h=>?_);(first | exact HYO.out k h | exact drewG' _ k)) (fail)
  all_goals
    subst hG
    clear hM hGs hST
    go_wp2_with fail
    (try simp only [Exit.inBlock,Exit.then]);refine bodyPost_ret (v:=.tuple #[.agg #[.string s,.int .i64 x.K,.int .i64 x.N,.string x.S,.string x.Z,.int .i64 x.T.K,.int .i64 x.T.N,.slice b1 m1 e1,.slice b2 m2 e2,.slice b3 m3 e3,.int .i64 y.K,.int .i64 y.N,.string y.S,.string y.Z,.int .i64 y.T.K,.int .i64 y.T.N,.slice d1 n1 f1,.slice d2 n2 f2,.slice d3 n3 f3],.bool true]) (results_two (by rfl) (by rfl) (by rfl) HLV.out) rfl ?_
    exact ⟨rfl,by first | with_reducible exact hYb | with_reducible exact hYb.drew⟩
set_option maxRecDepth 100000 in
set_option maxHeartbeats 4000000 in
theorem givenBy_fn (t:Tm) (a1:Option Addr) (l1 c1:Nat) (a2:Option Addr) (l2 c2:Nat) (c3:Nat) (x:Tm) (b1:Option Addr) (m1 e1:Nat) (b2:Option Addr) (m2 e2:Nat) (b3:Option Addr) (m3 e3:Nat) (y:Tm) (d1:Option Addr) (n1 f1:Nat) (d2:Option Addr) (n2 f2:Nat) (d3:Option Addr) (n3 f3:Nat) (f:Tm) (q1:Option Addr) (r1 s1:Nat) (q2:Option Addr) (r2 s2 s3:Nat) (s:ByteArray) (nn nd tK tN:Int) (h1:Option Addr) (o1 i1:Nat) (τ1 τ2:TypeId) (u1 u2:Value) (g g2:Nat) (w:World) (hgw:g < w.heap.size) (hgw2:g2 < w.heap.size) (hf:Nine w g 0 f.K f.N f.S f.Z f.T.K f.T.N (.slice q1 r1 s1) (.slice q2 r2 s2) (.slice (some ⟨g2,0,none⟩) 1 s3)) (hx:Nine w g 9 x.K x.N x.S x.Z x.T.K x.T.N (.slice b1 m1 e1) (.slice b2 m2 e2) (.slice b3 m3 e3)) (hy:Nine w g2 0 y.K y.N y.S y.Z y.T.K y.T.N (.slice d1 n1 f1) (.slice d2 n2 f2) (.slice d3 n3 f3)) :
    Calls Tryz.prog 74 #[.agg #[.int .i64 t.K,.int .i64 t.N,.string t.S,.string t.Z,.int .i64 t.T.K,.int .i64 t.T.N,.slice a1 l1 c1,.slice a2 l2 c2,.slice (some ⟨g,0,none⟩) 2 c3],.iface 112 (.agg #[.int .i64 nn,.iface 110 (.agg #[.int .i64 nd,.string s,.int .i64 tK,.int .i64 tN,.slice h1 o1 i1,.iface τ2 u2]),.iface τ1 u1])] w fun e w'=>e=.returned (.tuple #[.agg #[.string s,.int .i64 x.K,.int .i64 x.N,.string x.S,.string x.Z,.int .i64 x.T.K,.int .i64 x.T.N,.slice b1 m1 e1,.slice b2 m2 e2,.slice b3 m3 e3,.int .i64 y.K,.int .i64 y.N,.string y.S,.string y.Z,.int .i64 y.T.K,.int .i64 y.T.N,.slice d1 n1 f1,.slice d2 n2 f2,.slice d3 n3 f3],.bool true])∧Below w.heap.size w w':=by
  have as0:=fun (W:World) (v:Value)=>no_letForm W 112 v (by decide)
  have as1:=fun (W:World) (v:Value)=>is_appForm W v
  have as2:=fun (W:World) (v:Value)=>is_fnForm W v
  obtain ⟨X,hX⟩:∃ X,X=(w.alloc (.cells #[.int .i64 t.K,.int .i64 t.N,.string t.S,.string t.Z,.int .i64 t.T.K,.int .i64 t.T.N,.slice a1 l1 c1,.slice a2 l2 c2,.slice (some ⟨g,0,none⟩) 2 c3] 34)).alloc (.cells #[.string ⟨#[]⟩,.int .i64 0,.int .i64 0,.string ⟨#[]⟩,.string ⟨#[]⟩,.int .i64 0,.int .i64 0,.slice none 0 0,.slice none 0 0,.slice none 0 0,.int .i64 0,.int .i64 0,.string ⟨#[]⟩,.string ⟨#[]⟩,.int .i64 0,.int .i64 0,.slice none 0 0,.slice none 0 0,.slice none 0 0] 97):=⟨_,rfl⟩
  have hXs:X.heap.size=w.heap.size+2:=by rw [hX];simp
  have hXb:Below w.heap.size w X:=by rw [hX];exact ((Below.refl _ _).alloc (Nat.le_refl _) _).alloc (by simp) _
  have hX0:X.heap[w.heap.size]?=some (.cells #[.int .i64 t.K,.int .i64 t.N,.string t.S,.string t.Z,.int .i64 t.T.K,.int .i64 t.T.N,.slice a1 l1 c1,.slice a2 l2 c2,.slice (some ⟨g,0,none⟩) 2 c3] 34 (0,0)):=by rw [hX,Below.heap_alloc _ _ _ (by simp)];exact heap_new rfl
  have hX1:X.heap[w.heap.size+1]?=some (.cells #[.string ⟨#[]⟩,.int .i64 0,.int .i64 0,.string ⟨#[]⟩,.string ⟨#[]⟩,.int .i64 0,.int .i64 0,.slice none 0 0,.slice none 0 0,.slice none 0 0,.int .i64 0,.int .i64 0,.string ⟨#[]⟩,.string ⟨#[]⟩,.int .i64 0,.int .i64 0,.slice none 0 0,.slice none 0 0,.slice none 0 0] 97 (0,0)):=by rw [hX];exact heap_new (by simp)
  have HX:Hid (X=_):=hX
  clear hX
  obtain ⟨X2,hX2⟩:∃ X2,X2=X.alloc (.cells #[.string ⟨#[]⟩,.int .i64 0,.nilIface,.nilIface] 114):=⟨_,rfl⟩
  have hX2X:Below X.heap.size X X2:=by rw [hX2];exact (Below.refl _ _).alloc (Nat.le_refl _) _
  have hX2b:Below w.heap.size w X2:=hXb.trans (hX2X.mono (by omega))
  have hX2s:X2.heap.size=X.heap.size+1:=by rw [hX2];simp
  have hX2n:X2.heap[X.heap.size]?=some (.cells #[.string ⟨#[]⟩,.int .i64 0,.nilIface,.nilIface] 114 (0,0)):=by rw [hX2];exact heap_new rfl
  have HX2:Hid (X2=_):=hX2
  clear hX2
  obtain ⟨X3,hX3⟩:∃ X3,X3=X2.alloc (.cells #[.int .i64 nn,.iface 110 (.agg #[.int .i64 nd,.string s,.int .i64 tK,.int .i64 tN,.slice h1 o1 i1,.iface τ2 u2]),.iface τ1 u1] 112):=⟨_,rfl⟩
  have hX3X:Below X2.heap.size X2 X3:=by rw [hX3];exact (Below.refl _ _).alloc (Nat.le_refl _) _
  have hX3b:Below w.heap.size w X3:=hX2b.trans (hX3X.mono (by omega))
  have hX3s:X3.heap.size=X2.heap.size+1:=by rw [hX3];simp
  have hX3n:X3.heap[X2.heap.size]?=some (.cells #[.int .i64 nn,.iface 110 (.agg #[.int .i64 nd,.string s,.int .i64 tK,.int .i64 tN,.slice h1 o1 i1,.iface τ2 u2]),.iface τ1 u1] 112 (0,0)):=by rw [hX3];exact heap_new rfl
  have HX3:Hid (X3=_):=hX3
  clear hX3
  obtain ⟨X4,hX4⟩:∃ X4,X4=X3.alloc (.cells #[.int .i64 nd,.string s,.int .i64 tK,.int .i64 tN,.slice h1 o1 i1,.iface τ2 u2] 110):=⟨_,rfl⟩
  have hX4X:Below X3.heap.size X3 X4:=by rw [hX4];exact (Below.refl _ _).alloc (Nat.le_refl _) _
  have hX4b:Below w.heap.size w X4:=hX3b.trans (hX4X.mono (by omega))
  have hX4s:X4.heap.size=X3.heap.size+1:=by rw [hX4];simp
  have hX4n:X4.heap[X3.heap.size]?=some (.cells #[.int .i64 nd,.string s,.int .i64 tK,.int .i64 tN,.slice h1 o1 i1,.iface τ2 u2] 110 (0,0)):=by rw [hX4];exact heap_new rfl
  have HX4:Hid (X4=_):=hX4
  clear hX4
  have hLX:Below X.heap.size X X4:=hX2X.trans ((hX3X.trans (hX4X.mono (by omega))).mono (by omega))
  have rT:=(hLX.block w.heap.size (by omega)).trans hX0
  have rZ:=(hLX.block (w.heap.size+1) (by omega)).trans hX1
  obtain ⟨y0,y1,y2,y3,y4,y5,y6,y7,y8⟩:=Nine.box rT
  obtain ⟨z0,z1,z2,z3,z4,z5,z6,z7,z8,z9,z10,z11,z12,z13,z14,z15,z16,z17,z18⟩:=cells19 rZ
  have zf:=row_free rZ
  have HB:Hid (Below w.heap.size w X4):=hX4b
  obtain ⟨p0,p1,p2,p3,p4,p5,p6,p7,p8⟩:=hx.below hX4b hgw
  obtain ⟨q0',q1',q2',q3',q4',q5',q6',q7',q8'⟩:=hy.below hX4b hgw2
  have hf8:=(hf.below hX4b hgw).c8
  have k1:X4.cell? ⟨w.heap.size+4,1,none⟩=some (.string s):=by rw [show w.heap.size+4=X3.heap.size by omega];exact row_cell hX4n 1
  have k2:X3.cell? ⟨w.heap.size+3,1,none⟩=some (.iface 110 (.agg #[.int .i64 nd,.string s,.int .i64 tK,.int .i64 tN,.slice h1 o1 i1,.iface τ2 u2])):=by rw [show w.heap.size+3=X2.heap.size by omega];exact row_cell hX3n 1
  have HBX:Hid (∀ W:World,(∀ k,k≠w.heap.size+1→W.heap[k]?=X4.heap[k]?)→(W.cell? ⟨w.heap.size+4,1,none⟩=some (.string s)∧W.cell? ⟨w.heap.size,8,none⟩=some (.slice (some ⟨g,0,none⟩) 2 c3)∧W.cell? ⟨g,8,none⟩=some (.slice (some ⟨g2,0,none⟩) 1 s3)∧W.cell? ⟨g,9,none⟩=some (.int .i64 x.K)∧W.cell? ⟨g,10,none⟩=some (.int .i64 x.N)∧W.cell? ⟨g,11,none⟩=some (.string x.S)∧W.cell? ⟨g,12,none⟩=some (.string x.Z)∧W.cell? ⟨g,13,none⟩=some (.int .i64 x.T.K)∧W.cell? ⟨g,14,none⟩=some (.int .i64 x.T.N)∧W.cell? ⟨g,15,none⟩=some (.slice b1 m1 e1)∧W.cell? ⟨g,16,none⟩=some (.slice b2 m2 e2)∧W.cell? ⟨g,17,none⟩=some (.slice b3 m3 e3)∧W.cell? ⟨g2,0,none⟩=some (.int .i64 y.K)∧W.cell? ⟨g2,1,none⟩=some (.int .i64 y.N)∧W.cell? ⟨g2,2,none⟩=some (.string y.S)∧W.cell? ⟨g2,3,none⟩=some (.string y.Z)∧W.cell? ⟨g2,4,none⟩=some (.int .i64 y.T.K)∧W.cell? ⟨g2,5,none⟩=some (.int .i64 y.T.N)∧W.cell? ⟨g2,6,none⟩=some (.slice d1 n1 f1)∧W.cell? ⟨g2,7,none⟩=some (.slice d2 n2 f2)∧W.cell? ⟨g2,8,none⟩=some (.slice d3 n3 f3))):=fun W hW=>by
    have hc:∀ b o,b≠w.heap.size+1→W.cell? ⟨b,o,none⟩=X4.cell? ⟨b,o,none⟩:=fun b o h=>World.cell?_of_block (hW b h)
    refine ⟨?_,?_,?_,?_,?_,?_,?_,?_,?_,?_,?_,?_,?_,?_,?_,?_,?_,?_,?_,?_,?_⟩
    all_goals (rw [hc _ _ (by omega)];assumption)
  obtain ⟨Y,hY⟩:∃ Y,Y=X4.drew.setCells (w.heap.size+1) 0 (#[.string s,.int .i64 x.K,.int .i64 x.N,.string x.S,.string x.Z,.int .i64 x.T.K,.int .i64 x.T.N,.slice b1 m1 e1,.slice b2 m2 e2,.slice b3 m3 e3,.int .i64 y.K,.int .i64 y.N,.string y.S,.string y.Z,.int .i64 y.T.K,.int .i64 y.T.N,.slice d1 n1 f1,.slice d2 n2 f2,.slice d3 n3 f3]:Array Value).toList:=⟨_,rfl⟩
  have hYo:∀ k,k≠w.heap.size+1→Y.heap[k]?=X4.heap[k]?:=fun k hk=>by rw [hY];exact setCells_other _ _ _ _ k hk
  have hYb:Below w.heap.size w Y:=by rw [hY];exact setCells_below (Nat.le_succ _) _ _ hX4b.drew
  have hYr:Y.heap[w.heap.size+1]?=some (.cells #[.string s,.int .i64 x.K,.int .i64 x.N,.string x.S,.string x.Z,.int .i64 x.T.K,.int .i64 x.T.N,.slice b1 m1 e1,.slice b2 m2 e2,.slice b3 m3 e3,.int .i64 y.K,.int .i64 y.N,.string y.S,.string y.Z,.int .i64 y.T.K,.int .i64 y.T.N,.slice d1 n1 f1,.slice d2 n2 f2,.slice d3 n3 f3] 97 (0,0)):=by rw [hY];exact setCells_row (cs':=#[.string s,.int .i64 x.K,.int .i64 x.N,.string x.S,.string x.Z,.int .i64 x.T.K,.int .i64 x.T.N,.slice b1 m1 e1,.slice b2 m2 e2,.slice b3 m3 e3,.int .i64 y.K,.int .i64 y.N,.string y.S,.string y.Z,.int .i64 y.T.K,.int .i64 y.T.N,.slice d1 n1 f1,.slice d2 n2 f2,.slice d3 n3 f3]) rZ rfl
  have HYO:Hid (∀ k,k≠w.heap.size+1→Y.heap[k]?=X4.heap[k]?):=hYo
  have HYR:Hid (Y.heap[w.heap.size+1]?=some (.cells #[.string s,.int .i64 x.K,.int .i64 x.N,.string x.S,.string x.Z,.int .i64 x.T.K,.int .i64 x.T.N,.slice b1 m1 e1,.slice b2 m2 e2,.slice b3 m3 e3,.int .i64 y.K,.int .i64 y.N,.string y.S,.string y.Z,.int .i64 y.T.K,.int .i64 y.T.N,.slice d1 n1 f1,.slice d2 n2 f2,.slice d3 n3 f3] 97 (0,0))):=hYr
  have HLV:Hid ((loadVar 97 ⟨w.heap.size+1,0,none⟩).run Tryz.prog Y=.ok (.agg #[.string s,.int .i64 x.K,.int .i64 x.N,.string x.S,.string x.Z,.int .i64 x.T.K,.int .i64 x.T.N,.slice b1 m1 e1,.slice b2 m2 e2,.slice b3 m3 e3,.int .i64 y.K,.int .i64 y.N,.string y.S,.string y.Z,.int .i64 y.T.K,.int .i64 y.T.N,.slice d1 n1 f1,.slice d2 n2 f2,.slice d3 n3 f3]) Y):=run_loadVar_mid (cs:=[.string s,.int .i64 x.K,.int .i64 x.N,.string x.S,.string x.Z,.int .i64 x.T.K,.int .i64 x.T.N,.slice b1 m1 e1,.slice b2 m2 e2,.slice b3 m3 e3,.int .i64 y.K,.int .i64 y.N,.string y.S,.string y.Z,.int .i64 y.T.K,.int .i64 y.T.N,.slice d1 n1 f1,.slice d2 n2 f2,.slice d3 n3 f3]) Y (w.heap.size+1) 0 97 _ (range_row hYr) Tryz.underlying97 rfl (by rfl)
  obtain ⟨GC,hG0⟩:∃ GC,(#[.string s,.int .i64 x.K,.int .i64 x.N,.string x.S,.string x.Z,.int .i64 x.T.K,.int .i64 x.T.N,.slice b1 m1 e1,.slice b2 m2 e2,.slice b3 m3 e3,.int .i64 y.K,.int .i64 y.N,.string y.S,.string y.Z,.int .i64 y.T.K,.int .i64 y.T.N,.slice d1 n1 f1,.slice d2 n2 f2,.slice d3 n3 f3]:Array Value)=GC:=⟨_,rfl⟩
  have hGs:GC.size=19:=by rw [← hG0];rfl
  obtain ⟨G,hG⟩:∃ G,Value.agg #[.string s,.int .i64 x.K,.int .i64 x.N,.string x.S,.string x.Z,.int .i64 x.T.K,.int .i64 x.T.N,.slice b1 m1 e1,.slice b2 m2 e2,.slice b3 m3 e3,.int .i64 y.K,.int .i64 y.N,.string y.S,.string y.Z,.int .i64 y.T.K,.int .i64 y.T.N,.slice d1 n1 f1,.slice d2 n2 f2,.slice d3 n3 f3]=G:=⟨_,rfl⟩
  have hM:G.cells=GC:=by rw [← hG,← hG0];rfl
  have hST:(storeCells ⟨w.heap.size+1,0,none⟩ GC.toList).run Tryz.prog X4.drew=.ok () Y:=store_cells rZ hG0 (Nat.le_refl _) hY (by simp [Value.oneCell'])
  unfold Value.cells at hM
  clear hG0
  clear hY hYo hYr
  go_enter Tryz.func74,Tryz.ntmps74
  go_upto_region 1 with fail
  rw [← HX.out]
  go_upto_region 4 with fail
  rw [← HX2.out]
  go_upto_region 6 with fail
  rw [← HX3.out]
  go_upto_region 8 with fail
  rw [← HX4.out]
  go_region_held3 (fun W=>W.cell? ⟨w.heap.size+4,1,none⟩=some (.string s)∧W.cell? ⟨w.heap.size,8,none⟩=some (.slice (some ⟨g,0,none⟩) 2 c3)∧W.cell? ⟨g,8,none⟩=some (.slice (some ⟨g2,0,none⟩) 1 s3)∧W.cell? ⟨g,9,none⟩=some (.int .i64 x.K)∧W.cell? ⟨g,10,none⟩=some (.int .i64 x.N)∧W.cell? ⟨g,11,none⟩=some (.string x.S)∧W.cell? ⟨g,12,none⟩=some (.string x.Z)∧W.cell? ⟨g,13,none⟩=some (.int .i64 x.T.K)∧W.cell? ⟨g,14,none⟩=some (.int .i64 x.T.N)∧W.cell? ⟨g,15,none⟩=some (.slice b1 m1 e1)∧W.cell? ⟨g,16,none⟩=some (.slice b2 m2 e2)∧W.cell? ⟨g,17,none⟩=some (.slice b3 m3 e3)∧W.cell? ⟨g2,0,none⟩=some (.int .i64 y.K)∧W.cell? ⟨g2,1,none⟩=some (.int .i64 y.N)∧W.cell? ⟨g2,2,none⟩=some (.string y.S)∧W.cell? ⟨g2,3,none⟩=some (.string y.Z)∧W.cell? ⟨g2,4,none⟩=some (.int .i64 y.T.K)∧W.cell? ⟨g2,5,none⟩=some (.int .i64 y.T.N)∧W.cell? ⟨g2,6,none⟩=some (.slice d1 n1 f1)∧W.cell? ⟨g2,7,none⟩=some (.slice d2 n2 f2)∧W.cell? ⟨g2,8,none⟩=some (.slice d3 n3 f3))
    (with_reducible refine HBX.out _ (fun k h=>?_);(first | exact HYO.out k h | exact drewG' _ k)) (fail)
  all_goals
    subst hG
    clear hM hGs hST
    go_wp2_with fail
    (try simp only [Exit.inBlock,Exit.then]);refine bodyPost_ret (v:=.tuple #[.agg #[.string s,.int .i64 x.K,.int .i64 x.N,.string x.S,.string x.Z,.int .i64 x.T.K,.int .i64 x.T.N,.slice b1 m1 e1,.slice b2 m2 e2,.slice b3 m3 e3,.int .i64 y.K,.int .i64 y.N,.string y.S,.string y.Z,.int .i64 y.T.K,.int .i64 y.T.N,.slice d1 n1 f1,.slice d2 n2 f2,.slice d3 n3 f3],.bool true]) (results_two (by rfl) (by rfl) (by rfl) HLV.out) rfl ?_
    exact ⟨rfl,by first | with_reducible exact hYb | with_reducible exact hYb.drew⟩
set_option maxRecDepth 100000 in
set_option maxHeartbeats 4000000 in
theorem givenBy_app (t:Tm) (a1:Option Addr) (l1 c1:Nat) (a2:Option Addr) (l2 c2:Nat) (a3:Option Addr) (l3 c3:Nat) (nn:Int) (τ0 τ1:TypeId) (u0 u1:Value) (h0:τ0≠110) (w:World) :
    Calls Tryz.prog 74 #[.agg #[.int .i64 t.K,.int .i64 t.N,.string t.S,.string t.Z,.int .i64 t.T.K,.int .i64 t.T.N,.slice a1 l1 c1,.slice a2 l2 c2,.slice a3 l3 c3],.iface 112 (.agg #[.int .i64 nn,.iface τ0 u0,.iface τ1 u1])] w fun e w'=>e=.returned (.tuple #[.agg #[.string ⟨#[]⟩,.int .i64 0,.int .i64 0,.string ⟨#[]⟩,.string ⟨#[]⟩,.int .i64 0,.int .i64 0,.slice none 0 0,.slice none 0 0,.slice none 0 0,.int .i64 0,.int .i64 0,.string ⟨#[]⟩,.string ⟨#[]⟩,.int .i64 0,.int .i64 0,.slice none 0 0,.slice none 0 0,.slice none 0 0],.bool false])∧Below w.heap.size w w':=by
  have as0:=fun (W:World) (v:Value)=>no_letForm W 112 v (by decide)
  have as1:=fun (W:World) (v:Value)=>is_appForm W v
  have as2:=fun (W:World) (v:Value)=>no_fnForm W τ0 v h0
  obtain ⟨X,hX⟩:∃ X,X=(w.alloc (.cells #[.int .i64 t.K,.int .i64 t.N,.string t.S,.string t.Z,.int .i64 t.T.K,.int .i64 t.T.N,.slice a1 l1 c1,.slice a2 l2 c2,.slice a3 l3 c3] 34)).alloc (.cells #[.string ⟨#[]⟩,.int .i64 0,.int .i64 0,.string ⟨#[]⟩,.string ⟨#[]⟩,.int .i64 0,.int .i64 0,.slice none 0 0,.slice none 0 0,.slice none 0 0,.int .i64 0,.int .i64 0,.string ⟨#[]⟩,.string ⟨#[]⟩,.int .i64 0,.int .i64 0,.slice none 0 0,.slice none 0 0,.slice none 0 0] 97):=⟨_,rfl⟩
  have hXs:X.heap.size=w.heap.size+2:=by rw [hX];simp
  have hXb:Below w.heap.size w X:=by rw [hX];exact ((Below.refl _ _).alloc (Nat.le_refl _) _).alloc (by simp) _
  have hX0:X.heap[w.heap.size]?=some (.cells #[.int .i64 t.K,.int .i64 t.N,.string t.S,.string t.Z,.int .i64 t.T.K,.int .i64 t.T.N,.slice a1 l1 c1,.slice a2 l2 c2,.slice a3 l3 c3] 34 (0,0)):=by rw [hX,Below.heap_alloc _ _ _ (by simp)];exact heap_new rfl
  have hX1:X.heap[w.heap.size+1]?=some (.cells #[.string ⟨#[]⟩,.int .i64 0,.int .i64 0,.string ⟨#[]⟩,.string ⟨#[]⟩,.int .i64 0,.int .i64 0,.slice none 0 0,.slice none 0 0,.slice none 0 0,.int .i64 0,.int .i64 0,.string ⟨#[]⟩,.string ⟨#[]⟩,.int .i64 0,.int .i64 0,.slice none 0 0,.slice none 0 0,.slice none 0 0] 97 (0,0)):=by rw [hX];exact heap_new (by simp)
  have HX:Hid (X=_):=hX
  clear hX
  obtain ⟨X2,hX2⟩:∃ X2,X2=X.alloc (.cells #[.string ⟨#[]⟩,.int .i64 0,.nilIface,.nilIface] 114):=⟨_,rfl⟩
  have hX2X:Below X.heap.size X X2:=by rw [hX2];exact (Below.refl _ _).alloc (Nat.le_refl _) _
  have hX2b:Below w.heap.size w X2:=hXb.trans (hX2X.mono (by omega))
  have hX2s:X2.heap.size=X.heap.size+1:=by rw [hX2];simp
  have hX2n:X2.heap[X.heap.size]?=some (.cells #[.string ⟨#[]⟩,.int .i64 0,.nilIface,.nilIface] 114 (0,0)):=by rw [hX2];exact heap_new rfl
  have HX2:Hid (X2=_):=hX2
  clear hX2
  obtain ⟨X3,hX3⟩:∃ X3,X3=X2.alloc (.cells #[.int .i64 nn,.iface τ0 u0,.iface τ1 u1] 112):=⟨_,rfl⟩
  have hX3X:Below X2.heap.size X2 X3:=by rw [hX3];exact (Below.refl _ _).alloc (Nat.le_refl _) _
  have hX3b:Below w.heap.size w X3:=hX2b.trans (hX3X.mono (by omega))
  have hX3s:X3.heap.size=X2.heap.size+1:=by rw [hX3];simp
  have hX3n:X3.heap[X2.heap.size]?=some (.cells #[.int .i64 nn,.iface τ0 u0,.iface τ1 u1] 112 (0,0)):=by rw [hX3];exact heap_new rfl
  have HX3:Hid (X3=_):=hX3
  clear hX3
  obtain ⟨X4,hX4⟩:∃ X4,X4=X3.alloc (.cells #[.int .i64 0,.string ⟨#[]⟩,.int .i64 0,.int .i64 0,.slice none 0 0,.nilIface] 110):=⟨_,rfl⟩
  have hX4X:Below X3.heap.size X3 X4:=by rw [hX4];exact (Below.refl _ _).alloc (Nat.le_refl _) _
  have hX4b:Below w.heap.size w X4:=hX3b.trans (hX4X.mono (by omega))
  have hX4s:X4.heap.size=X3.heap.size+1:=by rw [hX4];simp
  have hX4n:X4.heap[X3.heap.size]?=some (.cells #[.int .i64 0,.string ⟨#[]⟩,.int .i64 0,.int .i64 0,.slice none 0 0,.nilIface] 110 (0,0)):=by rw [hX4];exact heap_new rfl
  have HX4:Hid (X4=_):=hX4
  clear hX4
  have hLX:Below X.heap.size X X4:=hX2X.trans ((hX3X.trans (hX4X.mono (by omega))).mono (by omega))
  have rT:=(hLX.block w.heap.size (by omega)).trans hX0
  have rZ:=(hLX.block (w.heap.size+1) (by omega)).trans hX1
  obtain ⟨y0,y1,y2,y3,y4,y5,y6,y7,y8⟩:=Nine.box rT
  obtain ⟨z0,z1,z2,z3,z4,z5,z6,z7,z8,z9,z10,z11,z12,z13,z14,z15,z16,z17,z18⟩:=cells19 rZ
  have zf:=row_free rZ
  have HB:Hid (Below w.heap.size w X4):=hX4b
  have k2:X3.cell? ⟨w.heap.size+3,1,none⟩=some (.iface τ0 u0):=by rw [show w.heap.size+3=X2.heap.size by omega];exact row_cell hX3n 1
  go_enter Tryz.func74,Tryz.ntmps74
  go_upto_region 1 with fail
  rw [← HX.out]
  go_upto_region 4 with fail
  rw [← HX2.out]
  go_upto_region 6 with fail
  rw [← HX3.out]
  go_upto_region 9 with fail
  rw [← HX4.out]
  obtain ⟨Y,hY⟩:∃ Y,Y=X4.setCells (w.heap.size+1) 0 (#[.string ⟨#[]⟩,.int .i64 0,.int .i64 0,.string ⟨#[]⟩,.string ⟨#[]⟩,.int .i64 0,.int .i64 0,.slice none 0 0,.slice none 0 0,.slice none 0 0,.int .i64 0,.int .i64 0,.string ⟨#[]⟩,.string ⟨#[]⟩,.int .i64 0,.int .i64 0,.slice none 0 0,.slice none 0 0,.slice none 0 0]:Array Value).toList:=⟨_,rfl⟩
  have hYo:∀ k,k≠w.heap.size+1→Y.heap[k]?=X4.heap[k]?:=fun k hk=>by rw [hY];exact setCells_other _ _ _ _ k hk
  have hYb:Below w.heap.size w Y:=by rw [hY];exact setCells_below (Nat.le_succ _) _ _ hX4b
  have hYr:Y.heap[w.heap.size+1]?=some (.cells #[.string ⟨#[]⟩,.int .i64 0,.int .i64 0,.string ⟨#[]⟩,.string ⟨#[]⟩,.int .i64 0,.int .i64 0,.slice none 0 0,.slice none 0 0,.slice none 0 0,.int .i64 0,.int .i64 0,.string ⟨#[]⟩,.string ⟨#[]⟩,.int .i64 0,.int .i64 0,.slice none 0 0,.slice none 0 0,.slice none 0 0] 97 (0,0)):=by rw [hY];exact setCells_rowP (cs':=#[.string ⟨#[]⟩,.int .i64 0,.int .i64 0,.string ⟨#[]⟩,.string ⟨#[]⟩,.int .i64 0,.int .i64 0,.slice none 0 0,.slice none 0 0,.slice none 0 0,.int .i64 0,.int .i64 0,.string ⟨#[]⟩,.string ⟨#[]⟩,.int .i64 0,.int .i64 0,.slice none 0 0,.slice none 0 0,.slice none 0 0]) rZ rfl
  have HYO:Hid (∀ k,k≠w.heap.size+1→Y.heap[k]?=X4.heap[k]?):=hYo
  have HYR:Hid (Y.heap[w.heap.size+1]?=some (.cells #[.string ⟨#[]⟩,.int .i64 0,.int .i64 0,.string ⟨#[]⟩,.string ⟨#[]⟩,.int .i64 0,.int .i64 0,.slice none 0 0,.slice none 0 0,.slice none 0 0,.int .i64 0,.int .i64 0,.string ⟨#[]⟩,.string ⟨#[]⟩,.int .i64 0,.int .i64 0,.slice none 0 0,.slice none 0 0,.slice none 0 0] 97 (0,0))):=hYr
  have HLV:Hid ((loadVar 97 ⟨w.heap.size+1,0,none⟩).run Tryz.prog Y=.ok (.agg #[.string ⟨#[]⟩,.int .i64 0,.int .i64 0,.string ⟨#[]⟩,.string ⟨#[]⟩,.int .i64 0,.int .i64 0,.slice none 0 0,.slice none 0 0,.slice none 0 0,.int .i64 0,.int .i64 0,.string ⟨#[]⟩,.string ⟨#[]⟩,.int .i64 0,.int .i64 0,.slice none 0 0,.slice none 0 0,.slice none 0 0]) Y):=run_loadVar_mid (cs:=[.string ⟨#[]⟩,.int .i64 0,.int .i64 0,.string ⟨#[]⟩,.string ⟨#[]⟩,.int .i64 0,.int .i64 0,.slice none 0 0,.slice none 0 0,.slice none 0 0,.int .i64 0,.int .i64 0,.string ⟨#[]⟩,.string ⟨#[]⟩,.int .i64 0,.int .i64 0,.slice none 0 0,.slice none 0 0,.slice none 0 0]) Y (w.heap.size+1) 0 97 _ (range_row hYr) Tryz.underlying97 rfl (by rfl)
  obtain ⟨GC,hG0⟩:∃ GC,(#[.string ⟨#[]⟩,.int .i64 0,.int .i64 0,.string ⟨#[]⟩,.string ⟨#[]⟩,.int .i64 0,.int .i64 0,.slice none 0 0,.slice none 0 0,.slice none 0 0,.int .i64 0,.int .i64 0,.string ⟨#[]⟩,.string ⟨#[]⟩,.int .i64 0,.int .i64 0,.slice none 0 0,.slice none 0 0,.slice none 0 0]:Array Value)=GC:=⟨_,rfl⟩
  have hGs:GC.size=19:=by rw [← hG0];rfl
  obtain ⟨G,hG⟩:∃ G,Value.agg #[.string ⟨#[]⟩,.int .i64 0,.int .i64 0,.string ⟨#[]⟩,.string ⟨#[]⟩,.int .i64 0,.int .i64 0,.slice none 0 0,.slice none 0 0,.slice none 0 0,.int .i64 0,.int .i64 0,.string ⟨#[]⟩,.string ⟨#[]⟩,.int .i64 0,.int .i64 0,.slice none 0 0,.slice none 0 0,.slice none 0 0]=G:=⟨_,rfl⟩
  have hM:G.cells=GC:=by rw [← hG,← hG0];rfl
  have hST:(storeCells ⟨w.heap.size+1,0,none⟩ GC.toList).run Tryz.prog X4=.ok () Y:=store_cellsP rZ hG0 (Nat.le_refl _) hY (by simp [Value.oneCell'])
  unfold Value.cells at hM
  clear hG0
  clear hY hYo hYr
  go_wp2_with fail
  subst hG
  clear hM hGs hST
  (try simp only [Exit.inBlock,Exit.then]);refine bodyPost_ret (v:=.tuple #[.agg #[.string ⟨#[]⟩,.int .i64 0,.int .i64 0,.string ⟨#[]⟩,.string ⟨#[]⟩,.int .i64 0,.int .i64 0,.slice none 0 0,.slice none 0 0,.slice none 0 0,.int .i64 0,.int .i64 0,.string ⟨#[]⟩,.string ⟨#[]⟩,.int .i64 0,.int .i64 0,.slice none 0 0,.slice none 0 0,.slice none 0 0],.bool false]) (results_two (by rfl) (by rfl) (by rfl) HLV.out) rfl ?_
  exact ⟨rfl,by first | with_reducible exact hYb | with_reducible exact hYb.drew⟩
set_option maxRecDepth 100000 in
set_option maxHeartbeats 4000000 in
theorem givenBy_no (t:Tm) (a1:Option Addr) (l1 c1:Nat) (a2:Option Addr) (l2 c2:Nat) (a3:Option Addr) (l3 c3:Nat) (τ0:TypeId) (u0:Value) (h0:τ0≠114) (h1:τ0≠112) (w:World) :
    Calls Tryz.prog 74 #[.agg #[.int .i64 t.K,.int .i64 t.N,.string t.S,.string t.Z,.int .i64 t.T.K,.int .i64 t.T.N,.slice a1 l1 c1,.slice a2 l2 c2,.slice a3 l3 c3],.iface τ0 u0] w fun e w'=>e=.returned (.tuple #[.agg #[.string ⟨#[]⟩,.int .i64 0,.int .i64 0,.string ⟨#[]⟩,.string ⟨#[]⟩,.int .i64 0,.int .i64 0,.slice none 0 0,.slice none 0 0,.slice none 0 0,.int .i64 0,.int .i64 0,.string ⟨#[]⟩,.string ⟨#[]⟩,.int .i64 0,.int .i64 0,.slice none 0 0,.slice none 0 0,.slice none 0 0],.bool false])∧Below w.heap.size w w':=by
  have as0:=fun (W:World) (v:Value)=>no_letForm W τ0 v h0
  have as1:=fun (W:World) (v:Value)=>no_appForm W τ0 v h1
  obtain ⟨X,hX⟩:∃ X,X=(w.alloc (.cells #[.int .i64 t.K,.int .i64 t.N,.string t.S,.string t.Z,.int .i64 t.T.K,.int .i64 t.T.N,.slice a1 l1 c1,.slice a2 l2 c2,.slice a3 l3 c3] 34)).alloc (.cells #[.string ⟨#[]⟩,.int .i64 0,.int .i64 0,.string ⟨#[]⟩,.string ⟨#[]⟩,.int .i64 0,.int .i64 0,.slice none 0 0,.slice none 0 0,.slice none 0 0,.int .i64 0,.int .i64 0,.string ⟨#[]⟩,.string ⟨#[]⟩,.int .i64 0,.int .i64 0,.slice none 0 0,.slice none 0 0,.slice none 0 0] 97):=⟨_,rfl⟩
  have hXs:X.heap.size=w.heap.size+2:=by rw [hX];simp
  have hXb:Below w.heap.size w X:=by rw [hX];exact ((Below.refl _ _).alloc (Nat.le_refl _) _).alloc (by simp) _
  have hX0:X.heap[w.heap.size]?=some (.cells #[.int .i64 t.K,.int .i64 t.N,.string t.S,.string t.Z,.int .i64 t.T.K,.int .i64 t.T.N,.slice a1 l1 c1,.slice a2 l2 c2,.slice a3 l3 c3] 34 (0,0)):=by rw [hX,Below.heap_alloc _ _ _ (by simp)];exact heap_new rfl
  have hX1:X.heap[w.heap.size+1]?=some (.cells #[.string ⟨#[]⟩,.int .i64 0,.int .i64 0,.string ⟨#[]⟩,.string ⟨#[]⟩,.int .i64 0,.int .i64 0,.slice none 0 0,.slice none 0 0,.slice none 0 0,.int .i64 0,.int .i64 0,.string ⟨#[]⟩,.string ⟨#[]⟩,.int .i64 0,.int .i64 0,.slice none 0 0,.slice none 0 0,.slice none 0 0] 97 (0,0)):=by rw [hX];exact heap_new (by simp)
  have HX:Hid (X=_):=hX
  clear hX
  obtain ⟨X2,hX2⟩:∃ X2,X2=X.alloc (.cells #[.string ⟨#[]⟩,.int .i64 0,.nilIface,.nilIface] 114):=⟨_,rfl⟩
  have hX2X:Below X.heap.size X X2:=by rw [hX2];exact (Below.refl _ _).alloc (Nat.le_refl _) _
  have hX2b:Below w.heap.size w X2:=hXb.trans (hX2X.mono (by omega))
  have hX2s:X2.heap.size=X.heap.size+1:=by rw [hX2];simp
  have hX2n:X2.heap[X.heap.size]?=some (.cells #[.string ⟨#[]⟩,.int .i64 0,.nilIface,.nilIface] 114 (0,0)):=by rw [hX2];exact heap_new rfl
  have HX2:Hid (X2=_):=hX2
  clear hX2
  obtain ⟨X3,hX3⟩:∃ X3,X3=X2.alloc (.cells #[.int .i64 0,.nilIface,.nilIface] 112):=⟨_,rfl⟩
  have hX3X:Below X2.heap.size X2 X3:=by rw [hX3];exact (Below.refl _ _).alloc (Nat.le_refl _) _
  have hX3b:Below w.heap.size w X3:=hX2b.trans (hX3X.mono (by omega))
  have hX3s:X3.heap.size=X2.heap.size+1:=by rw [hX3];simp
  have hX3n:X3.heap[X2.heap.size]?=some (.cells #[.int .i64 0,.nilIface,.nilIface] 112 (0,0)):=by rw [hX3];exact heap_new rfl
  have HX3:Hid (X3=_):=hX3
  clear hX3
  have hLX:Below X.heap.size X X3:=hX2X.trans (hX3X.mono (by omega))
  have rT:=(hLX.block w.heap.size (by omega)).trans hX0
  have rZ:=(hLX.block (w.heap.size+1) (by omega)).trans hX1
  obtain ⟨y0,y1,y2,y3,y4,y5,y6,y7,y8⟩:=Nine.box rT
  obtain ⟨z0,z1,z2,z3,z4,z5,z6,z7,z8,z9,z10,z11,z12,z13,z14,z15,z16,z17,z18⟩:=cells19 rZ
  have zf:=row_free rZ
  have HB:Hid (Below w.heap.size w X3):=hX3b
  go_enter Tryz.func74,Tryz.ntmps74
  go_upto_region 1 with fail
  rw [← HX.out]
  go_upto_region 4 with fail
  rw [← HX2.out]
  go_upto_region 9 with fail
  rw [← HX3.out]
  obtain ⟨Y,hY⟩:∃ Y,Y=X3.setCells (w.heap.size+1) 0 (#[.string ⟨#[]⟩,.int .i64 0,.int .i64 0,.string ⟨#[]⟩,.string ⟨#[]⟩,.int .i64 0,.int .i64 0,.slice none 0 0,.slice none 0 0,.slice none 0 0,.int .i64 0,.int .i64 0,.string ⟨#[]⟩,.string ⟨#[]⟩,.int .i64 0,.int .i64 0,.slice none 0 0,.slice none 0 0,.slice none 0 0]:Array Value).toList:=⟨_,rfl⟩
  have hYo:∀ k,k≠w.heap.size+1→Y.heap[k]?=X3.heap[k]?:=fun k hk=>by rw [hY];exact setCells_other _ _ _ _ k hk
  have hYb:Below w.heap.size w Y:=by rw [hY];exact setCells_below (Nat.le_succ _) _ _ hX3b
  have hYr:Y.heap[w.heap.size+1]?=some (.cells #[.string ⟨#[]⟩,.int .i64 0,.int .i64 0,.string ⟨#[]⟩,.string ⟨#[]⟩,.int .i64 0,.int .i64 0,.slice none 0 0,.slice none 0 0,.slice none 0 0,.int .i64 0,.int .i64 0,.string ⟨#[]⟩,.string ⟨#[]⟩,.int .i64 0,.int .i64 0,.slice none 0 0,.slice none 0 0,.slice none 0 0] 97 (0,0)):=by rw [hY];exact setCells_rowP (cs':=#[.string ⟨#[]⟩,.int .i64 0,.int .i64 0,.string ⟨#[]⟩,.string ⟨#[]⟩,.int .i64 0,.int .i64 0,.slice none 0 0,.slice none 0 0,.slice none 0 0,.int .i64 0,.int .i64 0,.string ⟨#[]⟩,.string ⟨#[]⟩,.int .i64 0,.int .i64 0,.slice none 0 0,.slice none 0 0,.slice none 0 0]) rZ rfl
  have HYO:Hid (∀ k,k≠w.heap.size+1→Y.heap[k]?=X3.heap[k]?):=hYo
  have HYR:Hid (Y.heap[w.heap.size+1]?=some (.cells #[.string ⟨#[]⟩,.int .i64 0,.int .i64 0,.string ⟨#[]⟩,.string ⟨#[]⟩,.int .i64 0,.int .i64 0,.slice none 0 0,.slice none 0 0,.slice none 0 0,.int .i64 0,.int .i64 0,.string ⟨#[]⟩,.string ⟨#[]⟩,.int .i64 0,.int .i64 0,.slice none 0 0,.slice none 0 0,.slice none 0 0] 97 (0,0))):=hYr
  have HLV:Hid ((loadVar 97 ⟨w.heap.size+1,0,none⟩).run Tryz.prog Y=.ok (.agg #[.string ⟨#[]⟩,.int .i64 0,.int .i64 0,.string ⟨#[]⟩,.string ⟨#[]⟩,.int .i64 0,.int .i64 0,.slice none 0 0,.slice none 0 0,.slice none 0 0,.int .i64 0,.int .i64 0,.string ⟨#[]⟩,.string ⟨#[]⟩,.int .i64 0,.int .i64 0,.slice none 0 0,.slice none 0 0,.slice none 0 0]) Y):=run_loadVar_mid (cs:=[.string ⟨#[]⟩,.int .i64 0,.int .i64 0,.string ⟨#[]⟩,.string ⟨#[]⟩,.int .i64 0,.int .i64 0,.slice none 0 0,.slice none 0 0,.slice none 0 0,.int .i64 0,.int .i64 0,.string ⟨#[]⟩,.string ⟨#[]⟩,.int .i64 0,.int .i64 0,.slice none 0 0,.slice none 0 0,.slice none 0 0]) Y (w.heap.size+1) 0 97 _ (range_row hYr) Tryz.underlying97 rfl (by rfl)
  obtain ⟨GC,hG0⟩:∃ GC,(#[.string ⟨#[]⟩,.int .i64 0,.int .i64 0,.string ⟨#[]⟩,.string ⟨#[]⟩,.int .i64 0,.int .i64 0,.slice none 0 0,.slice none 0 0,.slice none 0 0,.int .i64 0,.int .i64 0,.string ⟨#[]⟩,.string ⟨#[]⟩,.int .i64 0,.int .i64 0,.slice none 0 0,.slice none 0 0,.slice none 0 0]:Array Value)=GC:=⟨_,rfl⟩
  have hGs:GC.size=19:=by rw [← hG0];rfl
  obtain ⟨G,hG⟩:∃ G,Value.agg #[.string ⟨#[]⟩,.int .i64 0,.int .i64 0,.string ⟨#[]⟩,.string ⟨#[]⟩,.int .i64 0,.int .i64 0,.slice none 0 0,.slice none 0 0,.slice none 0 0,.int .i64 0,.int .i64 0,.string ⟨#[]⟩,.string ⟨#[]⟩,.int .i64 0,.int .i64 0,.slice none 0 0,.slice none 0 0,.slice none 0 0]=G:=⟨_,rfl⟩
  have hM:G.cells=GC:=by rw [← hG,← hG0];rfl
  have hST:(storeCells ⟨w.heap.size+1,0,none⟩ GC.toList).run Tryz.prog X3=.ok () Y:=store_cellsP rZ hG0 (Nat.le_refl _) hY (by simp [Value.oneCell'])
  unfold Value.cells at hM
  clear hG0
  clear hY hYo hYr
  go_wp2_with fail
  subst hG
  clear hM hGs hST
  (try simp only [Exit.inBlock,Exit.then]);refine bodyPost_ret (v:=.tuple #[.agg #[.string ⟨#[]⟩,.int .i64 0,.int .i64 0,.string ⟨#[]⟩,.string ⟨#[]⟩,.int .i64 0,.int .i64 0,.slice none 0 0,.slice none 0 0,.slice none 0 0,.int .i64 0,.int .i64 0,.string ⟨#[]⟩,.string ⟨#[]⟩,.int .i64 0,.int .i64 0,.slice none 0 0,.slice none 0 0,.slice none 0 0],.bool false]) (results_two (by rfl) (by rfl) (by rfl) HLV.out) rfl ?_
  exact ⟨rfl,by first | with_reducible exact hYb | with_reducible exact hYb.drew⟩
end Go.Proofs.YtcepgedbmffkdaaGreat
