/-
  What the other steps of 'ownTerm' make of its state.
-/
import Derived.Test.YtcepgedbmffkdaaGreatFbaZ41
import Derived.Test.YtcepgedbmffkdaaGreatFbaZ30
import Derived.Test.YtcepgedbmffkdaaGreatFbaZ27
import Derived.Test.YtcepgedbmffkdaaGreatFbaZ6
import Derived.Deep.Cut
import Derived.Deep.CutRange
namespace Go.Proofs.YtcepgedbmffkdaaGreat
open Go.RowKit
set_option linter.unusedVariables false
set_option linter.unusedSimpArgs false
theorem On.below {w X wr w1:World} {D d:Nat} {oM mM:Nat} {vM:Value} {oY mY:Nat} {vY:Value} {f:Nat→Nat} {E:List (Nat × Nat × Bool)} {pt:List TP} {py ex:List Cl} {hand:List Hd} (h:On w X wr D d oM mM vM oY mY vY f E pt py ex hand) (hb:Below wr.heap.size wr w1):On w X w1 D d oM mM vM oY mY vY f E pt py ex hand:=by
  obtain ⟨c1,h1,h1'⟩:=h.olM
  obtain ⟨c2,h2,h2'⟩:=h.olY
  exact ⟨h.gc.keep hb.size (fun g n k hg=>hb.block _ (h.gc.ltn g n k hg)),⟨c1,olM_below h1 hb,h1'⟩,⟨c2,olY_below h2 hb,h2'⟩,h.mm,h.bel.trans (hb.mono h.bel.size),h.bx,h.xs,h.low,h.eb,(hb.block _ (Array.getElem?_eq_some_iff.1 h.res).1).trans h.res,h.pyk,h.wt⟩
theorem nextM_on {w X wr:World} {D d:Nat} {oM mM:Nat} {vM:Value} {oY mY:Nat} {vY:Value} {f:Nat→Nat} {E:List (Nat × Nat × Bool)} {init:List TP} {x:TP} {py:List Cl} {hand:List Hd} (h:On w X wr D d oM mM vM oY mY vY f E (init ++ [x]) py [] hand) :
    Calls Tryz.prog 55 #[.pointer (some ⟨oM,0,none⟩)] wr fun e w'=>e=.returned (.pointer (some ⟨x.h,x.o,none⟩))∧∃ v',On w X w' D d oM mM v' oY mY vY f E init py [x.cA,x.cTs,x.cT] hand:=by
  obtain ⟨cs,hO,hcs⟩:=h.olM
  rw [List.map_append] at hO
  refine (nextM_any hO).mono ?_
  rintro e w' ⟨rfl,v',hO',hC⟩
  refine ⟨rfl,v',?_⟩
  obtain ⟨k1,k2,k3,k4⟩:=h.chgM hC
  refine ⟨(h.gc.keep hC.size k1).perm ?_,⟨cs,hO',hcs⟩,k2,h.mm,k3,h.bx,h.xs,h.low,h.eb,k4,h.pyk,?_⟩
  · rw [List.nil_append,List.flatMap_append,List.append_assoc]
    refine (List.perm_append_comm_assoc _ _ _).trans (List.Perm.append_right _ ?_)
    simp only [List.flatMap_cons,List.flatMap_nil,List.append_nil,TP.cells]
    exact ((List.Perm.swap _ _ _).cons _).trans ((List.Perm.swap _ _ _).trans ((List.Perm.swap _ _ _).cons _))
  · have h0:=h.wt
    rw [List.map_append,List.sum_append] at h0
    have e1:=cntM_eq x.t
    simp only [List.map_cons,List.map_nil,List.sum_cons,List.sum_nil,TP.wt,Cl.ew,TP.cA,TP.cTs,TP.cT] at h0 ⊢
    unfold ownM at e1
    omega
theorem nextY_on {w X wr:World} {D d:Nat} {oM mM:Nat} {vM:Value} {oY mY:Nat} {vY:Value} {f:Nat→Nat} {E:List (Nat × Nat × Bool)} {pt:List TP} {init:List Cl} {y:Cl} {hand:List Hd} (h:On w X wr D d oM mM vM oY mY vY f E pt (init ++ [y]) [] hand) :
    Calls Tryz.prog 58 #[.pointer (some ⟨oY,0,none⟩)] wr fun e w'=>e=.returned (.pointer (some ⟨y.h,y.o - 2,none⟩))∧∃ v',On w X w' D d oM mM vM oY mY v' f E pt init [y] hand:=by
  obtain ⟨cs,hO,hcs⟩:=h.olY
  rw [List.map_append] at hO
  refine (nextY_any hO).mono ?_
  rintro e w' ⟨rfl,v',hO',hC⟩
  refine ⟨rfl,v',?_⟩
  obtain ⟨k1,k2,k3,k4⟩:=h.chgY hC
  have hyk:=(h.pyk y (by simp)).1
  refine ⟨(h.gc.keep hC.size k1).perm ?_,k2,⟨cs,hO',hcs⟩,h.mm,k3,h.bx,h.xs,h.low,h.eb,k4,fun c hc=>h.pyk c (by simp [hc]),?_⟩
  · rw [List.nil_append,← List.append_assoc]
    exact List.perm_append_comm
  · have h0:=h.wt
    rw [List.map_append,List.sum_append] at h0
    simp only [List.map_cons,List.map_nil,List.sum_cons,List.sum_nil,Cl.wt,Cl.ew,hyk] at h0 ⊢
    omega
theorem On.lay {w X wr:World} {D d:Nat} {oM mM:Nat} {vM:Value} {oY mY:Nat} {vY:Value} {f:Nat→Nat} {E:List (Nat × Nat × Bool)} {pt:List TP} {py ex:List Cl} {z:Hd} {hand:List Hd} (h:On w X wr D d oM mM vM oY mY vY f E pt py ex (z :: hand)) {u':Value} (ht:TrV f E z.k z.u u') :
    On w X (wr.setCell ⟨z.h,z.o,none⟩ u') D d oM mM vM oY mY vY f E pt py ex hand:=by
  obtain ⟨c1,h1,h1'⟩:=h.olM
  obtain ⟨c2,h2,h2'⟩:=h.olY
  obtain ⟨g,n,k,q1,q2,_⟩:=h.gc.hnd z List.mem_cons_self
  obtain ⟨_,_,⟨c0,hc,_⟩,_⟩:=h.gc.row g n k q1
  have hl:=h.low g n k q1
  rw [← q2] at hc hl
  obtain ⟨a1,a2,a3⟩:=olM_ne h1 hc (by cases k <;> decide) (by cases k <;> decide)
  obtain ⟨b1,b2,b3⟩:=olY_ne h2 hc (by cases k <;> decide) (by cases k <;> decide)
  have hk:∀ b,b≠z.h→(wr.setCell ⟨z.h,z.o,none⟩ u').heap[b]?=wr.heap[b]?:=fun b hb=>row_other _ _ _ hb
  have hold:∀ b,b < w.heap.size+2→b≠z.h∨b=w.heap.size:=fun b hb=>by
    by_cases e:b=z.h
    · right;omega
    · exact Or.inl e
  refine ⟨h.gc.lay ht,⟨c1,?_,h1'⟩,⟨c2,?_,h2'⟩,h.mm,h.bel.setCell (p:=⟨z.h,z.o,none⟩) (by rcases hl with e | e <;> simp <;> omega) _,h.bx,h.xs,h.low,h.eb,(hk _ (by omega)).trans h.res,h.pyk,h.wt⟩
  · obtain ⟨z0,hz⟩:=h1.box
    refine ⟨by simpa using h1.bs,h1.opl,h1.mpl,⟨z0,(hk _ (fun e=>a1 e.symm)).trans hz⟩,own_keep h1.row fun b hb=>hk b (fun e=>a3 (e ▸ hb)),h1.blk,olM_map h1 fun _=>hk _ (fun e=>a2 e.symm),fun c hcc=>?_⟩
    obtain ⟨r1,a,t,r2⟩:=h1.key c hcc
    refine ⟨r1,?_⟩
    by_cases e:c=z.h
    · exact ⟨_,_,by rw [e];exact row_set hc _ _⟩
    · exact ⟨a,t,(hk c e).trans r2⟩
  · obtain ⟨z0,hz⟩:=h2.box
    refine ⟨by simpa using h2.bs,h2.opl,h2.mpl,⟨z0,(hk _ (fun e=>b1 e.symm)).trans hz⟩,own_keep h2.row fun b hb=>hk b (fun e=>b3 (e ▸ hb)),h2.blk,olY_map h2 fun _=>hk _ (fun e=>b2 e.symm),fun c hcc=>?_⟩
    obtain ⟨r1,a,t,r2⟩:=h2.key c hcc
    refine ⟨r1,?_⟩
    by_cases e:c=z.h
    · exact ⟨_,_,by rw [e];exact row_set hc _ _⟩
    · exact ⟨a,t,(hk c e).trans r2⟩
theorem On.push {w X wr:World} {D d:Nat} {oM mM:Nat} {vM:Value} {oY mY:Nat} {vY:Value} {f:Nat→Nat} {E:List (Nat × Nat × Bool)} {pt:List TP} {py:List Cl} {x:Cl} {ex:List Cl} {hand:List Hd} (h:On w X wr D d oM mM vM oY mY vY f E pt py (x :: ex) hand) (hk:x.k=false) (ho:2≤x.o) :
    ∃ g cap w2,(Builtin.append_ #[79,79] 79 #[vY,.slice (some ⟨wr.heap.size,0,none⟩) 1 1]).run Tryz.prog (wr.alloc (.cells #[.pointer (some ⟨x.h,x.o - 2,none⟩)] 84))=.ok (.slice (some ⟨g,0,none⟩) (py.length+1) cap) w2 ∧
      On w X (w2.setCell ⟨oY,1,none⟩ (.slice (some ⟨g,0,none⟩) (py.length+1) cap)) D d oM mM vM oY mY (.slice (some ⟨g,0,none⟩) (py.length+1) cap) f E pt (py ++ [x]) ex hand∧∃ z:Int,w2.heap[oY]?=some (.cells #[mvalY oY mY,vY,.int .i64 z] 81 (0,0)):=by
  obtain ⟨cs,hO,hcs⟩:=h.olY
  have hwt:=h.wt
  have hpl:=wt_lenC py
  obtain ⟨g,cap,w2,hrun,hO2,hC,hs,hz⟩:=olY_push hO (by rw [List.length_map];omega) (x.h,x.o - 2)
  rw [List.length_map] at hrun hO2 hC
  obtain ⟨k1,k2,k3,k4⟩:=h.chgY (hC.setOp 1 (.slice (some ⟨g,0,none⟩) (py.length+1) cap))
  refine ⟨g,cap,w2,hrun,⟨(h.gc.keep (hC.setOp 1 _).size k1).perm ?_,k2,⟨cs,by rw [List.map_append];exact hO2,hcs⟩,h.mm,k3,h.bx,h.xs,h.low,h.eb,k4,fun c hc=>?_,?_⟩,hz⟩
  · rw [List.cons_append,← List.append_assoc]
    refine (List.perm_append_singleton _ _).symm.trans ?_
    rw [List.append_assoc,List.append_assoc]
  · rcases List.mem_append.1 hc with hc | hc
    · exact h.pyk c hc
    · simp at hc;subst hc;exact ⟨hk,ho⟩
  · rw [List.map_cons,List.sum_cons] at hwt
    rw [List.map_append,List.sum_append]
    simp only [List.map_cons,List.map_nil,List.sum_cons,List.sum_nil,Cl.wt,Cl.ew,hk] at hwt ⊢
    omega
end Go.Proofs.YtcepgedbmffkdaaGreat

/-
  What 'ownTerm' comes to.
-/
namespace Go.Proofs.YtcepgedbmffkdaaGreat
open Go.RowKit
set_option linter.unusedVariables false
set_option linter.unusedSimpArgs false
theorem TrV.form {f:Nat→Nat} {E:List (Nat × Nat × Bool)} {k:Bool} {u u':Value} (h:TrV f E k u u'):∃ a l c,u'=.slice a l c:=by
  rcases h with ⟨_,_,_,e⟩ | ⟨_,_,_,_,_,_,e⟩
  · exact ⟨_,_,_,e⟩
  · exact ⟨_,_,_,e⟩
theorem Gc.swap {X wr:World} {D d:Nat} {f:Nat→Nat} {E:List (Nat × Nat × Bool)} {pend:List Cl} {a b:Hd} {hand:List Hd} (h:Gc X wr D d f E pend (a :: b :: hand)):Gc X wr D d f E pend (b :: a :: hand):=by
  have hp:(a :: b :: hand).Perm (b :: a :: hand):=List.Perm.swap _ _ _
  refine ⟨h.row,fun g n k o k' h1 h2 h3=>?_,h.pnd,fun z hz=>h.hnd z (hp.mem_iff.2 hz),h.ndo,h.lto,h.ndn,h.ltn,?_⟩
  · rcases h.slot g n k o k' h1 h2 h3 with e | ⟨z,hz,e⟩ | e
    · exact Or.inl e
    · exact Or.inr (Or.inl ⟨z,hp.mem_iff.1 hz,e⟩)
    · exact Or.inr (Or.inr e)
  · exact (((hp.map _).append_left _).nodup_iff).1 h.nda
theorem On.swap {w X wr:World} {D d:Nat} {oM mM:Nat} {vM:Value} {oY mY:Nat} {vY:Value} {f:Nat→Nat} {E:List (Nat × Nat × Bool)} {pt:List TP} {py ex:List Cl} {a b:Hd} {hand:List Hd} (h:On w X wr D d oM mM vM oY mY vY f E pt py ex (a :: b :: hand)):On w X wr D d oM mM vM oY mY vY f E pt py ex (b :: a :: hand) :=
  ⟨h.gc.swap,h.olM,h.olY,h.mm,h.bel,h.bx,h.xs,h.low,h.eb,h.res,h.pyk,h.wt⟩
theorem on_start {w X W:World} {D d:Nat} {t:Tm} {a1 a2 a3:Option Addr} {l1 l2 l3 c1 c2 c3:Nat} {bs:List Nat} {p1 p2 p3:List Nat} (hX:X=w.alloc (.cells #[.int .i64 t.K,.int .i64 t.N,.string t.S,.string t.Z,.int .i64 t.T.K,.int .i64 t.T.N,.slice a1 l1 c1,.slice a2 l2 c2,.slice a3 l3 c3] 34)) (hbs:bs=p1 ++ p2 ++ p3) (q1:Ow w D a1 l1 t.T.A p1) (q2:Ow w D a2 l2 t.Ts p2) (q3:OwM w D d a3 l3 t.A p3) (hnd:bs.Nodup) (hlt:∀ b ∈ bs,b < w.heap.size) (hc:cntM t≤1048576)
    (hb:Below w.heap.size w W) (h0:W.heap[w.heap.size]?=some (.cells #[.int .i64 t.K,.int .i64 t.N,.string t.S,.string t.Z,.int .i64 t.T.K,.int .i64 t.T.N,.slice a1 l1 c1,.slice a2 l2 c2,.slice a3 l3 c3] 34 (0,0))) (h1:W.heap[w.heap.size+1]?=some (.cells nineZ 34 (0,0))) (h3:W.heap[w.heap.size+2]?=some (.cells #[.pointer (some ⟨w.heap.size,0,none⟩)] 50 (0,0)))
    (h4:W.heap[w.heap.size+3]?=some (.cells #[.map none,.slice (some ⟨w.heap.size+2,0,none⟩) 1 1,.int .i64 0] 77 (0,0))) (h6:W.heap[w.heap.size+4]?=some (.cells #[.map none,.slice none 0 0,.int .i64 0] 81 (0,0))) :
    On w X W D d (w.heap.size+3) (w.heap.size+3) (.slice (some ⟨w.heap.size+2,0,none⟩) 1 1) (w.heap.size+4) (w.heap.size+4) (.slice none 0 0) id [(w.heap.size,1,true)] [⟨w.heap.size,0,t,a1,l1,c1,a2,l2,c2,a3,l3,c3,p1,p2,p3⟩] [] [] []:=by
  have hXb:Below w.heap.size w X:=by rw [hX];exact bN_alloc (Below.refl _ _)
  have hX0:X.heap[w.heap.size]?=some (.cells #[.int .i64 t.K,.int .i64 t.N,.string t.S,.string t.Z,.int .i64 t.T.K,.int .i64 t.T.N,.slice a1 l1 c1,.slice a2 l2 c2,.slice a3 l3 c3] 34 (0,0)):=by rw [hX];exact heap_new rfl
  have hXs:X.heap.size=w.heap.size+1:=by rw [hX];simp
  have hW:w.heap.size+4 < W.heap.size:=(Array.getElem?_eq_some_iff.1 h6).1
  have hin:∀ p:List Nat,(∀ b ∈ p,b ∈ bs)→∀ b ∈ p,X.heap[b]?=w.heap[b]?:=fun p hp b hb'=>hXb.block b (hlt b (hp b hb'))
  have r1:Ow X D a1 l1 t.T.A p1:=q1.keep (hin p1 fun b hb'=>by rw [hbs];simp [hb'])
  have r2:Ow X D a2 l2 t.Ts p2:=q2.keep (hin p2 fun b hb'=>by rw [hbs];simp [hb'])
  have r3:OwM X D d a3 l3 t.A p3:=q3.keep (hin p3 fun b hb'=>by rw [hbs];simp [hb'])
  have hsame:∀ o,W.cell? ⟨w.heap.size,o,none⟩=X.cell? ⟨w.heap.size,o,none⟩:=fun o=>by rw [row_cell h0,row_cell hX0]
  refine ⟨⟨?_,?_,?_,by simp,?_,?_,by simp,?_,?_⟩,⟨[],⟨by omega,by omega,by omega,⟨0,by rw [mvalM_no];exact h4⟩,?_,?_,Or.inl ⟨rfl,rfl⟩,by simp⟩,by simp⟩,⟨[],⟨by omega,by omega,by omega,⟨0,by rw [mvalY_no];exact h6⟩,⟨rfl,Or.inl ⟨rfl,rfl⟩⟩,fun x hx=>by simp [Value.ownBlock] at hx,Or.inl ⟨rfl,rfl⟩,by simp⟩,by simp⟩,by omega,hb,hXb,hXs,?_,⟨by simp,rfl⟩,h1,by simp,?_⟩
  · intro g n k hg
    simp only [List.mem_singleton,Prod.mk.injEq] at hg
    obtain ⟨rfl,rfl,rfl⟩:=hg
    exact ⟨by omega,by omega,⟨_,h0,by simp [szK]⟩,fun o _ _=>hsame o⟩
  · intro g n k o k' hg ho hs
    simp only [List.mem_singleton,Prod.mk.injEq] at hg
    obtain ⟨rfl,rfl,rfl⟩:=hg
    simp only [szK,Nat.one_mul] at ho hs
    rw [Nat.mod_eq_of_lt ho] at hs
    left
    match o,ho,hs with
    | 6,_,_=>exact ⟨_,by simp [TP.cells];left;rfl,rfl,rfl⟩
    | 7,_,_=>exact ⟨_,by simp [TP.cells];right;left;rfl,rfl,rfl⟩
    | 8,_,_=>exact ⟨_,by simp [TP.cells];right;right;rfl,rfl,rfl⟩
  · intro x hx
    simp only [List.nil_append,List.flatMap_cons,List.flatMap_nil,List.append_nil,TP.cells,List.mem_cons,List.not_mem_nil,or_false] at hx
    rcases hx with rfl | rfl | rfl
    · exact ⟨r1,row_cell h0 6,w.heap.size,1,true,by simp,rfl,by simp [TP.cT,szK],rfl,row_cell hX0 6⟩
    · exact ⟨r2,row_cell h0 7,w.heap.size,1,true,by simp,rfl,by simp [TP.cTs,szK],rfl,row_cell hX0 7⟩
    · exact ⟨r3,row_cell h0 8,w.heap.size,1,true,by simp,rfl,by simp [TP.cA,szK],rfl,row_cell hX0 8⟩
  · simp only [List.nil_append,List.flatMap_cons,List.flatMap_nil,List.append_nil,TP.cells,TP.cT,TP.cTs,TP.cA,List.map_cons,List.map_nil]
    rw [← List.append_assoc,← hbs]
    refine List.nodup_append.2 ⟨hnd,by simp,fun a ha b hb' e=>?_⟩
    simp at hb'
    have:=hlt a ha
    omega
  · intro b hb'
    simp only [List.nil_append,List.flatMap_cons,List.flatMap_nil,List.append_nil,TP.cells,TP.cT,TP.cTs,TP.cA,List.map_cons,List.map_nil] at hb'
    rw [← List.append_assoc,← hbs] at hb'
    rcases List.mem_append.1 hb' with hb' | hb'
    · have:=hlt b hb';omega
    · simp at hb';omega
  · intro g n k hg
    simp only [List.mem_singleton,Prod.mk.injEq] at hg
    obtain ⟨rfl,rfl,rfl⟩:=hg
    show w.heap.size < _
    omega
  · simp [TP.cells,TP.cT,TP.cTs,TP.cA]
  · exact ⟨rfl,Or.inr ⟨w.heap.size+2,1,_,rfl,by omega,h3,by simp,by unfold maxLen;simp,by simp,by simp [TP.ad]⟩⟩
  · intro x hx
    have:w.heap.size+2=x:=by simpa [Value.ownBlock] using hx
    omega
  · intro g n k hg
    simp only [List.mem_singleton,Prod.mk.injEq] at hg
    obtain ⟨rfl,rfl,rfl⟩:=hg
    exact Or.inl rfl
  · simp [TP.wt];omega
end Go.Proofs.YtcepgedbmffkdaaGreat

/-
  What 'ownTerm' comes to.
-/
namespace Go.Proofs.YtcepgedbmffkdaaGreat
open Go.RowKit
set_option linter.unusedVariables false
set_option linter.unusedSimpArgs false
def OnT (w X:World) (D d oM oY:Nat) (v:Value) (wr:World) (n:Nat):Prop:=∃ mM mY vM vY f E pt py,On w X wr D d oM mM vM oY mY vY f E pt py [] []∧(pt.map TP.wt).sum=n
def OnY (w X:World) (D d oM oY:Nat) (v:Value) (wr:World) (n:Nat):Prop:=∃ mM mY vM vY f E py,On w X wr D d oM mM vM oY mY vY f E [] py [] []∧(py.map Cl.wt).sum=n
theorem hand_cell {w X wr:World} {D d:Nat} {oM mM:Nat} {vM:Value} {oY mY:Nat} {vY:Value} {f:Nat→Nat} {E:List (Nat × Nat × Bool)} {pt:List TP} {py ex:List Cl} {z:Hd} {hand:List Hd} (h:On w X wr D d oM mM vM oY mY vY f E pt py ex (z :: hand)) :
    (∃ v,wr.cell? ⟨z.h,z.o,none⟩=some v)∧wr.frozen? ⟨z.h,z.o,none⟩=false:=by
  obtain ⟨g,n,k,q1,q2,q3,_⟩:=h.gc.hnd z (by simp)
  obtain ⟨_,_,⟨cs,hc,hs⟩,_⟩:=h.gc.row g n k q1
  rw [← q2] at hc
  exact ⟨⟨cs[z.o]'(by omega),by rw [row_cell hc,Array.getElem?_eq_getElem]⟩,row_free hc _⟩
theorem hand_cells {w X wr:World} {D d:Nat} {oM mM:Nat} {vM:Value} {oY mY:Nat} {vY:Value} {f:Nat→Nat} {E:List (Nat × Nat × Bool)} {pt:List TP} {py ex:List Cl} {b c:Nat} {k1 k2:Bool} {u1 u2:Value} {hand:List Hd} (h:On w X wr D d oM mM vM oY mY vY f E pt py ex (⟨b,c+7,k1,u1⟩ :: ⟨b,c+8,k2,u2⟩ :: hand)) :
    (∃ v,wr.cell? ⟨b,c+8,none⟩=some v)∧(∃ v,wr.cell? ⟨b,c+7,none⟩=some v)∧wr.frozen? ⟨b,c+8,none⟩=false∧wr.frozen? ⟨b,c+7,none⟩=false:=by
  obtain ⟨g,n,k,q1,q2,q3,_⟩:=h.gc.hnd ⟨b,c+7,k1,u1⟩ (by simp)
  obtain ⟨g',n',k',r1,r2,r3,_⟩:=h.gc.hnd ⟨b,c+8,k2,u2⟩ (by simp)
  simp only at q2 q3 r2 r3
  cases h.gc.inj q1 r1 (q2.symm.trans r2)
  obtain ⟨_,_,⟨cs,hc,hs⟩,_⟩:=h.gc.row g n k q1
  rw [← q2] at hc
  refine ⟨⟨cs[c+8]'(by omega),?_⟩,⟨cs[c+7]'(by omega),?_⟩,row_free hc _,row_free hc _⟩
  · rw [row_cell hc,Array.getElem?_eq_getElem]
  · rw [row_cell hc,Array.getElem?_eq_getElem]
set_option maxRecDepth 100000 in
set_option maxHeartbeats 8000000 in
theorem fin_newN {w w3:World} {base D d:Nat} {R:Tm} {b1 b2 b3:Option Addr} {m1 m2 m3 e1 e2 e3:Nat} (hf:FmO base w3.heap.size w3 D d R b1 m1 b2 m2 b3 m3) (hbase:w.heap.size+2≤base) (hb:Below w.heap.size w w3) {v0 v1 v2 v3 v4 v5 v6 v7 v8:Value} :
    NewM w D d R (.returned (.agg #[.int .i64 R.K,.int .i64 R.N,.string R.S,.string R.Z,.int .i64 R.T.K,.int .i64 R.T.N,.slice b1 m1 e1,.slice b2 m2 e2,.slice b3 m3 e3])) (((((((((w3.setCell ⟨w.heap.size+1,0,none⟩ v0).setCell ⟨w.heap.size+1,1,none⟩ v1).setCell ⟨w.heap.size+1,2,none⟩ v2).setCell ⟨w.heap.size+1,3,none⟩ v3).setCell ⟨w.heap.size+1,4,none⟩ v4).setCell ⟨w.heap.size+1,5,none⟩ v5).setCell ⟨w.heap.size+1,6,none⟩ v6).setCell ⟨w.heap.size+1,7,none⟩ v7).setCell ⟨w.heap.size+1,8,none⟩ v8):=by
  obtain ⟨bn,q1,q2,q3⟩:=hf
  have hWb:Below w.heap.size w (set9 w3 (w.heap.size+1) 0 v0 v1 v2 v3 v4 v5 v6 v7 v8):=set9_below hb (by omega)
  have hWs:(set9 w3 (w.heap.size+1) 0 v0 v1 v2 v3 v4 v5 v6 v7 v8).heap.size=w3.heap.size:=set9_size _ _ _ _ _ _ _ _ _ _ _ _
  have hWo:∀ g,g≠w.heap.size+1→(set9 w3 (w.heap.size+1) 0 v0 v1 v2 v3 v4 v5 v6 v7 v8).heap[g]?=w3.heap[g]?:=fun g hg=>set9_other g hg
  exact ⟨b1,m1,e1,b2,m2,e2,b3,m3,e3,rfl,hWb,bn,FldO.keep (fun g hg=>hWo g (by have:=q3 g hg;omega)) q1,q2,fun g hg=>⟨by have:=q3 g hg;omega,Nat.lt_of_lt_of_le (q3 g hg).2 (Nat.le_of_eq hWs.symm)⟩⟩
set_option maxRecDepth 100000 in
set_option maxHeartbeats 4000000 in
theorem ownTerm_any (D d L B:Nat) (t:Tm) (a1:Option Addr) (l1 c1:Nat) (a2:Option Addr) (l2 c2:Nat) (a3:Option Addr) (l3 c3:Nat) (w:World) (hB:B≤w.heap.size) (hf:FmO L B w D d t a1 l1 a2 l2 a3 l3) (hc:cntM t≤1048576) :
    Calls Tryz.prog 38 #[.agg #[.int .i64 t.K,.int .i64 t.N,.string t.S,.string t.Z,.int .i64 t.T.K,.int .i64 t.T.N,.slice a1 l1 c1,.slice a2 l2 c2,.slice a3 l3 c3]] w (NewM w D d t):=by
  obtain ⟨bs,⟨p1,p2,p3,hbs,z1,z2,q1,q2,q3⟩,hnd,hbd⟩:=hf
  obtain ⟨X,hX⟩:∃ X,X=w.alloc (.cells #[.int .i64 t.K,.int .i64 t.N,.string t.S,.string t.Z,.int .i64 t.T.K,.int .i64 t.T.N,.slice a1 l1 c1,.slice a2 l2 c2,.slice a3 l3 c3] 34):=⟨_,rfl⟩
  obtain ⟨W,hW⟩:∃ W,W=((((w.alloc (.cells #[.int .i64 t.K,.int .i64 t.N,.string t.S,.string t.Z,.int .i64 t.T.K,.int .i64 t.T.N,.slice a1 l1 c1,.slice a2 l2 c2,.slice a3 l3 c3] 34)).alloc (.cells #[.int .i64 0,.int .i64 0,.string ⟨#[]⟩,.string ⟨#[]⟩,.int .i64 0,.int .i64 0,.slice none 0 0,.slice none 0 0,.slice none 0 0] 34)).alloc (.cells #[.pointer (some ⟨w.heap.size,0,none⟩)] 50)).alloc (.cells #[.map none,.slice (some ⟨w.heap.size+1+1,0,none⟩) 1 1,.int .i64 0] 77)).alloc (.cells #[.map none,.slice none 0 0,.int .i64 0] 81):=⟨_,rfl⟩
  have hWb:Below w.heap.size w W:=by rw [hW];exact bN_alloc (bN_alloc (bN_alloc (bN_alloc (bN_alloc (Below.refl _ _)))))
  have HS:Hid (On w X W D d (w.heap.size+1+1+1) (w.heap.size+1+1+1) (.slice (some ⟨w.heap.size+1+1,0,none⟩) 1 1) (w.heap.size+1+1+1+1) (w.heap.size+1+1+1+1) (.slice none 0 0) id [(w.heap.size,1,true)] [⟨w.heap.size,0,t,a1,l1,c1,a2,l2,c2,a3,l3,c3,p1,p2,p3⟩] [] [] []):=by
    refine on_start hX hbs q1 q2 q3 hnd (fun b hb=>Nat.lt_of_lt_of_le (hbd b hb).2 hB) hc hWb ?_ ?_ ?_ ?_ ?_
    · rw [hW,Below.heap_alloc _ _ _ (by simp <;> omega),Below.heap_alloc _ _ _ (by simp <;> omega),Below.heap_alloc _ _ _ (by simp <;> omega),Below.heap_alloc _ _ _ (by simp)];exact heap_new rfl
    · rw [hW,Below.heap_alloc _ _ _ (by simp <;> omega),Below.heap_alloc _ _ _ (by simp <;> omega),Below.heap_alloc _ _ _ (by simp)];exact heap_new (by simp)
    · rw [hW,Below.heap_alloc _ _ _ (by simp <;> omega),Below.heap_alloc _ _ _ (by simp)];exact heap_new (by simp)
    · rw [hW,Below.heap_alloc _ _ _ (by simp)];exact heap_new (by simp)
    · rw [hW];exact heap_new (by simp)
  have HX:Hid (Nine X w.heap.size 0 t.K t.N t.S t.Z t.T.K t.T.N (.slice a1 l1 c1) (.slice a2 l2 c2) (.slice a3 l3 c3)∧FldO X D (OwM X D d) t a1 l1 a2 l2 a3 l3 bs∧bs.Nodup∧∀ b ∈ bs,b < w.heap.size):=by
    have hXb:Below w.heap.size w X:=by rw [hX];exact bN_alloc (Below.refl _ _)
    refine ⟨Nine.box (t:=34) (fr:=(0,0)) (by rw [hX];exact heap_new rfl),FldO.keep (fun b hb=>hXb.block b (Nat.lt_of_lt_of_le (hbd b hb).2 hB)) ⟨p1,p2,p3,hbs,z1,z2,q1,q2,q3⟩,hnd,fun b hb=>Nat.lt_of_lt_of_le (hbd b hb).2 hB⟩
  obtain ⟨μ,hμ⟩:=least_ex (OnT w X D d (w.heap.size+1+1+1) (w.heap.size+1+1+1+1))
  have HM:Hid (∀ v wr n,_):=hμ
  obtain ⟨ν,hν⟩:=least_ex (OnY w X D d (w.heap.size+1+1+1) (w.heap.size+1+1+1+1))
  have HV:Hid (∀ v wr n,_):=hν
  have HW:Hid (W=_):=hW
  clear hμ hν hW hX hWb hbs z1 z2 q1 q2 q3 hnd hbd hc hB
  go_enter Tryz.func38,Tryz.ntmps38
  go_wp2_with fail
  rw [← HW.out]
  clear HW
  generalize w.heap.size+1+1+1+1=oY at *
  generalize w.heap.size+1+1+1=oM at *
  generalize w.heap.size+1+1=lM at *
  go_loopw [5] (fun u wr=>∃ n,OnT w X D d oM oY u wr n) (fun u wr=>μ u wr)
  case atStart=>exact ⟨_,_,_,_,_,_,_,_,_,HS.out,rfl⟩
  case round =>
    obtain ⟨n0,hR0⟩:=hrel
    obtain ⟨_,mM,mY,vM,vY,f,E,pt,py,hO,hsum⟩:=HM.out _ _ _ hR0
    clear HS hR0
    obtain ⟨cM,hOM,_⟩:=hO.olM
    obtain ⟨zM,hzM⟩:=hOM.box
    have b1:=row_cell hzM 1
    rcases (by simpa [List.concat_eq_append] using List.eq_nil_or_concat pt:pt=[]∨∃ init it,pt=init ++ [it]) with rfl | ⟨init,x,rfl⟩
    · have hv:∃ ao cap,vM=.slice ao 0 cap:=by
        rcases hOM.row.2 with ⟨e,_⟩ | ⟨g,cap,cur,e,_⟩
        · exact ⟨none,0,e⟩
        · exact ⟨_,cap,e⟩
      obtain ⟨ao,cap,rfl⟩:=hv
      clear hOM hzM
      go_wp2_with fail
      clear b1
      go_loopw [6] (fun u wr=>∃ n,OnY w X D d oM oY u wr n) (fun u wr=>ν u wr)
      case atStart=>exact ⟨_,_,_,_,_,_,_,_,hO,rfl⟩
      case round =>
        obtain ⟨n1,hR1⟩:=hrel
        obtain ⟨_,mM',mY',vM',vY',f',E',py',hP,hsum'⟩:=HV.out _ _ _ hR1
        clear hO hR1
        obtain ⟨cY,hOY,_⟩:=hP.olY
        obtain ⟨zY,hzY⟩:=hOY.box
        have b1:=row_cell hzY 1
        rcases (by simpa [List.concat_eq_append] using List.eq_nil_or_concat py':py'=[]∨∃ init it,py'=init ++ [it]) with rfl | ⟨init,y,rfl⟩
        · have hv:∃ ao cap,vY'=.slice ao 0 cap:=by
            rcases hOY.row.2 with ⟨e,_⟩ | ⟨g,cap,cur,e,_⟩
            · exact ⟨none,0,e⟩
            · exact ⟨_,cap,e⟩
          obtain ⟨ao',cap',rfl⟩:=hv
          clear hOY hzY
          obtain ⟨x9,xo,xn,xl⟩:=HX.out
          obtain ⟨r1,m1,e1,r2,m2,e2,r3,m3,e3,bs',n9,fo,nd,hin⟩:=hP.gc.fin hP.eb.1 x9 xo xn
          rw [hP.eb.2] at n9
          obtain ⟨y0,y1,y2,y3,y4,y5,y6,y7,y8⟩:=n9
          simp only [Nat.zero_add] at y1 y2 y3 y4 y5 y6 y7 y8
          have hres:=hP.res
          obtain ⟨p0,p1,p2,p3,p4,p5,p6,p7,p8⟩:=Nine.box hres
          have pf:=row_free hres
          have hFO:FmO (w.heap.size+2) wr.heap.size wr D d t r1 m1 r2 m2 r3 m3:=⟨bs',fo,nd,fun b hb=>by
            obtain ⟨g,n,k,hg,hgb,rfl⟩:=hin b hb
            refine ⟨?_,hP.gc.ltn g n k hg⟩
            rcases hP.low g n k hg with e | e
            · have:=hP.gc.inj hg hP.eb.1 (e.trans hP.eb.2.symm)
              cases this
              have:=xl _ hgb
              omega
            · exact e⟩
          have hbel:=hP.bel
          have HP:Hid (On _ _ _ _ _ _ _ _ _ _ _ _ _ _ _ _ _):=hP
          clear hP x9 xo xn xl fo nd hin
          go_wp2_with fail
          refine bodyPost_ret (v:=.agg #[.int .i64 t.K,.int .i64 t.N,.string t.S,.string t.Z,.int .i64 t.T.K,.int .i64 t.T.N,.slice r1 m1 e1,.slice r2 m2 e2,.slice r3 m3 e3]) (by simp [results,Tryz.results38,go_sem,p0,p1,p2,p3,p4,p5,p6,p7,p8]) rfl ?_
          exact fin_newN hFO (Nat.le_refl _) hbel
        · have hv:∃ g cap,vY'=.slice (some ⟨g,0,none⟩) (init.length+1) cap:=by
            rw [List.map_append] at hOY
            obtain ⟨g,cap,e,_⟩:=olY_pop hOY
            exact ⟨g,cap,by simpa using e⟩
          obtain ⟨g',cap',rfl⟩:=hv
          have hg0:(0:Int) < (init.length:Int)+1:=by omega
          have hcall:=nextY_on hP
          obtain ⟨hyk,hy2⟩:=hP.pyk y (by simp)
          obtain ⟨yo,hyo⟩:∃ yo,y.o=yo+2:=⟨y.o - 2,by omega⟩
          have e2:y.o - 2=yo:=by omega
          rw [e2] at hcall
          have HSU:Hid (((init ++ [y]).map Cl.wt).sum=_):=hsum'
          clear hOY hzY hP hsum' hy2
          go_wp2_with fail
          refine hcall.mono ?_
          rintro e w1 ⟨rfl,v1,h1⟩
          clear hcall b1
          have pT:w1.cell? ⟨y.h,yo+2,none⟩=some (.slice y.a y.l y.c):=by rw [← hyo];exact (h1.gc.pnd y (by simp)).2.1
          go_wp2_with fail
          refine (ownY_on h1 hyk).mono ?_
          rintro e w2 ⟨u1,f1,E1,its1,v2,m2,rfl,h2,t2,x2,y2,k2,s2⟩
          obtain ⟨ua,ul,uc,rfl⟩:=t2.form
          obtain ⟨⟨wa,pA2⟩,fA⟩:=hand_cell h2
          rw [hyo] at pA2 fA
          have h3:=h2.lay t2
          simp only [hyo] at h3
          clear pT
          go_wp2_with fail
          go_roundw
          case rel=>exact ⟨_,_,_,_,_,_,_,_,h3,rfl⟩
          case measure =>
            refine Nat.lt_of_le_of_lt (HV.out _ _ _ ⟨_,_,_,_,_,_,_,h3,rfl⟩).1 ?_
            have q2:=HSU.out
            rw [← q2]
            unfold Cl.ew at s2
            rw [hyk] at s2
            simp only [List.map_append,List.sum_append,List.map_cons,List.map_nil,List.sum_cons,List.sum_nil,Cl.wt] at s2 ⊢
            omega
    · have hv:∃ g cap,vM=.slice (some ⟨g,0,none⟩) (init.length+1) cap:=by
        rw [List.map_append] at hOM
        obtain ⟨g,cap,e,_⟩:=olM_pop hOM
        exact ⟨g,cap,by simpa using e⟩
      obtain ⟨g,cap,rfl⟩:=hv
      have hg0:(0:Int) < (init.length:Int)+1:=by omega
      have hcall:=nextM_on hO
      have HSU:Hid (((init ++ [x]).map TP.wt).sum=_):=hsum
      clear hOM hzM hO hsum
      go_wp2_with fail
      refine hcall.mono ?_
      rintro e w1 ⟨rfl,v1,h1⟩
      clear hcall b1
      have pA:w1.cell? ⟨x.h,x.o+8,none⟩=some (.slice x.a3 x.l3 x.c3):=(h1.gc.pnd x.cA (by simp)).2.1
      have pT:w1.cell? ⟨x.h,x.o+7,none⟩=some (.slice x.a2 x.l2 x.c2):=(h1.gc.pnd x.cTs (by simp)).2.1
      go_wp2_with fail
      go_region_law (first
        | (go_simp;go_at_call 56;refine (ownM_on (h1.below (Below.refl _ _).drew) rfl).mono ?_;rintro e w2 ⟨u1,f1,E1,its1,v2,m2,rfl,h2,t2,x2,y2,k2,s2⟩;obtain ⟨ua,ul,uc,rfl⟩:=t2.form;have pT2:w2.cell? ⟨x.h,x.o+7,none⟩=some (.slice x.a2 x.l2 x.c2):=(h2.gc.pnd x.cTs (by simp)).2.1)
        | (go_simp;go_at_call 57;refine (ownY_on h2 rfl).mono ?_;rintro e w3 ⟨u2,f3,E3,its3,v3,m3,rfl,h3,t3,x3,y3,k3,s3⟩;obtain ⟨va,vl,vc,rfl⟩:=t3.form;obtain ⟨⟨wa,pA3⟩,⟨wt,pT3⟩,fA,fT⟩:=hand_cells (b:=x.h) (c:=x.o) h3))
      all_goals
        have h5:On w X ((w3.setCell ⟨x.h,x.o+8,none⟩ (.slice ua ul uc)).setCell ⟨x.h,x.o+7,none⟩ (.slice va vl vc)) D d oM m2 v2 oY m3 v3 f3 E3 (init ++ its1) (py ++ its3) [x.cT] []:=(h3.swap.lay (t2.more x3 y3)).lay t3
        generalize (w3.setCell ⟨x.h,x.o+8,none⟩ (.slice ua ul uc)).setCell ⟨x.h,x.o+7,none⟩ (.slice va vl vc)=W5 at *
        have HS2:Hid ((its1.map TP.wt).sum≤x.cA.ew):=s2
        clear h1 h2 h3 t2 t3 x2 y2 k2 s2 x3 y3 k3 s3 pA pT pT2 pA3 pT3 fA fT
        obtain ⟨g6,cap6,w6,hrun6,h6,z6,hz6⟩:=On.push (h5.below (Below.refl _ _).drew) rfl (by simp [TP.cT])
        obtain ⟨cY,hOY,_⟩:=h5.olY
        obtain ⟨zY,hzY⟩:=hOY.box
        have hol:oY < W5.heap.size:=(Array.getElem?_eq_some_iff.1 hzY).1
        have e4:x.cT.o - 2=x.o+4:=by simp [TP.cT]
        rw [e4] at hrun6
        have SA:Hid (∀ o,(W5.alloc o).cell? ⟨oY,1,none⟩=some v3∧(W5.alloc o).frozen? ⟨oY,1,none⟩=false):=fun o=>by
          have e1:(W5.alloc o).heap[oY]?=_:=(Below.heap_alloc _ _ _ hol).trans hzY
          exact ⟨row_cell e1 1,row_free e1 1⟩
        have HR:Hid ((Builtin.append_ #[79,79] 79 #[v3,.slice (some ⟨W5.heap.size,0,none⟩) 1 1]).run Tryz.prog (W5.alloc (.cells #[.pointer (some ⟨x.h,x.o+4,none⟩)] 84)).drew=.ok (.slice (some ⟨g6,0,none⟩) ((py ++ its3).length+1) cap6) w6):=hrun6
        have m0:=row_cell hzY 1
        have m1:=row_free hzY 1
        have n0:=fun o=>(SA.out o).1
        have n1:=fun o=>(SA.out o).2
        have x0:=row_cell hz6 1
        have x1:=row_free hz6 1
        have H6:Hid (On _ _ _ _ _ _ _ _ _ _ _ _ _ _ _ _ _):=h6
        have hrun2:=HR.out
        clear hrun6 hz6 hzY hOY h5 h6
        generalize (py ++ its3).length=N6 at *
        go_wp2_with fail
        go_region_law (refine step_run hrun2 (by rfl) _ _ (by rfl) (by rfl) (by rfl) (by rfl) ?_)
        all_goals
          go_wp2_with fail
          go_roundw
          case rel=>exact ⟨_,_,_,_,_,_,_,_,_,H6.out,rfl⟩
          case measure =>
            refine Nat.lt_of_le_of_lt (HM.out _ _ _ ⟨_,_,_,_,_,_,_,_,H6.out,rfl⟩).1 ?_
            have q2:=HSU.out
            rw [← q2]
            have q3:=HS2.out
            have q4:=cntM_eq x.t
            simp only [Cl.ew,TP.cA] at q3
            simp only [List.map_append,List.sum_append,List.map_cons,List.map_nil,List.sum_cons,List.sum_nil,TP.wt]
            omega
end Go.Proofs.YtcepgedbmffkdaaGreat
