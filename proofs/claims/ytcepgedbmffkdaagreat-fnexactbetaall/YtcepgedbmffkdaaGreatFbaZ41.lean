/-
  The state of 'ownTerm' in memory, and what each step makes of it: no walk. (Written by mkon3.py.)
-/
import Derived.Test.YtcepgedbmffkdaaGreatFbaZ40
namespace Go.Proofs.YtcepgedbmffkdaaGreat
open Go.RowKit
set_option linter.unusedVariables false
set_option linter.unusedSimpArgs false
def Cl.ew (x:Cl):Nat:=match x.k with
  | true=>2 * cntMS x.tm
  | false=>1+cntS x.tr
abbrev nineZ:Array Value:=#[.int .i64 0,.int .i64 0,.string ⟨#[]⟩,.string ⟨#[]⟩,.int .i64 0,.int .i64 0,.slice none 0 0,.slice none 0 0,.slice none 0 0]
structure On (w X wr:World) (D d:Nat) (oM mM:Nat) (vM:Value) (oY mY:Nat) (vY:Value) (f:Nat→Nat) (E:List (Nat × Nat × Bool)) (pt:List TP) (py ex:List Cl) (hand:List Hd):Prop where
  gc:Gc X wr D d f E (ex ++ (pt.flatMap TP.cells ++ py)) hand
  olM:∃ cs,OlM (w.heap.size+2) wr oM mM vM (pt.map TP.ad) cs∧∀ c ∈ cs,c ∈ E.map Prod.fst
  olY:∃ cs,OlY (w.heap.size+2) wr oY mY vY (py.map Cl.ad) cs∧∀ c ∈ cs,c ∈ E.map Prod.fst
  mm:mM≠mY
  bel:Below w.heap.size w wr
  bx:Below w.heap.size w X
  xs:X.heap.size=w.heap.size+1
  low:∀ g n k,(g,n,k) ∈ E→f g=w.heap.size∨w.heap.size+2≤f g
  eb:(w.heap.size,1,true) ∈ E∧f w.heap.size=w.heap.size
  res:wr.heap[w.heap.size+1]?=some (.cells nineZ 34 (0,0))
  pyk:∀ c ∈ py,c.k=false∧2≤c.o
  wt:(pt.map TP.wt).sum+(py.map Cl.wt).sum+(ex.map Cl.ew).sum≤2097154
theorem len_cntS:∀ l:List Tr,l.length≤cntS l
  | []=>by simp
  | t :: l=>by
    have:=len_cntS l
    have h:cntS (t :: l)=cnt t+cntS l:=by simp [cntS]
    rw [h,cnt_eq]
    simp
    omega
theorem wt_lenT:∀ l:List TP,l.length≤(l.map TP.wt).sum
  | []=>by simp
  | x :: l=>by
    have:=wt_lenT l
    simp only [List.map_cons,List.sum_cons,List.length_cons,TP.wt]
    omega
theorem wt_lenC:∀ l:List Cl,l.length≤(l.map Cl.wt).sum
  | []=>by simp
  | x :: l=>by
    have:=wt_lenC l
    simp only [List.map_cons,List.sum_cons,List.length_cons,Cl.wt]
    omega
theorem olM_ne {base:Nat} {wr:World} {op mp:Nat} {v:Value} {ps:List (Nat × Nat)} {cs:List Nat} (h:OlM base wr op mp v ps cs) {b:Nat} {c0:Array Value} {ty:TypeId} {fr:Nat × Nat} (hb:wr.heap[b]?=some (.cells c0 ty fr)) (h1:ty≠77) (h2:ty≠50):b≠op∧b≠mp∧v.ownBlock≠some b:=by
  obtain ⟨z,hz⟩:=h.box
  refine ⟨fun e=>?_,fun e=>?_,fun e=>?_⟩
  · subst e;rw [hz] at hb;cases hb;exact h1 rfl
  · rcases h.map with ⟨h3,_⟩ | ⟨_,es,clock,hm,_⟩
    · rw [e,h3,hz] at hb;cases hb;exact h1 rfl
    · subst e;rw [hm] at hb;cases hb
  · obtain ⟨_,cur,fr',e1⟩:=own_cells h.row e
    rw [hb] at e1;cases e1;exact h2 rfl
theorem olM_nem {base:Nat} {wr:World} {op mp:Nat} {v:Value} {ps:List (Nat × Nat)} {cs:List Nat} (h:OlM base wr op mp v ps cs) {b:Nat} {es:Array MapEntry} {clock:Nat} (hb:wr.heap[b]?=some (.map es clock)):b≠op∧v.ownBlock≠some b:=by
  obtain ⟨z,hz⟩:=h.box
  refine ⟨fun e=>?_,fun e=>?_⟩
  · subst e;rw [hz] at hb;cases hb
  · obtain ⟨_,cur,fr',e1⟩:=own_cells h.row e
    rw [hb] at e1;cases e1
theorem olY_ne {base:Nat} {wr:World} {op mp:Nat} {v:Value} {ps:List (Nat × Nat)} {cs:List Nat} (h:OlY base wr op mp v ps cs) {b:Nat} {c0:Array Value} {ty:TypeId} {fr:Nat × Nat} (hb:wr.heap[b]?=some (.cells c0 ty fr)) (h1:ty≠81) (h2:ty≠84):b≠op∧b≠mp∧v.ownBlock≠some b:=by
  obtain ⟨z,hz⟩:=h.box
  refine ⟨fun e=>?_,fun e=>?_,fun e=>?_⟩
  · subst e;rw [hz] at hb;cases hb;exact h1 rfl
  · rcases h.map with ⟨h3,_⟩ | ⟨_,es,clock,hm,_⟩
    · rw [e,h3,hz] at hb;cases hb;exact h1 rfl
    · subst e;rw [hm] at hb;cases hb
  · obtain ⟨_,cur,fr',e1⟩:=own_cells h.row e
    rw [hb] at e1;cases e1;exact h2 rfl
theorem olY_nem {base:Nat} {wr:World} {op mp:Nat} {v:Value} {ps:List (Nat × Nat)} {cs:List Nat} (h:OlY base wr op mp v ps cs) {b:Nat} {es:Array MapEntry} {clock:Nat} (hb:wr.heap[b]?=some (.map es clock)):b≠op∧v.ownBlock≠some b:=by
  obtain ⟨z,hz⟩:=h.box
  refine ⟨fun e=>?_,fun e=>?_⟩
  · subst e;rw [hz] at hb;cases hb
  · obtain ⟨_,cur,fr',e1⟩:=own_cells h.row e
    rw [hb] at e1;cases e1
theorem On.chgM {w X wr w1:World} {D d:Nat} {oM mM:Nat} {vM:Value} {oY mY:Nat} {vY v':Value} {f:Nat→Nat} {E:List (Nat × Nat × Bool)} {pt:List TP} {py ex:List Cl} {hand:List Hd} (h:On w X wr D d oM mM vM oY mY vY f E pt py ex hand) (hC:ChgM oM mM vM v' wr w1) :
    (∀ g n k,(g,n,k) ∈ E→w1.heap[f g]?=wr.heap[f g]?)∧(∃ cs,OlY (w.heap.size+2) w1 oY mY vY (py.map Cl.ad) cs∧∀ c ∈ cs,c ∈ E.map Prod.fst)∧Below w.heap.size w w1∧w1.heap[w.heap.size+1]?=some (.cells nineZ 34 (0,0)):=by
  obtain ⟨cs,hO,hcs⟩:=h.olM
  obtain ⟨cq,hQ,hcq⟩:=h.olY
  have hop:=hO.opl
  have hmp:=hO.mpl
  have hin:=olY_in hQ
  refine ⟨fun g n k hg=>?_,⟨cq,olY_keep hQ hC.size fun b hb=>?_,hcq⟩,⟨hC.os.trans h.bel.os,hC.tape.trans h.bel.tape,hC.output.trans h.bel.output,Nat.le_trans h.bel.size hC.size,fun b hb=>?_⟩,?_⟩
  · obtain ⟨_,_,⟨c0,hc,_⟩,_⟩:=h.gc.row g n k hg
    obtain ⟨n1,n2,n3⟩:=olM_ne hO hc (by cases k <;> decide) (by cases k <;> decide)
    exact hC.block _ (Array.getElem?_eq_some_iff.1 hc).1 n1 n2 n3
  · rcases hb with rfl | rfl | hb | hb
    · obtain ⟨z,hz⟩:=hQ.box
      obtain ⟨n1,n2,n3⟩:=olM_ne hO hz (by decide) (by decide)
      exact hC.block _ hin.1 n1 n2 n3
    · rcases hQ.map with ⟨h3,_⟩ | ⟨_,es,cl,hm,_⟩
      · obtain ⟨z,hz⟩:=hQ.box
        rw [h3]
        obtain ⟨n1,n2,n3⟩:=olM_ne hO hz (by decide) (by decide)
        exact hC.block _ hin.1 n1 n2 n3
      · obtain ⟨n1,n3⟩:=olM_nem hO hm
        exact hC.block _ hin.2.1 n1 (fun e=>h.mm (e.symm)) n3
    · obtain ⟨_,cur,fr,hc⟩:=own_cells hQ.row hb
      obtain ⟨n1,n2,n3⟩:=olM_ne hO hc (by decide) (by decide)
      exact hC.block _ (hin.2.2 b hb) n1 n2 n3
    · have:=hQ.bs
      exact hC.block _ (by omega) (by omega) (by omega) fun e=>by have:=hO.blk b e;omega
  · have:=h.bel.size
    exact (hC.block b (by omega) (by omega) (by omega) fun e=>by have:=hO.blk b e;omega).trans (h.bel.block b hb)
  · obtain ⟨n1,n2,n3⟩:=olM_ne hO h.res (by decide) (by decide)
    exact (hC.block _ (Array.getElem?_eq_some_iff.1 h.res).1 n1 n2 n3).trans h.res
theorem On.chgY {w X wr w1:World} {D d:Nat} {oM mM:Nat} {vM:Value} {oY mY:Nat} {vY v':Value} {f:Nat→Nat} {E:List (Nat × Nat × Bool)} {pt:List TP} {py ex:List Cl} {hand:List Hd} (h:On w X wr D d oM mM vM oY mY vY f E pt py ex hand) (hC:ChgY oY mY vY v' wr w1) :
    (∀ g n k,(g,n,k) ∈ E→w1.heap[f g]?=wr.heap[f g]?)∧(∃ cs,OlM (w.heap.size+2) w1 oM mM vM (pt.map TP.ad) cs∧∀ c ∈ cs,c ∈ E.map Prod.fst)∧Below w.heap.size w w1∧w1.heap[w.heap.size+1]?=some (.cells nineZ 34 (0,0)):=by
  obtain ⟨cs,hO,hcs⟩:=h.olY
  obtain ⟨cq,hQ,hcq⟩:=h.olM
  have hop:=hO.opl
  have hmp:=hO.mpl
  have hin:=olM_in hQ
  refine ⟨fun g n k hg=>?_,⟨cq,olM_keep hQ hC.size fun b hb=>?_,hcq⟩,⟨hC.os.trans h.bel.os,hC.tape.trans h.bel.tape,hC.output.trans h.bel.output,Nat.le_trans h.bel.size hC.size,fun b hb=>?_⟩,?_⟩
  · obtain ⟨_,_,⟨c0,hc,_⟩,_⟩:=h.gc.row g n k hg
    obtain ⟨n1,n2,n3⟩:=olY_ne hO hc (by cases k <;> decide) (by cases k <;> decide)
    exact hC.block _ (Array.getElem?_eq_some_iff.1 hc).1 n1 n2 n3
  · rcases hb with rfl | rfl | hb | hb
    · obtain ⟨z,hz⟩:=hQ.box
      obtain ⟨n1,n2,n3⟩:=olY_ne hO hz (by decide) (by decide)
      exact hC.block _ hin.1 n1 n2 n3
    · rcases hQ.map with ⟨h3,_⟩ | ⟨_,es,cl,hm,_⟩
      · obtain ⟨z,hz⟩:=hQ.box
        rw [h3]
        obtain ⟨n1,n2,n3⟩:=olY_ne hO hz (by decide) (by decide)
        exact hC.block _ hin.1 n1 n2 n3
      · obtain ⟨n1,n3⟩:=olY_nem hO hm
        exact hC.block _ hin.2.1 n1 (fun e=>h.mm (e)) n3
    · obtain ⟨_,cur,fr,hc⟩:=own_cells hQ.row hb
      obtain ⟨n1,n2,n3⟩:=olY_ne hO hc (by decide) (by decide)
      exact hC.block _ (hin.2.2 b hb) n1 n2 n3
    · have:=hQ.bs
      exact hC.block _ (by omega) (by omega) (by omega) fun e=>by have:=hO.blk b e;omega
  · have:=h.bel.size
    exact (hC.block b (by omega) (by omega) (by omega) fun e=>by have:=hO.blk b e;omega).trans (h.bel.block b hb)
  · obtain ⟨n1,n2,n3⟩:=olY_ne hO h.res (by decide) (by decide)
    exact (hC.block _ (Array.getElem?_eq_some_iff.1 h.res).1 n1 n2 n3).trans h.res
end Go.Proofs.YtcepgedbmffkdaaGreat

/-
  What a call of 'own' makes of the state of 'ownTerm'. (Written by mkon3.py.)
-/
namespace Go.Proofs.YtcepgedbmffkdaaGreat
open Go.RowKit
set_option linter.unusedVariables false
set_option linter.unusedSimpArgs false
theorem ownM_on {w X wr:World} {D d:Nat} {oM mM:Nat} {vM:Value} {oY mY:Nat} {vY:Value} {f:Nat→Nat} {E:List (Nat × Nat × Bool)} {pt:List TP} {py:List Cl} {x:Cl} {ex:List Cl} {hand:List Hd} (h:On w X wr D d oM mM vM oY mY vY f E pt py (x :: ex) hand) (hk:x.k=true) :
    Calls Tryz.prog 56 #[.pointer (some ⟨oM,0,none⟩),x.val] wr fun e w'=>∃ u f' E' its v' m',e=.returned u∧On w X w' D d oM m' v' oY mY vY f' E' (pt ++ its) py ex (⟨x.h,x.o,x.k,x.val⟩ :: hand)∧TrV f' E' x.k x.val u∧(∀ e ∈ E,e ∈ E')∧(∀ g n k,(g,n,k) ∈ E→f' g=f g)∧(∀ g n k,(g,n,k) ∈ E→w'.heap[f g]?=wr.heap[f g]?)∧(its.map TP.wt).sum≤x.ew:=by
  obtain ⟨cs,hO,hcs⟩:=h.olM
  have hwt:=h.wt
  rw [List.map_cons,List.sum_cons] at hwt
  have hpx:=h.gc.pnd x (by simp)
  by_cases hl:x.l=0
  · have e:x.val=.slice x.a 0 x.c:=by unfold Cl.val;rw [hl]
    rw [e]
    refine (ownM_none _ _ _ _).mono ?_
    rintro e1 w' ⟨rfl,rfl⟩
    refine ⟨_,f,E,[],vM,mM,rfl,⟨?_,by simpa using h.olM,by simpa using h.olY,h.mm,h.bel,h.bx,h.xs,h.low,h.eb,h.res,by simpa using h.pyk,by simp;omega⟩,?_,fun e he=>he,fun _ _ _ _=>rfl,fun _ _ _ _=>rfl,by unfold Cl.ew;rw [hk];simp⟩
    · have:=h.gc.empty (x:=x) (rest:=ex ++ (pt.flatMap TP.cells ++ py)) hl
      rw [e] at this
      simpa using this
    · exact Or.inl ⟨_,_,rfl,rfl⟩
  · obtain ⟨g,c0,_,ea,hgx,hgX,hn,h1,hmx,hlt,_⟩:=newM hk (by omega) hpx.1 0
    have hndo:=h.gc.ndo
    have hgE:g ∉ E.map Prod.fst:=fun hm=>(List.nodup_append.1 hndo).2.2 g (List.mem_flatMap.2 ⟨x,by simp,hgx⟩) g hm rfl
    have hgw:g < w.heap.size:=by
      have q1:=h.gc.lto g (List.mem_append_left _ (List.mem_flatMap.2 ⟨x,by simp,hgx⟩))
      have q2:g≠w.heap.size:=fun e=>hgE (e ▸ List.mem_map.2 ⟨_,h.eb.1,rfl⟩)
      have q3:=h.xs
      omega
    have hgr:wr.heap[g]?=some (.cells c0 34 (0,0)):=(h.bel.block g hgw).trans ((h.bx.block g hgw).symm.trans hgX)
    have hew:x.l≤x.ew:=by
      unfold Cl.ew
      rw [hk]
      simp only
      have:=cntMS_eq x.tm
      omega
    have hpl:=wt_lenT pt
    have e:x.val=.slice (some ⟨g,0,none⟩) x.l x.c:=by unfold Cl.val;rw [ea]
    rw [e]
    refine (ownM_some hO g x.l x.c (by omega) (by rw [List.length_map];omega) (by omega) (fun hm=>hgE (hcs g hm)) (by omega) hgr hn h1).mono ?_
    rintro e1 w' ⟨hb,v',m',hmn,hmo,rfl,hO',hC,hbs,hbh,hbv⟩
    obtain ⟨g',c0',its,ea',hgx',hgX',hn',_,_,_,hN⟩:=newM hk (by omega) hpx.1 hb
    rw [ea] at ea'
    cases ea'
    rw [hgX] at hgX'
    cases hgX'
    obtain ⟨had,hits,hnew⟩:=hN
    obtain ⟨k1,k2,k3,k4⟩:=h.chgM hC
    have hbel:=h.bel.size
    have hcopy:=h.gc.copy (x:=x) (rest:=ex ++ (pt.flatMap TP.cells ++ py)) (g:=g) (hb:=hb) (w1:=w') (by omega) hmx hgx hbs k1 (by rw [hk];exact hbh) (by rw [hk];simp [szK];omega) (fun o ho=>by
      rw [hk] at ho
      simp only [szK] at ho
      rw [row_cell hgX,List.getElem?_toArray,List.getElem?_take,if_pos ho,Array.getElem?_toList]) (its.flatMap TP.cells) (by rw [hk];exact hnew.h1) (by rw [hk];exact hnew.h2) hnew.h3 hnew.h4
    have hne:∀ g' n k,(g',n,k) ∈ E→(if g'=g then hb else f g')=f g':=fun g' n k he=>if_neg fun (e':g'=g)=>hgE (e' ▸ List.mem_map.2 ⟨_,he,rfl⟩)
    have hwi:(its.map TP.wt).sum≤x.ew:=by
      unfold Cl.ew
      rw [hk]
      simp only
      rw [wts,hits];exact Nat.le_refl _
    have hmm:m'≠mY:=by
      rcases hmn with e5 | e5
      · rw [e5];exact h.mm
      · obtain ⟨cq,hQ,_⟩:=h.olY
        have:=(olY_in hQ).2.1
        omega
    refine ⟨_,fun y=>if y=g then hb else f y,(g,x.l,x.k) :: E,its,v',m',rfl,⟨?_,⟨_,by rw [List.map_append,had];exact hO',fun c hc=>?_⟩,?_,hmm,k3,h.bx,h.xs,fun g' n k he=>?_,⟨List.mem_cons_of_mem _ h.eb.1,by rw [hne _ _ _ h.eb.1];exact h.eb.2⟩,k4,h.pyk,?_⟩,?_,fun e he=>List.mem_cons_of_mem _ he,hne,k1,hwi⟩
    · rw [e] at hcopy
      exact hcopy.perm ((List.perm_append_comm_assoc _ _ _).trans (List.Perm.append_left _ (by rw [List.flatMap_append,List.append_assoc];exact List.perm_append_comm_assoc _ _ _)))
    · rcases List.mem_cons.1 hc with rfl | hc
      · simp
      · exact List.mem_cons_of_mem _ (hcs c hc)
    · obtain ⟨cq,hQ,hcq⟩:=k2
      exact ⟨cq,hQ,fun c hc=>List.mem_cons_of_mem _ (hcq c hc)⟩
    · rcases List.mem_cons.1 he with e | he
      · cases e
        rw [if_pos rfl]
        have:=olM_in hO
        have:=hO.opl
        right;omega
      · rw [hne g' n k he];exact h.low g' n k he
    · rw [List.map_append,List.sum_append];omega
    · rw [hk]
      exact Or.inr ⟨g,x.l,x.c,rfl,by omega,by rw [← hk];exact List.mem_cons_self,by simp⟩
theorem ownY_on {w X wr:World} {D d:Nat} {oM mM:Nat} {vM:Value} {oY mY:Nat} {vY:Value} {f:Nat→Nat} {E:List (Nat × Nat × Bool)} {pt:List TP} {py:List Cl} {x:Cl} {ex:List Cl} {hand:List Hd} (h:On w X wr D d oM mM vM oY mY vY f E pt py (x :: ex) hand) (hk:x.k=false) :
    Calls Tryz.prog 57 #[.pointer (some ⟨oY,0,none⟩),x.val] wr fun e w'=>∃ u f' E' its v' m',e=.returned u∧On w X w' D d oM mM vM oY m' v' f' E' pt (py ++ its) ex (⟨x.h,x.o,x.k,x.val⟩ :: hand)∧TrV f' E' x.k x.val u∧(∀ e ∈ E,e ∈ E')∧(∀ g n k,(g,n,k) ∈ E→f' g=f g)∧(∀ g n k,(g,n,k) ∈ E→w'.heap[f g]?=wr.heap[f g]?)∧(its.map Cl.wt).sum+1≤x.ew:=by
  obtain ⟨cs,hO,hcs⟩:=h.olY
  have hwt:=h.wt
  rw [List.map_cons,List.sum_cons] at hwt
  have hpx:=h.gc.pnd x (by simp)
  by_cases hl:x.l=0
  · have e:x.val=.slice x.a 0 x.c:=by unfold Cl.val;rw [hl]
    rw [e]
    refine (ownY_none _ _ _ _).mono ?_
    rintro e1 w' ⟨rfl,rfl⟩
    refine ⟨_,f,E,[],vY,mY,rfl,⟨?_,by simpa using h.olM,by simpa using h.olY,h.mm,h.bel,h.bx,h.xs,h.low,h.eb,h.res,by simpa using h.pyk,by simp;omega⟩,?_,fun e he=>he,fun _ _ _ _=>rfl,fun _ _ _ _=>rfl,by unfold Cl.ew;rw [hk];simp⟩
    · have:=h.gc.empty (x:=x) (rest:=ex ++ (pt.flatMap TP.cells ++ py)) hl
      rw [e] at this
      simpa using this
    · exact Or.inl ⟨_,_,rfl,rfl⟩
  · obtain ⟨g,c0,_,ea,hgx,hgX,hn,h1,hmx,hlt,_⟩:=newY hk (by omega) hpx.1 0
    have hndo:=h.gc.ndo
    have hgE:g ∉ E.map Prod.fst:=fun hm=>(List.nodup_append.1 hndo).2.2 g (List.mem_flatMap.2 ⟨x,by simp,hgx⟩) g hm rfl
    have hgw:g < w.heap.size:=by
      have q1:=h.gc.lto g (List.mem_append_left _ (List.mem_flatMap.2 ⟨x,by simp,hgx⟩))
      have q2:g≠w.heap.size:=fun e=>hgE (e ▸ List.mem_map.2 ⟨_,h.eb.1,rfl⟩)
      have q3:=h.xs
      omega
    have hgr:wr.heap[g]?=some (.cells c0 31 (0,0)):=(h.bel.block g hgw).trans ((h.bx.block g hgw).symm.trans hgX)
    have hew:x.l≤x.ew:=by
      unfold Cl.ew
      rw [hk]
      simp only
      have:=len_cntS x.tr
      omega
    have hpl:=wt_lenC py
    have e:x.val=.slice (some ⟨g,0,none⟩) x.l x.c:=by unfold Cl.val;rw [ea]
    rw [e]
    refine (ownY_some hO g x.l x.c (by omega) (by rw [List.length_map];omega) (by omega) (fun hm=>hgE (hcs g hm)) (by omega) hgr hn h1).mono ?_
    rintro e1 w' ⟨hb,v',m',hmn,hmo,rfl,hO',hC,hbs,hbh,hbv⟩
    obtain ⟨g',c0',its,ea',hgx',hgX',hn',_,_,_,hN⟩:=newY hk (by omega) hpx.1 hb
    rw [ea] at ea'
    cases ea'
    rw [hgX] at hgX'
    cases hgX'
    obtain ⟨had,hits,hwts,hnew⟩:=hN
    obtain ⟨k1,k2,k3,k4⟩:=h.chgY hC
    have hbel:=h.bel.size
    have hcopy:=h.gc.copy (x:=x) (rest:=ex ++ (pt.flatMap TP.cells ++ py)) (g:=g) (hb:=hb) (w1:=w') (by omega) hmx hgx hbs k1 (by rw [hk];exact hbh) (by rw [hk];simp [szK];omega) (fun o ho=>by
      rw [hk] at ho
      simp only [szK] at ho
      rw [row_cell hgX,List.getElem?_toArray,List.getElem?_take,if_pos ho,Array.getElem?_toList]) its (by rw [hk];exact hnew.h1) (by rw [hk];exact hnew.h2) hnew.h3 hnew.h4
    have hne:∀ g' n k,(g',n,k) ∈ E→(if g'=g then hb else f g')=f g':=fun g' n k he=>if_neg fun (e':g'=g)=>hgE (e' ▸ List.mem_map.2 ⟨_,he,rfl⟩)
    have hwi:(its.map Cl.wt).sum+1≤x.ew:=by
      unfold Cl.ew
      rw [hk]
      simp only
      rw [hwts];omega
    have hmm:mM≠m':=by
      rcases hmn with e5 | e5
      · rw [e5];exact h.mm
      · obtain ⟨cq,hQ,_⟩:=h.olM
        have:=(olM_in hQ).2.1
        omega
    refine ⟨_,fun y=>if y=g then hb else f y,(g,x.l,x.k) :: E,its,v',m',rfl,⟨?_,?_,⟨_,by rw [List.map_append,had];exact hO',fun c hc=>?_⟩,hmm,k3,h.bx,h.xs,fun g' n k he=>?_,⟨List.mem_cons_of_mem _ h.eb.1,by rw [hne _ _ _ h.eb.1];exact h.eb.2⟩,k4,fun c hc=>?_,?_⟩,?_,fun e he=>List.mem_cons_of_mem _ he,hne,k1,hwi⟩
    · rw [e] at hcopy
      exact hcopy.perm ((List.perm_append_comm_assoc _ _ _).trans (List.Perm.append_left _ ((List.perm_append_comm_assoc _ _ _).trans (List.Perm.append_left _ List.perm_append_comm))))
    · obtain ⟨cq,hQ,hcq⟩:=k2
      exact ⟨cq,hQ,fun c hc=>List.mem_cons_of_mem _ (hcq c hc)⟩
    · rcases List.mem_cons.1 hc with rfl | hc
      · simp
      · exact List.mem_cons_of_mem _ (hcs c hc)
    · rcases List.mem_cons.1 he with e | he
      · cases e
        rw [if_pos rfl]
        have:=olY_in hO
        have:=hO.opl
        right;omega
      · rw [hne g' n k he];exact h.low g' n k he
    · rcases List.mem_append.1 hc with hc | hc
      · exact h.pyk c hc
      · exact hits c hc
    · rw [List.map_append,List.sum_append];omega
    · rw [hk]
      exact Or.inr ⟨g,x.l,x.c,rfl,by omega,by rw [← hk];exact List.mem_cons_self,by simp⟩
end Go.Proofs.YtcepgedbmffkdaaGreat
