/-
  What the program's 'sameAnyTys' comes to, handed whatever row, where the first types' lists have blocks of their own.
-/
import Derived.Test.YtleghjgpnefliaaFnoZ44
import Derived.Test.YtleghjgpnefliaaFnoZ1
import Derived.Deep.RegionWith
import Derived.Deep.RegionLaw
import Derived.Deep.RegionHeld3
import Derived.Deep.Cut
import Derived.Deep.CutRange
namespace Go.Proofs.Ytleghjgpnefliaa
open Go.RowKit
set_option linter.unusedVariables false
set_option linter.unusedSimpArgs false
def AnyR (w:World) (D L' B':Nat) (r:Option Nat) (b:Bool) (v:Value) (wr:World) (n:Nat):Prop :=
 ∃ its cs,AnyDyn w wr r w.heap.size v its cs∧AnySt w D L' B' r its cs∧(b=true↔∀ i∈its,i.x=i.y)∧(its.map fun i=>cnt i.x).sum=n∧n≤1048577
theorem Ow.len {w:World} {d:Nat} {ao:Option Addr} {len:Nat} {ts:List Tr} {bs:List Nat} (h:Ow w d ao len ts bs):len=ts.length∧len≤9223372036854775807:=by
 cases d with
 | zero=>obtain⟨rfl,rfl,_⟩:=h;exact⟨rfl,by omega⟩
 | succ d =>
   rcases h with ⟨rfl,rfl,_⟩|⟨g,cs,bss,e,hl,hm,_⟩
   · exact⟨rfl,by omega⟩
   · exact⟨hl,hm⟩
theorem anyst_init {w:World} {D L' B':Nat} {r:Option Nat} {init:List It} {it:It} {cs:List Nat} (h:AnySt w D L' B' r (init++[it]) cs):AnySt w D L' B' r init cs:=by
 have hn:=h.nodup
 have hb:=h.bnd
 rw [List.flatMap_append] at hn hb
 refine⟨fun i hi=>h.ow i (by simp [hi]),?_,fun b hb'=>hb b ?_,h.fro⟩
 · refine hn.sublist ?_
   exact List.Sublist.append (List.sublist_append_left _ _) (List.Sublist.refl _)
 · rw [List.mem_append] at hb' ⊢
   rcases hb' with hb'|hb'
   · exact Or.inl (List.mem_append_left _ hb')
   · exact Or.inr hb'
theorem anyst_parts {w:World} {D L' B' c:Nat} {r:Option Nat} {init ch:List It} {it:It} {cs:List Nat} (h:AnySt w D L' B' r (init++[it]) cs) (hbs:it.bs=c::ch.flatMap It.bs) (hfro:∃ a t,w.heap[c]?=some (.cells a t (0,0)))
 (hch:∀ i∈ch,Ow w D i.ao i.len i.ts i.bs∧Hs L' B' w D i.ao' i.len' i.ts'):AnySt w D L' B' r (init++ch) (c::cs):=by
 have hn:=h.nodup
 have hb:=h.bnd
 rw [List.flatMap_append] at hn hb
 simp only [List.flatMap_cons,List.flatMap_nil,List.append_nil,hbs] at hn hb
 have hp:((init.flatMap It.bs++(c::ch.flatMap It.bs))++cs).Perm ((init.flatMap It.bs++ch.flatMap It.bs)++(c::cs)):=by
  rw [List.append_assoc,List.append_assoc]
  refine List.Perm.append_left _ ?_
  rw [List.cons_append]
  exact List.perm_middle.symm
 refine⟨fun i hi=>?_,?_,fun b hb'=>?_,fun b hb'=>?_⟩
 · rw [List.mem_append] at hi
   rcases hi with hi|hi
   · exact h.ow i (by simp [hi])
   · exact hch i hi
 · rw [List.flatMap_append];exact hp.nodup_iff.1 hn
 · rw [List.flatMap_append] at hb';exact hb b (hp.mem_iff.2 hb')
 · rw [List.mem_cons] at hb'
   rcases hb' with rfl|hb'
   · exact hfro
   · exact h.fro b hb'
theorem parts_like {it:It} {ch:List It} (ex:ch.map It.x=it.ts) (ey:ch.map It.y=it.ts') (hk:it.k=it.k') (hn:it.n=it.n'):it.x=it.y↔∀ i∈ch,i.x=i.y:=by
 have e1:it.x=it.y↔it.ts=it.ts':=by
  unfold It.x It.y
  rw [hk,hn]
  exact⟨fun h=>congrArg Tr.A h,fun h=>by rw [h]⟩
 rw [e1,← ex,← ey]
 constructor
 · intro h i hi
   obtain⟨q,hq,rfl⟩:=List.getElem_of_mem hi
   have:=congrArg (fun l=>l[q]?) h
   simpa [hq] using this
 · intro h
   exact List.map_congr_left h
set_option maxRecDepth 100000 in
set_option maxHeartbeats 8000000 in
theorem sameAny_gen (D L' B':Nat) (r:Option Nat) (its0:List It) (v0:Value) (b:Bool) (w:World) (hrow:w.ownsRow 0 70 6 v0 its0.length (its0.flatMap It.cells)) (hr:v0.ownBlock=r) (hB':B'≤w.heap.size) (hrB:∀ x,r=some x->x<L'∨B'≤x)
 (hst:AnySt w D L' B' r its0 []) (hb:b=true↔∀ i∈its0,i.x=i.y) (hc:(its0.map fun i=>cnt i.x).sum≤1048577) :
 Calls Try.prog 46 #[v0] w fun e w'=>e=.returned (.bool b)∧w.grownBy w' r:=by
 have hX:Below w.heap.size w (w.alloc (.map #[] 0)):=(Below.refl _ _).alloc (Nat.le_refl _) _
 have hStart:AnyR w D L' B' r b v0 (w.alloc (.map #[] 0)) ((its0.map fun i=>cnt i.x).sum):=by
  refine⟨its0,[],⟨⟨hX.os,hX.tape,hX.output,hX.size,fun i hi _=>hX.block i hi⟩,⟨hrow.1,?_⟩,fun x hx=>Or.inl (hr ▸ hx),⟨#[],0,Qac rfl,fun e he=>by simp at he⟩⟩,hst,hb,rfl,hc⟩
  rcases hrow.2 with hn|⟨g,cap,cur,e,hg,hh,q⟩
  · exact Or.inl hn
  · exact Or.inr ⟨g,cap,cur,e,hg,(hX.block g (Array.getElem?_eq_some_iff.1 hh).1).trans hh,q⟩
 obtain⟨μ,hμ⟩:=least_ex (AnyR w D L' B' r b)
 have HM:Hid (∀ v wr n,_):=hμ
 have hmk:∀ w:World,(Instr.makeMap 96 none).run Try.prog w=.ok (.map (some w.heap.size)) (w.alloc (.map #[] 0)):=fun w=>rfl
 have HRB:Hid (∀ x,r=some x->x<L'∨B'≤x):=hrB
 clear hμ hrow hr hrB
 go_enter Try.func46,Try.ntmps46
 go_wp2_with fail
 go_loopw [0] (fun u wr=>∃ v,u=v∧∃ n,AnyR w D L' B' r b v wr n) (fun v wr=>μ v wr)
 case atStart=>exact⟨_,rfl,_,hStart⟩
 case round =>
  obtain⟨wo,hwo⟩:∃ wo:World,wo=wr:=⟨_,rfl⟩
  subst hwo
  obtain⟨_,rfl,n0,hR0⟩:=hrel
  obtain⟨_,its,cs,hD,hS,hL,hsum,hbd⟩:=HM.out _ _ _ hR0
  have HL:Hid (b=true↔_):=hL
  have HS:Hid (_=_):=hsum
  clear hL hsum hR0 hStart
  have hszr:=hD.grown.size
  rcases (by simpa [List.concat_eq_append] using List.eq_nil_or_concat its:its=[]∨∃ init it,its=init++[it]) with rfl|⟨init,it,rfl⟩
  · have HT:Hid (b=true):=HL.out.2 (fun i hi=>by simp at hi)
    have hv:∃ ao cap,u0=.slice ao 0 cap:=by
     rcases hD.row.2 with ⟨e,_⟩|⟨g,cap,cur,e,_⟩
     · exact⟨none,0,e⟩
     · exact⟨_,cap,e⟩
    obtain⟨ao,cap,rfl⟩:=hv
    go_wp2_with fail
    go_ret
    exact⟨Qak HT.out.symm,hD.grown⟩
  · obtain⟨g,cap,rfl,hgl,hcap,hcap2,x0,x1,x2,x3,x4,x5,hD2⟩:=any_pop hD
    have hitS:=hS.ow it (by simp)
    have hl1:=hitS.1.len.2
    have hl2:=hitS.2.len.2
    have hA:Below wo.heap.size wo (wo.alloc (.cells #[.int .i64 it.k,.int .i64 it.n,.slice it.ao it.len it.cap,.int .i64 it.k',.int .i64 it.n',.slice it.ao' it.len' it.cap'] 70)):=(Below.refl _ _).alloc (Nat.le_refl _) _
    have e1:((init.length:Int)+1 - 1)=init.length:=by omega
    go_wp2_with fail
    refine (Qdy _ _ _ _ _ _ _ _ _ _ _ hl1 hl2).mono ?_
    rintro e w1 ⟨rfl,hb1⟩
    have hbw1:Below wo.heap.size wo w1:=hA.trans (hb1.mono (by simp))
    have hD3:=any_below hD2 hbw1
    have hz1:=hb1.size
    simp only [World.size_alloc] at hz1
    have hbox:w1.heap[wo.heap.size]?=some (.cells #[.int .i64 it.k,.int .i64 it.n,.slice it.ao it.len it.cap,.int .i64 it.k',.int .i64 it.n',.slice it.ao' it.len' it.cap'] 70 (0,0)):=(hb1.block wo.heap.size (by simp)).trans (Qac rfl)
    have p2:w1.cell? ⟨wo.heap.size,2,none⟩=some (.slice it.ao it.len it.cap):=Qaa hbox 2
    have p5:w1.cell? ⟨wo.heap.size,5,none⟩=some (.slice it.ao' it.len' it.cap'):=Qaa hbox 5
    clear x0 x1 x2 x3 x4 x5
    cases hq:((it.k==it.k')&&(it.n==it.n')&&((it.len:Int)==(it.len':Int)))
    · have HF:Hid (b=false):=by
       show _=_
       rw [Bool.eq_false_iff];intro h
       have e:=HL.out.1 h it (by simp)
       have e1:it.k=it.k':=congrArg Tr.K e
       have e2:it.n=it.n':=congrArg Tr.N e
       have e3:it.len=it.len':=by rw [hitS.1.len.1,hitS.2.len.1];exact congrArg (fun t=>t.A.length) e
       rw [e1,e2,e3] at hq
       simp at hq
      clear hq
      go_wp2_with fail
      go_ret
      exact⟨Qak HF.out.symm,hD3.grown⟩
    have HQ:Hid (it.k=it.k'∧it.n=it.n'∧it.len=it.len'):=by simp only [Bool.and_eq_true,beq_iff_eq] at hq;exact⟨hq.1.1,hq.1.2,by omega⟩
    clear hq
    by_cases h0:it.len=0
    · have h0b:((it.len:Int)==0)=true:=by simp [h0]
      have HN:Hid (AnyR w D L' B' r b (.slice (some ⟨g,0,none⟩) init.length cap) w1 ((init.map fun i=>cnt i.x).sum)∧(init.map fun i=>cnt i.x).sum<μ (.slice (some ⟨g,0,none⟩) (init.length+1) cap) wo):=by
       have hs:=HS.out
       rw [List.map_append,List.sum_append] at hs
       have hp:=cnt_pos it.x
       simp only [List.map_cons,List.map_nil,List.sum_cons,List.sum_nil] at hs
       refine⟨⟨init,cs,hD3,anyst_init hS,?_,rfl,by omega⟩,by omega⟩
       rw [HL.out]
       have hxy:it.x=it.y:=by
        have h1:=HQ.out
        have e1:it.ts=[]:=List.length_eq_zero_iff.1 (by rw [← hitS.1.len.1];exact h0)
        have e2:it.ts'=[]:=List.length_eq_zero_iff.1 (by rw [← hitS.2.len.1,← h1.2.2];exact h0)
        unfold It.x It.y
        rw [h1.1,h1.2.1,e1,e2]
       exact⟨fun h i hi=>h i (by simp [hi]),fun h i hi=>by
        rw [List.mem_append] at hi
        rcases hi with hi|hi
        · exact h i hi
        · simp at hi;rw [hi];exact hxy⟩
      clear h0
      go_wp2_with fail
      go_roundw
      case rel=>exact⟨_,rfl,_,HN.out.1⟩
      case measure=>exact Nat.lt_of_le_of_lt (HM.out _ _ _ HN.out.1).1 HN.out.2
    have h0b:((it.len:Int)==0)=false:=by rw [beq_eq_false_iff_ne];omega
    have hpos:0<it.len:=by omega
    have hpos':0<it.len':=by have:=HQ.out.2.2;omega
    obtain⟨c,c',o',ch,hao,hao',hLc',hc',hchl,hfro,hbs,hts,hts',hch⟩:=any_parts hitS.1 hitS.2 HQ.out.2.2 hpos
    rw [hao] at p2
    rw [hao'] at p5
    have HAO:Hid (it.ao=_):=hao
    have HAO':Hid (it.ao'=_):=hao'
    have HCL:Hid (ch.length=it.len):=hchl
    have HBS:Hid (it.bs=_):=hbs
    have HTS:Hid (it.len=it.ts.length):=hts
    have HTS':Hid (it.len'=it.ts'.length):=hts'
    have HCH:Hid (∀ i,_):=hch
    have HFR:Hid (∃ a,_):=hfro
    clear h0 hao hao' hchl hbs hts hts' hch hfro
    obtain⟨KEY,hKEY⟩:∃ K,K=Obj.cells #[.pointer (some ⟨c,0,none⟩),.pointer (some ⟨c',o',none⟩),.int .i64 (it.len:Int)] 99 (0,0):=⟨_,rfl⟩
    have hYb:Below w1.heap.size w1 (w1.alloc KEY).drew:=((Below.refl _ _).alloc (Nat.le_refl _) _).drew
    have hZb:Below w1.heap.size w1 ((w1.alloc KEY).alloc (.cells #[] 74)).drew:=(((Below.refl _ _).alloc (Nat.le_refl _) _).alloc (by simp) _).drew
    have hDY:=any_below hD3 hYb
    have hDZ:=any_below hD3 hZb
    have hcb:c<w.heap.size∧r≠some c:=hS.bnd c (by rw [List.flatMap_append,List.mem_append,List.mem_append];left;right;simp [HBS.out])
    have hcn:c ∉ cs:=by
     have hn:=hS.nodup
     rw [List.flatMap_append] at hn
     simp only [List.flatMap_cons,List.flatMap_nil,List.append_nil,HBS.out] at hn
     have:=(List.nodup_append.1 hn).2.2
     exact fun h=>this c (by simp) c h rfl
    have hcb':c'<w.heap.size∧r≠some c':=⟨by omega,fun e=>by have:=HRB.out c' e;omega⟩
    have hfrW:∀ (W:World),w.grownBy W r->∀ x,x=c∨x∈cs->∃ a t,W.heap[x]?=some (.cells a t (0,0)):=by
     intro W hW x hx
     have hxb:x<w.heap.size∧r≠some x:=by
      rcases hx with rfl|hx
      · exact hcb
      · exact hS.bnd x (List.mem_append_right _ hx)
     have e:=hW.block x hxb.1 (fun e=>hxb.2 e.symm)
     rw [e]
     rcases hx with rfl|hx
     · exact HFR.out
     · exact hS.fro x hx
    obtain⟨esY,clY,hmY,hkY⟩:=hDY.map
    obtain⟨esZ,clZ,hmZ,hkZ⟩:=hDZ.map
    have hlk:(Instr.lookup 96 (.map (some w.heap.size)) (.agg #[.pointer (some ⟨c,0,none⟩),.pointer (some ⟨c',o',none⟩),.int .i64 (it.len:Int)]) true).run Try.prog (w1.alloc KEY).drew=.ok (.tuple #[.agg #[],.bool false]) (w1.alloc KEY).drew:=lookup_new hmY (hfrW _ hDY.grown) hcn hkY
    obtain⟨Z,hup,hDZ2,hZZ⟩:∃ Z,(Instr.mapUpdate 96 (.map (some w.heap.size)) (.agg #[.pointer (some ⟨c,0,none⟩),.pointer (some ⟨c',o',none⟩),.int .i64 (it.len:Int)]) (.agg #[])).run Try.prog ((w1.alloc KEY).alloc (.cells #[] 74)).drew=.ok () Z∧AnyDyn w Z r w.heap.size (.slice (some ⟨g,0,none⟩) init.length cap) init (c::cs)∧(∀ i,i≠w.heap.size->i<w1.heap.size->Z.heap[i]?=w1.heap[i]?)∧w1.heap.size≤Z.heap.size:=by
     refine⟨_,update_new hmZ (hfrW _ hDZ.grown) hcn hkZ,any_key hDZ (Nat.le_refl _) hmZ hkZ c _ _,fun i hi hi2=>?_,?_⟩
     · show (Array.setIfInBounds _ _ _)[i]?=_
       rw [Array.getElem?_setIfInBounds,if_neg (fun e=>hi e.symm)]
       exact hZb.block i hi2
     · show _≤(Array.setIfInBounds _ _ _).size
       rw [Array.size_setIfInBounds];exact hZb.size
    have HK:Hid (KEY=_):=hKEY
    rw [hKEY] at hlk hup
    clear hKEY hmY hmZ hkY hkZ hDY hDZ hYb hZb
    have hpI:(0:Int)<(it.len:Int):=by omega
    have hpI':(0:Int)<(it.len':Int):=by omega
    have hltb:wo.heap.size<w1.heap.size:=by omega
    have a2:∀ o,(w1.alloc o).cell? ⟨wo.heap.size,2,none⟩=some (.slice (some ⟨c,0,none⟩) it.len it.cap):=fun o=>(World.cell?_of_block (Below.heap_alloc _ _ _ hltb)).trans p2
    have a5:∀ o,(w1.alloc o).cell? ⟨wo.heap.size,5,none⟩=some (.slice (some ⟨c',o',none⟩) it.len' it.cap'):=fun o=>(World.cell?_of_block (Below.heap_alloc _ _ _ hltb)).trans p5
    go_wp2_with fail
    go_region_held3 (fun w'=>w'.cell? ⟨wo.heap.size,2,none⟩=some (.slice (some ⟨c,0,none⟩) it.len it.cap)∧w'.cell? ⟨wo.heap.size,5,none⟩=some (.slice (some ⟨c',o',none⟩) it.len' it.cap')) (first|(refine⟨?_,?_⟩;exact p2;exact p5)|(refine⟨?_,?_⟩;exact a2 _;exact a5 _)) (fail)
    go_wp2_with fail
    have hpbw:wo.heap.size≠w.heap.size:=by
     obtain⟨es,cl,hm,_⟩:=hD.map
     have:=(Array.getElem?_eq_some_iff.1 hm).1
     omega
    have hboxZ:Z.heap[wo.heap.size]?=_:=(hZZ.1 wo.heap.size hpbw hltb).trans hbox
    clear hlk hup hbox p2 p5 a2 a5 hD hD2 hD3 hb1 hbw1 hA
    go_loopw [0,58] (fun u i wi=>∃ v,u=v∧∃ j:Nat,j≤it.len∧i=.int .i64 j∧AnyDyn w wi r w.heap.size v (init++ch.take j) (c::cs)∧wi.heap[wo.heap.size]?=some (.cells #[.int .i64 it.k,.int .i64 it.n,.slice it.ao it.len it.cap,.int .i64 it.k',.int .i64 it.n',.slice it.ao' it.len' it.cap'] 70 (0,0))∧v.ownBlock≠some wo.heap.size) (fun _ i _=>it.len - (intOf i).toNat)
    case atStart=>exact⟨_,rfl,0,by omega,rfl,by simpa using hDZ2,hboxZ,by simp [Value.ownBlock];omega⟩
    case round =>
     obtain⟨_,rfl,j,hj,rfl,hI,hbx,hob⟩:=hrel
     have hgI:=hI.grown
     have hszI:=hgI.size
     have hpbl:wo.heap.size<wr.heap.size:=(Array.getElem?_eq_some_iff.1 hbx).1
     by_cases hlt:j<it.len
     · have hj1:j<ch.length:=by have:=HCL.out;omega
       have hj2:j<it.ts.length:=by have:=HTS.out;omega
       have hj3:j<it.ts'.length:=by have:=HTS'.out;have:=HQ.out.2.2;omega
       obtain⟨_,_,_,_,y0,y1,y2,y3,y4,y5⟩:=HCH.out j hj1 hj2 hj3
       have hcc:∀ o,wr.cell? ⟨c,o,none⟩=w.cell? ⟨c,o,none⟩:=fun o=>World.cell?_of_block (a:=⟨c,o,none⟩) (hgI.block c hcb.1 (fun e=>hcb.2 e.symm))
       have hcc':∀ o,wr.cell? ⟨c',o,none⟩=w.cell? ⟨c',o,none⟩:=fun o=>World.cell?_of_block (a:=⟨c',o,none⟩) (hgI.block c' hcb'.1 (fun e=>hcb'.2 e.symm))
       have hcl:c<wr.heap.size:=by omega
       have hcl':c'<wr.heap.size:=by omega
       have p2:wr.cell? ⟨wo.heap.size,2,none⟩=some (.slice (some ⟨c,0,none⟩) it.len it.cap):=(Qaa hbx 2).trans (by rw [HAO.out];rfl)
       have p5:wr.cell? ⟨wo.heap.size,5,none⟩=some (.slice (some ⟨c',o',none⟩) it.len' it.cap'):=(Qaa hbx 5).trans (by rw [HAO'.out];rfl)
       have S0:wr.cell? ⟨wo.heap.size,2,none⟩=some (.slice (some ⟨c,0,none⟩) it.len it.cap)∧wr.cell? ⟨wo.heap.size,5,none⟩=some (.slice (some ⟨c',o',none⟩) it.len' it.cap')∧wr.cell? ⟨c,j*3,none⟩=some (.int .i64 ch[j].k)∧wr.cell? ⟨c,j*3+1,none⟩=some (.int .i64 ch[j].n)∧wr.cell? ⟨c,j*3+2,none⟩=some (.slice ch[j].ao ch[j].len ch[j].cap)∧wr.cell? ⟨c',o'+j*3,none⟩=some (.int .i64 ch[j].k')∧wr.cell? ⟨c',o'+j*3+1,none⟩=some (.int .i64 ch[j].n')∧wr.cell? ⟨c',o'+j*3+2,none⟩=some (.slice ch[j].ao' ch[j].len' ch[j].cap'):=⟨p2,p5,(hcc _).trans y0,(hcc _).trans y1,(hcc _).trans y2,(hcc' _).trans y3,(hcc' _).trans y4,(hcc' _).trans y5⟩
       have SK:∀ w':World,w'.heap[wo.heap.size]?=wr.heap[wo.heap.size]?->w'.heap[c]?=wr.heap[c]?->w'.heap[c']?=wr.heap[c']?->w'.cell? ⟨wo.heap.size,2,none⟩=some (.slice (some ⟨c,0,none⟩) it.len it.cap)∧w'.cell? ⟨wo.heap.size,5,none⟩=some (.slice (some ⟨c',o',none⟩) it.len' it.cap')∧w'.cell? ⟨c,j*3,none⟩=some (.int .i64 ch[j].k)∧w'.cell? ⟨c,j*3+1,none⟩=some (.int .i64 ch[j].n)∧w'.cell? ⟨c,j*3+2,none⟩=some (.slice ch[j].ao ch[j].len ch[j].cap)∧w'.cell? ⟨c',o'+j*3,none⟩=some (.int .i64 ch[j].k')∧w'.cell? ⟨c',o'+j*3+1,none⟩=some (.int .i64 ch[j].n')∧w'.cell? ⟨c',o'+j*3+2,none⟩=some (.slice ch[j].ao' ch[j].len' ch[j].cap'):=by
        intro w' k1 k2 k3
        have q1:∀ o,w'.cell? ⟨wo.heap.size,o,none⟩=wr.cell? ⟨wo.heap.size,o,none⟩:=fun o=>World.cell?_of_block (a:=⟨_,o,none⟩) k1
        have q2:∀ o,w'.cell? ⟨c,o,none⟩=wr.cell? ⟨c,o,none⟩:=fun o=>World.cell?_of_block (a:=⟨_,o,none⟩) k2
        have q3:∀ o,w'.cell? ⟨c',o,none⟩=wr.cell? ⟨c',o,none⟩:=fun o=>World.cell?_of_block (a:=⟨_,o,none⟩) k3
        obtain⟨r1,r2,r3,r4,r5,r6,r7,r8⟩:=S0
        exact⟨(q1 _).trans r1,(q1 _).trans r2,(q2 _).trans r3,(q2 _).trans r4,(q2 _).trans r5,(q3 _).trans r6,(q3 _).trans r7,(q3 _).trans r8⟩
       have SA:Hid (∀ o,(wr.alloc o).cell? ⟨wo.heap.size,2,none⟩=some (.slice (some ⟨c,0,none⟩) it.len it.cap)∧(wr.alloc o).cell? ⟨wo.heap.size,5,none⟩=some (.slice (some ⟨c',o',none⟩) it.len' it.cap')∧(wr.alloc o).cell? ⟨c,j*3,none⟩=some (.int .i64 ch[j].k)∧(wr.alloc o).cell? ⟨c,j*3+1,none⟩=some (.int .i64 ch[j].n)∧(wr.alloc o).cell? ⟨c,j*3+2,none⟩=some (.slice ch[j].ao ch[j].len ch[j].cap)∧(wr.alloc o).cell? ⟨c',o'+j*3,none⟩=some (.int .i64 ch[j].k')∧(wr.alloc o).cell? ⟨c',o'+j*3+1,none⟩=some (.int .i64 ch[j].n')∧(wr.alloc o).cell? ⟨c',o'+j*3+2,none⟩=some (.slice ch[j].ao' ch[j].len' ch[j].cap')):=fun o=>SK (wr.alloc o) (Below.heap_alloc _ _ _ hpbl) (Below.heap_alloc _ _ _ hcl) (Below.heap_alloc _ _ _ hcl')
       have hId:=any_below hI (Below.refl _ _).drew
       have hnum:(init++ch.take j).length≤1048577:=by
        have h1:=HS.out
        rw [List.map_append,List.sum_append] at h1
        simp only [List.map_cons,List.map_nil,List.sum_cons,List.sum_nil] at h1
        have h2:=sum_le_len (fun i=>cnt i.x) (fun i=>cnt_pos _) init
        have h3:cnt it.x=1+cntS it.ts:=Qdd it.x
        have h4:=Qem it.ts
        have h5:=HTS.out
        simp only [List.length_append,List.length_take]
        omega
       obtain⟨g2,cap2,w2,hrun,hN,hgr,hat⟩:=any_push hId hnum ch[j]
       have hge:∀ x,x<w.heap.size->r≠some x->u0.ownBlock≠some x:=by
        intro x h1 h2 e
        rcases hI.blk x e with h3|h3
        · exact h2 h3
        · omega
       have hk2:∀ x,x<wr.heap.size->u0.ownBlock≠some x->w2.heap[x]?=wr.heap[x]?:=fun x hx hne=>hgr.block x hx (fun e=>hne e.symm)
       have hbx2:w2.heap[wo.heap.size]?=_:=(hk2 _ hpbl hob).trans hbx
       have S2:Hid (w2.cell? ⟨wo.heap.size,2,none⟩=some (.slice (some ⟨c,0,none⟩) it.len it.cap)∧w2.cell? ⟨wo.heap.size,5,none⟩=some (.slice (some ⟨c',o',none⟩) it.len' it.cap')∧w2.cell? ⟨c,j*3,none⟩=some (.int .i64 ch[j].k)∧w2.cell? ⟨c,j*3+1,none⟩=some (.int .i64 ch[j].n)∧w2.cell? ⟨c,j*3+2,none⟩=some (.slice ch[j].ao ch[j].len ch[j].cap)∧w2.cell? ⟨c',o'+j*3,none⟩=some (.int .i64 ch[j].k')∧w2.cell? ⟨c',o'+j*3+1,none⟩=some (.int .i64 ch[j].n')∧w2.cell? ⟨c',o'+j*3+2,none⟩=some (.slice ch[j].ao' ch[j].len' ch[j].cap')):=SK w2 (hk2 _ hpbl hob) (hk2 _ hcl (hge c hcb.1 hcb.2)) (hk2 _ hcl' (hge c' hcb'.1 hcb'.2))
       have hN2:AnyDyn w w2 r w.heap.size (.slice (some ⟨g2,0,none⟩) ((init++ch.take j).length+1) cap2) (init++ch.take (j+1)) (c::cs):=by
        rw [List.take_succ_eq_append_getElem hj1,← List.append_assoc];exact hN
       have hob2:(Value.slice (some ⟨g2,0,none⟩) ((init++ch.take j).length+1) cap2).ownBlock≠some wo.heap.size:=by
        simp only [Value.ownBlock]
        intro e
        have e':g2=wo.heap.size:=by simpa using e
        rcases hat with hat|hat
        · exact hob (by rw [hat,e'])
        · have:wr.drew.heap.size=wr.heap.size:=rfl
          omega
       have HR:Hid ((Builtin.append_ #[64,64] 64 #[u0,.slice (some ⟨wr.heap.size,0,none⟩) 1 1]).run Try.prog (wr.alloc (.cells #[.int .i64 ch[j].k,.int .i64 ch[j].n,.slice ch[j].ao ch[j].len ch[j].cap,.int .i64 ch[j].k',.int .i64 ch[j].n',.slice ch[j].ao' ch[j].len' ch[j].cap'] 70)).drew=.ok (.slice (some ⟨g2,0,none⟩) ((init++ch.take j).length+1) cap2) w2):=hrun
       have hjI:(0:Int)≤(j:Int):=by omega
       have hjl:(j:Int)<(it.len:Int):=by omega
       have hjl':(j:Int)<(it.len':Int):=by have:=HQ.out.2.2;omega
       obtain⟨m0,m1,m2,m3,m4,m5,m6,m7⟩:=S0
       clear hcc hcc' SK hk2 hge hrun hN hgr hat y0 y1 y2 y3 y4 y5 hId p2 p5
       generalize (init++ch.take j).length+1=nn at *
       go_wp2_with fail
       go_region_held3 (fun w'=>w'.cell? ⟨wo.heap.size,2,none⟩=some (.slice (some ⟨c,0,none⟩) it.len it.cap)∧w'.cell? ⟨wo.heap.size,5,none⟩=some (.slice (some ⟨c',o',none⟩) it.len' it.cap')∧w'.cell? ⟨c,j*3,none⟩=some (.int .i64 ch[j].k)∧w'.cell? ⟨c,j*3+1,none⟩=some (.int .i64 ch[j].n)∧w'.cell? ⟨c,j*3+2,none⟩=some (.slice ch[j].ao ch[j].len ch[j].cap)∧w'.cell? ⟨c',o'+j*3,none⟩=some (.int .i64 ch[j].k')∧w'.cell? ⟨c',o'+j*3+1,none⟩=some (.int .i64 ch[j].n')∧w'.cell? ⟨c',o'+j*3+2,none⟩=some (.slice ch[j].ao' ch[j].len' ch[j].cap'))
        (first|(refine⟨?_,?_,?_,?_,?_,?_,?_,?_⟩;exact m0;exact m1;exact m2;exact m3;exact m4;exact m5;exact m6;exact m7)|exact SA.out _|exact S2.out)
        (refine Qbs HR.out (by rfl) _ _ (by rfl) (by rfl) (by rfl) (by rfl) ?_)
       clear m0 m1 m2 m3 m4 m5 m6 m7
       go_wp2_with fail
       go_roundw
       case rel=>exact⟨_,rfl,j+1,by omega,by go_num,hN2,hbx2,hob2⟩
       case measure=>simp [intOf];omega
     · have HN:Hid (AnyR w D L' B' r b u0 wr (((init++ch).map fun i=>cnt i.x).sum)∧((init++ch).map fun i=>cnt i.x).sum<μ (.slice (some ⟨g,0,none⟩) (init.length+1) cap) wo):=by
        have h5:=HTS.out
        have h6:=HTS'.out
        have h7:=HCL.out
        have h8:=HQ.out
        have ex:ch.map It.x=it.ts:=List.ext_getElem (by simp;omega) (fun i h1 h2=>by
         simp only [List.getElem_map];exact (HCH.out i (by simpa using h1) h2 (by omega)).1)
        have ey:ch.map It.y=it.ts':=List.ext_getElem (by simp;omega) (fun i h1 h2=>by
         simp only [List.getElem_map];exact (HCH.out i (by simpa using h1) (by omega) h2).2.1)
        have hs:=HS.out
        rw [List.map_append,List.sum_append] at hs
        simp only [List.map_cons,List.map_nil,List.sum_cons,List.sum_nil] at hs
        have hcn2:cnt it.x=1+cntS it.ts:=Qdd it.x
        have hcs:(ch.map fun i=>cnt i.x).sum=cntS it.ts:=by
         unfold cntS;rw [← ex,List.map_map];rfl
        have hsum2:((init++ch).map fun i=>cnt i.x).sum=(init.map fun i=>cnt i.x).sum+cntS it.ts:=by rw [List.map_append,List.sum_append,hcs]
        have hlj:ch.take j=ch:=List.take_of_length_le (by omega)
        refine⟨⟨init++ch,c::cs,by rw [← hlj];exact hI,anyst_parts hS HBS.out HFR.out ?_,?_,rfl,by rw [hsum2];omega⟩,by rw [hsum2];omega⟩
        · intro i hi
          obtain⟨q,hq,rfl⟩:=List.getElem_of_mem hi
          have:=HCH.out q hq (by omega) (by omega)
          exact⟨this.2.2.1,this.2.2.2.1⟩
        · rw [HL.out]
          have hpl:it.x=it.y↔∀ i∈ch,i.x=i.y:=parts_like ex ey h8.1 h8.2.1
          constructor
          · intro h i hi
            rw [List.mem_append] at hi
            rcases hi with hi|hi
            · exact h i (by simp [hi])
            · exact hpl.1 (h it (by simp)) i hi
          · intro h i hi
            rw [List.mem_append] at hi
            rcases hi with hi|hi
            · exact h i (by simp [hi])
            · simp at hi
              rw [hi]
              exact hpl.2 (fun i hi=>h i (by simp [hi]))
       go_wp2_with fail
       go_roundw
       case rel=>exact⟨_,rfl,_,HN.out.1⟩
       case measure=>exact Nat.lt_of_le_of_lt (HM.out _ _ _ HN.out.1).1 HN.out.2
end Go.Proofs.Ytleghjgpnefliaa
