/-
  What the methods of 'ownLists' come to. (Written by mkol.py.)
-/
import Derived.Test.YtcepgedbmffkdaaGreatFbaZ39
import Derived.Test.YtcepgedbmffkdaaGreatFbaZ1
import Derived.Test.YtcepgedbmffkdaaGreatFbaZ7
import Derived.Deep.RegionHeld3
import Derived.Deep.RegionLaw
import Derived.Sort.AtCall
import Derived.LoopN
import Derived.Deep.CutBlock
import Derived.Test.YtcepgedbmffkdaaGreatFbaZ37
namespace Go.Proofs.YtcepgedbmffkdaaGreat
open Go.RowKit
set_option linter.unusedVariables false
set_option linter.unusedSimpArgs false
def kidsY (h n:Nat):List (Nat × Nat):=(List.range n).map fun i=>(h,i * 3)
theorem kidsY_succ (h n:Nat):kidsY h (n+1)=kidsY h n ++ [(h,n * 3)]:=by simp [kidsY,List.range_succ]
theorem kidsY_len (h n:Nat):(kidsY h n).length=n:=by simp [kidsY]
set_option maxHeartbeats 1000000 in
theorem placeOfY_any (c n cap:Nat) (hn:0 < n) (hn2:n≤4194304) (w:World) :
    Calls Tryz.prog 81 #[.slice (some ⟨c,0,none⟩) n cap] w fun e w'=>e=.returned (keyY c n)∧Below w.heap.size w w':=by
  have hbel:Below w.heap.size w (w.alloc (.cells #[.pointer (some ⟨c,0,none⟩),.int .i64 n] 146)):=(Below.refl _ _).alloc (Nat.le_refl _) _
  have h:(w.alloc (.cells #[.pointer (some ⟨c,0,none⟩),.int .i64 n] 146)).heap[w.heap.size]?=_:=heap_new rfl
  have p0:=row_cell h 0
  have p1:=row_cell h 1
  clear h
  have h0:(0:Int) < n:=by omega
  go_enter Tryz.func81,Tryz.ntmps81
  go_wp2_with fail
  refine bodyPost_ret (v:=keyY c n) (by simp [results,Tryz.results81,go_sem,p0,p1,keyY]) rfl ⟨rfl,hbel⟩
theorem ownY_none (o:Value) (ao:Option Addr) (cap:Nat) (w:World) :
    Calls Tryz.prog 57 #[o,.slice ao 0 cap] w fun e w'=>e=.returned (.slice none 0 0)∧w'=w:=by
  go_enter Tryz.func57,Tryz.ntmps57
  go_wp2_with fail
  go_ret
  exact ⟨rfl,rfl⟩
set_option maxRecDepth 100000 in
set_option maxHeartbeats 4000000 in
theorem nextY_any {base:Nat} {wr:World} {op mp:Nat} {v:Value} {init:List (Nat × Nat)} {p:Nat × Nat} {cs:List Nat} (h:OlY base wr op mp v (init ++ [p]) cs) :
    Calls Tryz.prog 58 #[.pointer (some ⟨op,0,none⟩)] wr fun e w'=>e=.returned (.pointer (some ⟨p.1,p.2,none⟩))∧∃ v',OlY base w' op mp v' init cs∧ChgY op mp v v' wr w':=by
  obtain ⟨g,cap,rfl,hgl,hgo,hc1,hc2,hcell,hO⟩:=olY_pop h
  obtain ⟨z,hz⟩:=h.box
  have b1:=row_cell hz 1
  have bf:=row_free hz 1
  have e1:((init.length:Int)+1 - 1)=init.length:=by omega
  have hi1:(0:Int)≤(init.length:Int):=by omega
  have hi2:(init.length:Int) < (init.length:Int)+1:=by omega
  have hC:ChgY op mp (.slice (some ⟨g,0,none⟩) (init.length+1) cap) (.slice (some ⟨g,0,none⟩) init.length cap) wr (wr.setCell ⟨op,1,none⟩ (.slice (some ⟨g,0,none⟩) init.length cap)) :=
    ⟨rfl,rfl,rfl,by simp,fun b hb h1 _ _=>row_other _ _ _ h1,fun x hx=>Or.inl hx⟩
  clear hz h
  go_enter Tryz.func58,Tryz.ntmps58
  go_wp2_with fail
  go_ret
  exact ⟨rfl,_,hO,hC⟩
theorem nilY_yes (w:World):(binOp BinOp.eql 78 (.map none) (.map none)).run Tryz.prog w=.ok (.bool true) w:=by kernel_rfl
theorem nilY_no (w:World) (m:Nat):(binOp BinOp.eql 78 (.map (some m)) (.map none)).run Tryz.prog w=.ok (.bool false) w:=by kernel_rfl
set_option maxRecDepth 100000 in
set_option maxHeartbeats 8000000 in
theorem ownY_some {base:Nat} {w0:World} {op mp:Nat} {v:Value} {ps:List (Nat × Nat)} {cs:List Nat} (h:OlY base w0 op mp v ps cs) (g n cap:Nat) (hn:0 < n) (hsz:ps.length+n≤8388608) (hn2:n≤4194304) (hg:g ∉ cs) (hgb:g < base) {cur:Array Value} (hcur:w0.heap[g]?=some (.cells cur 31 (0,0))) (hcn:n * 3≤cur.size) (h1:∀ j (hj:j < n * 3),(cur[j]'(by omega)).oneCell'=true) :
    Calls Tryz.prog 57 #[.pointer (some ⟨op,0,none⟩),.slice (some ⟨g,0,none⟩) n cap] w0 fun e w'=>∃ hb v' mp',(mp'=mp∨w0.heap.size≤mp')∧mp'≠op∧e=.returned (.slice (some ⟨hb,0,none⟩) n n)∧OlY base w' op mp' v' (ps ++ kidsY hb n) (g :: cs)∧ChgY op mp v v' w0 w'∧w0.heap.size≤hb∧w'.heap[hb]?=some (.cells (cur.toList.take (n * 3)).toArray 31 (0,0))∧v'.ownBlock≠some hb:=by
  obtain ⟨i0,hi,hz0,hz1,hz2⟩:=info_parts Tryz.infoFY
  have hmk:∃ C:Array Value,C.size=n * 3∧∀ w:World,(Instr.makeSlice 29 (.int .i64 (n:Int)) (.int .i64 (n:Int))).run Tryz.prog w=.ok (.slice (some ⟨w.heap.size,0,none⟩) n n) (w.alloc (.cells C 31)):=by
    refine ⟨madeCells (Value.cells (.agg #[.int .i64 0,.int .i64 0,.slice none 0 0])) (n * 3),?_,fun w=>?_⟩
    · exact size_madeCells _ _
    · have:=run_make (P:=Tryz.prog) (w:=w) 29 31 i0 _ Tryz.underlying29 hi hz0 .i64 .i64 (n:Int) (n:Int) (by omega) (by omega) (by rw [hz2];omega) (by omega)
      rw [hz1] at this
      simpa using this
  obtain ⟨C,hC,hmk⟩:=hmk
  have hne:((n:Int) == 0)=false:=by rw [beq_eq_false_iff_ne];omega
  clear hi hz0 hz1 hz2
  have hgl:g < w0.heap.size:=(Array.getElem?_eq_some_iff.1 hcur).1
  have HMK:Hid (∀ w:World,(Instr.makeSlice 29 (.int .i64 (n:Int)) (.int .i64 (n:Int))).run Tryz.prog w=.ok (.slice (some ⟨w.heap.size,0,none⟩) n n) (w.alloc (.cells C 31))):=hmk
  clear hmk
  go_enter Tryz.func57,Tryz.ntmps57
  go_wp2_with fail
  refine (placeOfY_any g n cap hn hn2 w0).mono ?_
  rintro e w1 ⟨rfl,hb1⟩
  have hz1:=hb1.size
  unfold keyY
  obtain ⟨Y,hY⟩:∃ Y,Y=w1.alloc (.cells #[.pointer (some ⟨g,0,none⟩),.int .i64 n] 146):=⟨_,rfl⟩
  have hYb:Below w0.heap.size w0 Y:=hb1.trans (by rw [hY];exact (Below.refl _ _).alloc hz1 _)
  have hYk:Y.heap[w1.heap.size]?=some (.cells #[.pointer (some ⟨g,0,none⟩),.int .i64 n] 146 (0,0)):=by rw [hY];exact heap_new rfl
  have hYs:Y.heap.size=w1.heap.size+1:=by rw [hY];simp
  have HY:Hid (Y=_):=hY
  clear hY
  go_wp2_with fail
  rw [← HY.out]
  have hO:=olY_below h hYb
  have hgY:=(hYb.block g hgl).trans hcur
  obtain ⟨z,hz⟩:=hO.box
  have b0:=row_cell hz 0
  have k0:=row_cell hYk 0
  have k1:=row_cell hYk 1
  have hlk:=olY_look (olY_below hO (Below.refl _ _).drew) g n hg (a:=cur) (t:=31) hgY
  unfold keyY at hlk
  go_region
  clear hlk b0 k0 k1
  have hO1:OlY base Y.drew op mp v ps cs:=olY_below hO (Below.refl _ _).drew
  have hK1:Y.drew.heap[w1.heap.size]?=some (.cells #[.pointer (some ⟨g,0,none⟩),.int .i64 n] 146 (0,0)):=hYk
  have hG1:Y.drew.heap[g]?=some (.cells cur 31 (0,0)):=hgY
  have hB1:Below w0.heap.size w0 Y.drew:=hYb.drew
  have hS1:w1.heap.size < Y.drew.heap.size:=by show _ < Y.heap.size;omega
  clear hO hYk hgY hz hYb hYs HY hb1
  generalize Y.drew=Y1 at *
  obtain ⟨Z,hcp,hZb,hZs,hZh⟩:=copyY (c:=cap) hG1 hcn h1 C hC
  have hmk:=HMK.out
  go_wp2_with fail
  clear hcp hmk
  have hgY1:g < Y1.heap.size:=(Array.getElem?_eq_some_iff.1 hG1).1
  have hOZ:=olY_below hO1 hZb
  obtain ⟨q1,q2,q3⟩:=olY_in hO1
  have hKZ:=(hZb.block _ hS1).trans hK1
  have HB:Hid (Below w0.heap.size w0 Z):=hB1.trans (hZb.mono hB1.size)
  have HI:Hid (op < Y1.heap.size∧mp < Y1.heap.size∧∀ x,v.ownBlock=some x→x < Y1.heap.size):=⟨q1,q2,q3⟩
  have HN:Hid (0 < n∧n≤4194304∧ps.length+n≤8388608):=⟨hn,hn2,hsz⟩
  have HGZ:Hid (Z.heap[g]?=some (.cells cur 31 (0,0))):=(hZb.block _ hgY1).trans hG1
  have HZ:Hid (Z.heap.size=Y1.heap.size+1∧w1.heap.size < Y1.heap.size):=⟨hZs,hS1⟩
  have hB0:Hid (w0.heap.size≤Y1.heap.size):=hB1.size
  clear q1 q2 q3 hO1 hK1 hG1 hB1 hZb hgY1 HMK hne h hZs hS1 h1 hcn
  generalize Y1.heap.size=H at *
  go_loopw [48] (fun y wr=>∃ i:Nat,y=.int .i64 i∧i≤n∧∃ v',OlY base wr op mp v' (ps ++ kidsY H i) cs∧ChgY op mp v v' Z wr) (fun y _=>n - (intOf y).toNat)
  case atStart=>exact ⟨0,rfl,by omega,v,by simpa [kidsY] using hOZ,ChgY.refl _ _ _ _⟩
  case round =>
    obtain ⟨i,rfl,hi,v',hO',hC'⟩:=hrel
    by_cases hlt:i < n
    · obtain ⟨a,ca,W2,hrun,hOW,hCW,hWs,z2,hWx⟩:=olY_push (olY_below hO' (Below.refl _ _).drew) (by rw [List.length_append,kidsY_len];have:=HN.out;omega) (H,i * 3)
      obtain ⟨z',hz'⟩:=hO'.box
      have hol:op < wr.heap.size:=(Array.getElem?_eq_some_iff.1 hz').1
      have hlen:(ps ++ kidsY H i).length=ps.length+i:=by rw [List.length_append,kidsY_len]
      rw [hlen] at hrun hOW hCW
      have SA:Hid (∀ o,(wr.alloc o).cell? ⟨op,1,none⟩=some v'∧(wr.alloc o).frozen? ⟨op,1,none⟩=false):=fun o=>by
        have e1:(wr.alloc o).heap[op]?=_:=(Below.heap_alloc _ _ _ hol).trans hz'
        exact ⟨row_cell e1 1,row_free e1 1⟩
      have HR:Hid ((Builtin.append_ #[79,79] 79 #[v',.slice (some ⟨wr.heap.size,0,none⟩) 1 1]).run Tryz.prog (wr.alloc (.cells #[.pointer (some ⟨H,i * 3,none⟩)] 84)).drew=.ok (.slice (some ⟨a,0,none⟩) (ps.length+i+1) ca) W2):=hrun
      have m0:=row_cell hz' 1
      have m1:=row_free hz' 1
      have n0:=fun o=>(SA.out o).1
      have n1:=fun o=>(SA.out o).2
      have x0:=row_cell hWx 1
      have x1:=row_free hWx 1
      have hrun2:=HR.out
      have hCN:ChgY op mp v (.slice (some ⟨a,0,none⟩) (ps.length+i+1) ca) Z (W2.setCell ⟨op,1,none⟩ (.slice (some ⟨a,0,none⟩) (ps.length+i+1) ca)):=(hC'.trans ⟨hCW.os,hCW.tape,hCW.output,hCW.size,hCW.block,hCW.vb⟩).setOp _ _
      have HON:Hid (OlY base (W2.setCell ⟨op,1,none⟩ (.slice (some ⟨a,0,none⟩) (ps.length+i+1) ca)) op mp (.slice (some ⟨a,0,none⟩) (ps.length+i+1) ca) (ps ++ kidsY H (i+1)) cs):=by
        have e:=hOW
        rw [List.append_assoc,← kidsY_succ] at e
        exact e
      have HCN:Hid (ChgY op mp v (.slice (some ⟨a,0,none⟩) (ps.length+i+1) ca) Z (W2.setCell ⟨op,1,none⟩ (.slice (some ⟨a,0,none⟩) (ps.length+i+1) ca))):=hCN
      have hiI:(0:Int)≤(i:Int):=by omega
      have hil:(i:Int) < (n:Int):=by omega
      clear hrun hOW hCW hWx hWs hCN hO' hC' hz' hlen
      go_wp2_with fail
      go_region_law (refine step_run hrun2 (by rfl) _ _ (by rfl) (by rfl) (by rfl) (by rfl) ?_)
      all_goals
        go_wp2_with fail
        go_roundw
        case rel=>exact ⟨i+1,by go_num,by omega,_,HON.out,HCN.out⟩
        case measure=>simp [intOf];omega
    · obtain rfl:i=n:=by omega
      have hgz:=HGZ.out
      have hin:=HI.out
      have hzz:=HZ.out
      have hbase:=hO'.bs
      have hv'H:v'.ownBlock≠some H:=fun e=>by
        rcases hC'.vb _ e with e | e
        · have:=hin.2.2 _ e;omega
        · omega
      have hgb':∀ b,b < Z.heap.size→b≠op→b≠mp→v.ownBlock≠some b→wr.heap[b]?=Z.heap[b]?:=hC'.block
      have hvH:v.ownBlock≠some H:=fun e=>by have:=hin.2.2 _ e;omega
      have hHx:wr.heap[H]?=some (.cells (cur.toList.take (i * 3)).toArray 31 (0,0)):=(hgb' H (by omega) (by omega) (by omega) hvH).trans hZh
      have hkv:v.ownBlock≠some w1.heap.size:=fun e=>by
        obtain ⟨_,cur',fr,e1⟩:=own_cells hOZ.row e
        rw [hKZ] at e1;cases e1
      have hko:w1.heap.size≠op:=fun e=>by
        obtain ⟨z9,hz9⟩:=hOZ.box
        rw [← e,hKZ] at hz9;cases hz9
      have hkm:w1.heap.size≠mp:=fun e=>by
        rcases hOZ.map with ⟨h9,_⟩ | ⟨_,es9,cl9,hm9,_⟩
        · exact hko (e.trans h9)
        · rw [← e,hKZ] at hm9;cases hm9
      have hKx:=(hgb' w1.heap.size (by omega) hko hkm hkv).trans hKZ
      have hgx:wr.heap[g]?=some (.cells cur 31 (0,0)):=by
        have o1:=hOZ.opl
        have o2:=hOZ.mpl
        refine (hgb' g (Array.getElem?_eq_some_iff.1 hgz).1 (by omega) (by omega) fun e=>?_).trans hgz
        have:=hOZ.blk g e
        omega
      obtain ⟨z',hz'⟩:=hO'.box
      have hHl:w0.heap.size≤H:=by have:=HB.out.size;have:=hB0.out;omega
      have hHo:H≠mp:=by omega
      have hHop:H≠op:=by omega
      have hHw:=(Array.getElem?_eq_some_iff.1 hHx).1
      have hCw:ChgY op mp v v' w0 wr:=((ChgY.refl op mp v w0).below HB.out).trans hC'
      by_cases hmo:mp=op
      · have hO2:OlY base wr op op v' (ps ++ kidsY H i) cs:=by rw [← hmo] at hO' ⊢;rw [hmo];rw [hmo] at hO';exact hO'
        obtain ⟨hON,hCN,hne,hoth,hsz⟩:=olY_new hO2
        have hol:op < wr.heap.size:=(Array.getElem?_eq_some_iff.1 hz').1
        have hmv:mvalY op mp=.map none:=by rw [hmo];exact mvalY_no op
        rw [hmv] at hz'
        have hC2:ChgY op mp v v' w0 ((wr.alloc (.map #[] 0)).setCell ⟨op,0,none⟩ (.map (some wr.heap.size))):=hCw.transN (mp':=op) hCN (Or.inl hmo.symm)
        obtain ⟨V,hV⟩:∃ V,V=(wr.alloc (.map #[] 0)).setCell ⟨op,0,none⟩ (.map (some wr.heap.size)):=⟨_,rfl⟩
        rw [← hV] at hON hCN hC2 hoth hsz
        have HV:Hid (V=(wr.setCell ⟨op,0,none⟩ (.map (some wr.heap.size))).alloc (.map #[] 0)):=by
          show V=_
          rw [hV,World.setCell_alloc_past _ _ _ _ hol]
        have hVK:=(hoth w1.heap.size (by have:=(Array.getElem?_eq_some_iff.1 hKx).1;omega) hko).trans hKx
        have hVg:=(hoth g (Array.getElem?_eq_some_iff.1 hgx).1 (by have o1:=hOZ.opl;omega)).trans hgx
        have hVH:=(hoth H hHw hHop).trans hHx
        obtain ⟨Q,hup,hOQ,hCQ,hQo,hQs⟩:=olY_key (olY_below hON (Below.refl _ _).drew) hne g i hg hgb (a:=cur) (t:=31) hVg (.slice (some ⟨H,0,none⟩) i i)
        unfold keyY at hup
        have b0:=row_cell hz' 0
        have SA:∀ o,(wr.alloc o).cell? ⟨op,0,none⟩=some (.map none)∧(wr.alloc o).frozen? ⟨op,0,none⟩=false:=fun o=>by
          have e1:(wr.alloc o).heap[op]?=_:=(Below.heap_alloc _ _ _ hol).trans hz'
          exact ⟨row_cell e1 0,row_free e1 0⟩
        have n0:=fun o=>(SA o).1
        have n1:=fun o=>(SA o).2
        have hmk:∀ w:World,(Instr.makeMap 78 none).run Tryz.prog w=.ok (.map (some w.heap.size)) (w.alloc (.map #[] 0)):=fun w=>rfl
        have hwn:w0.heap.size≤wr.heap.size:=by omega
        have HF:Hid (OlY base Q op wr.heap.size v' (ps ++ kidsY H i) (g :: cs)∧ChgY op mp v v' w0 Q∧Q.heap[H]?=some (.cells (cur.toList.take (i * 3)).toArray 31 (0,0))) :=
          ⟨hOQ,(hC2.below (Below.refl _ _).drew).transN (mp':=wr.heap.size) hCQ (Or.inr hwn),(hQo H (by omega)).trans hVH⟩
        have HWN:Hid (w0.heap.size≤wr.heap.size∧wr.heap.size≠op):=⟨hwn,hne⟩
        obtain ⟨z3,hz3⟩:=hON.box
        rw [mvalY_some hne] at hz3
        have b0':=row_cell hz3 0
        have k0:=row_cell hVK 0
        have k1:=row_cell hVK 1
        clear hOQ hCQ hQo hQs hO' hC' hz' hO2 hON hCN hC2 hoth hsz hV hmo SA hne hz3 hmv
        have hbo:=nilY_yes
        go_upto_region 18 with fail
        rw [← HV.out]
        go_region
        go_wp2_with fail
        go_ret
        exact ⟨H,v',_,Or.inr HWN.out.1,HWN.out.2,rfl,HF.out.1,HF.out.2.1,hHl,HF.out.2.2,hv'H⟩
      · obtain ⟨Q,hup,hOQ,hCQ,hQo,hQs⟩:=olY_key (olY_below hO' (Below.refl _ _).drew) hmo g i hg hgb (a:=cur) (t:=31) hgx (.slice (some ⟨H,0,none⟩) i i)
        unfold keyY at hup
        rw [mvalY_some hmo] at hz'
        have b0:=row_cell hz' 0
        have k0:=row_cell hKx 0
        have k1:=row_cell hKx 1
        have HF:Hid (OlY base Q op mp v' (ps ++ kidsY H i) (g :: cs)∧ChgY op mp v v' w0 Q∧Q.heap[H]?=some (.cells (cur.toList.take (i * 3)).toArray 31 (0,0))) :=
          ⟨hOQ,(hCw.below (Below.refl _ _).drew).trans hCQ,(hQo H hHo).trans hHx⟩
        have HMO:Hid (mp≠op):=hmo
        clear hOQ hCQ hQo hQs hO' hC' hz' hmo
        have hbo:=nilY_no
        go_wp2_with fail
        go_region
        go_wp2_with fail
        go_ret
        exact ⟨H,v',mp,Or.inl rfl,HMO.out,rfl,HF.out.1,HF.out.2.1,hHl,HF.out.2.2,hv'H⟩
end Go.Proofs.YtcepgedbmffkdaaGreat

/-
  A copy list by list: the cells of a copied row; what it comes to in the end: no walk.
-/
namespace Go.Proofs.YtcepgedbmffkdaaGreat
open Go.RowKit
set_option linter.unusedVariables false
set_option linter.unusedSimpArgs false
theorem list_of {α:Type} (P:Nat→α→Prop):∀ n,(∀ i,i < n→∃ x,P i x)→∃ l:List α,l.length=n∧∀ i (hi:i < l.length),P i l[i]
  | 0,_=>⟨[],rfl,fun i hi=>by simp at hi⟩
  | n+1,h=>by
    obtain ⟨l,h1,h2⟩:=list_of P n fun i hi=>h i (by omega)
    obtain ⟨x,hx⟩:=h n (by omega)
    refine ⟨l ++ [x],by simp [h1],fun i hi=>?_⟩
    by_cases hlt:i < l.length
    · rw [List.getElem_append_left hlt];exact h2 i hlt
    · rw [List.getElem_append_right (by omega)]
      have:i=n:=by simp at hi;omega
      subst this
      simpa [h1] using hx
structure TP where
  h:Nat
  o:Nat
  t:Tm
  a1:Option Addr
  l1:Nat
  c1:Nat
  a2:Option Addr
  l2:Nat
  c2:Nat
  a3:Option Addr
  l3:Nat
  c3:Nat
  p1:List Nat
  p2:List Nat
  p3:List Nat
def TP.cT (x:TP):Cl:=⟨x.h,x.o+6,false,x.a1,x.l1,x.c1,[],x.t.T.A,x.p1⟩
def TP.cTs (x:TP):Cl:=⟨x.h,x.o+7,false,x.a2,x.l2,x.c2,[],x.t.Ts,x.p2⟩
def TP.cA (x:TP):Cl:=⟨x.h,x.o+8,true,x.a3,x.l3,x.c3,x.t.A,[],x.p3⟩
def TP.cells (x:TP):List Cl:=[x.cT,x.cTs,x.cA]
def TP.ad (x:TP):Nat × Nat:=(x.h,x.o)
def TP.wt (x:TP):Nat:=2+2 * cntM x.t
def Cl.ad (x:Cl):Nat × Nat:=(x.h,x.o - 2)
def Cl.wt (x:Cl):Nat:=1+cntS x.tr
structure NewC (X:World) (D d:Nat) (k:Bool) (g n hb:Nat) (ncs:List Cl) (bs:List Nat):Prop where
  h1:∀ c ∈ ncs,c.h=hb∧c.o < n * szK k∧slK k (c.o % szK k)=some c.k∧X.cell? ⟨g,c.o,none⟩=some c.val∧c.ok X D d
  h2:∀ o k',o < n * szK k→slK k (o % szK k)=some k'→∃ c ∈ ncs,c.o=o
  h3:(ncs.flatMap Cl.bs ++ [g]).Perm bs
  h4:(ncs.map Cl.o).Nodup
theorem cells_up:∀ (its:List TP) (s:Nat),(∀ i (hi:i < its.length),its[i].o=(s+i) * 9)→((its.flatMap TP.cells).map Cl.o).Pairwise (· < ·)∧∀ o ∈ (its.flatMap TP.cells).map Cl.o,s * 9+6≤o
  | [],_,_=>by simp
  | x :: l,s,h=>by
    obtain ⟨h1,h2⟩:=cells_up l (s+1) fun i hi=>by have:=h (i+1) (by simp;omega);rw [List.getElem_cons_succ] at this;omega
    have h0:=h 0 (by simp)
    simp only [List.getElem_cons_zero,Nat.add_zero] at h0
    have h3:∀ o ∈ (l.flatMap TP.cells).map Cl.o,s * 9+15≤o:=fun o ho=>by have:=h2 o ho;omega
    simp only [List.flatMap_cons,List.map_append,TP.cells,List.map_cons,List.map_nil,TP.cT,TP.cTs,TP.cA,List.cons_append,List.nil_append,h0]
    refine ⟨List.Pairwise.cons ?_ (List.Pairwise.cons ?_ (List.Pairwise.cons ?_ h1)),?_⟩
    · intro o ho
      simp only [List.mem_cons] at ho
      rcases ho with rfl | rfl | ho
      · omega
      · omega
      · have:=h3 o ho;omega
    · intro o ho
      simp only [List.mem_cons] at ho
      rcases ho with rfl | ho
      · omega
      · have:=h3 o ho;omega
    · intro o ho
      have:=h3 o ho;omega
    · intro o ho
      simp only [List.mem_cons] at ho
      rcases ho with rfl | rfl | rfl | ho
      · omega
      · omega
      · omega
      · have:=h3 o ho;omega
theorem wts:∀ its:List TP,(its.map TP.wt).sum=2 * cntMS (its.map TP.t)
  | []=>rfl
  | x :: l=>by
    have:=wts l
    simp only [List.map_cons,List.sum_cons,this,TP.wt,cntMS,List.length_cons]
    omega
theorem newM {X:World} {D d:Nat} {x:Cl} (hk:x.k=true) (hl:0 < x.l) (ho:x.ok X D d) (hb:Nat) :
    ∃ (g:Nat) (cs:Array Value) (its:List TP),x.a=some ⟨g,0,none⟩∧g ∈ x.bs∧X.heap[g]?=some (.cells cs 34 (0,0))∧∃ hn:x.l * 9≤cs.size,(∀ j (hj:j < x.l * 9),(cs[j]'(by omega)).oneCell'=true)∧x.l≤9223372036854775807∧x.l=x.tm.length ∧
      its.map TP.ad=kidsM hb x.l∧its.map TP.t=x.tm∧NewC X D d true g x.l hb (its.flatMap TP.cells) x.bs:=by
  unfold Cl.ok at ho
  rw [hk] at ho
  simp only at ho
  cases d with
  | zero=>have:=ho.1;omega
  | succ d =>
    rcases ho with ⟨e,_⟩ | ⟨g,cs,bss,e,hlt,hmx,hg,hc,hbl,hbs,hE⟩
    · omega
    · obtain ⟨its,hil,hit⟩:=list_of (fun i (y:TP)=>y.h=hb∧y.o=i * 9∧(∃ hi:i < x.tm.length,y.t=x.tm[i])∧(∃ hi:i < bss.length,bss[i]=y.p1 ++ y.p2 ++ y.p3)∧Nine X g (i * 9) y.t.K y.t.N y.t.S y.t.Z y.t.T.K y.t.T.N (.slice y.a1 y.l1 y.c1) (.slice y.a2 y.l2 y.c2) (.slice y.a3 y.l3 y.c3)∧Ow X D y.a1 y.l1 y.t.T.A y.p1∧Ow X D y.a2 y.l2 y.t.Ts y.p2∧OwM X D (d+1) y.a3 y.l3 y.t.A y.p3) x.l (fun i hi=>by
        obtain ⟨a1,l1,c1,a2,l2,c2,a3,l3,c3,h9,p1,p2,p3,hp,_,_,q1,q2,q3⟩:=hE i (by omega) (by omega)
        exact ⟨⟨hb,i * 9,x.tm[i]'(by omega),a1,l1,c1,a2,l2,c2,a3,l3,c3,p1,p2,p3⟩,rfl,rfl,⟨by omega,rfl⟩,⟨by omega,hp⟩,h9,q1,q2,q3.deeper (Nat.le_succ _)⟩)
      have hcell:∀ j (hj:j < x.l * 9),(cs[j]'(by omega)).oneCell'=true:=fun j hj=>by
        obtain ⟨_,_,_,_,h9,_⟩:=hit (j / 9) (by omega)
        have hj9:j=j / 9 * 9+j % 9:=by omega
        have key:∀ j' v,X.cell? ⟨g,j',none⟩=some v→v.oneCell'=true→j'=j→(cs[j]'(by omega)).oneCell'=true:=fun j' v hv h1 e=>by
          subst e
          rw [row_cell hg,Array.getElem?_eq_getElem (by omega)] at hv
          cases hv
          exact h1
        have hm:j % 9 < 9:=Nat.mod_lt _ (by omega)
        generalize j % 9=r at hj9 hm
        match r,hm with
        | 0,_=>exact key _ _ h9.c0 rfl (by omega)
        | 1,_=>exact key _ _ h9.c1 rfl (by omega)
        | 2,_=>exact key _ _ h9.c2 rfl (by omega)
        | 3,_=>exact key _ _ h9.c3 rfl (by omega)
        | 4,_=>exact key _ _ h9.c4 rfl (by omega)
        | 5,_=>exact key _ _ h9.c5 rfl (by omega)
        | 6,_=>exact key _ _ h9.c6 rfl (by omega)
        | 7,_=>exact key _ _ h9.c7 rfl (by omega)
        | 8,_=>exact key _ _ h9.c8 rfl (by omega)
        | n+9,h=>omega
      refine ⟨g,cs,its,e,by rw [hbs];simp,hg,hc,hcell,hmx,hlt,?_,?_,⟨fun c hcm=>?_,fun o k' ho hs=>?_,?_,?_⟩⟩
      · apply List.ext_getElem
        · simp [kidsM,hil]
        · intro i h1 h2
          obtain ⟨q1,q2,_⟩:=hit i (by simpa using h1)
          simp [kidsM,TP.ad,q1,q2]
      · apply List.ext_getElem
        · simp [hil,hlt]
        · intro i h1 h2
          obtain ⟨_,_,⟨_,q3⟩,_⟩:=hit i (by simpa using h1)
          simp [q3]
      · obtain ⟨y,hy,hcy⟩:=List.mem_flatMap.1 hcm
        obtain ⟨i,hi,rfl⟩:=List.getElem_of_mem hy
        obtain ⟨q1,q2,_,_,h9,r1,r2,r3⟩:=hit i hi
        have hil':i < x.l:=by omega
        simp only [TP.cells,List.mem_cons,List.not_mem_nil,or_false] at hcy
        rcases hcy with rfl | rfl | rfl
        · refine ⟨q1,?_,?_,?_,r1⟩
          · simp only [TP.cT,szK,q2];omega
          · simp only [TP.cT,szK,q2,show (i * 9+6) % 9=6 by omega];rfl
          · simp only [TP.cT,q2];exact h9.c6
        · refine ⟨q1,?_,?_,?_,r2⟩
          · simp only [TP.cTs,szK,q2];omega
          · simp only [TP.cTs,szK,q2,show (i * 9+7) % 9=7 by omega];rfl
          · simp only [TP.cTs,q2];exact h9.c7
        · refine ⟨q1,?_,?_,?_,r3⟩
          · simp only [TP.cA,szK,q2];omega
          · simp only [TP.cA,szK,q2,show (i * 9+8) % 9=8 by omega];rfl
          · simp only [TP.cA,q2];exact h9.c8
      · simp only [szK] at ho hs
        have hi:o / 9 < its.length:=by omega
        obtain ⟨_,q2,_⟩:=hit (o / 9) hi
        have hm:o % 9 < 9:=Nat.mod_lt _ (by omega)
        have ho9:o=o / 9 * 9+o % 9:=by omega
        have hmem:∀ c,c ∈ (its[o / 9]).cells→c ∈ its.flatMap TP.cells:=fun c hc=>List.mem_flatMap.2 ⟨_,List.getElem_mem hi,hc⟩
        generalize hr:o % 9=r at hs hm ho9
        match r,hm,hs with
        | 6,_,_=>exact ⟨_,hmem its[o / 9].cT (by simp [TP.cells]),by simp only [TP.cT,q2];omega⟩
        | 7,_,_=>exact ⟨_,hmem its[o / 9].cTs (by simp [TP.cells]),by simp only [TP.cTs,q2];omega⟩
        | 8,_,_=>exact ⟨_,hmem its[o / 9].cA (by simp [TP.cells]),by simp only [TP.cA,q2];omega⟩
      · have e1:(its.flatMap TP.cells).flatMap Cl.bs=bss.flatten:=by
          rw [List.flatMap_assoc]
          have e2:bss=its.map fun y=>y.p1 ++ y.p2 ++ y.p3:=by
            apply List.ext_getElem
            · simp [hil,hlt,hbl]
            · intro i h1 h2
              obtain ⟨_,_,_,⟨_,q4⟩,_⟩:=hit i (by simpa using h2)
              simp [q4]
          rw [e2,List.flatMap_def]
          congr 1
          apply List.map_congr_left
          intro y _
          simp [TP.cells,TP.cT,TP.cTs,TP.cA]
        rw [e1,hbs]
        exact List.perm_append_singleton _ _
      · exact (cells_up its 0 fun i hi=>by rw [Nat.zero_add];exact (hit i hi).2.1).1.imp fun h=>Nat.ne_of_lt h
theorem cellsY_up:∀ (its:List Cl) (s:Nat),(∀ i (hi:i < its.length),its[i].o=(s+i) * 3+2)→(its.map Cl.o).Pairwise (· < ·)∧∀ o ∈ its.map Cl.o,s * 3+2≤o
  | [],_,_=>by simp
  | x :: l,s,h=>by
    obtain ⟨h1,h2⟩:=cellsY_up l (s+1) fun i hi=>by have:=h (i+1) (by simp;omega);rw [List.getElem_cons_succ] at this;omega
    have h0:=h 0 (by simp)
    simp only [List.getElem_cons_zero,Nat.add_zero] at h0
    simp only [List.map_cons,h0]
    refine ⟨List.Pairwise.cons (fun o ho=>?_) h1,fun o ho=>?_⟩
    · have:=h2 o ho;omega
    · rcases List.mem_cons.1 ho with rfl | ho
      · omega
      · have:=h2 o ho;omega
theorem newY {X:World} {D d:Nat} {x:Cl} (hk:x.k=false) (hl:0 < x.l) (ho:x.ok X D d) (hb:Nat) :
    ∃ (g:Nat) (cs:Array Value) (its:List Cl),x.a=some ⟨g,0,none⟩∧g ∈ x.bs∧X.heap[g]?=some (.cells cs 31 (0,0))∧∃ hn:x.l * 3≤cs.size,(∀ j (hj:j < x.l * 3),(cs[j]'(by omega)).oneCell'=true)∧x.l≤9223372036854775807∧x.l=x.tr.length ∧
      its.map Cl.ad=kidsY hb x.l∧(∀ c ∈ its,c.k=false∧2≤c.o)∧(its.map Cl.wt).sum=cntS x.tr∧NewC X D d false g x.l hb its x.bs:=by
  unfold Cl.ok at ho
  rw [hk] at ho
  simp only at ho
  cases D with
  | zero=>have:=ho.1;omega
  | succ D =>
    rcases ho with ⟨e,_⟩ | ⟨g,cs,bss,e,hlt,hmx,hg,hc,hbl,hbs,hE⟩
    · omega
    · obtain ⟨its,hil,hit⟩:=list_of (fun i (y:Cl)=>y.h=hb∧y.o=i * 3+2∧y.k=false∧(∃ hi:i < x.tr.length,y.tr=x.tr[i].A)∧(∃ hi:i < bss.length,bss[i]=y.bs)∧(∃ k n:Int,X.cell? ⟨g,i * 3,none⟩=some (.int .i64 k)∧X.cell? ⟨g,i * 3+1,none⟩=some (.int .i64 n))∧X.cell? ⟨g,i * 3+2,none⟩=some y.val∧Ow X (D+1) y.a y.l y.tr y.bs) x.l (fun i hi=>by
        obtain ⟨ao,len,cap,q1,q2,q3,q4⟩:=hE i (by omega) (by omega)
        exact ⟨⟨hb,i * 3+2,false,ao,len,cap,[],(x.tr[i]'(by omega)).A,bss[i]'(by omega)⟩,rfl,rfl,rfl,⟨by omega,rfl⟩,⟨by omega,rfl⟩,⟨_,_,q1,q2⟩,q3,q4.deeper (Nat.le_succ _)⟩)
      have hcell:∀ j (hj:j < x.l * 3),(cs[j]'(by omega)).oneCell'=true:=fun j hj=>by
        obtain ⟨_,_,_,_,_,⟨k0,n0,h0,h1⟩,h2,_⟩:=hit (j / 3) (by omega)
        have hj9:j=j / 3 * 3+j % 3:=by omega
        have key:∀ j' v,X.cell? ⟨g,j',none⟩=some v→v.oneCell'=true→j'=j→(cs[j]'(by omega)).oneCell'=true:=fun j' v hv h1 e=>by
          subst e
          rw [row_cell hg,Array.getElem?_eq_getElem (by omega)] at hv
          cases hv
          exact h1
        have hm:j % 3 < 3:=Nat.mod_lt _ (by omega)
        generalize j % 3=r at hj9 hm
        match r,hm with
        | 0,_=>exact key _ _ h0 rfl (by omega)
        | 1,_=>exact key _ _ h1 rfl (by omega)
        | 2,_=>exact key _ _ h2 rfl (by omega)
        | n+3,h=>omega
      refine ⟨g,cs,its,e,by rw [hbs];simp,hg,hc,hcell,hmx,hlt,?_,fun c hcm=>?_,?_,⟨fun c hcm=>?_,fun o k' ho hs=>?_,?_,?_⟩⟩
      · apply List.ext_getElem
        · simp [kidsY,hil]
        · intro i h1 h2
          obtain ⟨q1,q2,_⟩:=hit i (by simpa using h1)
          simp [kidsY,Cl.ad,q1,q2]
      · obtain ⟨i,hi,rfl⟩:=List.getElem_of_mem hcm
        obtain ⟨_,q2,q3,_⟩:=hit i hi
        exact ⟨q3,by omega⟩
      · have e1:its.map Cl.wt=x.tr.map cnt:=by
          apply List.ext_getElem
          · simp [hil,hlt]
          · intro i h1 h2
            obtain ⟨_,_,_,⟨_,q3⟩,_⟩:=hit i (by simpa using h1)
            simp [Cl.wt,q3,cnt_eq]
        rw [e1];rfl
      · obtain ⟨i,hi,rfl⟩:=List.getElem_of_mem hcm
        obtain ⟨q1,q2,q3,_,_,_,h2,r⟩:=hit i hi
        refine ⟨q1,?_,?_,?_,?_⟩
        · simp only [szK,q2];omega
        · simp only [szK,q2,show (i * 3+2) % 3=2 by omega,q3];rfl
        · rw [q2];exact h2
        · unfold Cl.ok;rw [q3];exact r
      · simp only [szK] at ho hs
        have hi:o / 3 < its.length:=by omega
        obtain ⟨_,q2,_⟩:=hit (o / 3) hi
        have hm:o % 3 < 3:=Nat.mod_lt _ (by omega)
        generalize hr:o % 3=r at hs hm
        match r,hm,hs with
        | 2,_,_=>exact ⟨its[o / 3],List.getElem_mem hi,by rw [q2];omega⟩
      · have e1:its.flatMap Cl.bs=bss.flatten:=by
          have e2:bss=its.map Cl.bs:=by
            apply List.ext_getElem
            · simp [hil,hlt,hbl]
            · intro i h1 h2
              obtain ⟨_,_,_,_,⟨_,q4⟩,_⟩:=hit i (by simpa using h2)
              simp [q4]
          rw [e2,List.flatMap_def]
        rw [e1,hbs]
        exact List.perm_append_singleton _ _
      · exact (cellsY_up its 0 fun i hi=>by rw [Nat.zero_add];exact (hit i hi).2.1).1.imp fun h=>Nat.ne_of_lt h
end Go.Proofs.YtcepgedbmffkdaaGreat

/-
  A copy list by list: where nothing is left to be copied, all lies in blocks of its own: no walk.
-/
namespace Go.Proofs.YtcepgedbmffkdaaGreat
open Go.RowKit
set_option linter.unusedVariables false
set_option linter.unusedSimpArgs false
def TrS (f:Nat→Nat) (E:List (Nat × Nat × Bool)) (k:Bool) (a:Option Addr) (l:Nat) (a':Option Addr) (l':Nat):Prop :=
  (l=0∧a'=none∧l'=0)∨∃ g,a=some ⟨g,0,none⟩∧0 < l∧(g,l,k) ∈ E∧a'=some ⟨f g,0,none⟩∧l'=l
theorem Gc.cell_tr {X wr:World} {D d:Nat} {f:Nat→Nat} {E:List (Nat × Nat × Bool)} (h:Gc X wr D d f E [] []) {g n o:Nat} {k k':Bool} (he:(g,n,k) ∈ E) (ho:o < n * szK k) (hs:slK k (o % szK k)=some k') {a:Option Addr} {l c:Nat} (hc:X.cell? ⟨g,o,none⟩=some (.slice a l c)) :
    ∃ a' l' c',wr.cell? ⟨f g,o,none⟩=some (.slice a' l' c')∧TrS f E k' a l a' l':=by
  rcases h.slot g n k o k' he ho hs with ⟨x,hx,_⟩ | ⟨x,hx,_⟩ | ⟨u,u',e1,e2,e3⟩
  · simp at hx
  · simp at hx
  · rw [hc] at e1
    cases e1
    rcases e3 with ⟨ao,c0,e,rfl⟩ | ⟨g2,n2,c0,e,h1,h2,rfl⟩
    · cases e
      exact ⟨_,_,_,e2,Or.inl ⟨rfl,rfl,rfl⟩⟩
    · cases e
      exact ⟨_,_,_,e2,Or.inr ⟨g2,rfl,h1,h2,rfl,rfl⟩⟩
theorem sub_flat:∀ (qs ps:List (List Nat)),qs.length=ps.length→(∀ i (h1:i < qs.length) (h2:i < ps.length),qs[i].Sublist ps[i])→qs.flatten.Sublist ps.flatten
  | [],[],_,_=>by simp
  | [],p :: ps,h,_=>by simp at h
  | q :: qs,[],h,_=>by simp at h
  | q :: qs,p :: ps,h,hs=>by
    rw [List.flatten_cons,List.flatten_cons]
    exact (hs 0 (by simp) (by simp)).append (sub_flat qs ps (by simpa using h) fun i h1 h2=>by have:=hs (i+1) (by simp;omega) (by simp;omega);simpa using this)
def Part (f:Nat→Nat) (E:List (Nat × Nat × Bool)) (p p':List Nat):Prop:=∃ q:List Nat,q.Sublist p∧p'=q.map f∧∀ b ∈ q,∃ n k,(b,n,k) ∈ E
theorem Part.nil (f:Nat→Nat) (E:List (Nat × Nat × Bool)) (p:List Nat):Part f E p []:=⟨[],by simp,rfl,by simp⟩
theorem Part.append {f:Nat→Nat} {E:List (Nat × Nat × Bool)} {p p' r r':List Nat} (h:Part f E p p') (k:Part f E r r'):Part f E (p ++ r) (p' ++ r'):=by
  obtain ⟨q,h1,rfl,h3⟩:=h
  obtain ⟨s,k1,rfl,k3⟩:=k
  refine ⟨q ++ s,h1.append k1,by simp,fun b hb=>?_⟩
  rcases List.mem_append.1 hb with hb | hb
  · exact h3 b hb
  · exact k3 b hb
theorem Part.row {f:Nat→Nat} {E:List (Nat × Nat × Bool)} {g n:Nat} {k:Bool} (hg:(g,n,k) ∈ E) {bss bss':List (List Nat)} (hl:bss'.length=bss.length) (h:∀ i (h1:i < bss.length) (h2:i < bss'.length),Part f E bss[i] bss'[i]):Part f E (g :: bss.flatten) (f g :: bss'.flatten):=by
  obtain ⟨qs,hq,hqs⟩:=list_of (fun i (q:List Nat)=>∃ (h1:i < bss.length) (h2:i < bss'.length),q.Sublist bss[i]∧bss'[i]=q.map f∧∀ b ∈ q,∃ n k,(b,n,k) ∈ E) bss.length (fun i hi=>by
    obtain ⟨q,a1,a2,a3⟩:=h i hi (by omega)
    exact ⟨q,hi,by omega,a1,a2,a3⟩)
  refine ⟨g :: qs.flatten,(sub_flat qs bss hq fun i h1 h2=>(hqs i h1).2.2.1).cons_cons _,?_,fun b hb=>?_⟩
  · rw [List.map_cons,List.map_flatten]
    congr 2
    apply List.ext_getElem
    · simp;omega
    · intro i h1 h2
      have:=(hqs i (by simpa using h2)).2.2.2.1
      simpa using this
  · rcases List.mem_cons.1 hb with rfl | hb
    · exact ⟨n,k,hg⟩
    · obtain ⟨p,hp,hbp⟩:=List.mem_flatten.1 hb
      obtain ⟨i,hi,rfl⟩:=List.getElem_of_mem hp
      exact (hqs i hi).2.2.2.2 b hbp
theorem Gc.finY {X wr:World} {D d:Nat} {f:Nat→Nat} {E:List (Nat × Nat × Bool)} (h:Gc X wr D d f E [] []):∀ (dd:Nat) (a:Option Addr) (l:Nat) (ts:List Tr) (bs:List Nat) (a':Option Addr) (l':Nat),Ow X dd a l ts bs→TrS f E false a l a' l'→∃ bs',Ow wr dd a' l' ts bs'∧Part f E bs bs':=by
  intro dd
  induction dd with
  | zero =>
    rintro a l ts bs a' l' ⟨rfl,rfl,rfl⟩ ht
    rcases ht with ⟨_,_,rfl⟩ | ⟨g,_,h0,_⟩
    · exact ⟨[],⟨rfl,rfl,rfl⟩,Part.nil _ _ _⟩
    · omega
  | succ dd ih =>
    intro a l ts bs a' l' ho ht
    rcases ht with ⟨rfl,rfl,rfl⟩ | ⟨g,rfl,h0,he,rfl,rfl⟩
    · have hts:ts=[]:=by
        rcases ho with ⟨_,e,_⟩ | ⟨g,cs,bss,_,hl,_⟩
        · exact e
        · exact List.length_eq_zero_iff.1 hl.symm
      exact ⟨[],Or.inl ⟨rfl,hts,rfl⟩,Part.nil _ _ _⟩
    · rcases ho with ⟨e,_⟩ | ⟨g',cs,bss,e,hl,hm,hg,hc,hbl,rfl,hE⟩
      · omega
      · cases e
        obtain ⟨_,hmx,⟨cs',hr,hrs⟩,hsc⟩:=h.row g _ false he
        obtain ⟨bss',hl',hit⟩:=list_of (fun i (p:List Nat)=>∃ (hi:i < ts.length) (hi':i < bss.length),El wr (fun ao' len' t=>Ow wr dd ao' len' t p) (f g) (i * 3) ts[i]∧Part f E bss[i] p) ts.length (fun i hi=>by
          obtain ⟨ao,len,cap,q1,q2,q3,q4⟩:=hE i hi (by omega)
          obtain ⟨b',m',c',r1,r2⟩:=h.cell_tr he (o:=i * 3+2) (k':=false) (by simp only [szK];omega) (by simp only [szK,show (i * 3+2) % 3=2 by omega];rfl) q3
          obtain ⟨p,s1,s2⟩:=ih _ _ _ _ _ _ q4 r2
          exact ⟨p,hi,by omega,⟨b',m',c',(hsc (i * 3) (by simp only [szK];omega) (by simp only [szK,show (i * 3) % 3=0 by omega];rfl)).trans q1,(hsc (i * 3+1) (by simp only [szK];omega) (by simp only [szK,show (i * 3+1) % 3=1 by omega];rfl)).trans q2,r1,s1⟩,s2⟩)
        refine ⟨f g :: bss'.flatten,Or.inr ⟨f g,cs',bss',rfl,hl,hm,hr,by simpa [szK] using hrs,hl',rfl,fun i hi hi'=>(hit i hi').2.2.1⟩,Part.row he (by omega) fun i h1 h2=>(hit i h2).2.2.2⟩
theorem Gc.finM {X wr:World} {D d:Nat} {f:Nat→Nat} {E:List (Nat × Nat × Bool)} (h:Gc X wr D d f E [] []):∀ (dd:Nat) (a:Option Addr) (l:Nat) (ts:List Tm) (bs:List Nat) (a':Option Addr) (l':Nat),OwM X D dd a l ts bs→TrS f E true a l a' l'→∃ bs',OwM wr D dd a' l' ts bs'∧Part f E bs bs':=by
  intro dd
  induction dd with
  | zero =>
    rintro a l ts bs a' l' ⟨rfl,rfl,rfl⟩ ht
    rcases ht with ⟨_,_,rfl⟩ | ⟨g,_,h0,_⟩
    · exact ⟨[],⟨rfl,rfl,rfl⟩,Part.nil _ _ _⟩
    · omega
  | succ dd ih =>
    intro a l ts bs a' l' ho ht
    rcases ht with ⟨rfl,rfl,rfl⟩ | ⟨g,rfl,h0,he,rfl,rfl⟩
    · have hts:ts=[]:=by
        rcases ho with ⟨_,e,_⟩ | ⟨g,cs,bss,_,hl,_⟩
        · exact e
        · exact List.length_eq_zero_iff.1 hl.symm
      exact ⟨[],Or.inl ⟨rfl,hts,rfl⟩,Part.nil _ _ _⟩
    · rcases ho with ⟨e,_⟩ | ⟨g',cs,bss,e,hl,hm,hg,hc,hbl,rfl,hE⟩
      · omega
      · cases e
        obtain ⟨_,hmx,⟨cs',hr,hrs⟩,hsc⟩:=h.row g _ true he
        obtain ⟨bss',hl',hit⟩:=list_of (fun i (p:List Nat)=>∃ (hi:i < ts.length) (hi':i < bss.length),(∃ a1 l1 c1 a2 l2 c2 a3 l3 c3,Nine wr (f g) (i * 9) ts[i].K ts[i].N ts[i].S ts[i].Z ts[i].T.K ts[i].T.N (.slice a1 l1 c1) (.slice a2 l2 c2) (.slice a3 l3 c3)∧FldO wr D (OwM wr D dd) ts[i] a1 l1 a2 l2 a3 l3 p)∧Part f E bss[i] p) ts.length (fun i hi=>by
          obtain ⟨a1,l1,c1,a2,l2,c2,a3,l3,c3,h9,p1,p2,p3,hp,z1,z2,q1,q2,q3⟩:=hE i hi (by omega)
          have sc:∀ j,j < 6→wr.cell? ⟨f g,i * 9+j,none⟩=X.cell? ⟨g,i * 9+j,none⟩:=fun j hj=>hsc _ (by simp only [szK];omega) (by
            simp only [szK,show (i * 9+j) % 9=j by omega]
            match j,hj with
            | 0,_=>rfl
            | 1,_=>rfl
            | 2,_=>rfl
            | 3,_=>rfl
            | 4,_=>rfl
            | 5,_=>rfl
            | n+6,h=>omega)
          obtain ⟨x1,n1,e1,r1,t1⟩:=h.cell_tr he (o:=i * 9+6) (k':=false) (by simp only [szK];omega) (by simp only [szK,show (i * 9+6) % 9=6 by omega];rfl) h9.c6
          obtain ⟨x2,n2,e2,r2,t2⟩:=h.cell_tr he (o:=i * 9+7) (k':=false) (by simp only [szK];omega) (by simp only [szK,show (i * 9+7) % 9=7 by omega];rfl) h9.c7
          obtain ⟨x3,n3,e3,r3,t3⟩:=h.cell_tr he (o:=i * 9+8) (k':=true) (by simp only [szK];omega) (by simp only [szK,show (i * 9+8) % 9=8 by omega];rfl) h9.c8
          obtain ⟨s1,u1,v1⟩:=h.finY _ _ _ _ _ _ _ q1 t1
          obtain ⟨s2,u2,v2⟩:=h.finY _ _ _ _ _ _ _ q2 t2
          obtain ⟨s3,u3,v3⟩:=ih _ _ _ _ _ _ q3 t3
          refine ⟨s1 ++ s2 ++ s3,hi,by omega,⟨x1,n1,e1,x2,n2,e2,x3,n3,e3,⟨(sc 0 (by omega)).trans h9.c0,(sc 1 (by omega)).trans h9.c1,(sc 2 (by omega)).trans h9.c2,(sc 3 (by omega)).trans h9.c3,(sc 4 (by omega)).trans h9.c4,(sc 5 (by omega)).trans h9.c5,r1,r2,r3⟩,s1,s2,s3,rfl,z1,z2,u1,u2,u3⟩,?_⟩
          rw [hp]
          exact (v1.append v2).append v3)
        refine ⟨f g :: bss'.flatten,Or.inr ⟨f g,cs',bss',rfl,hl,hm,hr,by simpa [szK] using hrs,hl',rfl,fun i hi hi'=>(hit i hi').2.2.1⟩,Part.row he (by omega) fun i h1 h2=>(hit i h2).2.2.2⟩
theorem Gc.fin {X wr:World} {D d:Nat} {f:Nat→Nat} {E:List (Nat × Nat × Bool)} (h:Gc X wr D d f E [] []) {b:Nat} (he:(b,1,true) ∈ E) {t:Tm} {a1 a2 a3:Option Addr} {l1 l2 l3 c1 c2 c3:Nat} {bs:List Nat} (h9:Nine X b 0 t.K t.N t.S t.Z t.T.K t.T.N (.slice a1 l1 c1) (.slice a2 l2 c2) (.slice a3 l3 c3)) (ho:FldO X D (OwM X D d) t a1 l1 a2 l2 a3 l3 bs) (hnd:bs.Nodup) :
    ∃ b1 m1 e1 b2 m2 e2 b3 m3 e3 bs',Nine wr (f b) 0 t.K t.N t.S t.Z t.T.K t.T.N (.slice b1 m1 e1) (.slice b2 m2 e2) (.slice b3 m3 e3)∧FldO wr D (OwM wr D d) t b1 m1 b2 m2 b3 m3 bs'∧bs'.Nodup∧∀ x ∈ bs',∃ g n k,(g,n,k) ∈ E∧g ∈ bs∧x=f g:=by
  obtain ⟨p1,p2,p3,hp,z1,z2,q1,q2,q3⟩:=ho
  obtain ⟨_,_,_,hsc⟩:=h.row b 1 true he
  have sc:∀ j,j < 6→wr.cell? ⟨f b,j,none⟩=X.cell? ⟨b,j,none⟩:=fun j hj=>hsc _ (by simp only [szK];omega) (by
    simp only [szK,show j % 9=j by omega]
    match j,hj with
    | 0,_=>rfl
    | 1,_=>rfl
    | 2,_=>rfl
    | 3,_=>rfl
    | 4,_=>rfl
    | 5,_=>rfl
    | n+6,h=>omega)
  obtain ⟨x1,n1,e1,r1,t1⟩:=h.cell_tr he (o:=6) (k':=false) (by simp only [szK];omega) (by rfl) h9.c6
  obtain ⟨x2,n2,e2,r2,t2⟩:=h.cell_tr he (o:=7) (k':=false) (by simp only [szK];omega) (by rfl) h9.c7
  obtain ⟨x3,n3,e3,r3,t3⟩:=h.cell_tr he (o:=8) (k':=true) (by simp only [szK];omega) (by rfl) h9.c8
  obtain ⟨s1,u1,v1⟩:=h.finY _ _ _ _ _ _ _ q1 t1
  obtain ⟨s2,u2,v2⟩:=h.finY _ _ _ _ _ _ _ q2 t2
  obtain ⟨s3,u3,v3⟩:=h.finM _ _ _ _ _ _ _ q3 t3
  obtain ⟨q,k1,k2,k3⟩:=(v1.append v2).append v3
  rw [← hp] at k1
  refine ⟨x1,n1,e1,x2,n2,e2,x3,n3,e3,s1 ++ s2 ++ s3,⟨(sc 0 (by omega)).trans h9.c0,(sc 1 (by omega)).trans h9.c1,(sc 2 (by omega)).trans h9.c2,(sc 3 (by omega)).trans h9.c3,(sc 4 (by omega)).trans h9.c4,(sc 5 (by omega)).trans h9.c5,r1,r2,r3⟩,⟨s1,s2,s3,rfl,z1,z2,u1,u2,u3⟩,?_,fun x hx=>?_⟩
  · rw [k2]
    refine List.pairwise_map.2 ((hnd.sublist k1).imp_of_mem fun {a c} ha hc hac e=>hac ?_)
    obtain ⟨n,k,ea⟩:=k3 a ha
    obtain ⟨n',k',ec⟩:=k3 c hc
    exact congrArg Prod.fst (h.inj ea ec e)
  · rw [k2] at hx
    obtain ⟨g,hg,rfl⟩:=List.mem_map.1 hx
    obtain ⟨n,k,e⟩:=k3 g hg
    exact ⟨g,n,k,e,k1.mem hg,rfl⟩
end Go.Proofs.YtcepgedbmffkdaaGreat
