/-
  What the methods of 'ownLists' come to. (Written by mkol.py.)
-/
import Derived.Test.YtcepgedbmffkdaaGreatFbaOlM0
import Derived.Test.YtcepgedbmffkdaaGreatFbaZ1
import Derived.Test.YtcepgedbmffkdaaGreatFbaZ7
import Derived.Deep.RegionHeld3
import Derived.Deep.RegionLaw
import Derived.Sort.AtCall
import Derived.LoopN
import Derived.Deep.CutBlock
import Derived.Test.YtcepgedbmffkdaaGreatFbaZ20
import Derived.LaidEqlPtr
import Derived.Laws.StructEq
import Derived.Laws.CopyRow
import Derived.MapKept
namespace Go.Proofs.YtcepgedbmffkdaaGreat
open Go.RowKit
set_option linter.unusedVariables false
set_option linter.unusedSimpArgs false
def kidsM (h n:Nat):List (Nat × Nat):=(List.range n).map fun i=>(h,i * 9)
theorem kidsM_succ (h n:Nat):kidsM h (n+1)=kidsM h n ++ [(h,n * 9)]:=by simp [kidsM,List.range_succ]
theorem kidsM_len (h n:Nat):(kidsM h n).length=n:=by simp [kidsM]
set_option maxHeartbeats 1000000 in
theorem placeOfM_any (c n cap:Nat) (hn:0 < n) (hn2:n≤4194304) (w:World) :
    Calls Tryz.prog 80 #[.slice (some ⟨c,0,none⟩) n cap] w fun e w'=>e=.returned (keyM c n)∧Below w.heap.size w w':=by
  have hbel:Below w.heap.size w (w.alloc (.cells #[.pointer (some ⟨c,0,none⟩),.int .i64 n] 141)):=(Below.refl _ _).alloc (Nat.le_refl _) _
  have h:(w.alloc (.cells #[.pointer (some ⟨c,0,none⟩),.int .i64 n] 141)).heap[w.heap.size]?=_:=heap_new rfl
  have p0:=row_cell h 0
  have p1:=row_cell h 1
  clear h
  have h0:(0:Int) < n:=by omega
  go_enter Tryz.func80,Tryz.ntmps80
  go_wp2_with fail
  refine bodyPost_ret (v:=keyM c n) (by simp [results,Tryz.results80,go_sem,p0,p1,keyM]) rfl ⟨rfl,hbel⟩
theorem ownM_none (o:Value) (ao:Option Addr) (cap:Nat) (w:World) :
    Calls Tryz.prog 56 #[o,.slice ao 0 cap] w fun e w'=>e=.returned (.slice none 0 0)∧w'=w:=by
  go_enter Tryz.func56,Tryz.ntmps56
  go_wp2_with fail
  go_ret
  exact ⟨rfl,rfl⟩
set_option maxRecDepth 100000 in
set_option maxHeartbeats 4000000 in
theorem nextM_any {base:Nat} {wr:World} {op mp:Nat} {v:Value} {init:List (Nat × Nat)} {p:Nat × Nat} {cs:List Nat} (h:OlM base wr op mp v (init ++ [p]) cs) :
    Calls Tryz.prog 55 #[.pointer (some ⟨op,0,none⟩)] wr fun e w'=>e=.returned (.pointer (some ⟨p.1,p.2,none⟩))∧∃ v',OlM base w' op mp v' init cs∧ChgM op mp v v' wr w':=by
  obtain ⟨g,cap,rfl,hgl,hgo,hc1,hc2,hcell,hO⟩:=olM_pop h
  obtain ⟨z,hz⟩:=h.box
  have b1:=row_cell hz 1
  have bf:=row_free hz 1
  have e1:((init.length:Int)+1 - 1)=init.length:=by omega
  have hi1:(0:Int)≤(init.length:Int):=by omega
  have hi2:(init.length:Int) < (init.length:Int)+1:=by omega
  have hC:ChgM op mp (.slice (some ⟨g,0,none⟩) (init.length+1) cap) (.slice (some ⟨g,0,none⟩) init.length cap) wr (wr.setCell ⟨op,1,none⟩ (.slice (some ⟨g,0,none⟩) init.length cap)) :=
    ⟨rfl,rfl,rfl,by simp,fun b hb h1 _ _=>row_other _ _ _ h1,fun x hx=>Or.inl hx⟩
  clear hz h
  go_enter Tryz.func55,Tryz.ntmps55
  go_wp2_with fail
  go_ret
  exact ⟨rfl,_,hO,hC⟩
theorem nilM_yes (w:World):(binOp BinOp.eql 75 (.map none) (.map none)).run Tryz.prog w=.ok (.bool true) w:=by kernel_rfl
theorem nilM_no (w:World) (m:Nat):(binOp BinOp.eql 75 (.map (some m)) (.map none)).run Tryz.prog w=.ok (.bool false) w:=by kernel_rfl
set_option maxRecDepth 100000 in
set_option maxHeartbeats 8000000 in
theorem ownM_some {base:Nat} {w0:World} {op mp:Nat} {v:Value} {ps:List (Nat × Nat)} {cs:List Nat} (h:OlM base w0 op mp v ps cs) (g n cap:Nat) (hn:0 < n) (hsz:ps.length+n≤8388608) (hn2:n≤4194304) (hg:g ∉ cs) (hgb:g < base) {cur:Array Value} (hcur:w0.heap[g]?=some (.cells cur 34 (0,0))) (hcn:n * 9≤cur.size) (h1:∀ j (hj:j < n * 9),(cur[j]'(by omega)).oneCell'=true) :
    Calls Tryz.prog 56 #[.pointer (some ⟨op,0,none⟩),.slice (some ⟨g,0,none⟩) n cap] w0 fun e w'=>∃ hb v' mp',(mp'=mp∨w0.heap.size≤mp')∧mp'≠op∧e=.returned (.slice (some ⟨hb,0,none⟩) n n)∧OlM base w' op mp' v' (ps ++ kidsM hb n) (g :: cs)∧ChgM op mp v v' w0 w'∧w0.heap.size≤hb∧w'.heap[hb]?=some (.cells (cur.toList.take (n * 9)).toArray 34 (0,0))∧v'.ownBlock≠some hb:=by
  obtain ⟨i0,hi,hz0,hz1,hz2⟩:=info_parts Tryz.infoFM
  have hmk:∃ C:Array Value,C.size=n * 9∧∀ w:World,(Instr.makeSlice 32 (.int .i64 (n:Int)) (.int .i64 (n:Int))).run Tryz.prog w=.ok (.slice (some ⟨w.heap.size,0,none⟩) n n) (w.alloc (.cells C 34)):=by
    refine ⟨madeCells (Value.cells (.agg #[.int .i64 0,.int .i64 0,.string ⟨#[]⟩,.string ⟨#[]⟩,.int .i64 0,.int .i64 0,.slice none 0 0,.slice none 0 0,.slice none 0 0])) (n * 9),?_,fun w=>?_⟩
    · exact size_madeCells _ _
    · have:=run_make (P:=Tryz.prog) (w:=w) 32 34 i0 _ Tryz.underlying32 hi hz0 .i64 .i64 (n:Int) (n:Int) (by omega) (by omega) (by rw [hz2];omega) (by omega)
      rw [hz1] at this
      simpa using this
  obtain ⟨C,hC,hmk⟩:=hmk
  have hne:((n:Int) == 0)=false:=by rw [beq_eq_false_iff_ne];omega
  clear hi hz0 hz1 hz2
  have hgl:g < w0.heap.size:=(Array.getElem?_eq_some_iff.1 hcur).1
  have HMK:Hid (∀ w:World,(Instr.makeSlice 32 (.int .i64 (n:Int)) (.int .i64 (n:Int))).run Tryz.prog w=.ok (.slice (some ⟨w.heap.size,0,none⟩) n n) (w.alloc (.cells C 34))):=hmk
  clear hmk
  go_enter Tryz.func56,Tryz.ntmps56
  go_wp2_with fail
  refine (placeOfM_any g n cap hn hn2 w0).mono ?_
  rintro e w1 ⟨rfl,hb1⟩
  have hz1:=hb1.size
  unfold keyM
  obtain ⟨Y,hY⟩:∃ Y,Y=w1.alloc (.cells #[.pointer (some ⟨g,0,none⟩),.int .i64 n] 141):=⟨_,rfl⟩
  have hYb:Below w0.heap.size w0 Y:=hb1.trans (by rw [hY];exact (Below.refl _ _).alloc hz1 _)
  have hYk:Y.heap[w1.heap.size]?=some (.cells #[.pointer (some ⟨g,0,none⟩),.int .i64 n] 141 (0,0)):=by rw [hY];exact heap_new rfl
  have hYs:Y.heap.size=w1.heap.size+1:=by rw [hY];simp
  have HY:Hid (Y=_):=hY
  clear hY
  go_wp2_with fail
  rw [← HY.out]
  have hO:=olM_below h hYb
  have hgY:=(hYb.block g hgl).trans hcur
  obtain ⟨z,hz⟩:=hO.box
  have b0:=row_cell hz 0
  have k0:=row_cell hYk 0
  have k1:=row_cell hYk 1
  have hlk:=olM_look (olM_below hO (Below.refl _ _).drew) g n hg (a:=cur) (t:=34) hgY
  unfold keyM at hlk
  go_region
  clear hlk b0 k0 k1
  have hO1:OlM base Y.drew op mp v ps cs:=olM_below hO (Below.refl _ _).drew
  have hK1:Y.drew.heap[w1.heap.size]?=some (.cells #[.pointer (some ⟨g,0,none⟩),.int .i64 n] 141 (0,0)):=hYk
  have hG1:Y.drew.heap[g]?=some (.cells cur 34 (0,0)):=hgY
  have hB1:Below w0.heap.size w0 Y.drew:=hYb.drew
  have hS1:w1.heap.size < Y.drew.heap.size:=by show _ < Y.heap.size;omega
  clear hO hYk hgY hz hYb hYs HY hb1
  generalize Y.drew=Y1 at *
  obtain ⟨Z,hcp,hZb,hZs,hZh⟩:=copyM (c:=cap) hG1 hcn h1 C hC
  have hmk:=HMK.out
  go_wp2_with fail
  clear hcp hmk
  have hgY1:g < Y1.heap.size:=(Array.getElem?_eq_some_iff.1 hG1).1
  have hOZ:=olM_below hO1 hZb
  obtain ⟨q1,q2,q3⟩:=olM_in hO1
  have hKZ:=(hZb.block _ hS1).trans hK1
  have HB:Hid (Below w0.heap.size w0 Z):=hB1.trans (hZb.mono hB1.size)
  have HI:Hid (op < Y1.heap.size∧mp < Y1.heap.size∧∀ x,v.ownBlock=some x→x < Y1.heap.size):=⟨q1,q2,q3⟩
  have HN:Hid (0 < n∧n≤4194304∧ps.length+n≤8388608):=⟨hn,hn2,hsz⟩
  have HGZ:Hid (Z.heap[g]?=some (.cells cur 34 (0,0))):=(hZb.block _ hgY1).trans hG1
  have HZ:Hid (Z.heap.size=Y1.heap.size+1∧w1.heap.size < Y1.heap.size):=⟨hZs,hS1⟩
  have hB0:Hid (w0.heap.size≤Y1.heap.size):=hB1.size
  clear q1 q2 q3 hO1 hK1 hG1 hB1 hZb hgY1 HMK hne h hZs hS1 h1 hcn
  generalize Y1.heap.size=H at *
  go_loopw [48] (fun y wr=>∃ i:Nat,y=.int .i64 i∧i≤n∧∃ v',OlM base wr op mp v' (ps ++ kidsM H i) cs∧ChgM op mp v v' Z wr) (fun y _=>n - (intOf y).toNat)
  case atStart=>exact ⟨0,rfl,by omega,v,by simpa [kidsM] using hOZ,ChgM.refl _ _ _ _⟩
  case round =>
    obtain ⟨i,rfl,hi,v',hO',hC'⟩:=hrel
    by_cases hlt:i < n
    · obtain ⟨a,ca,W2,hrun,hOW,hCW,hWs,z2,hWx⟩:=olM_push (olM_below hO' (Below.refl _ _).drew) (by rw [List.length_append,kidsM_len];have:=HN.out;omega) (H,i * 9)
      obtain ⟨z',hz'⟩:=hO'.box
      have hol:op < wr.heap.size:=(Array.getElem?_eq_some_iff.1 hz').1
      have hlen:(ps ++ kidsM H i).length=ps.length+i:=by rw [List.length_append,kidsM_len]
      rw [hlen] at hrun hOW hCW
      have SA:Hid (∀ o,(wr.alloc o).cell? ⟨op,1,none⟩=some v'∧(wr.alloc o).frozen? ⟨op,1,none⟩=false):=fun o=>by
        have e1:(wr.alloc o).heap[op]?=_:=(Below.heap_alloc _ _ _ hol).trans hz'
        exact ⟨row_cell e1 1,row_free e1 1⟩
      have HR:Hid ((Builtin.append_ #[74,74] 74 #[v',.slice (some ⟨wr.heap.size,0,none⟩) 1 1]).run Tryz.prog (wr.alloc (.cells #[.pointer (some ⟨H,i * 9,none⟩)] 50)).drew=.ok (.slice (some ⟨a,0,none⟩) (ps.length+i+1) ca) W2):=hrun
      have m0:=row_cell hz' 1
      have m1:=row_free hz' 1
      have n0:=fun o=>(SA.out o).1
      have n1:=fun o=>(SA.out o).2
      have x0:=row_cell hWx 1
      have x1:=row_free hWx 1
      have hrun2:=HR.out
      have hCN:ChgM op mp v (.slice (some ⟨a,0,none⟩) (ps.length+i+1) ca) Z (W2.setCell ⟨op,1,none⟩ (.slice (some ⟨a,0,none⟩) (ps.length+i+1) ca)):=(hC'.trans ⟨hCW.os,hCW.tape,hCW.output,hCW.size,hCW.block,hCW.vb⟩).setOp _ _
      have HON:Hid (OlM base (W2.setCell ⟨op,1,none⟩ (.slice (some ⟨a,0,none⟩) (ps.length+i+1) ca)) op mp (.slice (some ⟨a,0,none⟩) (ps.length+i+1) ca) (ps ++ kidsM H (i+1)) cs):=by
        have e:=hOW
        rw [List.append_assoc,← kidsM_succ] at e
        exact e
      have HCN:Hid (ChgM op mp v (.slice (some ⟨a,0,none⟩) (ps.length+i+1) ca) Z (W2.setCell ⟨op,1,none⟩ (.slice (some ⟨a,0,none⟩) (ps.length+i+1) ca))):=hCN
      have hiI:(0:Int)≤(i:Int):=by omega
      have hil:(i:Int) < (n:Int):=by omega
      clear hrun hOW hCW hWx hWs hCN hO' hC' hz' hlen
      go_wp2_with fail
      go_region_law (refine step_run hrun2 (by rfl) _ _ (by rfl) (by rfl) (by rfl) (by rfl) ?_)
      all_goals
        go_wp2_with fail
        go_roundw
        case rel=>exact ⟨i+1,by go_num,by omega,_,HON.out,HCN.out⟩
        case measure=>simp [intOf];omega
    · obtain rfl:i=n:=by omega
      have hgz:=HGZ.out
      have hin:=HI.out
      have hzz:=HZ.out
      have hbase:=hO'.bs
      have hv'H:v'.ownBlock≠some H:=fun e=>by
        rcases hC'.vb _ e with e | e
        · have:=hin.2.2 _ e;omega
        · omega
      have hgb':∀ b,b < Z.heap.size→b≠op→b≠mp→v.ownBlock≠some b→wr.heap[b]?=Z.heap[b]?:=hC'.block
      have hvH:v.ownBlock≠some H:=fun e=>by have:=hin.2.2 _ e;omega
      have hHx:wr.heap[H]?=some (.cells (cur.toList.take (i * 9)).toArray 34 (0,0)):=(hgb' H (by omega) (by omega) (by omega) hvH).trans hZh
      have hkv:v.ownBlock≠some w1.heap.size:=fun e=>by
        obtain ⟨_,cur',fr,e1⟩:=own_cells hOZ.row e
        rw [hKZ] at e1;cases e1
      have hko:w1.heap.size≠op:=fun e=>by
        obtain ⟨z9,hz9⟩:=hOZ.box
        rw [← e,hKZ] at hz9;cases hz9
      have hkm:w1.heap.size≠mp:=fun e=>by
        rcases hOZ.map with ⟨h9,_⟩ | ⟨_,es9,cl9,hm9,_⟩
        · exact hko (e.trans h9)
        · rw [← e,hKZ] at hm9;cases hm9
      have hKx:=(hgb' w1.heap.size (by omega) hko hkm hkv).trans hKZ
      have hgx:wr.heap[g]?=some (.cells cur 34 (0,0)):=by
        have o1:=hOZ.opl
        have o2:=hOZ.mpl
        refine (hgb' g (Array.getElem?_eq_some_iff.1 hgz).1 (by omega) (by omega) fun e=>?_).trans hgz
        have:=hOZ.blk g e
        omega
      obtain ⟨z',hz'⟩:=hO'.box
      have hHl:w0.heap.size≤H:=by have:=HB.out.size;have:=hB0.out;omega
      have hHo:H≠mp:=by omega
      have hHop:H≠op:=by omega
      have hHw:=(Array.getElem?_eq_some_iff.1 hHx).1
      have hCw:ChgM op mp v v' w0 wr:=((ChgM.refl op mp v w0).below HB.out).trans hC'
      by_cases hmo:mp=op
      · have hO2:OlM base wr op op v' (ps ++ kidsM H i) cs:=by rw [← hmo] at hO' ⊢;rw [hmo];rw [hmo] at hO';exact hO'
        obtain ⟨hON,hCN,hne,hoth,hsz⟩:=olM_new hO2
        have hol:op < wr.heap.size:=(Array.getElem?_eq_some_iff.1 hz').1
        have hmv:mvalM op mp=.map none:=by rw [hmo];exact mvalM_no op
        rw [hmv] at hz'
        have hC2:ChgM op mp v v' w0 ((wr.alloc (.map #[] 0)).setCell ⟨op,0,none⟩ (.map (some wr.heap.size))):=hCw.transN (mp':=op) hCN (Or.inl hmo.symm)
        obtain ⟨V,hV⟩:∃ V,V=(wr.alloc (.map #[] 0)).setCell ⟨op,0,none⟩ (.map (some wr.heap.size)):=⟨_,rfl⟩
        rw [← hV] at hON hCN hC2 hoth hsz
        have HV:Hid (V=(wr.setCell ⟨op,0,none⟩ (.map (some wr.heap.size))).alloc (.map #[] 0)):=by
          show V=_
          rw [hV,World.setCell_alloc_past _ _ _ _ hol]
        have hVK:=(hoth w1.heap.size (by have:=(Array.getElem?_eq_some_iff.1 hKx).1;omega) hko).trans hKx
        have hVg:=(hoth g (Array.getElem?_eq_some_iff.1 hgx).1 (by have o1:=hOZ.opl;omega)).trans hgx
        have hVH:=(hoth H hHw hHop).trans hHx
        obtain ⟨Q,hup,hOQ,hCQ,hQo,hQs⟩:=olM_key (olM_below hON (Below.refl _ _).drew) hne g i hg hgb (a:=cur) (t:=34) hVg (.slice (some ⟨H,0,none⟩) i i)
        unfold keyM at hup
        have b0:=row_cell hz' 0
        have SA:∀ o,(wr.alloc o).cell? ⟨op,0,none⟩=some (.map none)∧(wr.alloc o).frozen? ⟨op,0,none⟩=false:=fun o=>by
          have e1:(wr.alloc o).heap[op]?=_:=(Below.heap_alloc _ _ _ hol).trans hz'
          exact ⟨row_cell e1 0,row_free e1 0⟩
        have n0:=fun o=>(SA o).1
        have n1:=fun o=>(SA o).2
        have hmk:∀ w:World,(Instr.makeMap 75 none).run Tryz.prog w=.ok (.map (some w.heap.size)) (w.alloc (.map #[] 0)):=fun w=>rfl
        have hwn:w0.heap.size≤wr.heap.size:=by omega
        have HF:Hid (OlM base Q op wr.heap.size v' (ps ++ kidsM H i) (g :: cs)∧ChgM op mp v v' w0 Q∧Q.heap[H]?=some (.cells (cur.toList.take (i * 9)).toArray 34 (0,0))) :=
          ⟨hOQ,(hC2.below (Below.refl _ _).drew).transN (mp':=wr.heap.size) hCQ (Or.inr hwn),(hQo H (by omega)).trans hVH⟩
        have HWN:Hid (w0.heap.size≤wr.heap.size∧wr.heap.size≠op):=⟨hwn,hne⟩
        obtain ⟨z3,hz3⟩:=hON.box
        rw [mvalM_some hne] at hz3
        have b0':=row_cell hz3 0
        have k0:=row_cell hVK 0
        have k1:=row_cell hVK 1
        clear hOQ hCQ hQo hQs hO' hC' hz' hO2 hON hCN hC2 hoth hsz hV hmo SA hne hz3 hmv
        have hbo:=nilM_yes
        go_upto_region 18 with fail
        rw [← HV.out]
        go_region
        go_wp2_with fail
        go_ret
        exact ⟨H,v',_,Or.inr HWN.out.1,HWN.out.2,rfl,HF.out.1,HF.out.2.1,hHl,HF.out.2.2,hv'H⟩
      · obtain ⟨Q,hup,hOQ,hCQ,hQo,hQs⟩:=olM_key (olM_below hO' (Below.refl _ _).drew) hmo g i hg hgb (a:=cur) (t:=34) hgx (.slice (some ⟨H,0,none⟩) i i)
        unfold keyM at hup
        rw [mvalM_some hmo] at hz'
        have b0:=row_cell hz' 0
        have k0:=row_cell hKx 0
        have k1:=row_cell hKx 1
        have HF:Hid (OlM base Q op mp v' (ps ++ kidsM H i) (g :: cs)∧ChgM op mp v v' w0 Q∧Q.heap[H]?=some (.cells (cur.toList.take (i * 9)).toArray 34 (0,0))) :=
          ⟨hOQ,(hCw.below (Below.refl _ _).drew).trans hCQ,(hQo H hHo).trans hHx⟩
        have HMO:Hid (mp≠op):=hmo
        clear hOQ hCQ hQo hQs hO' hC' hz' hmo
        have hbo:=nilM_no
        go_wp2_with fail
        go_region
        go_wp2_with fail
        go_ret
        exact ⟨H,v',mp,Or.inl rfl,HMO.out,rfl,HF.out.1,HF.out.2.1,hHl,HF.out.2.2,hv'H⟩
end Go.Proofs.YtcepgedbmffkdaaGreat

/-
  A map keyed by where a list begins, with lists as its values; what is still to be copied: no walk. (Written by mkol.py.)
-/
namespace Go.Proofs.YtcepgedbmffkdaaGreat
open Go.RowKit
set_option linter.unusedVariables false
set_option linter.unusedSimpArgs false
theorem Tryz.stoodOY:Tryz.prog.stoodInHeld 146=false:=by kernel_rfl
theorem Tryz.infoEY:(Tryz.prog.info? 31).map (fun i=>i.size)=some 3:=by kernel_rfl
theorem Tryz.infoFY:(Tryz.prog.info? 31).map (fun i=>(i.zero,i.size,i.bytes))=some (some (.agg #[.int .i64 0,.int .i64 0,.slice none 0 0]),3,40):=by kernel_rfl
theorem Tryz.infoPY:(Tryz.prog.info? 84).map (fun i=>(i.zero,i.size,i.bytes))=some (some (.pointer none),1,8):=by kernel_rfl
theorem Tryz.infoSY:(Tryz.prog.info? 29).map (fun i=>i.zero)=some (some (.slice none 0 0)):=by kernel_rfl
def keyY (c n:Nat):Value:=.agg #[.pointer (some ⟨c,0,none⟩),.int .i64 n]
set_option maxRecDepth 100000 in
set_option maxHeartbeats 1000000 in
theorem keyOY_other {w:World} {c c' n n':Nat} {cs cs':Array Value} {t t':TypeId} (hne:c≠c') (h:w.heap[c]?=some (.cells cs t (0,0))) (h':w.heap[c']?=some (.cells cs' t' (0,0))) :
    (Op.equal 146 (keyY c n) (keyY c' n')).run Tryz.prog w=.ok false w:=by
  obtain ⟨i0,hi,hz⟩:=Option.map_eq_some_iff.1 Tryz.infoEY
  have hA:(⟨c,0,none⟩:Addr)≠⟨c',0,none⟩:=by intro e;exact hne (congrArg Addr.block e)
  have hs:=run_sameAddr_other (P:=Tryz.prog) w (a:=⟨c,0,none⟩) (b:=⟨c',0,none⟩) hA h h'
  have hp:∀ d:Nat,(Op.equalIn (d+1) 84 (.pointer (some ⟨c,0,none⟩)) (.pointer (some ⟨c',0,none⟩))).run Tryz.prog w=.ok false w:=fun d=>by
    simp [Op.equalIn,run_underlying Tryz.underlying84,sizeOf,typeInfo,hi,hz,hs]
  have hpart:∀ a b:Value,(part 84 #[a,b] 0).run Tryz.prog w=.ok a w:=fun a b=>by
    simp [part,isAgg,run_underlying Tryz.underlying84]
  unfold Op.equal keyY
  show (Op.equalIn (9999+1) _ _ _).run _ _=_
  rw [run_equalIn_struct w 9999 _ _ _ (by unfold Program.fieldsOf;rw [Tryz.underlying146]) Tryz.stoodOY]
  simp [Program.fieldsOf,Tryz.underlying146,Op.eqFields,hpart,hp 9998]
def KeysY (es:Array MapEntry) (cs:List Nat):Prop:=∀ e ∈ es.toList,∃ c n,c ∈ cs∧e.key=keyY c n
theorem findY {w:World} {c n:Nat} {cs:List Nat} (hfr:∀ x,x=c∨x ∈ cs→∃ a t,w.heap[x]?=some (.cells a t (0,0))) (hc:c ∉ cs) :
    ∀ (es:List MapEntry) (i:Nat),(∀ e ∈ es,∃ c n,c ∈ cs∧e.key=keyY c n) →
      (Instr.findAsking 146 (keyY c n) es i).run Tryz.prog w=.ok none w:=by
  intro es
  induction es with
  | nil=>intro i _;simp [Instr.findAsking]
  | cons e es ih =>
    intro i h
    obtain ⟨c',n',hc',he⟩:=h e (by simp)
    have hcc:c≠c':=fun e=>hc (e ▸ hc')
    obtain ⟨a,t,ha⟩:=hfr c (Or.inl rfl)
    obtain ⟨a',t',ha'⟩:=hfr c' (Or.inr hc')
    have hk:=keyOY_other (n:=n) (n':=n') hcc ha ha'
    have h1:=ih (i+1) (fun e he=>h e (by simp [he]))
    simp [Instr.findAsking,he,hk,h1]
theorem findOY_key {w:World} {c n:Nat} {cs:List Nat} (hfr:∀ x,x=c∨x ∈ cs→∃ a t,w.heap[x]?=some (.cells a t (0,0))) (hc:c ∉ cs) {es:Array MapEntry} (hk:KeysY es cs) :
    (Instr.findKey 146 (keyY c n) es.toList).run Tryz.prog w=.ok none w:=by
  have h2:=findY (w:=w) (c:=c) (n:=n) hfr hc es.toList 0 hk
  have hred:(Instr.findKey 146 (keyY c n) es.toList).run Tryz.prog w=(Instr.findAsking 146 (keyY c n) es.toList 0).run Tryz.prog w:=by
    unfold Instr.findKey
    simp only [Sem.run_bind,run_underlying Tryz.underlying146,Result.andThen_ok]
    cases hes:es.toList with
    | nil=>simp [Instr.findNow,Instr.findAsking]
    | cons e l=>simp [Instr.findNow,Instr.sameNow]
  rw [hred,h2]
set_option maxRecDepth 100000 in
theorem checkY {w:World} (b:Bool) (c n:Nat):(Instr.checkKey b 10000 146 (keyY c n)).run Tryz.prog w=.ok () w:=by
  have hp:∀ (d:Nat) (v:Option Addr),(Instr.checkKey b (d+1) 84 (.pointer v)).run Tryz.prog w=.ok () w:=fun d v=>by simp [Instr.checkKey,run_underlying Tryz.underlying84]
  have hn:∀ (d:Nat) (v:Int),(Instr.checkKey b (d+1) 3 (.int .i64 v)).run Tryz.prog w=.ok () w:=fun d v=>by simp [Instr.checkKey,run_underlying Tryz.underlying3]
  have hpart0:∀ a b:Value,(part 84 #[a,b] 0).run Tryz.prog w=.ok a w:=fun a b=>by simp [part,isAgg,run_underlying Tryz.underlying84]
  have hpart1:∀ a b:Value,(part 3 #[a,b] 1).run Tryz.prog w=.ok b w:=fun a b=>by simp [part,isAgg,run_underlying Tryz.underlying3]
  unfold keyY
  show (Instr.checkKey b (9999+1) _ _).run _ _=_
  rw [Instr.checkKey]
  simp only [Sem.run_bind,run_underlying Tryz.underlying146,Result.andThen_ok]
  simp [hpart0,hpart1,hp 9998,hn 9998]
theorem lookupY {w:World} {mp c n:Nat} {cs:List Nat} {es:Array MapEntry} {clock:Nat} (hm:w.heap[mp]?=some (.map es clock)) (hfr:∀ x,x=c∨x ∈ cs→∃ a t,w.heap[x]?=some (.cells a t (0,0))) (hc:c ∉ cs) (hk:KeysY es cs) :
    (Instr.lookup 78 (.map (some mp)) (keyY c n) true).run Tryz.prog w=.ok (.tuple #[.slice none 0 0,.bool false]) w:=by
  have h1:=findOY_key (w:=w) (n:=n) hfr hc hk
  have h2:=checkY (w:=w) es.isEmpty c n
  obtain ⟨i1,hi1,hz1⟩:=Option.map_eq_some_iff.1 Tryz.infoSY
  have hz:(zeroValue 29).run Tryz.prog w=.ok (.slice none 0 0) w:=by
    simp [zeroValue,typeInfo,hi1,hz1]
  have hg:=MapKept.run_getObj_map (P:=Tryz.prog) hm
  unfold Instr.lookup
  simp [run_underlying Tryz.underlying78,hg,h1,h2,hz]
theorem lookupY_nil {w:World} {c n:Nat} {a:Array Value} {t:TypeId} (hf:w.heap[c]?=some (.cells a t (0,0))) :
    (Instr.lookup 78 (.map none) (keyY c n) true).run Tryz.prog w=.ok (.tuple #[.slice none 0 0,.bool false]) w:=by
  have h2:=checkY (w:=w) true c n
  have h1:=findOY_key (w:=w) (n:=n) (c:=c) (cs:=[]) (es:=#[]) (fun x hx=>by
    rcases hx with rfl | hx
    · exact ⟨a,t,hf⟩
    · simp at hx) (by simp) (fun e he=>by simp at he)
  simp only [List.toList_toArray] at h1
  obtain ⟨i1,hi1,hz1⟩:=Option.map_eq_some_iff.1 Tryz.infoSY
  have hz:(zeroValue 29).run Tryz.prog w=.ok (.slice none 0 0) w:=by
    simp [zeroValue,typeInfo,hi1,hz1]
  unfold Instr.lookup
  simp [run_underlying Tryz.underlying78,h1,h2,hz]
theorem updateY {w:World} {mp c n:Nat} {cs:List Nat} {es:Array MapEntry} {clock:Nat} (v:Value) (hm:w.heap[mp]?=some (.map es clock)) (hfr:∀ x,x=c∨x ∈ cs→∃ a t,w.heap[x]?=some (.cells a t (0,0))) (hc:c ∉ cs) (hk:KeysY es cs) :
    ∃ es' clock',(Instr.mapUpdate 78 (.map (some mp)) (keyY c n) v).run Tryz.prog w=.ok () { w with heap:=w.heap.setIfInBounds mp (.map es' clock') }∧KeysY es' (c :: cs):=by
  have h2:=checkY (w:=w) false c n
  have hg:=MapKept.run_getObj_map (P:=Tryz.prog) hm
  have hs:=fun o=>MapKept.run_setObj_map (P:=Tryz.prog) o hm
  have h1:=findOY_key (w:=w) (n:=n) hfr hc hk
  refine ⟨es.push { key:=keyY c n,val:=v,born:=clock },clock+1,?_,?_⟩
  · unfold Instr.mapUpdate
    simp [run_underlying Tryz.underlying78,hg,hs,h1,h2]
  · intro x hx
    rw [Array.toList_push,List.mem_append] at hx
    rcases hx with hx | hx
    · obtain ⟨c',n',h3,h4⟩:=hk x hx
      exact ⟨c',n',List.mem_cons_of_mem _ h3,h4⟩
    · simp at hx;subst hx;exact ⟨c,n,by simp,rfl⟩
def mvalY (op mp:Nat):Value:=.map (if mp=op then none else some mp)
theorem mvalY_no (op:Nat):mvalY op op=.map none:=by unfold mvalY;rw [if_pos rfl]
theorem mvalY_some {op mp:Nat} (h:mp≠op):mvalY op mp=.map (some mp):=by unfold mvalY;rw [if_neg h]
structure OlY (base:Nat) (wr:World) (op mp:Nat) (v:Value) (ps:List (Nat × Nat)) (cs:List Nat):Prop where
  bs:base≤wr.heap.size
  opl:base≤op
  mpl:base≤mp
  box:∃ z:Int,wr.heap[op]?=some (.cells #[mvalY op mp,v,.int .i64 z] 81 (0,0))
  row:wr.ownsRow 0 84 1 v ps.length (ps.map fun p=>.pointer (some ⟨p.1,p.2,none⟩))
  blk:∀ x,v.ownBlock=some x→base≤x
  map:(mp=op∧cs=[])∨(mp≠op∧∃ es clock,wr.heap[mp]?=some (.map es clock)∧KeysY es cs)
  key:∀ c ∈ cs,c < base∧∃ a t,wr.heap[c]?=some (.cells a t (0,0))
theorem olY_map {base:Nat} {wr:World} {op mp:Nat} {v:Value} {ps:List (Nat × Nat)} {cs:List Nat} (h:OlY base wr op mp v ps cs) {w1:World} (hb:mp≠op→w1.heap[mp]?=wr.heap[mp]?):(mp=op∧cs=[])∨(mp≠op∧∃ es clock,w1.heap[mp]?=some (.map es clock)∧KeysY es cs):=by
  rcases h.map with h1 | ⟨h1,es,clock,hm,hk⟩
  · exact Or.inl h1
  · exact Or.inr ⟨h1,es,clock,(hb h1).trans hm,hk⟩
theorem olY_keep {base:Nat} {wr w1:World} {op mp:Nat} {v:Value} {ps:List (Nat × Nat)} {cs:List Nat} (h:OlY base wr op mp v ps cs) (hs:wr.heap.size≤w1.heap.size) (hb:∀ b,b=op∨b=mp∨v.ownBlock=some b∨b < base→w1.heap[b]?=wr.heap[b]?):OlY base w1 op mp v ps cs:=by
  obtain ⟨z,hz⟩:=h.box
  refine ⟨Nat.le_trans h.bs hs,h.opl,h.mpl,⟨z,(hb op (Or.inl rfl)).trans hz⟩,own_keep h.row fun g hg=>hb g (Or.inr (Or.inr (Or.inl hg))),h.blk,olY_map h fun _=>hb mp (Or.inr (Or.inl rfl)),fun c hc=>?_⟩
  obtain ⟨h1,a,t,h2⟩:=h.key c hc
  exact ⟨h1,a,t,(hb c (Or.inr (Or.inr (Or.inr h1)))).trans h2⟩
theorem olY_in {base:Nat} {wr:World} {op mp:Nat} {v:Value} {ps:List (Nat × Nat)} {cs:List Nat} (h:OlY base wr op mp v ps cs):op < wr.heap.size∧mp < wr.heap.size∧∀ x,v.ownBlock=some x→x < wr.heap.size:=by
  obtain ⟨z,hz⟩:=h.box
  exact ⟨(Array.getElem?_eq_some_iff.1 hz).1,(by rcases h.map with ⟨h1,_⟩ | ⟨_,es,clock,hm,_⟩;rw [h1];exact (Array.getElem?_eq_some_iff.1 hz).1;exact (Array.getElem?_eq_some_iff.1 hm).1),fun x hx=>(own_cells h.row hx).1⟩
theorem olY_below {base:Nat} {wr w1:World} {op mp:Nat} {v:Value} {ps:List (Nat × Nat)} {cs:List Nat} (h:OlY base wr op mp v ps cs) (hb:Below wr.heap.size wr w1):OlY base w1 op mp v ps cs:=by
  obtain ⟨h1,h2,h3⟩:=olY_in h
  refine olY_keep h hb.size fun b hb'=>hb.block b ?_
  rcases hb' with rfl | rfl | hb' | hb'
  · exact h1
  · exact h2
  · exact h3 b hb'
  · have:=h.bs;omega
theorem olY_apart {base:Nat} {wr:World} {op mp:Nat} {v:Value} {ps:List (Nat × Nat)} {cs:List Nat} (h:OlY base wr op mp v ps cs):v.ownBlock≠some op∧v.ownBlock≠some mp:=by
  obtain ⟨z,hz⟩:=h.box
  have h1:v.ownBlock≠some op:=fun e=>by
    obtain ⟨_,cur,fr,e1⟩:=own_cells h.row e
    rw [hz] at e1;cases e1
  refine ⟨h1,?_⟩
  rcases h.map with ⟨h2,_⟩ | ⟨_,es,clock,hm,_⟩
  · rw [h2];exact h1
  · intro e
    obtain ⟨_,cur,fr,e1⟩:=own_cells h.row e
    rw [hm] at e1;cases e1
theorem olY_look {base:Nat} {wr:World} {op mp:Nat} {v:Value} {ps:List (Nat × Nat)} {cs:List Nat} (h:OlY base wr op mp v ps cs) (c n:Nat) (hc:c ∉ cs) {a:Array Value} {t:TypeId} (hf:wr.heap[c]?=some (.cells a t (0,0))) :
    (Instr.lookup 78 (mvalY op mp) (keyY c n) true).run Tryz.prog wr=.ok (.tuple #[.slice none 0 0,.bool false]) wr:=by
  rcases h.map with ⟨rfl,rfl⟩ | ⟨hne,es,clock,hm,hk⟩
  · rw [mvalY_no]
    exact lookupY_nil hf
  · rw [mvalY_some hne]
    exact lookupY hm (fun x hx=>by
      rcases hx with rfl | hx
      · exact ⟨a,t,hf⟩
      · exact (h.key x hx).2) hc hk
structure ChgY (op mp:Nat) (v v':Value) (wr w':World):Prop where
  os:w'.os=wr.os
  tape:w'.tape=wr.tape
  output:w'.output=wr.output
  size:wr.heap.size≤w'.heap.size
  block:∀ b,b < wr.heap.size→b≠op→b≠mp→v.ownBlock≠some b→w'.heap[b]?=wr.heap[b]?
  vb:∀ x,v'.ownBlock=some x→v.ownBlock=some x∨wr.heap.size≤x
theorem ChgY.refl (op mp:Nat) (v:Value) (w:World):ChgY op mp v v w w:=⟨rfl,rfl,rfl,Nat.le_refl _,fun _ _ _ _ _=>rfl,fun _ h=>Or.inl h⟩
theorem ChgY.trans {op mp:Nat} {v v1 v2:Value} {wr w1 w2:World} (h:ChgY op mp v v1 wr w1) (k:ChgY op mp v1 v2 w1 w2):ChgY op mp v v2 wr w2:=by
  refine ⟨k.os.trans h.os,k.tape.trans h.tape,k.output.trans h.output,Nat.le_trans h.size k.size,fun b hb h1 h2 h3=>?_,fun x hx=>?_⟩
  · refine (k.block b (Nat.lt_of_lt_of_le hb h.size) h1 h2 fun e=>?_).trans (h.block b hb h1 h2 h3)
    rcases h.vb b e with e | e
    · exact h3 e
    · omega
  · have:=h.size
    rcases k.vb x hx with e | e
    · exact h.vb x e
    · exact Or.inr (by omega)
theorem ChgY.transN {op mp mp':Nat} {v v1 v2:Value} {wr w1 w2:World} (h:ChgY op mp v v1 wr w1) (k:ChgY op mp' v1 v2 w1 w2) (hm:mp'=mp∨wr.heap.size≤mp'):ChgY op mp v v2 wr w2:=by
  refine ⟨k.os.trans h.os,k.tape.trans h.tape,k.output.trans h.output,Nat.le_trans h.size k.size,fun b hb h1 h2 h3=>?_,fun x hx=>?_⟩
  · refine (k.block b (Nat.lt_of_lt_of_le hb h.size) h1 (by rcases hm with e | e;rw [e];exact h2;omega) fun e=>?_).trans (h.block b hb h1 h2 h3)
    rcases h.vb b e with e | e
    · exact h3 e
    · omega
  · have:=h.size
    rcases k.vb x hx with e | e
    · exact h.vb x e
    · exact Or.inr (by omega)
theorem ChgY.below {op mp:Nat} {v v1:Value} {wr w1 w2:World} (h:ChgY op mp v v1 wr w1) (k:Below w1.heap.size w1 w2):ChgY op mp v v1 wr w2 :=
  ⟨k.os.trans h.os,k.tape.trans h.tape,k.output.trans h.output,Nat.le_trans h.size k.size,fun b hb h1 h2 h3=>(k.block b (Nat.lt_of_lt_of_le hb h.size)).trans (h.block b hb h1 h2 h3),h.vb⟩
theorem ChgY.setOp {op mp:Nat} {v v1:Value} {wr w1:World} (h:ChgY op mp v v1 wr w1) (o:Nat) (u:Value):ChgY op mp v v1 wr (w1.setCell ⟨op,o,none⟩ u) :=
  ⟨h.os,h.tape,h.output,by simpa using h.size,fun b hb h1 h2 h3=>(row_other _ _ _ h1).trans (h.block b hb h1 h2 h3),h.vb⟩
theorem olY_push {base:Nat} {wr:World} {op mp:Nat} {v:Value} {ps:List (Nat × Nat)} {cs:List Nat} (h:OlY base wr op mp v ps cs) (hsz:ps.length≤8388608) (p:Nat × Nat) :
    ∃ g cap w2,(Builtin.append_ #[79,79] 79 #[v,.slice (some ⟨wr.heap.size,0,none⟩) 1 1]).run Tryz.prog (wr.alloc (.cells #[.pointer (some ⟨p.1,p.2,none⟩)] 84))=.ok (.slice (some ⟨g,0,none⟩) (ps.length+1) cap) w2 ∧
      OlY base (w2.setCell ⟨op,1,none⟩ (.slice (some ⟨g,0,none⟩) (ps.length+1) cap)) op mp (.slice (some ⟨g,0,none⟩) (ps.length+1) cap) (ps ++ [p]) cs ∧
      ChgY op mp v (.slice (some ⟨g,0,none⟩) (ps.length+1) cap) wr w2∧wr.heap.size < w2.heap.size∧∃ z:Int,w2.heap[op]?=some (.cells #[mvalY op mp,v,.int .i64 z] 81 (0,0)):=by
  obtain ⟨i0,hi,hz0,hz1,hz2⟩:=info_parts Tryz.infoPY
  have hX:Below wr.heap.size wr (wr.alloc (.cells #[.pointer (some ⟨p.1,p.2,none⟩)] 84)):=(Below.refl _ _).alloc (Nat.le_refl _) _
  have h1:=olY_below h hX
  have hgw:=h.bs
  obtain ⟨i1,i2,i3⟩:=olY_in h
  obtain ⟨g,cap,w2,hrun,hown2,hgrow,hat,hlt⟩:=run_append_lies (P:=Tryz.prog) (wr.alloc (.cells #[.pointer (some ⟨p.1,p.2,none⟩)] 84)) 79 79 0 84 i0 _ 1 8 Tryz.underlying79 hi hz0 hz1 hz2 rfl (by omega) v ps.length _ h1.row
    ⟨wr.heap.size,0,none⟩ 1 1 [.pointer (some ⟨p.1,p.2,none⟩)] rfl (World.news_of_block (cs:=#[.pointer (some ⟨p.1,p.2,none⟩)]) (t:=84) (fr:=(0,0)) (heap_alloc_new wr _)) (by simp [Value.oneCell'])
    (by omega) (by unfold maxLen;omega) (by omega) (by simp) _ rfl
  obtain ⟨hv1,hv2⟩:=olY_apart h1
  have hkeep:∀ i,i < wr.heap.size→v.ownBlock≠some i→w2.heap[i]?=wr.heap[i]?:=fun i hi hr=>(hgrow.block i (by simp;omega) (fun e=>hr e.symm)).trans (Below.heap_alloc _ _ _ hi)
  obtain ⟨z,hz⟩:=h.box
  have hbx:w2.heap[op]?=some (.cells #[mvalY op mp,v,.int .i64 z] 81 (0,0)):=(hkeep op i1 hv1).trans hz
  have hvb:∀ x,(Value.slice (some ⟨g,0,none⟩) (ps.length+1) cap).ownBlock=some x→v.ownBlock=some x∨wr.heap.size≤x:=fun x hx=>by
    have hx':g=x:=by simpa [Value.ownBlock] using hx
    subst hx'
    rcases hat with hat | hat
    · exact Or.inl hat
    · simp at hat;right;omega
  have hgop:g≠op:=by
    rcases hat with hat | hat
    · exact fun e=>hv1 (by rw [hat,e])
    · simp at hat;omega
  have hws:wr.heap.size < w2.heap.size:=by have:=hgrow.size;simp at this;omega
  refine ⟨g,cap,w2,hrun,⟨by simp;omega,h.opl,h.mpl,⟨z,row_set hbx _ _⟩,?_,?_,olY_map h fun hne=>(row_other _ _ _ hne).trans (hkeep mp i2 hv2),?_⟩,⟨hgrow.os,hgrow.tape,hgrow.output,by omega,fun b hb _ _ hv=>hkeep b hb hv,hvb⟩,hws,z,hbx⟩
  · rw [List.length_append,List.map_append]
    exact own_keep (by simpa using hown2) fun g' hg'=>row_other _ _ _ (by
      have:g=g':=by simpa [Value.ownBlock] using hg'
      omega)
  · intro x hx
    rcases hvb x hx with e | e
    · exact h.blk x e
    · omega
  · intro c hc
    obtain ⟨k1,a,t,k2⟩:=h.key c hc
    have:=h.opl
    refine ⟨k1,a,t,(row_other _ _ _ (by omega)).trans ((hkeep c (by omega) fun e=>?_).trans k2)⟩
    have:=h.blk c e
    omega
theorem olY_pop {base:Nat} {wr:World} {op mp:Nat} {v:Value} {init:List (Nat × Nat)} {p:Nat × Nat} {cs:List Nat} (h:OlY base wr op mp v (init ++ [p]) cs) :
    ∃ g cap,v=.slice (some ⟨g,0,none⟩) (init.length+1) cap∧g < wr.heap.size∧g≠op∧init.length+1≤cap∧cap≤9223372036854775807 ∧
      wr.cell? ⟨g,init.length,none⟩=some (.pointer (some ⟨p.1,p.2,none⟩)) ∧
      OlY base (wr.setCell ⟨op,1,none⟩ (.slice (some ⟨g,0,none⟩) init.length cap)) op mp (.slice (some ⟨g,0,none⟩) init.length cap) init cs:=by
  have hrow:=h.row
  obtain ⟨hv1,hv2⟩:=olY_apart h
  rw [List.length_append,List.map_append] at hrow
  simp only [List.length_singleton,List.map_cons,List.map_nil] at hrow
  rcases hrow.2 with ⟨_,hn⟩ | ⟨g,cap,cur,rfl,hg,hh,hc1,hc2,hc3,ht⟩
  · omega
  · have hgo:g≠op:=fun e=>hv1 (by simp [Value.ownBlock,e])
    have hgm:g≠mp:=fun e=>hv2 (by simp [Value.ownBlock,e])
    have hgb:=h.blk g rfl
    have hl:(init.map fun p=>Value.pointer (some ⟨p.1,p.2,none⟩)).length=init.length:=by simp
    have e:(cur.toList.take ((init.length+1) * 1))[init.length]?=some (.pointer (some ⟨p.1,p.2,none⟩)):=by
      rw [ht,List.getElem?_append_right (by omega),hl];simp
    rw [List.getElem?_take,if_pos (by omega)] at e
    obtain ⟨z,hz⟩:=h.box
    have hop:=h.opl
    refine ⟨g,cap,rfl,(Array.getElem?_eq_some_iff.1 hh).1,hgo,hc1,by unfold maxLen at hc2;omega,by rw [row_cell hh,← Array.getElem?_toList,e],⟨by simpa using h.bs,h.opl,h.mpl,⟨z,row_set hz _ _⟩,?_,fun x hx=>h.blk x hx,olY_map h fun hne=>row_other _ _ _ hne,fun c hc=>?_⟩⟩
    · refine ⟨by simp,Or.inr ⟨g,cap,cur,rfl,hg,(row_other _ _ _ hgo).trans hh,by omega,hc2,hc3,?_⟩⟩
      have e2:cur.toList.take (init.length * 1)=(cur.toList.take ((init.length+1) * 1)).take (init.length * 1):=by rw [List.take_take];congr 1;omega
      rw [e2,ht,List.take_append_of_le_length (by omega),List.take_of_length_le (by omega)]
    · obtain ⟨k1,a,t,k2⟩:=h.key c hc
      exact ⟨k1,a,t,(row_other _ _ _ (by omega)).trans k2⟩
theorem olY_key {base:Nat} {wr:World} {op mp:Nat} {v:Value} {ps:List (Nat × Nat)} {cs:List Nat} (h:OlY base wr op mp v ps cs) (hne:mp≠op) (c n:Nat) (hc:c ∉ cs) (hcb:c < base) {a:Array Value} {t:TypeId} (hf:wr.heap[c]?=some (.cells a t (0,0))) (u:Value) :
    ∃ w1,(Instr.mapUpdate 78 (.map (some mp)) (keyY c n) u).run Tryz.prog wr=.ok () w1∧OlY base w1 op mp v ps (c :: cs)∧ChgY op mp v v wr w1∧(∀ i,i≠mp→w1.heap[i]?=wr.heap[i]?)∧w1.heap.size=wr.heap.size:=by
  obtain ⟨es,clock,hm,hk⟩:∃ es clock,wr.heap[mp]?=some (.map es clock)∧KeysY es cs:=by
    rcases h.map with ⟨h1,_⟩ | ⟨_,h1⟩
    · exact absurd h1 hne
    · exact h1
  obtain ⟨hv1,hv2⟩:=olY_apart h
  obtain ⟨es',clock',hrun,hk'⟩:=updateY (n:=n) u hm (fun x hx=>by
    rcases hx with rfl | hx
    · exact ⟨a,t,hf⟩
    · exact (h.key x hx).2) hc hk
  have hlt:mp < wr.heap.size:=(Array.getElem?_eq_some_iff.1 hm).1
  have other:∀ i,i≠mp→(wr.heap.setIfInBounds mp (.map es' clock'))[i]?=wr.heap[i]?:=fun i hi=>by
    rw [Array.getElem?_setIfInBounds];rw [if_neg (fun e=>hi e.symm)]
  obtain ⟨z,hz⟩:=h.box
  have hmp:=h.mpl
  refine ⟨_,hrun,⟨by simpa using h.bs,h.opl,h.mpl,⟨z,(other op (fun e=>hne e.symm)).trans hz⟩,own_keep h.row fun g hg=>other g (fun e=>hv2 (e ▸ hg)),h.blk,Or.inr ⟨hne,es',clock',by show (Array.setIfInBounds _ _ _)[mp]?=_;rw [Array.getElem?_setIfInBounds];simp [hlt],hk'⟩,fun x hx=>?_⟩,⟨rfl,rfl,rfl,by simp,fun b _ _ hb _=>other b hb,fun x hx=>Or.inl hx⟩,other,by simp⟩
  rcases List.mem_cons.1 hx with rfl | hx
  · exact ⟨hcb,a,t,(other _ (by omega)).trans hf⟩
  · obtain ⟨k1,a,t,k2⟩:=h.key x hx
    exact ⟨k1,a,t,(other _ (by omega)).trans k2⟩
theorem olY_new {base:Nat} {wr:World} {op:Nat} {v:Value} {ps:List (Nat × Nat)} {cs:List Nat} (h:OlY base wr op op v ps cs) :
    OlY base ((wr.alloc (.map #[] 0)).setCell ⟨op,0,none⟩ (.map (some wr.heap.size))) op wr.heap.size v ps cs∧ChgY op op v v wr ((wr.alloc (.map #[] 0)).setCell ⟨op,0,none⟩ (.map (some wr.heap.size)))∧wr.heap.size≠op∧(∀ i,i < wr.heap.size→i≠op→((wr.alloc (.map #[] 0)).setCell ⟨op,0,none⟩ (.map (some wr.heap.size))).heap[i]?=wr.heap[i]?)∧((wr.alloc (.map #[] 0)).setCell ⟨op,0,none⟩ (.map (some wr.heap.size))).heap.size=wr.heap.size+1:=by
  obtain ⟨h1,_,h3⟩:=olY_in h
  obtain ⟨hv1,_⟩:=olY_apart h
  have hne:wr.heap.size≠op:=by omega
  have hcs:cs=[]:=by rcases h.map with ⟨_,h2⟩ | ⟨h2,_⟩;exact h2;exact absurd rfl h2
  have oth:∀ i,i < wr.heap.size→i≠op→((wr.alloc (.map #[] 0)).setCell ⟨op,0,none⟩ (.map (some wr.heap.size))).heap[i]?=wr.heap[i]?:=fun i hi hio=>(row_other _ _ _ hio).trans (Below.heap_alloc _ _ _ hi)
  have hsz:((wr.alloc (.map #[] 0)).setCell ⟨op,0,none⟩ (.map (some wr.heap.size))).heap.size=wr.heap.size+1:=by simp
  have hbs:=h.bs
  have hop:=h.opl
  obtain ⟨z,hz⟩:=h.box
  have hz2:(wr.alloc (.map #[] 0)).heap[op]?=_:=(Below.heap_alloc _ _ _ h1).trans hz
  refine ⟨⟨by omega,hop,hbs,⟨z,?_⟩,own_keep h.row fun g hg=>oth g (h3 g hg) (fun e=>hv1 (e ▸ hg)),h.blk,Or.inr ⟨hne,#[],0,?_,?_⟩,fun c hc=>by rw [hcs] at hc;cases hc⟩,⟨rfl,rfl,rfl,by omega,fun b hb h4 _ _=>oth b hb h4,fun x hx=>Or.inl hx⟩,hne,oth,hsz⟩
  · rw [mvalY_some hne];exact row_set hz2 0 _
  · refine (row_other _ _ _ hne).trans ?_
    show (wr.heap.push _)[wr.heap.size]?=_
    simp
  · rw [hcs];intro e he;simp at he
theorem copyY {w:World} {g n c:Nat} {cur:Array Value} (hg:w.heap[g]?=some (.cells cur 31 (0,0))) (hn:n * 3≤cur.size) (h1:∀ j (hj:j < n * 3),(cur[j]'(by omega)).oneCell'=true) (C:Array Value) (hC:C.size=n * 3) :
    ∃ Y,(Builtin.copy_ #[29,29] 3 #[.slice (some ⟨w.heap.size,0,none⟩) n n,.slice (some ⟨g,0,none⟩) n c]).run Tryz.prog (w.alloc (.cells C 31))=.ok (.int .i64 n) Y∧Below w.heap.size w Y∧Y.heap.size=w.heap.size+1∧Y.heap[w.heap.size]?=some (.cells (cur.toList.take (n * 3)).toArray 31 (0,0)):=by
  obtain ⟨i0,hi,hz⟩:=Option.map_eq_some_iff.1 Tryz.infoEY
  have hX:Below w.heap.size w (w.alloc (.cells C 31)):=(Below.refl _ _).alloc (Nat.le_refl _) _
  have hX0:(w.alloc (.cells C 31)).heap[w.heap.size]?=some (.cells C 31 (0,0)):=heap_new rfl
  have hgl:g < w.heap.size:=(Array.getElem?_eq_some_iff.1 hg).1
  have hlen:(cur.toList.take (n * 3)).length=n * 3:=by simp;omega
  have hl:=run_loadCells_list (P:=Tryz.prog) (w.alloc (.cells C 31)) ⟨g,0,none⟩ (cur.toList.take (n * 3)) (fun j v hv=>by
    have ea:(⟨g,0,none⟩:Addr).add j=⟨g,0+j,none⟩:=by unfold Addr.add;split <;> simp_all
    rw [ea,Nat.zero_add,row_cell (hX.block g hgl |>.trans hg),← Array.getElem?_toList]
    rw [List.getElem?_take] at hv
    split at hv
    · exact hv
    · cases hv)
  have hst:=run_storeCells_at Tryz.prog w.heap.size 0 31 (cur.toList.take (n * 3)) 0 C (w.alloc (.cells C 31)) hX0 (by rw [hlen];omega) (fun v hv=>by
    obtain ⟨j,hj,rfl⟩:=List.getElem_of_mem hv
    rw [List.getElem_take]
    simpa using h1 j (by rw [hlen] at hj;exact hj))
  rw [hlen] at hl
  have hrow:(C.toList.take (0+0) ++ cur.toList.take (n * 3) ++ C.toList.drop (0+0+(cur.toList.take (n * 3)).length)).toArray=(cur.toList.take (n * 3)).toArray:=by
    rw [hlen,List.drop_eq_nil_of_le (by simp;omega)];simp
  rw [hrow] at hst
  refine ⟨_,by simp [Builtin.copy_,run_underlying Tryz.underlying29,Builtin.lenOf,Builtin.firstCells,sizeOf,typeInfo,hi,hz,hl,hst];rfl,?_,by simp,setRow_heap _ _ _ _ _ _ hX0⟩
  exact ⟨rfl,rfl,rfl,by simp,fun k hk=>(setRow_other _ _ _ _ (by omega)).trans (hX.block k hk)⟩
end Go.Proofs.YtcepgedbmffkdaaGreat
