/-
  What 'placeOf', 'ask' and 'goOn' come to.
-/
import Derived.Test.YtcepgedbmffkdaaGreatFbaZ29
import Derived.Test.YtcepgedbmffkdaaGreatFbaZ1
import Derived.Test.YtcepgedbmffkdaaGreatFbaZ7
import Derived.Deep.RegionHeld3
import Derived.Deep.RegionLaw
import Derived.Deep.Cut
import Derived.Deep.CutRange
namespace Go.Proofs.YtcepgedbmffkdaaGreat
open Go.RowKit
set_option linter.unusedVariables false
set_option linter.unusedSimpArgs false
set_option maxHeartbeats 1000000 in
theorem placeOf_any (c cap:Nat) (w:World) :
    Calls Tryz.prog 80 #[.slice (some ⟨c,0,none⟩) 2 cap] w fun e w'=>e=.returned (keyP c)∧Below w.heap.size w w':=by
  have hbel:Below w.heap.size w (w.alloc (.cells #[.pointer (some ⟨c,0,none⟩),.int .i64 2] 141)):=(Below.refl _ _).alloc (Nat.le_refl _) _
  have h:(w.alloc (.cells #[.pointer (some ⟨c,0,none⟩),.int .i64 2] 141)).heap[w.heap.size]?=_:=heap_new rfl
  have p0:=row_cell h 0
  have p1:=row_cell h 1
  clear h
  go_enter Tryz.func80,Tryz.ntmps80
  go_wp2_with fail
  refine bodyPost_ret (v:=keyP c) (by simp [results,Tryz.results80,go_sem,p0,p1,keyP]) rfl ⟨rfl,hbel⟩
theorem ask_val (D d:Nat) (t:Tm) (a1:Option Addr) (l1 c1:Nat) (a2:Option Addr) (l2 c2:Nat) (a3:Option Addr) (l3 c3:Nat) (wr:World) (wp:Nat) (hf:Fm 0 wr.heap.size wr D d t a1 l1 a2 l2 a3 l3) (hv:isVal t.K=true) :
    Calls Tryz.prog 99 #[.pointer (some ⟨wp,0,none⟩),.agg #[.int .i64 t.K,.int .i64 t.N,.string t.S,.string t.Z,.int .i64 t.T.K,.int .i64 t.T.N,.slice a1 l1 c1,.slice a2 l2 c2,.slice a3 l3 c3]] wr fun e w'=>e=.returned (.bool true)∧Below wr.heap.size wr w':=by
  obtain ⟨X,hX⟩:∃ X,X=wr.alloc (.cells #[.int .i64 t.K,.int .i64 t.N,.string t.S,.string t.Z,.int .i64 t.T.K,.int .i64 t.T.N,.slice a1 l1 c1,.slice a2 l2 c2,.slice a3 l3 c3] 34):=⟨_,rfl⟩
  have hXb:Below wr.heap.size wr X:=by rw [hX];exact (Below.refl _ _).alloc (Nat.le_refl _) _
  have HX:Hid (X=_):=hX
  clear hX
  go_enter Tryz.func99,Tryz.ntmps99
  go_wp2_with fail
  rw [← HX.out]
  refine (isValue_any D d 0 wr.heap.size t _ _ _ _ _ _ _ _ _ X hXb.size (Fm.below hXb (Nat.le_refl _) hf)).mono ?_
  rintro e w1 ⟨rfl,hb1⟩
  rw [hv]
  go_wp2_with fail
  go_ret
  exact ⟨rfl,hXb.trans (hb1.mono hXb.size)⟩
theorem ask_no (D d:Nat) (t:Tm) (a1:Option Addr) (l1 c1:Nat) (a2:Option Addr) (l2 c2:Nat) (a3:Option Addr) (l3 c3:Nat) (wr:World) (wp:Nat) (hf:Fm 0 wr.heap.size wr D d t a1 l1 a2 l2 a3 l3) (hv:isVal t.K=false) (hn:¬ ((t.K=9∨t.K=13)∧l3=2)) :
    Calls Tryz.prog 99 #[.pointer (some ⟨wp,0,none⟩),.agg #[.int .i64 t.K,.int .i64 t.N,.string t.S,.string t.Z,.int .i64 t.T.K,.int .i64 t.T.N,.slice a1 l1 c1,.slice a2 l2 c2,.slice a3 l3 c3]] wr fun e w'=>e=.returned (.bool false)∧Below wr.heap.size wr w':=by
  obtain ⟨X,hX⟩:∃ X,X=wr.alloc (.cells #[.int .i64 t.K,.int .i64 t.N,.string t.S,.string t.Z,.int .i64 t.T.K,.int .i64 t.T.N,.slice a1 l1 c1,.slice a2 l2 c2,.slice a3 l3 c3] 34):=⟨_,rfl⟩
  have hXb:Below wr.heap.size wr X:=by rw [hX];exact (Below.refl _ _).alloc (Nat.le_refl _) _
  have hX1:X.heap[wr.heap.size]?=some (.cells #[.int .i64 t.K,.int .i64 t.N,.string t.S,.string t.Z,.int .i64 t.T.K,.int .i64 t.T.N,.slice a1 l1 c1,.slice a2 l2 c2,.slice a3 l3 c3] 34 (0,0)):=by rw [hX];exact heap_new rfl
  have hXs:X.heap.size=wr.heap.size+1:=by rw [hX];simp
  have HX:Hid (X=_):=hX
  clear hX
  have hl3:=hf.m.len.2
  go_enter Tryz.func99,Tryz.ntmps99
  go_wp2_with fail
  rw [← HX.out]
  refine (isValue_any D d 0 wr.heap.size t _ _ _ _ _ _ _ _ _ X hXb.size (Fm.below hXb (Nat.le_refl _) hf)).mono ?_
  rintro e w1 ⟨rfl,hb1⟩
  rw [hv]
  have hbw:Below wr.heap.size wr w1:=hXb.trans (hb1.mono hXb.size)
  have y1:=(hb1.block wr.heap.size (by omega)).trans hX1
  obtain ⟨f0,f1,f2,f3,f4,f5,f6,f7,f8⟩:=Nine.box y1
  by_cases h9:t.K=9
  · have h2:((l3:Int) != 2)=true:=by rw [bne_iff_ne];intro e;exact hn ⟨Or.inl h9,by omega⟩
    have h9b:(t.K != 9)=false:=by simp [h9]
    clear hn h9
    go_wp2_with fail
    go_ret
    exact ⟨rfl,hbw⟩
  · have h9b:(t.K != 9)=true:=by rw [bne_iff_ne];exact h9
    by_cases h13:t.K=13
    · have h2:((l3:Int) != 2)=true:=by rw [bne_iff_ne];intro e;exact hn ⟨Or.inr h13,by omega⟩
      have h13b:(t.K != 13)=false:=by simp [h13]
      clear hn h9 h13
      go_wp2_with fail
      go_ret
      exact ⟨rfl,hbw⟩
    · have h13b:(t.K != 13)=true:=by rw [bne_iff_ne];exact h13
      clear hn h9 h13
      go_wp2_with fail
      go_ret
      exact ⟨rfl,hbw⟩
end Go.Proofs.YtcepgedbmffkdaaGreat

/-
  What 'ask' comes to, of a pair.
-/
namespace Go.Proofs.YtcepgedbmffkdaaGreat
open Go.RowKit
set_option linter.unusedVariables false
set_option linter.unusedSimpArgs false
set_option maxHeartbeats 4000000 in
theorem ask_pair (D d:Nat) (t:Tm) (a1:Option Addr) (l1 c1:Nat) (a2:Option Addr) (l2 c2:Nat) (c c3:Nat) (w wr:World) (wp mp:Nat) (v:Value) (fs:List Fr) (cs:List Nat) (hD:PDyn w wr wp mp v fs cs) (hf:Fm 0 wr.heap.size wr D d t a1 l1 a2 l2 (some ⟨c,0,none⟩) 2) (hv:isVal t.K=false) (hp:t.K=9∨t.K=13)
    (hc:c ∉ cs) (hfr:∀ x,x=c∨x ∈ cs→∃ a t,w.heap[x]?=some (.cells a t (0,0))) (hsz:fs.length≤2097153) (ts:List Tm) (bss:List (List Nat)) :
    Calls Tryz.prog 99 #[.pointer (some ⟨wp,0,none⟩),.agg #[.int .i64 t.K,.int .i64 t.N,.string t.S,.string t.Z,.int .i64 t.T.K,.int .i64 t.T.N,.slice a1 l1 c1,.slice a2 l2 c2,.slice (some ⟨c,0,none⟩) 2 c3]] wr fun e w'=>e=.returned (.bool true)∧∃ v',PDyn w w' wp mp v' (fs ++ [⟨c,c3,ts,bss,0⟩]) (c :: cs):=by
  obtain ⟨X,hX⟩:∃ X,X=wr.alloc (.cells #[.int .i64 t.K,.int .i64 t.N,.string t.S,.string t.Z,.int .i64 t.T.K,.int .i64 t.T.N,.slice a1 l1 c1,.slice a2 l2 c2,.slice (some ⟨c,0,none⟩) 2 c3] 34):=⟨_,rfl⟩
  have hXb:Below wr.heap.size wr X:=by rw [hX];exact (Below.refl _ _).alloc (Nat.le_refl _) _
  have hX1:X.heap[wr.heap.size]?=some (.cells #[.int .i64 t.K,.int .i64 t.N,.string t.S,.string t.Z,.int .i64 t.T.K,.int .i64 t.T.N,.slice a1 l1 c1,.slice a2 l2 c2,.slice (some ⟨c,0,none⟩) 2 c3] 34 (0,0)):=by rw [hX];exact heap_new rfl
  have hXs:X.heap.size=wr.heap.size+1:=by rw [hX];simp
  have HX:Hid (X=_):=hX
  clear hX
  have hwl:wp < wr.heap.size:=(Array.getElem?_eq_some_iff.1 hD.box).1
  go_enter Tryz.func99,Tryz.ntmps99
  go_wp2_with fail
  rw [← HX.out]
  refine (isValue_any D d 0 wr.heap.size t _ _ _ _ _ _ _ _ _ X hXb.size (Fm.below hXb (Nat.le_refl _) hf)).mono ?_
  rintro e w1 ⟨rfl,hb1⟩
  rw [hv]
  have hbw1:Below wr.heap.size wr w1:=hXb.trans (hb1.mono hXb.size)
  have y1:=(hb1.block wr.heap.size (by omega)).trans hX1
  have hz1:=hb1.size
  obtain ⟨f0,f1,f2,f3,f4,f5,f6,f7,f8⟩:=Nine.box y1
  have hk:((t.K != 9) && (t.K != 13))=false:=by rcases hp with h | h <;> simp [h]
  cases h9:(t.K != 9)
  case' true=>have h13:(t.K != 13)=false:=by simpa [h9] using hk
  all_goals
    clear hk hp
    go_wp2_with fail
    refine (placeOf_any c c3 w1).mono ?_
    rintro e w2 ⟨rfl,hb2⟩
    have hz2:=hb2.size
    have hbw2:Below wr.heap.size wr w2:=hbw1.trans (hb2.mono hbw1.size)
    have y2:=(hb2.block wr.heap.size (by omega)).trans y1
    clear f0 f1 f2 f3 f4 f5 f6 f7 f8
    unfold keyP
    obtain ⟨Y,hY⟩:∃ Y,Y=w2.alloc (.cells #[.pointer (some ⟨c,0,none⟩),.int .i64 2] 141):=⟨_,rfl⟩
    have hYb:Below w2.heap.size w2 Y:=by rw [hY];exact (Below.refl _ _).alloc (Nat.le_refl _) _
    have hYs:Y.heap.size=w2.heap.size+1:=by rw [hY];simp
    have hYk:Y.heap[w2.heap.size]?=some (.cells #[.pointer (some ⟨c,0,none⟩),.int .i64 2] 141 (0,0)):=by rw [hY];exact heap_new rfl
    have hYt:=(hYb.block wr.heap.size (by omega)).trans y2
    have hDY:PDyn w Y wp mp v fs cs:=p_below hD (hbw2.trans (hYb.mono hbw2.size))
    have HY:Hid (Y=_):=hY
    clear hY
    go_wp2_with fail
    rw [← HY.out]
    have hlk:=p_look (p_below hDY (Below.refl _ _).drew) c hc hfr
    unfold keyP at hlk
    have b0:=row_cell hDY.box 0
    have b1:=row_cell hDY.box 1
    have k0:=row_cell hYk 0
    have k1:=row_cell hYk 1
    go_region
    go_wp2_with fail
    have hD1:PDyn w Y.drew wp mp v fs cs:=p_below hDY (Below.refl _ _).drew
    have hK1:Y.drew.heap[w2.heap.size]?=some (.cells #[.pointer (some ⟨c,0,none⟩),.int .i64 2] 141 (0,0)):=hYk
    have hT1:Y.drew.heap[wr.heap.size]?=some (.cells #[.int .i64 t.K,.int .i64 t.N,.string t.S,.string t.Z,.int .i64 t.T.K,.int .i64 t.T.N,.slice a1 l1 c1,.slice a2 l2 c2,.slice (some ⟨c,0,none⟩) 2 c3] 34 (0,0)):=hYt
    clear hlk b0 b1 k0 k1 hDY hYk hYt hYb hYs HY
    generalize Y.drew=Y1 at *
    obtain ⟨Z,hup,hDZ,hZo,hZs⟩:=p_key (p_below hD1 (Below.refl _ _).drew) c hfr (.int .i64 1)
    unfold keyP at hup
    have hne:=p_apart hD1
    have hTZ:Z.heap[wr.heap.size]?=some (.cells #[.int .i64 t.K,.int .i64 t.N,.string t.S,.string t.Z,.int .i64 t.T.K,.int .i64 t.T.N,.slice a1 l1 c1,.slice a2 l2 c2,.slice (some ⟨c,0,none⟩) 2 c3] 34 (0,0)):=(hZo _ (by
      intro e
      obtain ⟨es,cl,hm,_⟩:=hD1.map
      rw [← e,hT1] at hm;cases hm)).trans hT1
    have b1:=row_cell hD1.box 1
    have k0:=row_cell hK1 0
    have k1:=row_cell hK1 1
    go_region
    go_wp2_with fail
    clear b1 k0 k1 hup hD1 hK1 hT1 hZo hZs
    obtain ⟨g,cap,W2,hrun,hDW,hWo,hWb,hWx⟩:=p_push (p_below hDZ (Below.refl _ _).drew) hsz ⟨c,c3,ts,bss,0⟩
    have hpl:wr.heap.size < Z.heap.size:=(Array.getElem?_eq_some_iff.1 hTZ).1
    have hvT:v.ownBlock≠some wr.heap.size:=fun e=>by
      obtain ⟨_,cur,fr,e1⟩:=own_cells hDZ.row e
      rw [hTZ] at e1;cases e1
    have hTW:W2.heap[wr.heap.size]?=some (.cells #[.int .i64 t.K,.int .i64 t.N,.string t.S,.string t.Z,.int .i64 t.T.K,.int .i64 t.T.N,.slice a1 l1 c1,.slice a2 l2 c2,.slice (some ⟨c,0,none⟩) 2 c3] 34 (0,0)):=(hWo _ hpl hvT).trans hTZ
    have hwl2:wp < Z.heap.size:=(Array.getElem?_eq_some_iff.1 hDZ.box).1
    have S0:Z.cell? ⟨wp,0,none⟩=some v∧Z.frozen? ⟨wp,0,none⟩=false∧Z.cell? ⟨wr.heap.size,8,none⟩=some (.slice (some ⟨c,0,none⟩) 2 c3):=⟨row_cell hDZ.box 0,row_free hDZ.box 0,row_cell hTZ 8⟩
    have SA:Hid (∀ o,(Z.alloc o).cell? ⟨wp,0,none⟩=some v∧(Z.alloc o).frozen? ⟨wp,0,none⟩=false∧(Z.alloc o).cell? ⟨wr.heap.size,8,none⟩=some (.slice (some ⟨c,0,none⟩) 2 c3)):=fun o=>by
      have e1:(Z.alloc o).heap[wp]?=_:=(Below.heap_alloc _ _ _ hwl2).trans hDZ.box
      have e2:(Z.alloc o).heap[wr.heap.size]?=_:=(Below.heap_alloc _ _ _ hpl).trans hTZ
      exact ⟨row_cell e1 0,row_free e1 0,row_cell e2 8⟩
    have S2:Hid (W2.cell? ⟨wp,0,none⟩=some v∧W2.frozen? ⟨wp,0,none⟩=false∧W2.cell? ⟨wr.heap.size,8,none⟩=some (.slice (some ⟨c,0,none⟩) 2 c3)):=⟨row_cell hWx 0,row_free hWx 0,row_cell hTW 8⟩
    have HR:Hid ((Builtin.append_ #[168,168] 168 #[v,.slice (some ⟨Z.heap.size,0,none⟩) 1 1]).run Tryz.prog (Z.alloc (.cells #[.slice (some ⟨c,0,none⟩) 2 c3,.int .i64 0] 192)).drew=.ok (.slice (some ⟨g,0,none⟩) (fs.length+1) cap) W2):=hrun
    obtain ⟨m0,m1,m2⟩:=S0
    have n0:=fun o=>(SA.out o).1
    have n1:=fun o=>(SA.out o).2.1
    have n2:=fun o=>(SA.out o).2.2
    obtain ⟨q0,q1,q2⟩:=S2.out
    have hrun2:=HR.out
    clear hrun hWo hWb hWx hTW
    go_region_law (refine step_run hrun2 (by rfl) _ _ (by rfl) (by rfl) (by rfl) (by rfl) ?_)
    all_goals (try go_wp2_with fail)
    all_goals
      go_ret
      exact ⟨rfl,_,hDW⟩
end Go.Proofs.YtcepgedbmffkdaaGreat

/-
  What 'ask' comes to, of any term; the steps of the way: no walk of its own.
-/
namespace Go.Proofs.YtcepgedbmffkdaaGreat
open Go.RowKit
set_option linter.unusedVariables false
set_option linter.unusedSimpArgs false
theorem isVal_not {k:Int} (h:isVal k=true):¬ (k=9∨k=13):=by
  simp only [isVal,Bool.or_eq_true,beq_iff_eq] at h
  omega
theorem two_sum {l:List Tm} (h:l.length=2):1+(l.map fun t=>1+2 * cntM t).sum+1=2 * cntMS l:=by
  match l,h with
  | [x,y],_=>simp [cntMS];omega
theorem ask_any (D d:Nat) (t:Tm) (a1:Option Addr) (l1 c1:Nat) (a2:Option Addr) (l2 c2:Nat) (a3:Option Addr) (l3 c3:Nat) (bs:List Nat) (w wr:World) (wp mp:Nat) (v:Value) (fs:List Fr) (cs:List Nat) (hD:PDyn w wr wp mp v fs cs) (hS:PSt w D d fs cs)
    (hI:FldO w D (OwM w D d) t a1 l1 a2 l2 a3 l3 bs) (hnd:(bs ++ (fs.flatMap Fr.left ++ cs)).Nodup) (hbd:∀ b ∈ bs,b < w.heap.size) (hsz:fs.length≤2097153) :
    Calls Tryz.prog 99 #[.pointer (some ⟨wp,0,none⟩),.agg #[.int .i64 t.K,.int .i64 t.N,.string t.S,.string t.Z,.int .i64 t.T.K,.int .i64 t.T.N,.slice a1 l1 c1,.slice a2 l2 c2,.slice a3 l3 c3]] wr fun e w'=>(pureM t=false∧e=.returned (.bool false)∧Below w.heap.size w w')∨(e=.returned (.bool true)∧∃ v' fs' cs',PDyn w w' wp mp v' fs' cs'∧PSt w D d fs' cs'∧fs'.all Fr.ok=(pureM t && fs.all Fr.ok)∧wsum fs'≤wsum fs+2 * cntM t):=by
  have hwz:=hD.bel.size
  have hfm:Fm 0 wr.heap.size wr D d t a1 l1 a2 l2 a3 l3:=FmO.fm ⟨bs,FldO.keep (fun b hb=>hD.bel.block b (hbd b hb)) hI,(List.nodup_append.1 hnd).1,fun b hb=>⟨Nat.zero_le _,Nat.lt_of_lt_of_le (hbd b hb) hwz⟩⟩
  cases hv:isVal t.K
  · by_cases hq:(t.K=9∨t.K=13)∧l3=2
    · obtain ⟨hp,rfl⟩:=hq
      obtain ⟨p1,p2,p3,hbs,_,_,_,_,hA⟩:=hI
      cases d with
      | zero=>obtain ⟨h,_⟩:=hA;omega
      | succ d =>
        rcases hA with ⟨h,_⟩ | ⟨g,cs0,bss,ha3,hl,hm,hg,hc,hbl,hp3,hE⟩
        · omega
        · subst ha3
          subst hp3
          subst hbs
          have hgc:g ∉ cs:=fun h=>by
            have:=(List.nodup_append.1 hnd).2.2 g (by simp) g (by simp [h])
            exact this rfl
          refine (ask_pair D (d+1) t a1 l1 c1 a2 l2 c2 g c3 w wr wp mp v fs cs hD hfm hv hp hgc (fun x hx=>?_) hsz t.A bss).mono ?_
          · rcases hx with rfl | hx
            · exact ⟨_,_,hg⟩
            · exact hS.fro x hx
          rintro e w' ⟨rfl,v',hD'⟩
          have hlen:t.A.length=2:=hl.symm
          refine Or.inr ⟨rfl,v',_,_,hD',⟨?_,?_,?_,?_,?_⟩,?_,?_⟩
          · intro f hf
            rcases List.mem_append.1 hf with hf | hf
            · exact hS.ok f hf
            · simp only [List.mem_singleton] at hf
              subst hf
              refine ⟨hlen,by simp only [];omega,Nat.zero_le _,fun i hi hi'=>?_⟩
              obtain ⟨b1,m1,e1,b2,m2,e2,b3,m3,e3,h9,hfl⟩:=hE i hi hi'
              exact ⟨b1,m1,e1,b2,m2,e2,b3,m3,e3,h9,hfl.map (fun _ _ _ _ _ hr=>hr) (fun _ _ _ _ _ hr=>hr.deeper (Nat.le_succ _))⟩
          · intro f hf
            rcases List.mem_append.1 hf with hf | hf
            · exact List.mem_cons_of_mem _ (hS.cin f hf)
            · simp only [List.mem_singleton] at hf
              subst hf
              simp
          · have h1:((g :: bss.flatten) ++ (fs.flatMap Fr.left ++ cs)).Nodup:=by
              rw [List.append_assoc] at hnd
              exact (List.nodup_append.1 hnd).2.1
            refine (List.Perm.nodup_iff ?_).1 h1
            rw [List.perm_iff_count]
            intro a
            simp only [List.flatMap_append,List.flatMap_cons,List.flatMap_nil,List.append_nil,List.count_append,List.count_cons,Fr.left,List.drop_zero]
            omega
          · intro b hb
            simp only [List.flatMap_append,List.flatMap_cons,List.flatMap_nil,List.append_nil,List.mem_append,List.mem_cons,Fr.left,List.drop_zero] at hb
            rcases hb with (hb | hb) | rfl | hb
            · exact hS.bnd b (by simp only [List.mem_append];exact Or.inl hb)
            · exact hbd b (by simp only [List.mem_append,List.mem_cons];exact Or.inr (Or.inr hb))
            · exact hbd b (by simp)
            · exact hS.bnd b (by simp [hb])
          · intro b hb
            rcases List.mem_cons.1 hb with rfl | hb
            · exact ⟨_,_,hg⟩
            · exact hS.fro b hb
          · rw [pureM_eq,if_pos hp]
            simp only [List.all_append,List.all_cons,List.all_nil,Bool.and_true,Fr.ok,List.drop_zero,hlen,decide_true,Bool.true_and]
            rw [Bool.and_comm]
          · rw [wsum_append]
            have h1:=two_sum hlen
            have h2:=cntM_eq t
            have h3:wsum [(⟨g,c3,t.A,bss,0⟩:Fr)]=1+(t.A.map fun t=>1+2 * cntM t).sum:=by simp [wsum,Fr.wt]
            omega
    · refine (ask_no D d t _ _ _ _ _ _ _ _ _ wr wp hfm hv hq).mono ?_
      rintro e w' ⟨rfl,hb⟩
      refine Or.inl ⟨?_,rfl,hD.bel.trans (hb.mono hwz)⟩
      rw [pureM_eq]
      split
      · rename_i h
        have hl:=hfm.m.len.1
        have:¬ t.A.length=2:=fun e=>hq ⟨h,by omega⟩
        simp [this]
      · exact hv
  · refine (ask_val D d t _ _ _ _ _ _ _ _ _ wr wp hfm hv).mono ?_
    rintro e w' ⟨rfl,hb⟩
    refine Or.inr ⟨rfl,v,fs,cs,p_below hD hb,hS,?_,by omega⟩
    rw [pureM_eq,if_neg (isVal_not hv),hv,Bool.true_and]
theorem st_next {w:World} {D d:Nat} {init:List Fr} {f:Fr} {cs:List Nat} (h:PSt w D d (init ++ [f]) cs) (hn:f.n < 2) (hi:f.n < f.ts.length) (hi':f.n < f.bss.length) :
    PSt w D d (init ++ [f.next]) cs∧(f.bss[f.n] ++ ((init ++ [f.next]).flatMap Fr.left ++ cs)).Nodup∧(∀ b ∈ f.bss[f.n],b < w.heap.size)∧((init ++ [f]).all Fr.ok=(pureM f.ts[f.n] && (init ++ [f.next]).all Fr.ok))∧wsum (init ++ [f])=wsum (init ++ [f.next])+1+2 * cntM f.ts[f.n]:=by
  have hleft:f.left=f.bss[f.n] ++ f.next.left:=by
    unfold Fr.left Fr.next
    simp only []
    rw [List.drop_eq_getElem_cons hi',List.flatten_cons]
  have hnd:(f.bss[f.n] ++ ((init ++ [f.next]).flatMap Fr.left ++ cs)).Nodup:=by
    refine (List.Perm.nodup_iff ?_).1 h.nodup
    rw [List.perm_iff_count]
    intro a
    simp only [List.flatMap_append,List.flatMap_cons,List.flatMap_nil,List.append_nil,List.count_append,hleft]
    omega
  have hmem:∀ b,b ∈ f.bss[f.n] ++ ((init ++ [f.next]).flatMap Fr.left ++ cs)→b < w.heap.size:=by
    intro b hb
    apply h.bnd b
    simp only [List.flatMap_append,List.flatMap_cons,List.flatMap_nil,List.append_nil,List.mem_append,hleft] at hb ⊢
    rcases hb with h1 | (h1 | h1) | h1
    · exact Or.inl (Or.inr (Or.inl h1))
    · exact Or.inl (Or.inl h1)
    · exact Or.inl (Or.inr (Or.inr h1))
    · exact Or.inr h1
  have hf:=h.ok f (by simp)
  refine ⟨⟨?_,?_,(List.nodup_append.1 hnd).2.1,fun b hb=>hmem b (List.mem_append_right _ hb),h.fro⟩,hnd,fun b hb=>hmem b (List.mem_append_left _ hb),?_,?_⟩
  · intro x hx
    rcases List.mem_append.1 hx with hx | hx
    · exact h.ok x (List.mem_append_left _ hx)
    · simp only [List.mem_singleton] at hx
      subst hx
      exact ⟨hf.lt,hf.lb,hn,hf.it⟩
  · intro x hx
    rcases List.mem_append.1 hx with hx | hx
    · exact h.cin x (List.mem_append_left _ hx)
    · simp only [List.mem_singleton] at hx
      subst hx
      exact h.cin f (by simp)
  · have e:f.ok=(pureM f.ts[f.n] && f.next.ok):=by
      unfold Fr.ok Fr.next
      simp only []
      rw [List.drop_eq_getElem_cons hi,List.all_cons]
    simp only [List.all_append,List.all_cons,List.all_nil,Bool.and_true,e]
    cases init.all Fr.ok <;> cases pureM f.ts[f.n] <;> rfl
  · rw [wsum_append,wsum_append]
    have e:f.wt=f.next.wt+1+2 * cntM f.ts[f.n]:=by
      unfold Fr.wt Fr.next
      simp only []
      rw [List.drop_eq_getElem_cons hi,List.map_cons,List.sum_cons]
      omega
    simp only [wsum,List.map_cons,List.map_nil,List.sum_cons,List.sum_nil,e]
    omega
theorem st_pop {w:World} {D d:Nat} {init:List Fr} {f:Fr} {cs:List Nat} (h:PSt w D d (init ++ [f]) cs) (hn:f.n=2) :
    PSt w D d init cs∧(init ++ [f]).all Fr.ok=init.all Fr.ok∧wsum init < wsum (init ++ [f]):=by
  have hf:=h.ok f (by simp)
  have hleft:f.left=[]:=by
    unfold Fr.left
    rw [List.drop_of_length_le (by have:=hf.lb;omega)];rfl
  have hok:f.ok=true:=by
    unfold Fr.ok
    rw [List.drop_of_length_le (by have:=hf.lt;omega)];rfl
  refine ⟨⟨fun x hx=>h.ok x (List.mem_append_left _ hx),fun x hx=>h.cin x (List.mem_append_left _ hx),?_,?_,h.fro⟩,?_,?_⟩
  · have:=h.nodup
    simpa [List.flatMap_append,hleft] using this
  · intro b hb
    exact h.bnd b (by simpa [List.flatMap_append,hleft] using hb)
  · simp [hok]
  · rw [wsum_append];simp [wsum,Fr.wt];omega
end Go.Proofs.YtcepgedbmffkdaaGreat

/-
  What 'goOn' comes to.
-/
namespace Go.Proofs.YtcepgedbmffkdaaGreat
open Go.RowKit
set_option linter.unusedVariables false
set_option linter.unusedSimpArgs false
def Step (w:World) (D d wp mp:Nat) (fs:List Fr) (e:Ending) (w':World):Prop :=
  (fs.all Fr.ok=false∧e=.returned (.bool false)∧Below w.heap.size w w')∨(e=.returned (.bool true)∧∃ v' fs' cs',PDyn w w' wp mp v' fs' cs'∧PSt w D d fs' cs'∧fs'.all Fr.ok=fs.all Fr.ok∧wsum fs' < wsum fs)
theorem p_same {w wr:World} {wp mp c:Nat} {v:Value} {fs:List Fr} {cs:List Nat} (h:PDyn w wr wp mp v fs (c :: cs)) (hc:c ∈ cs):PDyn w wr wp mp v fs cs:=by
  obtain ⟨h1,h2,h3,h4,h5,h6,es,clock,hm,hk⟩:=h
  refine ⟨h1,h2,h3,h4,h5,h6,es,clock,hm,fun e he=>?_⟩
  obtain ⟨c',hc',e'⟩:=hk e he
  rcases List.mem_cons.1 hc' with rfl | hc'
  · exact ⟨_,hc,e'⟩
  · exact ⟨_,hc',e'⟩
set_option maxHeartbeats 4000000 in
theorem goOn_pop (D d:Nat) (w wr:World) (wp mp:Nat) (v:Value) (init:List Fr) (f:Fr) (cs:List Nat) (hD:PDyn w wr wp mp v (init ++ [f]) cs) (hS:PSt w D d (init ++ [f]) cs) (hn:f.n=2) (hsz:init.length≤2097153) :
    Calls Tryz.prog 100 #[.pointer (some ⟨wp,0,none⟩)] wr (Step w D d wp mp (init ++ [f])):=by
  obtain ⟨g,cap,cur,rfl,hh,hgw,hgp,hgm,hc1,hc2,hcu,hq0,hq1,hDpop,hDnext⟩:=p_top hD
  have b0:=row_cell hD.box 0
  have b1:=row_cell hD.box 1
  rw [hn] at hq1
  have e1:((init.length:Int)+1 - 1)=init.length:=by omega
  have hwl:wp < wr.heap.size:=(Array.getElem?_eq_some_iff.1 hD.box).1
  have hgl:g < wr.heap.size:=(Array.getElem?_eq_some_iff.1 hh).1
  go_enter Tryz.func100,Tryz.ntmps100
  go_wp2_with fail
  go_region
  go_wp2_with fail
  have hD1:PDyn w wr.drew wp mp (.slice (some ⟨g,0,none⟩) (init.length+1) cap) (init ++ [f]) cs:=p_below hD (Below.refl _ _).drew
  have n1:wr.drew.cell? ⟨wp,1,none⟩=some (.map (some mp)):=b1
  have n2:wr.drew.cell? ⟨g,init.length * 2,none⟩=some (.slice (some ⟨f.g,0,none⟩) 2 f.cap):=hq0
  have hwl1:wp < wr.drew.heap.size:=hwl
  have hgl1:g < wr.drew.heap.size:=hgl
  clear b0 b1 hq0 hq1 hD hDpop hDnext hh hwl hgl
  generalize wr.drew=Y1 at *
  have hcin:f.g ∈ cs:=hS.cin f (by simp)
  have hfr:∀ x,x=f.g∨x ∈ cs→∃ a t,w.heap[x]?=some (.cells a t (0,0)):=fun x hx=>by
    rcases hx with rfl | hx
    · exact hS.fro _ hcin
    · exact hS.fro x hx
  go_region_law (go_simp;go_at_call 80;refine (placeOf_any f.g f.cap _).mono ?_;rintro e w2 ⟨rfl,hb2⟩;have n1':w2.cell? ⟨wp,1,none⟩=some (.map (some mp)):=(bcell hb2 hwl1 1).trans n1;obtain ⟨Z,hup,hDZ,hZo,hZs⟩:=p_key (p_below (p_below hD1 (Below.refl _ _).drew) hb2) f.g hfr (.int .i64 2);have z0:=row_cell hDZ.box 0;have zf:=row_free hDZ.box 0;unfold keyP at *)
  all_goals (try go_wp2_with fail)
  all_goals
    go_ret
    obtain ⟨g',cap',cur',hv',_,_,_,_,_,_,_,_,_,hDp,_⟩:=p_top hDZ
    cases hv'
    obtain ⟨hS1,hok,hw⟩:=st_pop hS hn
    exact Or.inr ⟨rfl,_,init,cs,p_same hDp hcin,hS1,hok.symm,hw⟩
theorem ask_any2 (D d:Nat) (t:Tm) (a1:Option Addr) (l1 c1:Nat) (a2:Option Addr) (l2 c2:Nat) (a3:Option Addr) (l3 c3:Nat) (bs:List Nat) (w wr:World) (wp mp:Nat) (v:Value) (fs:List Fr) (cs:List Nat) (hD:PDyn w wr wp mp v fs cs) (hS:PSt w D d fs cs)
    (hI:FldO w D (OwM w D d) t a1 l1 a2 l2 a3 l3 bs) (hnd:(bs ++ (fs.flatMap Fr.left ++ cs)).Nodup) (hbd:∀ b ∈ bs,b < w.heap.size) (hsz:fs.length≤2097153) :
    Calls Tryz.prog 99 #[.pointer (some ⟨wp,0,none⟩),.agg #[.int .i64 t.K,.int .i64 t.N,.string t.S,.string t.Z,.int .i64 t.T.K,.int .i64 t.T.N,.slice a1 l1 c1,.slice a2 l2 c2,.slice a3 l3 c3]] wr fun e w'=>∃ b,e=.returned (.bool b)∧((b=false∧pureM t=false∧Below w.heap.size w w')∨(b=true∧∃ v' fs' cs',PDyn w w' wp mp v' fs' cs'∧PSt w D d fs' cs'∧fs'.all Fr.ok=(pureM t && fs.all Fr.ok)∧wsum fs'≤wsum fs+2 * cntM t)):=by
  refine (ask_any D d t a1 l1 c1 a2 l2 c2 a3 l3 c3 bs w wr wp mp v fs cs hD hS hI hnd hbd hsz).mono ?_
  rintro e w' (⟨h1,h2,h3⟩ | ⟨h1,h2⟩)
  · exact ⟨false,h2,Or.inl ⟨rfl,h1,h3⟩⟩
  · exact ⟨true,h1,Or.inr ⟨rfl,h2⟩⟩
set_option maxHeartbeats 4000000 in
theorem goOn_next (D d:Nat) (w wr:World) (wp mp:Nat) (v:Value) (init:List Fr) (f:Fr) (cs:List Nat) (hD:PDyn w wr wp mp v (init ++ [f]) cs) (hS:PSt w D d (init ++ [f]) cs) (hn:f.n < 2) (hsz:init.length+1≤2097153) :
    Calls Tryz.prog 100 #[.pointer (some ⟨wp,0,none⟩)] wr (Step w D d wp mp (init ++ [f])):=by
  obtain ⟨g,cap,cur,rfl,hh,hgw,hgp,hgm,hc1,hc2,hcu,hq0,hq1,hDpop,hDnext⟩:=p_top hD
  have b0:=row_cell hD.box 0
  have b1:=row_cell hD.box 1
  have e1:((init.length:Int)+1 - 1)=init.length:=by omega
  have e2:((f.n:Int)+1 - 1)=f.n:=by omega
  have hne:((f.n:Int) == 2)=false:=by rw [beq_eq_false_iff_ne];omega
  have hwr:IntKind.i64.wrap (f.n:Int)=(f.n:Int):=by rw [IntKind.wrap_i64];omega
  have hn0:(0:Int)≤f.n:=by omega
  have hn2:(f.n:Int) < 2:=by omega
  have hwl:wp < wr.heap.size:=(Array.getElem?_eq_some_iff.1 hD.box).1
  have hgl:g < wr.heap.size:=(Array.getElem?_eq_some_iff.1 hh).1
  have hfz:=row_free hh (init.length * 2+1)
  have hf:=hS.ok f (by simp)
  have hi:f.n < f.ts.length:=by have:=hf.lt;omega
  have hi':f.n < f.bss.length:=by have:=hf.lb;omega
  have hfg:f.g < w.heap.size:=hS.bnd _ (List.mem_append_right _ (hS.cin f (by simp)))
  obtain ⟨hS1,hnd,hbd,hok,hwt⟩:=st_next hS hn hi hi'
  obtain ⟨a1,l1,c1,a2,l2,c2,a3,l3,c3,h9,hfl⟩:=hf.it f.n hi hi'
  have hbel:=hD.bel
  obtain ⟨W,hW⟩:∃ W,W=(wr.setCell ⟨g,init.length * 2+1,none⟩ (.int .i64 ((f.n:Int)+1))).drew:=⟨_,rfl⟩
  have hDW:PDyn w W wp mp (.slice (some ⟨g,0,none⟩) (init.length+1) cap) (init ++ [f.next]) cs:=by rw [hW];exact p_below hDnext (Below.refl _ _).drew
  have hWg:W.heap[g]?=some (.cells (cur.setIfInBounds (init.length * 2+1) (.int .i64 ((f.n:Int)+1))) 192 (0,0)):=by rw [hW];exact row_set hh _ _
  have y0:W.cell? ⟨g,init.length * 2,none⟩=some (.slice (some ⟨f.g,0,none⟩) 2 f.cap):=by
    rw [row_cell hWg,Array.getElem?_setIfInBounds_ne (by omega),← row_cell hh];exact hq0
  have y1:W.cell? ⟨g,init.length * 2+1,none⟩=some (.int .i64 ((f.n:Int)+1)):=by
    rw [row_cell hWg,Array.getElem?_setIfInBounds_self_of_lt hcu]
  obtain ⟨f0,f1,f2,f3,f4,f5,f6,f7,f8⟩:=h9.world (hDW.bel.block f.g hfg)
  have HW:Hid (W=_):=hW
  clear hW hWg hDpop hDnext hh
  go_enter Tryz.func100,Tryz.ntmps100
  go_wp2_with fail
  go_region
  go_wp2_with fail
  rw [← HW.out]
  have hwo:wp < W.heap.size:=(Array.getElem?_eq_some_iff.1 hDW.box).1
  go_region_law (go_simp;go_at_call 99;refine (ask_any2 D d f.ts[f.n] a1 l1 c1 a2 l2 c2 a3 l3 c3 f.bss[f.n] w _ wp mp _ (init ++ [f.next]) cs (p_below hDW (Below.refl _ _).drew) hS1 hfl hnd hbd (by simp;omega)).mono ?_;rintro e w2 ⟨b,rfl,hpost⟩)
  all_goals
    go_wp2_with fail
    go_ret
    rcases hpost with ⟨rfl,hp,hb⟩ | ⟨rfl,v',fs',cs',hD',hS',hok',hw'⟩
    · exact Or.inl ⟨by rw [hok,hp];rfl,rfl,hb⟩
    · exact Or.inr ⟨rfl,v',fs',cs',hD',hS',by rw [hok',hok],by omega⟩
end Go.Proofs.YtcepgedbmffkdaaGreat

/-
  A least measure for a relation.
-/
namespace Go.Proofs.YtcepgedbmffkdaaGreat
open Go.RowKit
set_option linter.unusedVariables false
set_option linter.unusedSimpArgs false
theorem least_ex (R:Value→World→Nat→Prop):∃ μ:Value→World→Nat,∀ v wr n,R v wr n→μ v wr≤n∧R v wr (μ v wr):=by
  classical
  have h:∀ v wr,∃ m,∀ n,R v wr n→m≤n∧R v wr m:=by
    intro v wr
    have key:∀ n,R v wr n→∃ m,R v wr m∧∀ k,R v wr k→m≤k:=by
      intro n
      induction n using Nat.strongRecOn with
      | ind n ih =>
        intro hn
        by_cases hs:∃ k,k < n∧R v wr k
        · obtain ⟨k,hk,hR⟩:=hs
          exact ih k hk hR
        · exact ⟨n,hn,fun k hk=>by
            by_cases hlt:k < n
            · exact (hs ⟨k,hlt,hk⟩).elim
            · omega⟩
    by_cases he:∃ n,R v wr n
    · obtain ⟨n,hn⟩:=he
      obtain ⟨m,h1,h2⟩:=key n hn
      exact ⟨m,fun k hk=>⟨h2 k hk,h1⟩⟩
    · exact ⟨0,fun n hn=>(he ⟨n,hn⟩).elim⟩
  exact ⟨fun v wr=>Classical.choose (h v wr),fun v wr n hn=>Classical.choose_spec (h v wr) n hn⟩
end Go.Proofs.YtcepgedbmffkdaaGreat

/-
  What the program's 'Pure' comes to, of a term whose lists have blocks of their own.
-/
namespace Go.Proofs.YtcepgedbmffkdaaGreat
open Go.RowKit
set_option linter.unusedVariables false
set_option linter.unusedSimpArgs false
def PR (w:World) (D d wp mp:Nat) (b:Bool) (p:Value) (wr:World) (n:Nat):Prop :=
  ∃ b0,p=.bool b0∧((b0=false∧b=false∧Below w.heap.size w wr)∨(b0=true∧∃ v fs cs,PDyn w wr wp mp v fs cs∧PSt w D d fs cs∧fs.all Fr.ok=b∧wsum fs=n∧n≤2097153))
set_option maxRecDepth 100000 in
set_option maxHeartbeats 4000000 in
theorem pure_any (D d L B:Nat) (t:Tm) (a1:Option Addr) (l1 c1:Nat) (a2:Option Addr) (l2 c2:Nat) (a3:Option Addr) (l3 c3:Nat) (w:World) (hB:B≤w.heap.size) (hf:FmO L B w D d t a1 l1 a2 l2 a3 l3) (hc:cntM t≤1048576) :
    Calls Tryz.prog 75 #[.agg #[.int .i64 t.K,.int .i64 t.N,.string t.S,.string t.Z,.int .i64 t.T.K,.int .i64 t.T.N,.slice a1 l1 c1,.slice a2 l2 c2,.slice a3 l3 c3]] w fun e w'=>e=.returned (.bool (pureM t))∧Below w.heap.size w w':=by
  have hmk:∀ w:World,(Instr.makeMap 167 none).run Tryz.prog w=.ok (.map (some w.heap.size)) (w.alloc (.map #[] 0)):=fun w=>rfl
  obtain ⟨bs,hI,hnd,hbd⟩:=hf
  obtain ⟨b,hb0⟩:∃ b,pureM t=b:=⟨_,rfl⟩
  rw [hb0]
  obtain ⟨X,hX⟩:∃ X,X=((w.alloc (.cells #[.int .i64 t.K,.int .i64 t.N,.string t.S,.string t.Z,.int .i64 t.T.K,.int .i64 t.T.N,.slice a1 l1 c1,.slice a2 l2 c2,.slice a3 l3 c3] 34)).alloc (.map #[] 0)).alloc (.cells #[.slice none 0 0,.map (some (w.heap.size+1))] 170):=⟨_,rfl⟩
  have hXb:Below w.heap.size w X:=by rw [hX];exact (((Below.refl _ _).alloc (Nat.le_refl _) _).alloc (by simp) _).alloc (by simp;omega) _
  have hXt:X.heap[w.heap.size]?=some (.cells #[.int .i64 t.K,.int .i64 t.N,.string t.S,.string t.Z,.int .i64 t.T.K,.int .i64 t.T.N,.slice a1 l1 c1,.slice a2 l2 c2,.slice a3 l3 c3] 34 (0,0)):=by
    rw [hX,Below.heap_alloc _ _ _ (by simp;omega),Below.heap_alloc _ _ _ (by simp)];exact heap_new rfl
  have hXm:X.heap[w.heap.size+1]?=some (.map #[] 0):=by rw [hX,Below.heap_alloc _ _ _ (by simp)];exact heap_new (by simp)
  have hXw:X.heap[w.heap.size+1+1]?=some (.cells #[.slice none 0 0,.map (some (w.heap.size+1))] 170 (0,0)):=by rw [hX];exact heap_new (by simp)
  have hD0:PDyn w X (w.heap.size+1+1) (w.heap.size+1) (.slice none 0 0) [] []:=⟨hXb,by omega,by omega,hXw,⟨rfl,Or.inl ⟨rfl,rfl⟩⟩,fun x hx=>by simp [Value.ownBlock] at hx,⟨#[],0,hXm,fun e he=>by simp at he⟩⟩
  have hS0:PSt w D d [] []:=⟨by simp,by simp,by simp,by simp,by simp⟩
  obtain ⟨f0,f1,f2,f3,f4,f5,f6,f7,f8⟩:=Nine.box hXt
  obtain ⟨μ,hμ⟩:=least_ex (PR w D d (w.heap.size+1+1) (w.heap.size+1) b)
  have HM:Hid (∀ v wr n,_):=hμ
  have HX:Hid (X=_):=hX
  have HC:Hid (cntM t≤1048576):=hc
  clear hμ hX hXt hXm hXw hc
  go_enter Tryz.func75,Tryz.ntmps75
  go_wp2_with fail
  rw [← HX.out]
  refine (ask_any2 D d t a1 l1 c1 a2 l2 c2 a3 l3 c3 bs w X _ _ _ [] [] hD0 hS0 hI (by simpa using hnd) (fun b hb=>Nat.lt_of_lt_of_le (hbd b hb).2 hB) (by simp)).mono ?_
  rintro e w1 ⟨b1,rfl,hpost⟩
  have hStart:∃ n,PR w D d (w.heap.size+1+1) (w.heap.size+1) b (.bool b1) w1 n:=by
    rcases hpost with ⟨rfl,hp,hb⟩ | ⟨rfl,v',fs',cs',hD',hS',hok',hw'⟩
    · exact ⟨0,false,rfl,Or.inl ⟨rfl,hb0.symm.trans hp,hb⟩⟩
    · exact ⟨_,true,rfl,Or.inr ⟨rfl,v',fs',cs',hD',hS',by simpa [hb0] using hok',rfl,by have:=HC.out;have h0:wsum ([]:List Fr)=0:=rfl;omega⟩⟩
  clear hpost f0 f1 f2 f3 f4 f5 f6 f7 f8 hD0 hS0 hI hnd hbd
  generalize w.heap.size+1+1=wp at *
  generalize w.heap.size+1=mp at *
  go_wp2_with fail
  go_loopw [4] (fun u wr=>∃ n,PR w D d wp mp b u wr n) (fun u wr=>μ u wr)
  case atStart=>exact hStart
  case round =>
    obtain ⟨n0,hR0⟩:=hrel
    obtain ⟨_,b0,rfl,hR⟩:=HM.out _ _ _ hR0
    clear hStart hR0
    rcases hR with ⟨rfl,rfl,hb⟩ | ⟨rfl,v,fs,cs,hD,hS,hok,hsum,hbd⟩
    · go_wp2_with fail
      go_ret
      exact ⟨rfl,hb⟩
    · have y0:=row_cell hD.box 0
      rcases (by simpa [List.concat_eq_append] using List.eq_nil_or_concat fs:fs=[]∨∃ init it,fs=init ++ [it]) with rfl | ⟨init,f,rfl⟩
      · have hv:∃ ao cap,v=.slice ao 0 cap:=by
          rcases hD.row.2 with ⟨e,_⟩ | ⟨g,cap,cur,e,_⟩
          · exact ⟨none,0,e⟩
          · exact ⟨_,cap,e⟩
        obtain ⟨ao,cap,rfl⟩:=hv
        have hbt:b=true:=by rw [← hok];rfl
        subst hbt
        go_wp2_with fail
        go_ret
        exact ⟨rfl,hD.bel⟩
      · obtain ⟨g,cap,cur,rfl,_⟩:=p_top hD
        have hg0:(0:Int) < (init.length:Int)+1:=by omega
        have hlen:=wsum_len (init ++ [f])
        simp only [List.length_append,List.length_singleton] at hlen
        have hcall:Calls Tryz.prog 100 #[.pointer (some ⟨wp,0,none⟩)] wr (fun e w'=>∃ b2,e=.returned (.bool b2)∧∃ n,PR w D d wp mp b (.bool b2) w' n∧n < wsum (init ++ [f])):=by
          have hfn:=(hS.ok f (by simp)).n
          have hstep:Calls Tryz.prog 100 #[.pointer (some ⟨wp,0,none⟩)] wr (Step w D d wp mp (init ++ [f])):=by
            by_cases h2:f.n=2
            · exact goOn_pop D d w wr wp mp _ init f cs hD hS h2 (by omega)
            · exact goOn_next D d w wr wp mp _ init f cs hD hS (by omega) (by omega)
          refine hstep.mono ?_
          rintro e w' (⟨h1,h2,h3⟩ | ⟨h1,v',fs',cs',h2,h3,h4,h5⟩)
          · exact ⟨false,h2,0,⟨false,rfl,Or.inl ⟨rfl,by rw [← hok];exact h1,h3⟩⟩,by omega⟩
          · exact ⟨true,h1,wsum fs',⟨true,rfl,Or.inr ⟨rfl,v',fs',cs',h2,h3,by rw [h4,hok],rfl,by omega⟩⟩,h5⟩
        have HS:Hid (wsum (init ++ [f])=_):=hsum
        clear hD hS hok hsum hbd hlen
        go_wp2_with fail
        refine hcall.mono ?_
        rintro e w2 ⟨b2,rfl,n2,hR2,hlt⟩
        go_wp2_with fail
        go_roundw
        case rel=>exact ⟨n2,hR2⟩
        case measure =>
          have h1:=(HM.out _ _ _ hR2).1
          have h2:=HS.out
          omega
end Go.Proofs.YtcepgedbmffkdaaGreat
