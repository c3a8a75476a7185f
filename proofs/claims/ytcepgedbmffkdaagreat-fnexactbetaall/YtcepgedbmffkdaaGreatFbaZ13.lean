/-
  What the program's 'mapTys' comes to: a new row, each element what the function that was handed in makes of the old one; and 'copyTy'.
-/
import Derived.Test.YtcepgedbmffkdaaGreatFbaZ1
import Derived.Deep.RegionHeld3
import Derived.Deep.RegionWith
import Derived.Deep.RegionLaw
import Derived.Test.YtcepgedbmffkdaaGreatFbaZ3
import Derived.Test.YtcepgedbmffkdaaGreatFbaFr1
import Derived.Deep.Cut
import Derived.Deep.CutRange
namespace Go.Proofs.YtcepgedbmffkdaaGreat
open Go.RowKit
set_option linter.unusedVariables false
set_option linter.unusedSimpArgs false
theorem Tryz.infoTy3:(Tryz.prog.info? 31).map (fun i=>(i.zero,i.size,i.bytes))=some (some (.agg #[.int .i64 0,.int .i64 0,.slice none 0 0]),3,40):=by kernel_rfl
theorem make_ty (len:Nat) (hl:len≤1048576):∃ C:Array Value,C.size=len * 3∧∀ w:World,(Instr.makeSlice 29 (.int .i64 (len:Int)) (.int .i64 (len:Int))).run Tryz.prog w=.ok (.slice (some ⟨w.heap.size,0,none⟩) len len) (w.alloc (.cells C 31)):=by
  obtain ⟨i0,hi,hz0,hz1,hz2⟩:=info_parts Tryz.infoTy3
  refine ⟨madeCells (Value.cells (.agg #[.int .i64 0,.int .i64 0,.slice none 0 0])) (len * 3),size_madeCells _ _,fun w=>?_⟩
  have:=run_make (P:=Tryz.prog) (w:=w) 29 31 i0 _ Tryz.underlying29 hi hz0 .i64 .i64 (len:Int) (len:Int) (by omega) (by omega) (by rw [hz2];omega) (by omega)
  rw [hz1] at this
  simpa using this
theorem Hs.up {L B:Nat} {w:World} {d:Nat} {ao:Option Addr} {len:Nat} {ts:List Tr} (h:Hs L B w 0 ao len ts):Hs L B w (d+1) ao len ts:=by
  obtain ⟨rfl,rfl⟩:=h
  exact ⟨rfl,by omega,fun i hi=>by simp at hi⟩
theorem OwR.len0 {L B:Nat} {w:World} {d:Nat} {ao:Option Addr} {len:Nat} (h:OwR L B w d ao len []):len=0:=by
  obtain ⟨bs,h1,_⟩:=h
  cases d with
  | zero=>exact h1.1
  | succ d =>
    rcases h1 with h1 | ⟨_,_,_,_,hl,_⟩
    · exact h1.1
    · simpa using hl
end Go.Proofs.YtcepgedbmffkdaaGreat

/-
  What the model's 'l1Copy' comes to: the same tree in new memory.
-/
namespace Go.Proofs.YtcepgedbmffkdaaGreat
open Go.RowKit
set_option linter.unusedVariables false
set_option linter.unusedSimpArgs false
theorem ap_run {base:Nat} {wr w1:World} {d:Nat} {v:Value} {k:Nat} {ts:List Tr} (h:ApRel base wr d v k ts) (hk:k < ts.length) (hk2:ts.length≤1048576) (hb:Below wr.heap.size wr w1) (hbase:base≤wr.heap.size) {ao1:Option Addr} {len1 cap1:Nat}
    (ho:OwR wr.heap.size w1.heap.size w1 d ao1 len1 ts[k].A) :
    ∃ g cap w2,(Builtin.append_ #[29,29] 29 #[v,.slice (some ⟨w1.heap.size,0,none⟩) 1 1]).run Tryz.prog (w1.alloc (.cells #[.int .i64 ts[k].K,.int .i64 ts[k].N,.slice ao1 len1 cap1] 31))=.ok (.slice (some ⟨g,0,none⟩) (k+1) cap) w2 ∧
      ApRel base w2 d (.slice (some ⟨g,0,none⟩) (k+1) cap) (k+1) ts∧Below base wr w2:=by
  obtain ⟨i0,hi,hz0,hz1,hz2⟩:=info_parts Tryz.infoTy3
  have hX:Below wr.heap.size wr (w1.alloc (.cells #[.int .i64 ts[k].K,.int .i64 ts[k].N,.slice ao1 len1 cap1] 31)):=hb.alloc hb.size _
  have h1:=ap_below h hX
  obtain ⟨xs,hown,_⟩:=h1.own
  obtain ⟨xs0,hown0,_⟩:=h.own
  have hsz:=hb.size
  obtain ⟨g,cap,w2,hrun,hown2,hgrow,hat,hlt⟩:=run_append_lies (P:=Tryz.prog) (w1.alloc (.cells #[.int .i64 ts[k].K,.int .i64 ts[k].N,.slice ao1 len1 cap1] 31)) 29 29 base 31 i0 _ 3 40 Tryz.underlying29 hi hz0 hz1 hz2 rfl (by omega) v k xs hown
    ⟨w1.heap.size,0,none⟩ 1 1 [.int .i64 ts[k].K,.int .i64 ts[k].N,.slice ao1 len1 cap1] rfl (World.news_of_block (cs:=#[.int .i64 ts[k].K,.int .i64 ts[k].N,.slice ao1 len1 cap1]) (t:=31) (fr:=(0,0)) (heap_alloc_new w1 _)) (by simp [Value.oneCell'])
    (by omega) (by unfold maxLen;omega) (by omega) (by simp;omega) _ rfl
  refine ⟨g,cap,w2,hrun,?_,?_⟩
  · have hxx:xs=xs0:=by
      rcases hown.2 with ⟨hv,hn⟩ | ⟨g1,cap1',cur1,hv,_,hh,_,_,_,ht⟩
      · have q1:=hown.1
        have q2:=hown0.1
        rw [hn] at q1 q2
        simp at q1 q2
        rw [q1,q2]
      · rcases hown0.2 with ⟨hv2,_⟩ | ⟨g2,cap2,cur2,hv2,_,hh2,_,_,_,ht2⟩
        · rw [hv] at hv2;cases hv2
        · rw [hv] at hv2
          cases hv2
          rw [hX.block g1 (Array.getElem?_eq_some_iff.1 hh2).1,hh2] at hh
          cases hh
          rw [← ht,← ht2]
    subst hxx
    exact ap_next h hk hX hbase (ho.keep (fun q _ hq=>Below.heap_alloc _ _ _ hq) (Nat.le_refl _) (by simp)) hown0 hown2 hgrow hat
  · exact (hX.mono hbase).grown hgrow (by simp;omega) (fun q hq=>(ap_block h1 hq).1)
end Go.Proofs.YtcepgedbmffkdaaGreat

/-
  Rows that are appended to, where what lies between was made by calls that write into older blocks too (a cursor).
-/
namespace Go.Proofs.YtcepgedbmffkdaaGreat
open Go.RowKit
set_option linter.unusedVariables false
set_option linter.unusedSimpArgs false
structure Sm (base:Nat) (w w':World):Prop where
  size:w.heap.size≤w'.heap.size
  block:∀ k,base≤k→k < w.heap.size→w'.heap[k]?=w.heap[k]?
theorem Sm.alloc {base:Nat} {w w':World} (h:Sm base w w') (o:Obj):Sm base w (w'.alloc o) :=
  ⟨Nat.le_trans h.size (by simp),fun k hk hk'=>(Below.heap_alloc _ _ _ (Nat.lt_of_lt_of_le hk' h.size)).trans (h.block k hk hk')⟩
theorem Sm.grown {base p:Nat} {w w':World} (h:w.grownBy w' (some p)) (hp:p < base):Sm base w w':=⟨h.size,fun k hk hk'=>h.block k hk' (by simp;omega)⟩
theorem Sm.drew {base:Nat} {w w':World} (h:Sm base w.drew w'):Sm base w w':=⟨h.size,h.block⟩
end Go.Proofs.YtcepgedbmffkdaaGreat

/-
  A term's parts, as the generic functions ask for them.
-/
namespace Go.Proofs.YtcepgedbmffkdaaGreat
open Go.RowKit
set_option linter.unusedVariables false
set_option linter.unusedSimpArgs false
set_option maxRecDepth 100000 in
set_option maxHeartbeats 1000000 in
theorem within_any (t:Tm) (a1:Option Addr) (l1 c1:Nat) (a2:Option Addr) (l2 c2:Nat) (a3:Option Addr) (l3 c3:Nat) (w:World) :
    Calls Tryz.prog 156 #[.agg #[.int .i64 t.K,.int .i64 t.N,.string t.S,.string t.Z,.int .i64 t.T.K,.int .i64 t.T.N,.slice a1 l1 c1,.slice a2 l2 c2,.slice a3 l3 c3]] w fun e w'=>e=.returned (.slice a3 l3 c3)∧Below w.heap.size w w':=by
  go_enter Tryz.func156,Tryz.ntmps156
  go_wp2_with fail
  go_ret
  exact ⟨rfl,(Below.refl _ _).alloc (Nat.le_refl _) _⟩
theorem mt_within (x : Value) (W : World) : Sem.run Tryz.prog (method 330 34 x "loop.example/g00187/impl.within") W = .ok (156, x) W := by kernel_rfl
end Go.Proofs.YtcepgedbmffkdaaGreat

/-
  What the program's 'rebuiltBehind' comes to where it makes forms; 'formOf'.
-/
namespace Go.Proofs.YtcepgedbmffkdaaGreat
open Go.RowKit
set_option linter.unusedVariables false
set_option linter.unusedSimpArgs false
theorem Tryz.infoForm:(Tryz.prog.info? 52).map (fun i=>(i.zero,i.size,i.bytes))=some (some .nilIface,1,16):=by kernel_rfl
def Frw (base:Nat) (w:World) (v:Value) (P:List Value):Prop:=w.ownsRow base 52 1 v P.length P
theorem frw_own {base:Nat} {w:World} {v:Value} {P:List Value} (h:Frw base w v P) {g:Nat} (hg:v.ownBlock=some g):base≤g∧g < w.heap.size:=by
  rcases h.2 with ⟨rfl,_⟩ | ⟨g',cap,cur,rfl,hb',hh,_⟩
  · cases hg
  · have e:g'=g:=by simpa [Value.ownBlock] using hg
    subst e
    exact ⟨hb',(Array.getElem?_eq_some_iff.1 hh).1⟩
theorem frw_keep {base:Nat} {w w':World} {v:Value} {P:List Value} (h:Frw base w v P) (hk:∀ g,base≤g→g < w.heap.size→w'.heap[g]?=w.heap[g]?):Frw base w' v P:=by
  have ho:=fun g hg=>frw_own h (g:=g) hg
  refine ⟨h.1,?_⟩
  rcases h.2 with hn | ⟨g,cap,cur,rfl,hg,hh,r⟩
  · exact Or.inl hn
  · exact Or.inr ⟨g,cap,cur,rfl,hg,(hk g (ho g rfl).1 (ho g rfl).2).trans hh,r⟩
theorem frw_form {base:Nat} {w:World} {v:Value} {P:List Value} (h:Frw base w v P):∃ ao cap,v=.slice ao P.length cap:=by
  rcases h.2 with ⟨rfl,hn⟩ | ⟨g,cap,cur,rfl,_⟩
  · exact ⟨none,0,by rw [hn]⟩
  · exact ⟨_,cap,rfl⟩
theorem frw_push {base:Nat} {wr:World} {v:Value} {P:List Value} (h:Frw base wr v P) (hb:base≤wr.heap.size) (hl:P.length≤1000) (τ:TypeId) (u:Value) :
    ∃ g cap w2,(Builtin.append_ #[68,68] 68 #[v,.slice (some ⟨wr.heap.size,0,none⟩) 1 1]).run Tryz.prog (wr.alloc (.cells #[.iface τ u] 52))=.ok (.slice (some ⟨g,0,none⟩) (P.length+1) cap) w2 ∧
      Frw base w2 (.slice (some ⟨g,0,none⟩) (P.length+1) cap) (P ++ [.iface τ u])∧Below base wr w2:=by
  obtain ⟨i0,hi,hz0,hz1,hz2⟩:=info_parts Tryz.infoForm
  have hA:Below wr.heap.size wr (wr.alloc (.cells #[.iface τ u] 52)):=(Below.refl _ _).alloc (Nat.le_refl _) _
  have h1:Frw base (wr.alloc (.cells #[.iface τ u] 52)) v P:=frw_keep h fun g _ hg=>hA.block g hg
  obtain ⟨g,cap,w2,hrun,hown2,hgrow,hat,hlt⟩:=run_append_lies (P:=Tryz.prog) (wr.alloc (.cells #[.iface τ u] 52)) 68 68 base 52 i0 _ 1 16 Tryz.underlying68 hi hz0 hz1 hz2 rfl (by omega) v P.length _ h1
    ⟨wr.heap.size,0,none⟩ 1 1 [.iface τ u] rfl (World.news_of_block (cs:=#[.iface τ u]) (t:=52) (fr:=(0,0)) (heap_alloc_new wr _)) (by simp [Value.oneCell'])
    (by omega) (by unfold maxLen;omega) (by omega) (by simp;omega) _ rfl
  have hvb:∀ g,v.ownBlock=some g→base≤g:=fun g hg=>(frw_own h hg).1
  have hsz:=hgrow.size
  simp only [World.size_alloc] at hsz
  refine ⟨g,cap,w2,hrun,?_,⟨hgrow.os,hgrow.tape,hgrow.output,by omega,fun q hq=>?_⟩⟩
  · unfold Frw
    simpa using hown2
  · exact (hgrow.block q (by simp;omega) (fun e=>by have:=hvb q e.symm;omega)).trans (hA.block q (by omega))
theorem frw_prt {base:Nat} {w:World} {v:Value} {P:List Value} (h:Frw base w v P) (q:Nat→Value) (hq:∀ i (hi:i < P.length),P[i]=q i):∃ ao cap,v=.slice ao P.length cap∧Prt w ao P.length q:=by
  rcases h.2 with ⟨rfl,hn⟩ | ⟨g,cap,cur,rfl,hg,hh,h1,h2,h3,h4⟩
  · exact ⟨none,0,by rw [hn],fun i hi=>by omega⟩
  · refine ⟨_,cap,rfl,fun i hi=>⟨g,0,rfl,(Array.getElem?_eq_some_iff.1 hh).1,?_⟩⟩
    have e:P[i]?=some (q i):=by rw [List.getElem?_eq_getElem hi,hq i hi]
    rw [← h4,List.getElem?_take,if_pos (by omega)] at e
    rw [Nat.zero_add,row_cell hh,← Array.getElem?_toList,e]
theorem made_any (nd:Int) (t:Tm) (a1:Option Addr) (l1 c1:Nat) (a2:Option Addr) (l2 c2:Nat) (a3:Option Addr) (l3 c3:Nat) (ap:Option Addr) (n cp:Nat) (τ:Nat→TypeId) (u:Nat→Value) (w:World) (hk1:1≤t.K) (hk2:t.K≤17) (hn:(n:Int)=shP t.K) (hq:Prt w ap n fun i=>.iface (τ i) (u i)) :
    Calls Tryz.prog 52 #[.int .i64 nd,.agg #[.int .i64 t.K,.int .i64 t.N,.string t.S,.string t.Z,.int .i64 t.T.K,.int .i64 t.T.N,.slice a1 l1 c1,.slice a2 l2 c2,.slice a3 l3 c3],.slice ap n cp] w fun e w'=>e=.returned (fval nd t.K t.N t.S t.Z t.T.K t.T.N (.slice a1 l1 c1) (.slice a2 l2 c2) (.iface (τ 0) (u 0)) (.iface (τ 1) (u 1)) (.iface (τ 2) (u 2)))∧Below w.heap.size w w':=by
  have hks:t.K=1∨t.K=2∨t.K=3∨t.K=4∨t.K=5∨t.K=6∨t.K=7∨t.K=8∨t.K=9∨t.K=10∨t.K=11∨t.K=12∨t.K=13∨t.K=14∨t.K=15∨t.K=16∨t.K=17:=by omega
  rcases hks with e | e | e | e | e | e | e | e | e | e | e | e | e | e | e | e | e
  · have en:n=0:=by rw [e] at hn;have:shP 1=0:=rfl;omega
    subst en
    refine (made_1 nd t a1 l1 c1 a2 l2 c2 a3 l3 c3 ap cp τ u w e hq).mono ?_
    rintro x w' ⟨rfl,hb⟩
    refine ⟨?_,hb⟩
    rw [e]
    rfl
  · have en:n=0:=by rw [e] at hn;have:shP 2=0:=rfl;omega
    subst en
    refine (made_2 nd t a1 l1 c1 a2 l2 c2 a3 l3 c3 ap cp τ u w e hq).mono ?_
    rintro x w' ⟨rfl,hb⟩
    refine ⟨?_,hb⟩
    rw [e]
    rfl
  · have en:n=0:=by rw [e] at hn;have:shP 3=0:=rfl;omega
    subst en
    refine (made_3 nd t a1 l1 c1 a2 l2 c2 a3 l3 c3 ap cp τ u w e hq).mono ?_
    rintro x w' ⟨rfl,hb⟩
    refine ⟨?_,hb⟩
    rw [e]
    rfl
  · have en:n=1:=by rw [e] at hn;have:shP 4=1:=rfl;omega
    subst en
    refine (made_4 nd t a1 l1 c1 a2 l2 c2 a3 l3 c3 ap cp τ u w e hq).mono ?_
    rintro x w' ⟨rfl,hb⟩
    refine ⟨?_,hb⟩
    rw [e]
    rfl
  · have en:n=2:=by rw [e] at hn;have:shP 5=2:=rfl;omega
    subst en
    refine (made_5 nd t a1 l1 c1 a2 l2 c2 a3 l3 c3 ap cp τ u w e hq).mono ?_
    rintro x w' ⟨rfl,hb⟩
    refine ⟨?_,hb⟩
    rw [e]
    rfl
  · have en:n=2:=by rw [e] at hn;have:shP 6=2:=rfl;omega
    subst en
    refine (made_6 nd t a1 l1 c1 a2 l2 c2 a3 l3 c3 ap cp τ u w e hq).mono ?_
    rintro x w' ⟨rfl,hb⟩
    refine ⟨?_,hb⟩
    rw [e]
    rfl
  · have en:n=2:=by rw [e] at hn;have:shP 7=2:=rfl;omega
    subst en
    refine (made_7 nd t a1 l1 c1 a2 l2 c2 a3 l3 c3 ap cp τ u w e hq).mono ?_
    rintro x w' ⟨rfl,hb⟩
    refine ⟨?_,hb⟩
    rw [e]
    rfl
  · have en:n=3:=by rw [e] at hn;have:shP 8=3:=rfl;omega
    subst en
    refine (made_8 nd t a1 l1 c1 a2 l2 c2 a3 l3 c3 ap cp τ u w e hq).mono ?_
    rintro x w' ⟨rfl,hb⟩
    refine ⟨?_,hb⟩
    rw [e]
    rfl
  · have en:n=2:=by rw [e] at hn;have:shP 9=2:=rfl;omega
    subst en
    refine (made_9 nd t a1 l1 c1 a2 l2 c2 a3 l3 c3 ap cp τ u w e hq).mono ?_
    rintro x w' ⟨rfl,hb⟩
    refine ⟨?_,hb⟩
    rw [e]
    rfl
  · have en:n=1:=by rw [e] at hn;have:shP 10=1:=rfl;omega
    subst en
    refine (made_10 nd t a1 l1 c1 a2 l2 c2 a3 l3 c3 ap cp τ u w e hq).mono ?_
    rintro x w' ⟨rfl,hb⟩
    refine ⟨?_,hb⟩
    rw [e]
    rfl
  · have en:n=1:=by rw [e] at hn;have:shP 11=1:=rfl;omega
    subst en
    refine (made_11 nd t a1 l1 c1 a2 l2 c2 a3 l3 c3 ap cp τ u w e hq).mono ?_
    rintro x w' ⟨rfl,hb⟩
    refine ⟨?_,hb⟩
    rw [e]
    rfl
  · have en:n=0:=by rw [e] at hn;have:shP 12=0:=rfl;omega
    subst en
    refine (made_12 nd t a1 l1 c1 a2 l2 c2 a3 l3 c3 ap cp τ u w e hq).mono ?_
    rintro x w' ⟨rfl,hb⟩
    refine ⟨?_,hb⟩
    rw [e]
    rfl
  · have en:n=2:=by rw [e] at hn;have:shP 13=2:=rfl;omega
    subst en
    refine (made_13 nd t a1 l1 c1 a2 l2 c2 a3 l3 c3 ap cp τ u w e hq).mono ?_
    rintro x w' ⟨rfl,hb⟩
    refine ⟨?_,hb⟩
    rw [e]
    rfl
  · have en:n=3:=by rw [e] at hn;have:shP 14=3:=rfl;omega
    subst en
    refine (made_14 nd t a1 l1 c1 a2 l2 c2 a3 l3 c3 ap cp τ u w e hq).mono ?_
    rintro x w' ⟨rfl,hb⟩
    refine ⟨?_,hb⟩
    rw [e]
    rfl
  · have en:n=2:=by rw [e] at hn;have:shP 15=2:=rfl;omega
    subst en
    refine (made_15 nd t a1 l1 c1 a2 l2 c2 a3 l3 c3 ap cp τ u w e hq).mono ?_
    rintro x w' ⟨rfl,hb⟩
    refine ⟨?_,hb⟩
    rw [e]
    rfl
  · have en:n=1:=by rw [e] at hn;have:shP 16=1:=rfl;omega
    subst en
    refine (made_16 nd t a1 l1 c1 a2 l2 c2 a3 l3 c3 ap cp τ u w e hq).mono ?_
    rintro x w' ⟨rfl,hb⟩
    refine ⟨?_,hb⟩
    rw [e]
    rfl
  · have en:n=2:=by rw [e] at hn;have:shP 17=2:=rfl;omega
    subst en
    refine (made_17 nd t a1 l1 c1 a2 l2 c2 a3 l3 c3 ap cp τ u w e hq).mono ?_
    rintro x w' ⟨rfl,hb⟩
    refine ⟨?_,hb⟩
    rw [e]
    rfl
end Go.Proofs.YtcepgedbmffkdaaGreat

/-
  What the program's 'rebuiltBehind' comes to where it makes forms, by recursion; 'formOf'.
-/
namespace Go.Proofs.YtcepgedbmffkdaaGreat
open Go.RowKit
set_option linter.unusedVariables false
set_option linter.unusedSimpArgs false
abbrev mdF:Value:=.func (.func 52) #[] #[]
def SaidRb (l:Nat):Prop:=∀ (D d L B:Nat) (t:Tm) (a1:Option Addr) (l1 c1:Nat) (a2:Option Addr) (l2 c2:Nat) (a3:Option Addr) (l3 c3:Nat) (m:Nat) (w:World),B≤w.heap.size→Fm L B w D d t a1 l1 a2 l2 a3 l3→nodesM l t=some m →
    ∃ V:Int→Value,(∀ c,Fv L B w D l t (V c))∧∀ p w' c,B≤p→Nx p w w' c→0≤c→c+m≤1000000→Calls Tryz.prog 78 #[.agg #[.int .i64 t.K,.int .i64 t.N,.string t.S,.string t.Z,.int .i64 t.T.K,.int .i64 t.T.N,.slice a1 l1 c1,.slice a2 l2 c2,.slice a3 l3 c3],.pointer (some ⟨p,0,none⟩),mdF] w' fun e w''=>e=.returned (V c)∧Nx p w' w'' (c+m)
theorem nodesG_sums {f:Tm→Option Nat}:∀ (A:List Tm) (b:Nat),nodesG f A=some b→∃ O:Nat→Nat,O 0=0∧O A.length=b∧∀ i (h:i < A.length),∃ k,f A[i]=some k∧O (i+1)=O i+k
  | [],b,h=>⟨fun _=>0,rfl,by simp [nodesG] at h;exact h,fun i hi=>by simp at hi⟩
  | y :: A,b,h=>by
    simp only [nodesG] at h
    cases hy:f y with
    | none=>simp [hy] at h
    | some a =>
      cases hz:nodesG f A with
      | none=>simp [hy,hz] at h
      | some c =>
        simp [hy,hz] at h
        obtain ⟨O,h0,h1,h2⟩:=nodesG_sums A c hz
        refine ⟨fun i=>match i with | 0=>0 | i+1=>a+O i,rfl,?_,fun i hi=>?_⟩
        · show a+O A.length=b
          omega
        · cases i with
          | zero=>exact ⟨a,hy,by show a+O 0=0+a;omega⟩
          | succ i =>
            obtain ⟨k,k1,k2⟩:=h2 i (by simpa using hi)
            exact ⟨k,by simpa using k1,by show a+O (i+1)=a+O i+k;omega⟩
theorem Nx.onB {p:Nat} {w w3 w4:World} {c:Int} {base:Nat} (h:Nx p w w3 c) (hb:Below base w3 w4) (hw:w.heap.size≤base) (hp:p < base):Nx p w w4 c :=
  ⟨⟨hb.os.trans h.kf.os,hb.tape.trans h.kf.tape,hb.output.trans h.kf.output,Nat.le_trans h.kf.size hb.size,fun k hk hF=>(hb.block k (by omega)).trans (h.kf.block k hk hF),h.kf.own⟩,(hb.block p hp).trans h.is⟩
theorem Nx.bel {p:Nat} {w w3 w4:World} {c:Int} (h:Nx p w w3 c) (hb:Below w3.heap.size w3 w4):Nx p w w4 c :=
  ⟨h.kf.trans (Kf.of_below hb),(hb.block p h.lt).trans h.is⟩
structure RbL (p:Nat) (w' wr:World) (c:Int) (O:Nat→Nat) (Q:Nat→Int→Value) (cs:Array Value) (v:Value) (j:Nat):Prop where
  nx:Nx p w' wr (c+1+O j)
  box:wr.heap[w'.heap.size]?=some (.cells cs 34 (0,0))
  row:Frw (w'.heap.size+1) wr v ((List.range j).map fun i=>Q i (c+1+O i))
  sz:w'.heap.size+1≤wr.heap.size
theorem rb_next {p:Nat} {w' wr wa w3:World} {c:Int} {O:Nat→Nat} {Q:Nat→Int→Value} {cs:Array Value} {v:Value} {j k:Nat} (h:RbL p w' wr c O Q cs v j) (hp:p < w'.heap.size) (hj:j≤3) (hba:Below wr.heap.size wr wa) (h3:Nx p wa w3 (c+1+O j+k)) (hO:O (j+1)=O j+k) {τ:TypeId} {u:Value} (hq:Q j (c+1+O j)=.iface τ u) :
    ∃ g cp w4,(Builtin.append_ #[68,68] 68 #[v,.slice (some ⟨w3.heap.size,0,none⟩) 1 1]).run Tryz.prog (w3.alloc (.cells #[.iface τ u] 52))=.ok (.slice (some ⟨g,0,none⟩) (j+1) cp) w4∧RbL p w' w4 c O Q cs (.slice (some ⟨g,0,none⟩) (j+1) cp) (j+1):=by
  have hsz:=h.sz
  have hza:=hba.size
  have hz3:=h3.kf.size
  have hk3:∀ g,g≠p→g < wr.heap.size→w3.heap[g]?=wr.heap[g]?:=fun g hne hg=>(h3.kf.block g (by omega) hne).trans (hba.block g hg)
  have hrow:Frw (w'.heap.size+1) w3 v ((List.range j).map fun i=>Q i (c+1+O i)):=frw_keep h.row fun g hg hg2=>hk3 g (by omega) hg2
  obtain ⟨g,cp,w4,hrun,hr4,hb4⟩:=frw_push hrow (by omega) (by simp;omega) τ u
  simp only [List.length_map,List.length_range] at hrun hr4
  have hN3:Nx p w' w3 (c+1+O j+k):=(h.nx.bel hba).trans h3
  refine ⟨g,cp,w4,hrun,⟨?_,?_,?_,by have:=hb4.size;omega⟩⟩
  · rw [show c+1+((O (j+1):Nat):Int)=c+1+O j+k by omega]
    exact hN3.onB hb4 (by omega) (by omega)
  · rw [hb4.block _ (by omega),hk3 _ (by omega) (by omega)]
    exact h.box
  · rw [List.range_succ,List.map_append,List.map_cons,List.map_nil,hq]
    exact hr4
theorem rb_form {p:Nat} {w' wr:World} {c:Int} {O:Nat→Nat} {Q:Nat→Int→Value} {cs:Array Value} {v:Value} {j:Nat} (h:RbL p w' wr c O Q cs v j):∃ ao cap,v=.slice ao j cap:=by
  have:=frw_form h.row
  simpa using this
theorem rb_prt {p:Nat} {w' wr:World} {c:Int} {O:Nat→Nat} {Q:Nat→Int→Value} {cs:Array Value} {ao:Option Addr} {cap j:Nat} (h:RbL p w' wr c O Q cs (.slice ao j cap) j) (q:Nat→Value) (hq:∀ i,Q i (c+1+O i)=q i):Prt wr ao j q:=by
  obtain ⟨ao',cap',e,hp⟩:=frw_prt h.row q (fun i hi=>by simpa using hq i)
  simp only [List.length_map,List.length_range] at e hp
  cases e
  exact hp
set_option maxRecDepth 100000 in
set_option maxHeartbeats 2000000 in
theorem rb_succ (l:Nat) (IH:SaidRb l):SaidRb (l+1):=by
  intro D d L B t a1 l1 c1 a2 l2 c2 a3 l3 c3 m w hB hf hm
  simp only [nodesM] at hm
  cases hn:nodeM t with
  | false=>simp [hn] at hm
  | true =>
  simp only [hn,if_true] at hm
  obtain ⟨b,hb,hmb⟩:=Option.map_eq_some_iff.1 hm
  obtain ⟨O,hO0,hOb,hOs⟩:=nodesG_sums t.A b hb
  obtain ⟨rfl,hl9⟩:=hf.m.len
  have hex:∀ i,∃ Q:Int→Value,(∀ c,∃ τ u,Q c=.iface τ u)∧∀ h:i < t.A.length,(∀ c,Fv L B w D l t.A[i] (Q c))∧∃ k,O (i+1)=O i+k∧∃ (b o:Nat) (e1:Option Addr) (m1 d1:Nat) (e2:Option Addr) (m2 d2:Nat) (e3:Option Addr) (m3 d3:Nat),a3=some ⟨b,o,none⟩∧b < B∧Nine w b (o+i * 9) t.A[i].K t.A[i].N t.A[i].S t.A[i].Z t.A[i].T.K t.A[i].T.N (.slice e1 m1 d1) (.slice e2 m2 d2) (.slice e3 m3 d3) ∧
      ∀ p w' c,B≤p→Nx p w w' c→0≤c→c+k≤1000000→Calls Tryz.prog 78 #[.agg #[.int .i64 t.A[i].K,.int .i64 t.A[i].N,.string t.A[i].S,.string t.A[i].Z,.int .i64 t.A[i].T.K,.int .i64 t.A[i].T.N,.slice e1 m1 d1,.slice e2 m2 d2,.slice e3 m3 d3],.pointer (some ⟨p,0,none⟩),mdF] w' fun e w''=>e=.returned (Q c)∧Nx p w' w'' (c+k):=by
    intro i
    by_cases h:i < t.A.length
    · obtain ⟨k,k1,k2⟩:=hOs i h
      obtain ⟨b',o,ha3,_,hbB,e1,m1,d1,e2,m2,d2,e3,m3,d3,h9,hfi⟩:=hf.m.get i h
      obtain ⟨V,hV,hcall⟩:=IH D (d - 1) L B t.A[i] e1 m1 d1 e2 m2 d2 e3 m3 d3 k w hB hfi k1
      exact ⟨V,fun c=>(hV c).iface,fun _=>⟨hV,k,k2,b',o,e1,m1,d1,e2,m2,d2,e3,m3,d3,ha3,hbB,h9,hcall⟩⟩
    · exact ⟨fun _=>.iface 0 .nilIface,fun c=>⟨_,_,rfl⟩,fun h'=>(h h').elim⟩
  obtain ⟨Q,hQ⟩:=Classical.axiomOfChoice hex
  clear hex
  refine ⟨fun c=>fval c t.K t.N t.S t.Z t.T.K t.T.N (.slice a1 l1 c1) (.slice a2 l2 c2) (Q 0 (c+1+O 0)) (Q 1 (c+1+O 1)) (Q 2 (c+1+O 2)),fun c=>⟨c,a1,l1,c1,a2,l2,c2,fun i=>Q i (c+1+O i),hf.t1,hf.t2,fun i h=>((hQ i).2 h).1 _,rfl⟩,?_⟩
  intro p w' c hBp hNx hc0 hcm
  have hpl:=hNx.lt
  have hOm:∀ j,j≤t.A.length→O j≤O t.A.length:=by
    have:∀ n j,j+n=t.A.length→O j≤O t.A.length:=by
      intro n
      induction n with
      | zero=>intro j hj;rw [show j=t.A.length by omega];exact Nat.le_refl _
      | succ n ih =>
        intro j hj
        obtain ⟨k,_,hk⟩:=hOs j (by omega)
        have:=ih (j+1) (by omega)
        omega
    exact fun j hj=>this (t.A.length - j) j (by omega)
  obtain ⟨hK1,hK2,hKs⟩:=nodeM_kinds hn
  have h3:=nodeM_len hn
  obtain ⟨f,hfi⟩:=Classical.axiomOfChoice (r:=fun i (x:TypeId × Value)=>Q i (c+1+O i)=.iface x.1 x.2) (fun i=>by obtain ⟨τ,u,e⟩:=(hQ i).1 (c+1+O i);exact ⟨(τ,u),e⟩)
  have HF:Hid (∀ e wr wx,e=Ending.returned (fval c t.K t.N t.S t.Z t.T.K t.T.N (.slice a1 l1 c1) (.slice a2 l2 c2) (.iface (f 0).1 (f 0).2) (.iface (f 1).1 (f 1).2) (.iface (f 2).1 (f 2).2))→Nx p w' wr (c+1+O t.A.length)→Below wr.heap.size wr wx→e=Ending.returned (fval c t.K t.N t.S t.Z t.T.K t.T.N (.slice a1 l1 c1) (.slice a2 l2 c2) (Q 0 (c+1+O 0)) (Q 1 (c+1+O 1)) (Q 2 (c+1+O 2)))∧Nx p w' wx (c+m)):=by
    intro e wr wx he hN hb
    rw [hfi 0,hfi 1,hfi 2,show c+(m:Int)=c+1+O t.A.length by omega]
    exact ⟨he,hN.bel hb⟩
  have HQ:Hid (_∧True):=⟨fun j=>(hQ j).2,trivial⟩
  have hw1:IntKind.i64.wrap (c+1)=c+1:=by rw [IntKind.wrap_i64];omega
  have r0:=cell_1 hNx.is
  have r1:=row_free hNx.is 0
  have hmt:=mt_within
  obtain ⟨X,hX⟩:∃ X,X=(w'.setCell ⟨p,0,none⟩ (.int .i64 (c+1))).alloc (.cells #[.int .i64 t.K,.int .i64 t.N,.string t.S,.string t.Z,.int .i64 t.T.K,.int .i64 t.T.N,.slice a1 l1 c1,.slice a2 l2 c2,.slice a3 t.A.length c3] 34):=⟨_,rfl⟩
  have hXb:Below (w'.setCell ⟨p,0,none⟩ (.int .i64 (c+1))).heap.size (w'.setCell ⟨p,0,none⟩ (.int .i64 (c+1))) X:=by rw [hX];exact (Below.refl _ _).alloc (Nat.le_refl _) _
  have hXs:X.heap.size=w'.heap.size+1:=by rw [hX];simp
  have hXp:X.heap[p]?=some (.cells #[.int .i64 (c+1)] 3 (0,0)):=by rw [hXb.block p (by simpa using hpl),row_set hNx.is];rfl
  have hN:Nx p w' X (c+1):=⟨⟨hXb.os,hXb.tape,hXb.output,by omega,fun i hi hne=>(hXb.block i (by simpa using hi)).trans (row_other _ _ _ hne),fun i hi=>Or.inl hi⟩,hXp⟩
  have hbx:X.heap[w'.heap.size]?=some (.cells #[.int .i64 t.K,.int .i64 t.N,.string t.S,.string t.Z,.int .i64 t.T.K,.int .i64 t.T.N,.slice a1 l1 c1,.slice a2 l2 c2,.slice a3 t.A.length c3] 34 (0,0)):=by rw [hX];exact heap_new (by simp)
  have HX:Hid (X=_):=hX
  clear hX hXb hXp hQ
  go_enter Tryz.func78,Tryz.ntmps78
  go_wp2_with fail
  rw [← HX.out]
  refine (within_any t a1 l1 c1 a2 l2 c2 a3 t.A.length c3 _).mono ?_
  rintro e w2 ⟨rfl,hb2⟩
  have h0:Hid (RbL p w' w2 c O Q #[.int .i64 t.K,.int .i64 t.N,.string t.S,.string t.Z,.int .i64 t.T.K,.int .i64 t.T.N,.slice a1 l1 c1,.slice a2 l2 c2,.slice a3 t.A.length c3] (.slice none 0 0) 0):=by
    refine ⟨?_,(hb2.block _ (by omega)).trans hbx,⟨rfl,Or.inl ⟨rfl,rfl⟩⟩,by have:=hb2.size;omega⟩
    rw [hO0,show c+1+((0:Nat):Int)=c+1 by omega]
    exact hN.bel hb2
  clear r0 r1 hb2 hbx
  go_wp2_with fail
  go_loopw [8,23] (fun v y wr=>∃ j:Nat,y=.int .i64 j∧j≤t.A.length∧RbL p w' wr c O Q #[.int .i64 t.K,.int .i64 t.N,.string t.S,.string t.Z,.int .i64 t.T.K,.int .i64 t.T.N,.slice a1 l1 c1,.slice a2 l2 c2,.slice a3 t.A.length c3] v j) (fun _ y _=>t.A.length - (intOf y).toNat)
  case atStart=>exact ⟨0,rfl,by omega,h0.out⟩
  case round =>
    obtain ⟨j,rfl,hj,hI⟩:=hrel
    obtain ⟨ao',cap',rfl⟩:=rb_form hI
    by_cases hlt:j < t.A.length
    · obtain ⟨_,k,hk,b',o',e1,m1,d1,e2,m2,d2,e3,m3,d3,rfl,hbB,h9,hcall⟩:=HQ.out.1 j hlt
      have hNr:=hNx.trans hI.nx
      obtain ⟨x0,x1,x2,x3,x4,x5,x6,x7,x8⟩:=h9.world (hNr.kf.block b' (by omega) (by omega))
      have hba:Below wr.heap.size wr (wr.alloc (.cells #[.int .i64 t.A[j].K,.int .i64 t.A[j].N,.string t.A[j].S,.string t.A[j].Z,.int .i64 t.A[j].T.K,.int .i64 t.A[j].T.N,.slice e1 m1 d1,.slice e2 m2 d2,.slice e3 m3 d3] 34)):=(Below.refl _ _).alloc (Nat.le_refl _) _
      have hOj:=hOm (j+1) (by omega)
      have HC:=hcall p _ (c+1+O j) hBp (hNr.bel hba) (by omega) (by omega)
      have HBA:Hid (Below _ _ _):=hba
      clear h9 hba hcall
      go_wp2_with fail
      refine HC.mono ?_
      rintro e w3 ⟨rfl,h3'⟩
      obtain ⟨g,cp,w4,hrun,hN4⟩:=rb_next hI hpl (by omega) HBA.out h3' hk (hfi j)
      have HR:Hid (_=_):=hrun
      clear hrun
      rw [hfi j]
      go_wp2_with (at_builtin;refine list_run HR.out (by rfl) _ _ (by rfl) (by rfl) (by rfl) (by rfl) ?_)
      go_roundw
      case rel=>exact ⟨j+1,by go_num,by omega,hN4⟩
      case measure=>simp [intOf];omega
    · obtain rfl:j=t.A.length:=by omega
      obtain ⟨x0,x1,x2,x3,x4,x5,x6,x7,x8⟩:=Nine.box hI.box
      have HP:=rb_prt hI (fun i=>.iface (f i).1 (f i).2) hfi
      have HM:=made_any c t a1 l1 c1 a2 l2 c2 a3 t.A.length c3 ao' t.A.length cap' (fun i=>(f i).1) (fun i=>(f i).2) wr hK1 hK2 hKs HP
      go_wp2_with fail
      refine HM.mono ?_
      rintro e w5 ⟨rfl,hb5⟩
      go_wp2_with fail
      go_ret
      exact HF.out _ wr w5 rfl hI.nx hb5
theorem rb_any (l:Nat):SaidRb l:=by
  induction l with
  | zero=>intro D d L B t a1 l1 c1 a2 l2 c2 a3 l3 c3 m w hB hf hm;simp [nodesM] at hm
  | succ l ih=>exact rb_succ l ih
end Go.Proofs.YtcepgedbmffkdaaGreat

/-
  What the program's 'formOf' comes to, by 'rebuilt'.
-/
namespace Go.Proofs.YtcepgedbmffkdaaGreat
open Go.RowKit
set_option linter.unusedVariables false
set_option linter.unusedSimpArgs false
def SaidFo (l:Nat):Prop:=∀ (D d L B:Nat) (t:Tm) (a1:Option Addr) (l1 c1:Nat) (a2:Option Addr) (l2 c2:Nat) (a3:Option Addr) (l3 c3:Nat) (m:Nat) (w:World),B≤w.heap.size→Fm L B w D d t a1 l1 a2 l2 a3 l3→nodesM l t=some m→m≤1000 →
    ∃ v,Fv L B w D l t v∧∀ w',Below w.heap.size w w'→Calls Tryz.prog 27 #[.agg #[.int .i64 t.K,.int .i64 t.N,.string t.S,.string t.Z,.int .i64 t.T.K,.int .i64 t.T.N,.slice a1 l1 c1,.slice a2 l2 c2,.slice a3 l3 c3]] w' fun e w''=>e=.returned v∧Below w'.heap.size w' w''
set_option maxRecDepth 100000 in
set_option maxHeartbeats 1000000 in
theorem rebuilt_any (t:Tm) (a1:Option Addr) (l1 c1:Nat) (a2:Option Addr) (l2 c2:Nat) (a3:Option Addr) (l3 c3:Nat) (w w':World) (m:Nat) (τ:TypeId) (u:Value) (hw:Below w.heap.size w w')
    (hcall:∀ p X,w.heap.size≤p→Nx p w X 0→Calls Tryz.prog 78 #[.agg #[.int .i64 t.K,.int .i64 t.N,.string t.S,.string t.Z,.int .i64 t.T.K,.int .i64 t.T.N,.slice a1 l1 c1,.slice a2 l2 c2,.slice a3 l3 c3],.pointer (some ⟨p,0,none⟩),mdF] X fun e w''=>e=.returned (.iface τ u)∧Nx p X w'' (0+m)) :
    Calls Tryz.prog 51 #[.agg #[.int .i64 t.K,.int .i64 t.N,.string t.S,.string t.Z,.int .i64 t.T.K,.int .i64 t.T.N,.slice a1 l1 c1,.slice a2 l2 c2,.slice a3 l3 c3],mdF] w' fun e w''=>e=.returned (.iface τ u)∧Below w'.heap.size w' w'':=by
  have hws:=hw.size
  obtain ⟨X,hX⟩:∃ X,X=(w'.alloc (.cells #[.int .i64 t.K,.int .i64 t.N,.string t.S,.string t.Z,.int .i64 t.T.K,.int .i64 t.T.N,.slice a1 l1 c1,.slice a2 l2 c2,.slice a3 l3 c3] 34)).alloc (.cells #[.int .i64 0] 3):=⟨_,rfl⟩
  have hXs:X.heap.size=w'.heap.size+2:=by rw [hX];simp
  have hXb:Below w'.heap.size w' X:=by rw [hX];exact ((Below.refl _ _).alloc (Nat.le_refl _) _).alloc (by simp) _
  have hXp:X.heap[w'.heap.size+1]?=some (.cells #[.int .i64 0] 3 (0,0)):=by rw [hX];exact heap_new (by simp)
  have hNX:Nx (w'.heap.size+1) w X 0:=⟨Kf.of_below (hw.trans (hXb.mono hws)),hXp⟩
  have K:=hcall (w'.heap.size+1) X (by omega) hNX
  have HX:Hid (X=_):=hX
  clear hX hcall
  go_enter Tryz.func51,Tryz.ntmps51
  go_wp2_with fail
  rw [← HX.out]
  refine K.mono ?_
  rintro e w2 ⟨rfl,hN⟩
  have hb2:Below w'.heap.size w' w2:=hXb.trans (hN.kf.below (fun k hk=>by omega) (by omega))
  go_wp2_with fail
  go_ret
  exact ⟨rfl,hb2⟩
set_option maxRecDepth 100000 in
set_option maxHeartbeats 1000000 in
theorem fo_any (l:Nat):SaidFo l:=by
  intro D d L B t a1 l1 c1 a2 l2 c2 a3 l3 c3 m w hB hf hm hm6
  obtain ⟨V,hV,hcall⟩:=rb_any l D d L B t a1 l1 c1 a2 l2 c2 a3 l3 c3 m w hB hf hm
  refine ⟨V 0,hV 0,fun w' hw=>?_⟩
  obtain ⟨τ,u,hu⟩:=Fv.iface (hV 0)
  have K:∀ Y,Below w'.heap.size w' Y→Calls Tryz.prog 51 #[.agg #[.int .i64 t.K,.int .i64 t.N,.string t.S,.string t.Z,.int .i64 t.T.K,.int .i64 t.T.N,.slice a1 l1 c1,.slice a2 l2 c2,.slice a3 l3 c3],mdF] Y fun e w''=>e=.returned (.iface τ u)∧Below Y.heap.size Y w'':=fun Y hY =>
    rebuilt_any t a1 l1 c1 a2 l2 c2 a3 l3 c3 w Y m τ u (hw.trans (hY.mono hw.size)) fun p X hp hX=>by
      have:=hcall p X 0 (by omega) hX (by omega) (by omega)
      rw [hu] at this
      exact this
  rw [hu]
  obtain ⟨X,hX⟩:∃ X,X=w'.alloc (.cells #[.int .i64 t.K,.int .i64 t.N,.string t.S,.string t.Z,.int .i64 t.T.K,.int .i64 t.T.N,.slice a1 l1 c1,.slice a2 l2 c2,.slice a3 l3 c3] 34):=⟨_,rfl⟩
  have hXb:Below w'.heap.size w' X:=by rw [hX];exact (Below.refl _ _).alloc (Nat.le_refl _) _
  have KX:=K X hXb
  have HX:Hid (X=_):=hX
  clear hX hcall hV hu K
  go_enter Tryz.func27,Tryz.ntmps27
  go_wp2_with fail
  rw [← HX.out]
  refine KX.mono ?_
  rintro e w2 ⟨rfl,hb⟩
  have hb2:Below w'.heap.size w' w2:=hXb.trans (hb.mono hXb.size)
  go_wp2_with fail
  go_ret
  exact ⟨rfl,hb2⟩
end Go.Proofs.YtcepgedbmffkdaaGreat

/-
  What the program's 'shapeOf' comes to.
-/
namespace Go.Proofs.YtcepgedbmffkdaaGreat
open Go.RowKit Go.PlainAid
set_option linter.unusedVariables false
set_option linter.unusedSimpArgs false
set_option maxHeartbeats 1000000 in
theorem shapeOf_any (k:Int) (w:World):Calls Tryz.prog 124 #[.int .i64 k] w fun e w'=>e=.returned (.tuple #[.agg #[.int .i64 (shN k),.int .i64 (shL k),.int .i64 (shM k),.bool (shT k),.int .i64 (shS k),.int .i64 (shP k)],.bool (kOk k)])∧Below w.heap.size w w':=by
  by_cases h1:k=1
  · subst h1;go_enter Tryz.func124,Tryz.ntmps124;go_wp2;refine bodyPost_ret (v:=.tuple #[.agg #[.int .i64 0,.int .i64 (-1000000),.int .i64 1000000,.bool false,.int .i64 0,.int .i64 0],.bool true]) (by simp [results,Tryz.results124,go_sem]) rfl ⟨rfl,?_⟩;exact (Below.refl _ _).alloc (Nat.le_refl _) _
  by_cases h2:k=2
  · subst h2;go_enter Tryz.func124,Tryz.ntmps124;go_wp2;refine bodyPost_ret (v:=.tuple #[.agg #[.int .i64 0,.int .i64 (0),.int .i64 1,.bool false,.int .i64 0,.int .i64 0],.bool true]) (by simp [results,Tryz.results124,go_sem]) rfl ⟨rfl,?_⟩;exact (Below.refl _ _).alloc (Nat.le_refl _) _
  by_cases h3:k=3
  · subst h3;go_enter Tryz.func124,Tryz.ntmps124;go_wp2;refine bodyPost_ret (v:=.tuple #[.agg #[.int .i64 1,.int .i64 (0),.int .i64 0,.bool false,.int .i64 2,.int .i64 0],.bool true]) (by simp [results,Tryz.results124,go_sem]) rfl ⟨rfl,?_⟩;exact (Below.refl _ _).alloc (Nat.le_refl _) _
  by_cases h4:k=4
  · subst h4;go_enter Tryz.func124,Tryz.ntmps124;go_wp2;refine bodyPost_ret (v:=.tuple #[.agg #[.int .i64 1,.int .i64 (0),.int .i64 0,.bool true,.int .i64 0,.int .i64 1],.bool true]) (by simp [results,Tryz.results124,go_sem]) rfl ⟨rfl,?_⟩;exact (Below.refl _ _).alloc (Nat.le_refl _) _
  by_cases h5:k=5
  · subst h5;go_enter Tryz.func124,Tryz.ntmps124;go_wp2;refine bodyPost_ret (v:=.tuple #[.agg #[.int .i64 0,.int .i64 (0),.int .i64 0,.bool false,.int .i64 0,.int .i64 2],.bool true]) (by simp [results,Tryz.results124,go_sem]) rfl ⟨rfl,?_⟩;exact (Below.refl _ _).alloc (Nat.le_refl _) _
  by_cases h6:k=6
  · subst h6;go_enter Tryz.func124,Tryz.ntmps124;go_wp2;refine bodyPost_ret (v:=.tuple #[.agg #[.int .i64 1,.int .i64 (0),.int .i64 2,.bool false,.int .i64 0,.int .i64 2],.bool true]) (by simp [results,Tryz.results124,go_sem]) rfl ⟨rfl,?_⟩;exact (Below.refl _ _).alloc (Nat.le_refl _) _
  by_cases h7:k=7
  · subst h7;go_enter Tryz.func124,Tryz.ntmps124;go_wp2;refine bodyPost_ret (v:=.tuple #[.agg #[.int .i64 1,.int .i64 (0),.int .i64 2,.bool true,.int .i64 0,.int .i64 2],.bool true]) (by simp [results,Tryz.results124,go_sem]) rfl ⟨rfl,?_⟩;exact (Below.refl _ _).alloc (Nat.le_refl _) _
  by_cases h8:k=8
  · subst h8;go_enter Tryz.func124,Tryz.ntmps124;go_wp2;refine bodyPost_ret (v:=.tuple #[.agg #[.int .i64 0,.int .i64 (0),.int .i64 0,.bool false,.int .i64 0,.int .i64 3],.bool true]) (by simp [results,Tryz.results124,go_sem]) rfl ⟨rfl,?_⟩;exact (Below.refl _ _).alloc (Nat.le_refl _) _
  by_cases h9:k=9
  · subst h9;go_enter Tryz.func124,Tryz.ntmps124;go_wp2;refine bodyPost_ret (v:=.tuple #[.agg #[.int .i64 0,.int .i64 (0),.int .i64 0,.bool false,.int .i64 0,.int .i64 2],.bool true]) (by simp [results,Tryz.results124,go_sem]) rfl ⟨rfl,?_⟩;exact (Below.refl _ _).alloc (Nat.le_refl _) _
  by_cases h10:k=10
  · subst h10;go_enter Tryz.func124,Tryz.ntmps124;go_wp2;refine bodyPost_ret (v:=.tuple #[.agg #[.int .i64 0,.int .i64 (0),.int .i64 0,.bool false,.int .i64 0,.int .i64 1],.bool true]) (by simp [results,Tryz.results124,go_sem]) rfl ⟨rfl,?_⟩;exact (Below.refl _ _).alloc (Nat.le_refl _) _
  by_cases h11:k=11
  · subst h11;go_enter Tryz.func124,Tryz.ntmps124;go_wp2;refine bodyPost_ret (v:=.tuple #[.agg #[.int .i64 0,.int .i64 (0),.int .i64 0,.bool false,.int .i64 0,.int .i64 1],.bool true]) (by simp [results,Tryz.results124,go_sem]) rfl ⟨rfl,?_⟩;exact (Below.refl _ _).alloc (Nat.le_refl _) _
  by_cases h12:k=12
  · subst h12;go_enter Tryz.func124,Tryz.ntmps124;go_wp2;refine bodyPost_ret (v:=.tuple #[.agg #[.int .i64 0,.int .i64 (0),.int .i64 0,.bool true,.int .i64 0,.int .i64 0],.bool true]) (by simp [results,Tryz.results124,go_sem]) rfl ⟨rfl,?_⟩;exact (Below.refl _ _).alloc (Nat.le_refl _) _
  by_cases h13:k=13
  · subst h13;go_enter Tryz.func124,Tryz.ntmps124;go_wp2;refine bodyPost_ret (v:=.tuple #[.agg #[.int .i64 0,.int .i64 (0),.int .i64 0,.bool false,.int .i64 0,.int .i64 2],.bool true]) (by simp [results,Tryz.results124,go_sem]) rfl ⟨rfl,?_⟩;exact (Below.refl _ _).alloc (Nat.le_refl _) _
  by_cases h14:k=14
  · subst h14;go_enter Tryz.func124,Tryz.ntmps124;go_wp2;refine bodyPost_ret (v:=.tuple #[.agg #[.int .i64 2,.int .i64 (0),.int .i64 0,.bool false,.int .i64 0,.int .i64 3],.bool true]) (by simp [results,Tryz.results124,go_sem]) rfl ⟨rfl,?_⟩;exact (Below.refl _ _).alloc (Nat.le_refl _) _
  by_cases h15:k=15
  · subst h15;go_enter Tryz.func124,Tryz.ntmps124;go_wp2;refine bodyPost_ret (v:=.tuple #[.agg #[.int .i64 0,.int .i64 (1),.int .i64 5,.bool false,.int .i64 0,.int .i64 2],.bool true]) (by simp [results,Tryz.results124,go_sem]) rfl ⟨rfl,?_⟩;exact (Below.refl _ _).alloc (Nat.le_refl _) _
  by_cases h16:k=16
  · subst h16;go_enter Tryz.func124,Tryz.ntmps124;go_wp2;refine bodyPost_ret (v:=.tuple #[.agg #[.int .i64 0,.int .i64 (0),.int .i64 0,.bool true,.int .i64 0,.int .i64 1],.bool true]) (by simp [results,Tryz.results124,go_sem]) rfl ⟨rfl,?_⟩;exact (Below.refl _ _).alloc (Nat.le_refl _) _
  by_cases h17:k=17
  · subst h17;go_enter Tryz.func124,Tryz.ntmps124;go_wp2;refine bodyPost_ret (v:=.tuple #[.agg #[.int .i64 1,.int .i64 (0),.int .i64 0,.bool false,.int .i64 0,.int .i64 2],.bool true]) (by simp [results,Tryz.results124,go_sem]) rfl ⟨rfl,?_⟩;exact (Below.refl _ _).alloc (Nat.le_refl _) _
  have e1:shN k=0:=by unfold shN;simp [h3,h4,h6,h7,h17,h14]
  have e2:shL k=0:=by unfold shL;simp [h1,h15]
  have e3:shM k=0:=by unfold shM;simp [h1,h2,h6,h7,h15]
  have e4:shT k=false:=by unfold shT;simp [h4,h7,h12,h16]
  have e5:shS k=0:=by unfold shS;simp [h3]
  have e6:shP k=0:=by unfold shP;simp [h4,h10,h11,h16,h5,h6,h7,h9,h13,h15,h17,h8,h14]
  have e7:kOk k=false:=by unfold kOk;simp;omega
  rw [e1,e2,e3,e4,e5,e6,e7]
  have b1:(k == 1)=false:=beq_eq_false_iff_ne.2 h1
  have b2:(k == 2)=false:=beq_eq_false_iff_ne.2 h2
  have b3:(k == 3)=false:=beq_eq_false_iff_ne.2 h3
  have b4:(k == 4)=false:=beq_eq_false_iff_ne.2 h4
  have b5:(k == 5)=false:=beq_eq_false_iff_ne.2 h5
  have b6:(k == 6)=false:=beq_eq_false_iff_ne.2 h6
  have b7:(k == 7)=false:=beq_eq_false_iff_ne.2 h7
  have b8:(k == 8)=false:=beq_eq_false_iff_ne.2 h8
  have b9:(k == 9)=false:=beq_eq_false_iff_ne.2 h9
  have b10:(k == 10)=false:=beq_eq_false_iff_ne.2 h10
  have b11:(k == 11)=false:=beq_eq_false_iff_ne.2 h11
  have b12:(k == 12)=false:=beq_eq_false_iff_ne.2 h12
  have b13:(k == 13)=false:=beq_eq_false_iff_ne.2 h13
  have b14:(k == 14)=false:=beq_eq_false_iff_ne.2 h14
  have b15:(k == 15)=false:=beq_eq_false_iff_ne.2 h15
  have b16:(k == 16)=false:=beq_eq_false_iff_ne.2 h16
  have b17:(k == 17)=false:=beq_eq_false_iff_ne.2 h17
  clear e1 e2 e3 e4 e5 e6 e7 h1 h2 h3 h4 h5 h6 h7 h8 h9 h10 h11 h12 h13 h14 h15 h16 h17
  go_enter Tryz.func124,Tryz.ntmps124;go_wp2;refine bodyPost_ret (v:=.tuple #[.agg #[.int .i64 0,.int .i64 0,.int .i64 0,.bool false,.int .i64 0,.int .i64 0],.bool false]) (by simp [results,Tryz.results124,go_sem]) rfl ⟨rfl,?_⟩;exact (Below.refl _ _).alloc (Nat.le_refl _) _
end Go.Proofs.YtcepgedbmffkdaaGreat
