/-
  What the model's 'l3List', 'l3Two', 'l3With' come to, whatever predicate takes the blocks.
-/
import Derived.Test.YtleghjgpnefliaaFlaTg4
import Derived.Deep.RegionHeld3
import Derived.Test.YtleghjgpnefliaaFlaZ3
import Derived.Test.YtleghjgpnefliaaFlaZ9
import Derived.Test.YtleghjgpnefliaaFlaZ12
import Derived.Test.YtleghjgpnefliaaFlaZ17
import Derived.Test.YtleghjgpnefliaaFlaDg
import Derived.Test.YtleghjgpnefliaaFlaDu
namespace Go.Proofs.Ytleghjgpnefliaa
open Go.RowKit
set_option linter.unusedVariables false
set_option linter.unusedSimpArgs false
theorem l3List_q (P:Nat→Prop) (D:Nat) (t:Tr) (v:Value) (w:World) (hPn:∀ k,w.heap.size≤k→P k) (hv:TyQ P w D v t):Calls Try.prog 37 #[v] w fun e w'=>∃ v',e=.returned v'∧TyQ P w' (D+1) v' ⟨6,0,[t]⟩∧Below w.heap.size w w':=by
  obtain ⟨ao,len,cap,rfl,hs⟩:=hv
  go_enter Try.func37,Try.ntmps37
  go_wp2_with fail
  have hb:Below w.heap.size w (((w.alloc (.cells #[.int .i64 t.K,.int .i64 t.N,.slice ao len cap] 26)).alloc (.cells #[.int .i64 6,.int .i64 0,.slice (some ⟨w.heap.size+1+1,0,none⟩) 1 1] 26)).alloc (.cells #[.int .i64 t.K,.int .i64 t.N,.slice ao len cap] 26)):=(((Below.refl _ _).alloc (Nat.le_refl _) _).alloc (by simp) _).alloc (by simp;omega) _
  refine bodyPost_ret (v:=.agg #[.int .i64 6,.int .i64 0,.slice (some ⟨w.heap.size+1+1,0,none⟩) 1 1]) (by simp [results,Try.results37,go_sem]) rfl ⟨_,rfl,⟨_,_,_,rfl,?_⟩,hb⟩
  exact hsq_lit1 (b:=w.heap.size+1+1) (heap_new (by simp)) (hPn _ (by omega)) (hs.below hb)
theorem l3Two_q (P:Nat→Prop) (D:Nat) (k:Int) (t t':Tr) (v v':Value) (w:World) (hPn:∀ k,w.heap.size≤k→P k) (hv:TyQ P w D v t) (hv':TyQ P w D v' t'):Calls Try.prog 55 #[.int .i64 k,v,v'] w fun e w'=>∃ v',e=.returned v'∧TyQ P w' (D+1) v' ⟨k,0,[t,t']⟩∧Below w.heap.size w w':=by
  obtain ⟨ao,len,cap,rfl,hs⟩:=hv
  obtain ⟨ao',len',cap',rfl,hs'⟩:=hv'
  go_enter Try.func55,Try.ntmps55
  go_wp2_with fail
  have hb:Below w.heap.size w ((((w.alloc (.cells #[.int .i64 t.K,.int .i64 t.N,.slice ao len cap] 26)).alloc (.cells #[.int .i64 t'.K,.int .i64 t'.N,.slice ao' len' cap'] 26)).alloc (.cells #[.int .i64 k,.int .i64 0,.slice (some ⟨w.heap.size+1+1+1,0,none⟩) 2 2] 26)).alloc (.cells #[.int .i64 t.K,.int .i64 t.N,.slice ao len cap,.int .i64 t'.K,.int .i64 t'.N,.slice ao' len' cap'] 26)):=((((Below.refl _ _).alloc (Nat.le_refl _) _).alloc (by simp) _).alloc (by simp;omega) _).alloc (by simp;omega) _
  refine bodyPost_ret (v:=.agg #[.int .i64 k,.int .i64 0,.slice (some ⟨w.heap.size+1+1+1,0,none⟩) 2 2]) (by simp [results,Try.results55,go_sem]) rfl ⟨_,rfl,⟨_,_,_,rfl,?_⟩,hb⟩
  exact hsq_lit2 (b:=w.heap.size+1+1+1) (heap_new (by simp)) (hPn _ (by omega)) (hs.below hb) (hs'.below hb)
set_option maxHeartbeats 1000000 in
theorem l3With_q (P:Nat→Prop) (D:Nat) (v:Value) (es:List Ev) (s:ByteArray) (n:Int) (tv:Value) (t:Tr) (w:World) (hPn:∀ k,w.heap.size≤k→P k) (hv:EnQ P w D v es) (ht:TyQ P w D tv t) (hl:es.length≤900) :
    Calls Try.prog 59 #[v,.string s,.int .i64 n,tv] w fun e w'=>∃ v',e=.returned v'∧EnQ P w' D v' (es ++ [⟨s,n,t⟩])∧Below w.heap.size w w':=by
  obtain ⟨ao,len,cap,rfl,hs⟩:=ht
  obtain ⟨X,hX⟩:∃ X,X=w.alloc (.cells #[.int .i64 t.K,.int .i64 t.N,.slice ao len cap] 26):=⟨_,rfl⟩
  have hXb:Below w.heap.size w X:=by rw [hX];exact (Below.refl _ _).alloc (Nat.le_refl _) _
  have hXz:w.heap.size < X.heap.size:=by rw [hX];simp
  have hX1:X.heap[w.heap.size]?=some (.cells #[.int .i64 t.K,.int .i64 t.N,.slice ao len cap] 26 (0,0)):=by rw [hX];exact heap_new rfl
  obtain ⟨x0,x1,x2⟩:=box_cells hX1
  have HX:Hid (X=_):=hX
  obtain ⟨ae,ce,rfl⟩:=hv.form
  clear hX
  have hpX:∀ k,X.heap.size≤k→P k:=fun k hk=>hPn k (by omega)
  have hvX:EnQ P X D (.slice ae es.length ce) es:=hv.below hXb
  have hev:EvQ P X D ⟨s,n,t⟩ [.string s,.int .i64 n,.int .i64 t.K,.int .i64 t.N,.slice ao len cap]:=⟨ao,len,cap,rfl,hs.below hXb⟩
  have HB:Hid (∀ (W:World) (b:Nat),W.heap[b]?=some (.cells #[] 93 (0,0))→X.heap.size≤b→Below X.heap.size X W→∃ r w2,(Builtin.append_ #[59,59] 59 #[.slice (some ⟨b,0,none⟩) 0 0,.slice ae es.length ce]).run Try.prog W=.ok r w2 ∧
      (∃ ao' cap' xs,r=.slice ao' es.length cap'∧EqC P X D es xs∧w2.ownsRow b 93 5 (.slice ao' es.length cap') es.length xs∧Below X.heap.size X w2∧W.heap.size≤w2.heap.size∧∀ q,q < W.heap.size→q≠b→w2.heap[q]?=W.heap[q]?)):=by
    intro W b h0 hb hW
    obtain ⟨ao1,len1,cap1,xs1,e1,e2,g1,g2⟩:=hvX
    injection e1 with e11 e12 e13
    subst e11 e13
    obtain ⟨ao',cap',w2,q1,q3,q4⟩:=env_copy (ao:=ae) ce h0 g1.len g1.one (fun j u hu=>by
      obtain ⟨b',o',e,_,h2,h3⟩:=g2 j u hu
      exact ⟨b',o',e,(bcell hW h2 _).trans h3⟩) (by omega)
    have hz:=hW.size
    have hbl:b < W.heap.size:=(Array.getElem?_eq_some_iff.1 h0).1
    refine ⟨_,w2,q1,ao',cap',xs1,rfl,g1,q3,?_,q4.size,fun q hq hne=>q4.block q hq (by simpa using hne)⟩
    exact ⟨q4.os.trans hW.os,q4.tape.trans hW.tape,q4.output.trans hW.output,Nat.le_trans hz q4.size,fun q hq=>(q4.block q (by omega) (by simp;omega)).trans (hW.block q hq)⟩
  have HE:Hid (∀ (W:World) (base sb:Nat) (r:Value) (xs:List Value),EqC P X D es xs→W.ownsRow base 93 5 r es.length xs→Below X.heap.size X W→X.heap.size≤base→base≤W.heap.size→W.heap[sb]?=some (.cells #[.string s,.int .i64 n,.int .i64 t.K,.int .i64 t.N,.slice ao len cap] 93 (0,0)) →
      ∃ r' w2,(Builtin.append_ #[59,59] 59 #[r,.slice (some ⟨sb,0,none⟩) 1 1]).run Try.prog W=.ok r' w2∧(EnQ P w2 D r' (es ++ [⟨s,n,t⟩])∧Below X.heap.size X w2)):=by
    intro W base sb r xs h3 hown hW hb hbw hsb
    obtain ⟨g,cp,w2,q1,q2,q3⟩:=env_pushQ h3 hev hW hb hpX hbw hown hsb (by omega)
    exact ⟨_,w2,q1,q2,q3⟩
  go_enter Try.func59,Try.ntmps59
  go_wp2_with fail
  rw [← HX.out]
  go_region_law (first
    | (refine step_ex (by rfl) (.tmp 9) (.tmp 10) (by rfl) (by rfl) (by rfl) (by rfl) (HB.out _ _ (by first | exact heap_new (by simp) | (refine (Below.heap_alloc _ _ _ (by simp)).trans ?_;exact heap_new (by simp))) (by first | exact Nat.le_refl _ | (simp;done) | (simp;omega)) (by first | exact ((Below.refl _ _).alloc (Nat.le_refl _) _).drew | exact (((Below.refl _ _).alloc (Nat.le_refl _) _).alloc (by simp) _).drew)) ?_;rintro r w2 ⟨ao',cap',xs,rfl,h3,hown,hbX,hzW,hoth⟩;have z0:=(bcell hbX hXz 0).trans x0;have z1:=(bcell hbX hXz 1).trans x1;have z2:=(bcell hbX hXz 2).trans x2;have hzW2:X.heap.size+1≤w2.heap.size:=(by have hq:=hzW;simp at hq;omega))
    | (refine step_ex (by rfl) (.tmp 11) (.tmp 16) (by rfl) (by rfl) (by rfl) (by rfl) (HE.out _ _ _ _ _ h3 (by first | exact hown | exact owns_keep hown (fun g hg=>Below.heap_alloc _ _ _ (owns_block hown hg).2)) (by first | exact hbX | exact hbX.alloc hbX.size _) (by first | exact Nat.le_refl _ | (simp;done) | (simp;omega)) (by first | omega | (rw [World.size_alloc];omega) | (simp;done)) (by first | exact heap_new rfl | (refine (hoth _ (by first | (simp;done) | (simp;omega)) (by first | (simp;done) | (simp;omega))).trans ?_;first | exact heap_new (by simp) | (refine (Below.heap_alloc _ _ _ (by simp)).trans ?_;exact heap_new (by simp))))) ?_;rintro r w3 ⟨hE3,hb3⟩))
  all_goals
    go_wp2_with fail
    go_ret
    exact ⟨_,rfl,hE3,hXb.trans (hb3.mono (by omega))⟩
end Go.Proofs.Ytleghjgpnefliaa

/-
  Set-up for the model's 'l3Whole': what a walk keeps that writes into one box; 'l3Int', 'l3Bool' with what they answer written out.
-/
namespace Go.Proofs.Ytleghjgpnefliaa
open Go.RowKit
set_option linter.unusedVariables false
set_option linter.unusedSimpArgs false
structure Kr (X:World) (r:Nat) (W:World):Prop where
  size:X.heap.size≤W.heap.size
  os:W.os=X.os
  tape:W.tape=X.tape
  output:W.output=X.output
  blk:∀ k,k < X.heap.size→k≠r→W.heap[k]?=X.heap[k]?
  box:∃ c0 c1 c2,W.heap[r]?=some (.cells #[c0,c1,c2] 26 (0,0))
theorem Kr.drew {X W:World} {r:Nat} (h:Kr X r W):Kr X r W.drew:=⟨h.size,h.os,h.tape,h.output,h.blk,h.box⟩
theorem Kr.drewN {X W:World} {r n:Nat} (h:Kr X r W):Kr X r (W.drewN n):=⟨h.size,h.os,h.tape,h.output,h.blk,h.box⟩
theorem Kr.below {X W W':World} {r:Nat} (h:Kr X r W) (hb:Below W.heap.size W W'):Kr X r W' :=
  ⟨Nat.le_trans h.size hb.size,hb.os.trans h.os,hb.tape.trans h.tape,hb.output.trans h.output,fun k hk hne=>(hb.block k (by have:=h.size;omega)).trans (h.blk k hk hne),by
    obtain ⟨c0,c1,c2,hb0⟩:=h.box
    exact ⟨c0,c1,c2,(hb.block r (Array.getElem?_eq_some_iff.1 hb0).1).trans hb0⟩⟩
theorem Kr.set {X W:World} {r:Nat} (h:Kr X r W) (o:Nat) (x:Value):Kr X r (W.setCell ⟨r,o,none⟩ x):=by
  obtain ⟨c0,c1,c2,hb0⟩:=h.box
  have hb:Below r W (W.setCell ⟨r,o,none⟩ x):=(Below.refl _ _).setCell (p:=⟨r,o,none⟩) (Nat.le_refl _) _
  refine ⟨by simp;exact h.size,hb.os.trans h.os,hb.tape.trans h.tape,hb.output.trans h.output,fun k hk hne=>(row_other _ _ _ hne).trans (h.blk k hk hne),?_⟩
  have:=row_set hb0 o x
  rcases o with _ | _ | _ | o
  · exact ⟨x,c1,c2,by rw [this];rfl⟩
  · exact ⟨c0,x,c2,by rw [this];rfl⟩
  · exact ⟨c0,c1,x,by rw [this];rfl⟩
  · exact ⟨c0,c1,c2,by rw [this,Array.setIfInBounds_eq_of_size_le (by simp)]⟩
theorem HsQ.setr {P:Nat→Prop} {w:World} {r o:Nat} {x:Value} {d:Nat} {ao:Option Addr} {len:Nat} {ts:List Tr} (h:HsQ (fun k=>P k∧k≠r) w d ao len ts):HsQ (fun k=>P k∧k≠r) (w.setCell ⟨r,o,none⟩ x) d ao len ts :=
  h.keep (fun k hk _=>row_other _ _ _ hk.2) (fun _ h _=>h) (by simp)
theorem HsQ.drewr {P:Nat→Prop} {w:World} {d:Nat} {ao:Option Addr} {len:Nat} {ts:List Tr} (h:HsQ P w d ao len ts):HsQ P w.drew d ao len ts:=h.keep (w:=w) (w':=w.drew) (fun _ _ _=>rfl) (fun _ h _=>h) (Nat.le_refl _)
def WhQ (P:Nat→Prop) (w:World) (e:Ending) (w':World):Prop:=(∃ (ao:Option Addr) (len cap:Nat) (u:Tr) (b:Bool),e=.returned (.tuple #[.agg #[.int .i64 u.K,.int .i64 u.N,.slice ao len cap],.bool b])∧HsQ P w' 8 ao len u.A)∧Below w.heap.size w w'
theorem l3Int_q (w:World):Calls Try.prog 35 #[] w fun e w'=>e=.returned (.agg #[.int .i64 1,.int .i64 0,.slice none 0 0])∧Below w.heap.size w w':=by
  go_enter Try.func35,Try.ntmps35
  go_wp2_with fail
  exact bodyPost_ret (v:=.agg #[.int .i64 1,.int .i64 0,.slice none 0 0]) (by simp [results,Try.results35,go_sem]) rfl ⟨rfl,(Below.refl _ _).alloc (Nat.le_refl _) _⟩
theorem l3Bool_q (w:World):Calls Try.prog 36 #[] w fun e w'=>e=.returned (.agg #[.int .i64 2,.int .i64 0,.slice none 0 0])∧Below w.heap.size w w':=by
  go_enter Try.func36,Try.ntmps36
  go_wp2_with fail
  exact bodyPost_ret (v:=.agg #[.int .i64 2,.int .i64 0,.slice none 0 0]) (by simp [results,Try.results36,go_sem]) rfl ⟨rfl,(Below.refl _ _).alloc (Nat.le_refl _) _⟩
end Go.Proofs.Ytleghjgpnefliaa

/-
  What the model's 'l3Good' comes to: a type that is right, and 0; or nothing, and 3.
-/
namespace Go.Proofs.Ytleghjgpnefliaa
open Go.RowKit
set_option linter.unusedVariables false
set_option linter.unusedSimpArgs false
set_option maxRecDepth 100000 in
set_option maxHeartbeats 1000000 in
theorem l3Good_any (d L B:Nat) (t:Tr) (ao:Option Addr) (len cap:Nat) (w:World) (hB:B≤w.heap.size) (hs:Hs L B w d ao len t.A) :
    Calls Try.prog 82 #[.agg #[.int .i64 t.K,.int .i64 t.N,.slice ao len cap]] w fun e w'=>((okT t=true∧e=.returned (.tuple #[.agg #[.int .i64 t.K,.int .i64 t.N,.slice ao len cap],.int .i64 0]))∨e=.returned (.tuple #[.agg #[.int .i64 0,.int .i64 0,.slice none 0 0],.int .i64 3]))∧Below w.heap.size w w':=by
  obtain ⟨X,hX⟩:∃ X,X=(w.alloc (.cells #[.int .i64 t.K,.int .i64 t.N,.slice ao len cap] 26)).alloc (.cells #[.int .i64 0,.int .i64 0,.slice none 0 0] 26):=⟨_,rfl⟩
  have hXs:X.heap.size=w.heap.size+2:=by rw [hX];simp
  have hXb:Below w.heap.size w X:=by rw [hX];exact ((Below.refl _ _).alloc (Nat.le_refl _) _).alloc (by simp) _
  have hX0:X.heap[w.heap.size]?=some (.cells #[.int .i64 t.K,.int .i64 t.N,.slice ao len cap] 26 (0,0)):=by rw [hX,Below.heap_alloc _ _ _ (by simp)];exact heap_new rfl
  have hX1:X.heap[w.heap.size+1]?=some (.cells #[.int .i64 0,.int .i64 0,.slice none 0 0] 26 (0,0)):=by rw [hX];exact heap_new (by simp)
  obtain ⟨x0,x1,x2⟩:=box_cells hX0
  have HX:Hid (X=_):=hX
  have hsX:Hs L B X d ao len t.A:=hs.keep (fun k _ hk=>hXb.block k (by omega)) (Nat.le_refl _) (Nat.le_refl _)
  have K:=sTyOk_any d L B t.K t.N ao len cap t.A X (by omega) hsX
  rw [tr_eta] at K
  clear hX
  obtain ⟨ob,hob⟩:∃ ob,okT t=ob:=⟨_,rfl⟩
  have HO:Hid (okT t=ob):=hob
  rw [hob] at K ⊢
  clear hob
  go_enter Try.func82,Try.ntmps82
  go_wp2_with fail
  rw [← HX.out]
  refine K.mono ?_
  rintro e w1 ⟨rfl,hb1⟩
  have hz1:=hb1.size
  have r0:=(hb1.block w.heap.size (by omega)).trans hX0
  have r1:=(hb1.block (w.heap.size+1) (by omega)).trans hX1
  obtain ⟨y0,y1,y2⟩:=box_cells r0
  obtain ⟨z0,z1,z2⟩:=box_cells r1
  have zf:=row_free r1
  have hb1w:Below w.heap.size w w1:=hXb.trans (hb1.mono (by omega))
  clear K x0 x1 x2
  cases ob with
  | true =>
    go_wp2_with fail
    refine bodyPost_ret (v:=.tuple #[.agg #[.int .i64 t.K,.int .i64 t.N,.slice ao len cap],.int .i64 0]) (by simp [results,Try.results82,go_sem,y0,y1,y2,z0,z1,z2]) rfl ⟨by first | exact Or.inl ⟨rfl,rfl⟩ | exact Or.inl rfl | simp,?_⟩
    exact ((hb1w.setCell (p:=⟨w.heap.size+1,0,none⟩) (by show w.heap.size≤w.heap.size+1;omega) _).setCell (p:=⟨w.heap.size+1,1,none⟩) (by show w.heap.size≤w.heap.size+1;omega) _).setCell (p:=⟨w.heap.size+1,2,none⟩) (by show w.heap.size≤w.heap.size+1;omega) _
  | false =>
    go_wp2_with fail
    refine bodyPost_ret (v:=.tuple #[.agg #[.int .i64 0,.int .i64 0,.slice none 0 0],.int .i64 3]) (by simp [results,Try.results82,go_sem,y0,y1,y2,z0,z1,z2]) rfl ⟨by first | exact Or.inr rfl | simp,?_⟩
    exact ((hb1w.setCell (p:=⟨w.heap.size+1,0,none⟩) (by show w.heap.size≤w.heap.size+1;omega) _).setCell (p:=⟨w.heap.size+1,1,none⟩) (by show w.heap.size≤w.heap.size+1;omega) _).setCell (p:=⟨w.heap.size+1,2,none⟩) (by show w.heap.size≤w.heap.size+1;omega) _
end Go.Proofs.Ytleghjgpnefliaa

/-
  What the model's 'l1Put' comes to: a variable that is beyond what is put stays as it is.
-/
namespace Go.Proofs.Ytleghjgpnefliaa
open Go.RowKit
set_option linter.unusedVariables false
set_option linter.unusedSimpArgs false
def putV (σ:List Tr):Nat→Tr→Tr
  | 0,t=>t
  | l+1,t=>if t.K=3∧t.N.toNat < σ.length then σ.getD t.N.toNat ⟨0,0,[]⟩ else ⟨t.K,t.N,t.A.map (putV σ l)⟩
def SaidLq (l:Nat):Prop:=∀ (d d2 L B L2 B2:Nat) (k n:Int) (ao:Option Addr) (len cap:Nat) (ts:List Tr) (sao:Option Addr) (slen scap:Nat) (σ:List Tr) (m:Nat) (w:World),
    B≤w.heap.size→Hs L B w d ao len ts→B2≤w.heap.size→Hs L2 B2 w d2 sao slen σ→nodesW l ⟨k,n,ts⟩=some m→cntS σ≤1048576 →
    Calls Try.prog 91 #[.agg #[.int .i64 k,.int .i64 n,.slice ao len cap],.slice sao slen scap] w fun e w'=>∃ ao2 len2 cap2,e=.returned (.agg #[.int .i64 (putV σ l ⟨k,n,ts⟩).K,.int .i64 (putV σ l ⟨k,n,ts⟩).N,.slice ao2 len2 cap2]) ∧
      Below w.heap.size w w'∧OwR w.heap.size w'.heap.size w' (l+d2) ao2 len2 (putV σ l ⟨k,n,ts⟩).A
set_option maxRecDepth 100000 in
set_option maxHeartbeats 1000000 in
theorem lq_var (l:Nat) (d d2 L B L2 B2:Nat) (k n:Int) (ao:Option Addr) (len cap:Nat) (ts:List Tr) (sao:Option Addr) (slen scap:Nat) (σ:List Tr) (m:Nat) (w:World)
    (hB:B≤w.heap.size) (hs:Hs L B w d ao len ts) (hB2:B2≤w.heap.size) (hs2:Hs L2 B2 w d2 sao slen σ) (hm:nodesW (l+1) ⟨k,n,ts⟩=some m) (hc:cntS σ≤1048576) (hk:k=3) (hns:n.toNat < slen) :
    Calls Try.prog 91 #[.agg #[.int .i64 k,.int .i64 n,.slice ao len cap],.slice sao slen scap] w fun e w'=>∃ ao2 len2 cap2,e=.returned (.agg #[.int .i64 (putV σ (l+1) ⟨k,n,ts⟩).K,.int .i64 (putV σ (l+1) ⟨k,n,ts⟩).N,.slice ao2 len2 cap2]) ∧
      Below w.heap.size w w'∧OwR w.heap.size w'.heap.size w' (l+1+d2) ao2 len2 (putV σ (l+1) ⟨k,n,ts⟩).A:=by
  obtain ⟨hok,hparts⟩:=nodesW_inv hm
  have hv0:=var0_of hok
  obtain ⟨X,hX⟩:∃ X,X=((w.alloc (.cells #[.int .i64 k,.int .i64 n,.slice ao len cap] 26)).alloc (.cells #[.int .i64 0,.int .i64 0,.slice none 0 0] 26)):=⟨_,rfl⟩
  have hXs:X.heap.size=w.heap.size+2:=by rw [hX];simp
  have hXb:Below w.heap.size w X:=by rw [hX];exact ((Below.refl _ _).alloc (Nat.le_refl _) _).alloc (by simp) _
  have hX1:X.heap[w.heap.size+1]?=some (.cells #[.int .i64 0,.int .i64 0,.slice none 0 0] 26 (0,0)):=by rw [hX];exact heap_new (by simp)
  have HX:Hid (X=_):=hX
  clear hX
  have hk3:(k == 3)=true:=by simp [hk]
  have hn:=hv0 hk
  have hσ:slen=σ.length:=hs2.len.1
  obtain ⟨b,o,hsao,_,hbB,ao1,len1,cap1,c0,c1,c2,hs4⟩:=hs2.get n.toNat (by omega)
  subst hsao
  have hput:putV σ (l+1) ⟨k,n,ts⟩=σ[n.toNat]'(by omega):=by
    simp only [putV]
    rw [if_pos ⟨hk,by omega⟩]
    simp [List.getD,List.getElem?_eq_getElem (show n.toNat < σ.length by omega)]
  rw [hput]
  have hs5:=hs4.below hXb hB2
  have hcn:=cntS_get σ n.toNat (by omega)
  have hbw:b < w.heap.size:=by omega
  have hn0:=hn.1
  have hn1:n < slen:=by omega
  obtain ⟨t,ht⟩:∃ t,t=σ[n.toNat]'(by omega):=⟨_,rfl⟩
  rw [← ht] at c0 c1 hs5 hcn ⊢
  have e0:=(bcell hXb hbw _).trans c0
  have e1:=(bcell hXb hbw _).trans c1
  have e2:=(bcell hXb hbw _).trans c2
  rw [HX.out] at e0 e1 e2
  clear hput hn hv0 hk hm hparts hok hs4 ht c0 c1 c2 hσ
  go_enter Try.func91,Try.ntmps91
  go_wp2_with fail
  rw [← HX.out]
  refine (lc_any _ _ _ _ _ _ _ _ _ _ (by omega) hs5 (by omega)).mono ?_
  rintro e w1 ⟨ao2,len2,cap2,rfl,hb1,ho⟩
  have y:=(hb1.block (w.heap.size+1) (by omega)).trans hX1
  obtain ⟨y0,y1,y2⟩:=box_cells y
  have y3:=row_free y
  have hbel:Below w.heap.size w w1:=hXb.trans (hb1.mono (by omega))
  clear y hX1 e0 e1 e2
  go_wp2_with fail
  refine bodyPost_ret (v:=.agg #[.int .i64 t.K,.int .i64 t.N,.slice ao2 len2 cap2]) (by simp [results,Try.results91,go_sem,y0,y1,y2]) rfl ⟨ao2,len2,cap2,rfl,?_,?_⟩
  · exact set3_below hbel (by omega)
  · refine (ho.keep (fun j hj _=>?_) (by omega) (by simp)).deeper (by omega)
    rw [row_other _ _ _ (by omega),row_other _ _ _ (by omega),row_other _ _ _ (by omega)]
set_option maxRecDepth 100000 in
set_option maxHeartbeats 2000000 in
theorem lq_succ (l:Nat) (IH:SaidLq l):SaidLq (l+1):=by
  intro d d2 L B L2 B2 k n ao len capA ts sao slen scap σ m w hB hs hB2 hs2 hm hc
  by_cases hk:k=3∧n.toNat < slen
  · exact lq_var l d d2 L B L2 B2 k n ao len capA ts sao slen scap σ m w hB hs hB2 hs2 hm hc hk.1 hk.2
  obtain ⟨hok,hparts⟩:=nodesW_inv hm
  have hlen:len=ts.length:=hs.len.1
  have hlen2:len≤2:=by rw [hlen];exact nodeOk_len hok
  have hsl:slen=σ.length:=hs2.len.1
  have hsm:=hs2.len.2
  have hput:putV σ (l+1) ⟨k,n,ts⟩=⟨k,n,ts.map (putV σ l)⟩:=by simp only [putV];rw [if_neg (by rw [← hsl];exact hk)]
  have hgo:(k == 3)=false∨((k == 3)=true∧¬ n < slen):=by
    by_cases h3:k=3
    · have:=var0_of hok h3
      exact Or.inr ⟨by simp [h3],fun e=>hk ⟨h3,by omega⟩⟩
    · exact Or.inl (by simp [h3])
  clear hsl
  rw [hput]
  have HP:Hid (∀ j (hj:j < ts.length),∃ a,nodesW l ts[j]=some a):=hparts
  have HL:Hid (len=ts.length):=hlen
  obtain ⟨R,hRR⟩:∃ R,R=ts.map (putV σ l):=⟨_,rfl⟩
  rw [← hRR]
  have HRl:Hid (R.length=ts.length):=by show _=_;rw [hRR];simp
  have HRg:Hid (∀ i (h:i < R.length) (h':i < ts.length),R[i]=putV σ l ts[i]):=by intro i h h';subst hRR;simp
  clear hRR hput hk hm hparts hok hlen
  obtain ⟨X,hX⟩:∃ X,X=(((w.alloc (.cells #[.int .i64 k,.int .i64 n,.slice ao len capA] 26)).alloc (.cells #[.int .i64 0,.int .i64 0,.slice none 0 0] 26)).alloc (.cells #[.int .i64 k,.int .i64 n,.slice none 0 0] 26)):=⟨_,rfl⟩
  have hXs:X.heap.size=w.heap.size+3:=by rw [hX];simp
  have hXb:Below w.heap.size w X:=by rw [hX];exact (((Below.refl _ _).alloc (Nat.le_refl _) _).alloc (by simp) _).alloc (by simp;omega) _
  have hX0:X.heap[w.heap.size]?=some (.cells #[.int .i64 k,.int .i64 n,.slice ao len capA] 26 (0,0)):=by rw [hX,Below.heap_alloc _ _ _ (by simp only [World.size_alloc];omega),Below.heap_alloc _ _ _ (by simp only [World.size_alloc];omega)];exact heap_new rfl
  have hX2:X.heap[w.heap.size+1+1]?=some (.cells #[.int .i64 k,.int .i64 n,.slice none 0 0] 26 (0,0)):=by rw [hX];exact heap_new (by simp)
  have hX1:X.heap[w.heap.size+1]?=some (.cells #[.int .i64 0,.int .i64 0,.slice none 0 0] 26 (0,0)):=by rw [hX,Below.heap_alloc _ _ _ (by simp only [World.size_alloc];omega)];exact heap_new (by simp)
  have HX:Hid (X=_):=hX
  have hStart:LcRel w X (l+d2) 0 #[.int .i64 k,.int .i64 n,.slice ao len capA] #[] (.slice none 0 0) k n w.heap.size (w.heap.size+1+1) R:=⟨hXb,hX0,hX2,ap_nil _ _ _ _⟩
  have HX1:Hid (_=_):=hX1
  clear hX hX0 hX1 hX2
  rcases hgo with hk3 | ⟨hk3,hk4⟩
  all_goals
    go_enter Try.func91,Try.ntmps91
    go_wp2_with fail
    rw [← HX.out]
    clear hk3
    try clear hk4
    go_loopw [6] (fun i wr=>∃ (j:Nat) (v:Value),j≤len∧i=.int .i64 j∧Below (w.heap.size+1+1) X wr∧LcRel w wr (l+d2) j #[.int .i64 k,.int .i64 n,.slice ao len capA] #[] v k n w.heap.size (w.heap.size+1+1) R) (fun i _=>len - (intOf i).toNat)
    case atStart=>exact ⟨0,_,by omega,rfl,Below.refl _ _,hStart⟩
    case round =>
      obtain ⟨j,v,hj,rfl,hbX,hR⟩:=hrel
      have hbel:=hR.bel
      have hszr:w.heap.size+3≤wr.heap.size:=by have:=hbX.size;omega
      obtain ⟨x0,x1,x2⟩:=box_cells hR.hbox
      obtain ⟨y0,y1,y2⟩:=box_cells hR.hout
      clear x0 x1
      by_cases hlt:j < len
      · have hlt':j < ts.length:=by have:=HL.out;omega
        have hltR:j < R.length:=by have:=HRl.out;omega
        obtain ⟨b,o,rfl,_,hbB,ao1,len1,cap1,c0,c1,c2,hs1⟩:=hs.get j hlt'
        have e0:=(bcell hbel (by omega) _).trans c0
        have e1:=(bcell hbel (by omega) _).trans c1
        have e2:=(bcell hbel (by omega) _).trans c2
        have hs3:=(hs1.below hbel hB).drew
        have hs4:=(hs2.below hbel hB2).drew
        have hapd:ApRel (w.heap.size+1+1+1) wr.drew (l+d2) v j R:=ap_below hR.ap (Below.refl _ _).drew
        obtain ⟨a,ha⟩:=HP.out j hlt'
        have HA:Hid (nodesW l ⟨ts[j].K,ts[j].N,ts[j].A⟩=some a):=by show _=_;rw [tr_eta];exact ha
        have HRj:Hid (putV σ l ⟨ts[j].K,ts[j].N,ts[j].A⟩=R[j]):=by show _=_;rw [tr_eta];exact (HRg.out j hltR hlt').symm
        have APR:Hid (∀ (w1:World) (ao3:Option Addr) (len3 cap3:Nat),Below wr.drew.heap.size wr.drew w1→OwR wr.drew.heap.size w1.heap.size w1 (l+d2) ao3 len3 R[j].A→∃ g cap w2,(Builtin.append_ #[24,24] 24 #[v,.slice (some ⟨w1.heap.size,0,none⟩) 1 1]).run Try.prog (w1.alloc (.cells #[.int .i64 R[j].K,.int .i64 R[j].N,.slice ao3 len3 cap3] 26))=.ok (.slice (some ⟨g,0,none⟩) (j+1) cap) w2 ∧
            LcRel w (w2.setCell ⟨w.heap.size+1+1,2,none⟩ (.slice (some ⟨g,0,none⟩) (j+1) cap)) (l+d2) (j+1) #[.int .i64 k,.int .i64 n,.slice (some ⟨b,o,none⟩) len capA] #[] (.slice (some ⟨g,0,none⟩) (j+1) cap) k n w.heap.size (w.heap.size+1+1) R∧Below (w.heap.size+1+1) X (w2.setCell ⟨w.heap.size+1+1,2,none⟩ (.slice (some ⟨g,0,none⟩) (j+1) cap)) ∧
            w2.cell? ⟨w.heap.size+1+1,2,none⟩=some v∧w2.frozen? ⟨w.heap.size+1+1,2,none⟩=false):=by
          intro w1 ao3 len3 cap3 hb1 ho1
          obtain ⟨g,cp,w2,hrun,hap2,hbe2⟩:=ap_run hapd hltR (by have:=HL.out;have:=HRl.out;omega) hb1 (show w.heap.size+1+1+1≤wr.heap.size by omega) ho1
          have hbe3:Below (w.heap.size+1+1+1) wr w2:=(Below.refl _ _).drew.trans hbe2
          have q:=(hbe3.block (w.heap.size+1+1) (by omega)).trans hR.hout
          refine ⟨g,cp,w2,hrun,⟨(hbel.trans (hbe3.mono (by omega))).setCell (p:=⟨w.heap.size+1+1,2,none⟩) (show w.heap.size≤w.heap.size+1+1 by omega) _,?_,?_,ap_set hap2 (by omega) _⟩,(hbX.trans (hbe3.mono (by omega))).setCell (p:=⟨w.heap.size+1+1,2,none⟩) (Nat.le_refl _) _,(box_cells q).2.2,row_free q 2⟩
          · rw [row_other _ _ _ (by omega)]
            exact (hbe3.block w.heap.size (by omega)).trans hR.hbox
          · rw [row_set q]
            rfl
        clear c0 c1 c2 ha
        go_wp2_with fail
        go_region_law (first | (refine step_run hrun (by rfl) _ _ (by rfl) (by rfl) (by rfl) (by rfl) ?_) | (go_simp;go_at_call 91;refine (IH _ d2 L B L2 B2 _ _ _ _ _ (ts[j]'hlt').A _ _ _ σ a _ ?_ hs3 ?_ hs4 HA.out hc).mono ?_;(show B≤wr.heap.size;omega);(show B2≤wr.heap.size;omega);rw [HRj.out];rintro e w1 ⟨ao3,len3,cap3,rfl,hb1,ho1⟩;have hz1:w.heap.size+1+1 < w1.heap.size:=Nat.lt_of_lt_of_le (show w.heap.size+1+1 < wr.heap.size by omega) hb1.size;have a2:=(bcell hb1 (show w.heap.size+1+1 < wr.heap.size by omega) 2).trans y2;have a3:(w1.alloc (.cells #[.int .i64 (R[j]'hltR).K,.int .i64 (R[j]'hltR).N,.slice ao3 len3 cap3] 26)).cell? ⟨w.heap.size+1+1,2,none⟩=some v:=(World.cell?_of_block (Below.heap_alloc _ _ _ hz1)).trans a2;obtain ⟨g,cp,w2,hrun,hN,hbX2,q2,q3⟩:=APR.out w1 ao3 len3 cap3 hb1 ho1))
        all_goals
          clear e0 e1 e2 y0 y1 y2 x2 a2 a3 hrun q2 q3
          go_wp2_with fail
          go_roundw
          case rel=>exact ⟨j+1,_,by omega,by go_num,hbX2,hN⟩
          case measure=>simp [intOf];omega
      · obtain ⟨ao2,cap2,rfl,ho2⟩:=ap_done hR.ap (by have:=HL.out;have:=HRl.out;omega) (by omega)
        have r:=(hbX.block (w.heap.size+1) (by omega)).trans HX1.out
        obtain ⟨r0,r1,r2⟩:=box_cells r
        have r3:=row_free r
        clear r
        go_wp2_with fail
        obtain rfl:j=len:=by omega
        refine bodyPost_ret (v:=.agg #[.int .i64 k,.int .i64 n,.slice ao2 j cap2]) (by simp [results,Try.results91,go_sem,r0,r1,r2]) rfl ⟨ao2,j,cap2,rfl,?_,?_⟩
        · exact set3_below hbel (by omega)
        · refine (ho2.keep (fun q hq _=>?_) (by omega) (by simp)).deeper (by omega)
          rw [row_other _ _ _ (by omega),row_other _ _ _ (by omega),row_other _ _ _ (by omega)]
theorem lq_any:∀ l,SaidLq l:=by
  intro l
  induction l with
  | zero=>intro d d2 L B L2 B2 k n ao len cap ts sao slen scap σ m w hB hs hB2 hs2 hm;simp [nodesW] at hm
  | succ l ih=>exact lq_succ l ih
end Go.Proofs.Ytleghjgpnefliaa

/-
  What l1Put answers is right node by node where all that is put is. No walk.
-/
namespace Go.Proofs.Ytleghjgpnefliaa
open Go.RowKit
set_option linter.unusedVariables false
theorem nodesW_putV {σ:List Tr} {k:Nat} (hσ:∀ s ∈ σ,∃ m,nodesW k s=some m):∀ (l:Nat) (t:Tr) (m:Nat),nodesW l t=some m→∃ m',nodesW (l+k) (putV σ l t)=some m'
  | 0,t,m,h=>by simp [nodesW] at h
  | l+1,t,m,h=>by
    obtain ⟨hok,hp⟩:=nodesW_inv (k:=t.K) (n:=t.N) (ts:=t.A) (m:=m) (by rw [tr_eta];exact h)
    rw [putV]
    by_cases hv:t.K=3∧t.N.toNat < σ.length
    · rw [if_pos hv,List.getD_eq_getElem?_getD,List.getElem?_eq_getElem hv.2,Option.getD_some]
      obtain ⟨a,ha⟩:=hσ _ (List.getElem_mem hv.2)
      exact ⟨a,nodesW_le (by omega) ha⟩
    · rw [if_neg hv,show l+1+k=(l+k)+1 by omega]
      refine nodesW_mk (by rw [List.length_map];exact hok) fun u hu=>?_
      obtain ⟨x,hx,rfl⟩:=List.mem_map.1 hu
      obtain ⟨j,hj,rfl⟩:=List.mem_iff_getElem.1 hx
      obtain ⟨a,ha⟩:=hp j hj
      exact nodesW_putV hσ l _ a ha
end Go.Proofs.Ytleghjgpnefliaa

/-
  What the model's 'l3Name' comes to: the type of a name, right node by node, and 0; or nothing and another code.
-/
namespace Go.Proofs.Ytleghjgpnefliaa
open Go.RowKit
set_option linter.unusedVariables false
set_option linter.unusedSimpArgs false
theorem fndK_bd (es:List Ev) (s:ByteArray):∀ k,fndK es s k=-1∨∃ j:Nat,j < es.length∧j < k∧fndK es s k=(j:Int)
  | 0=>Or.inl rfl
  | k+1=>by
    rw [fndK]
    split
    · split
      · exact Or.inr ⟨k,by assumption,by omega,rfl⟩
      · rcases fndK_bd es s k with h | ⟨j,h1,h2,h3⟩
        · exact Or.inl h
        · exact Or.inr ⟨j,h1,by omega,h3⟩
    · rcases fndK_bd es s k with h | ⟨j,h1,h2,h3⟩
      · exact Or.inl h
      · exact Or.inr ⟨j,h1,by omega,h3⟩
theorem set3_box {W:World} {r:Nat} {c0 c1 c2:Value} {t:TypeId} {fr:Nat × Nat} (h:W.heap[r]?=some (.cells #[c0,c1,c2] t fr)) (a0 a1 a2:Value) :
    (((W.setCell ⟨r,0,none⟩ a0).setCell ⟨r,1,none⟩ a1).setCell ⟨r,2,none⟩ a2).heap[r]?=some (.cells #[a0,a1,a2] t fr):=by
  have e0:(W.setCell ⟨r,0,none⟩ a0).heap[r]?=some (.cells #[a0,c1,c2] t fr):=by rw [row_set h];rfl
  have e1:((W.setCell ⟨r,0,none⟩ a0).setCell ⟨r,1,none⟩ a1).heap[r]?=some (.cells #[a0,a1,c2] t fr):=by rw [row_set e0];rfl
  rw [row_set e1];rfl
def CkR (p:Nat) (e:Ending) (w':World):Prop:=∃ (ao:Option Addr) (len cap:Nat) (u:Tr) (code:Int),e=.returned (.tuple #[.agg #[.int .i64 u.K,.int .i64 u.N,.slice ao len cap],.int .i64 code])∧Hs (p+1) w'.heap.size w' 14 ao len u.A∧(code=0→∃ m,nodesW 6 u=some m)
theorem CkR.bad (p:Nat) (w':World) (c:Int) (hc:c≠0):CkR p (.returned (.tuple #[.agg #[.int .i64 0,.int .i64 0,.slice none 0 0],.int .i64 c])) w':=⟨none,0,0,⟨0,0,[]⟩,c,rfl,Hs.nil _ _ _ _ _,fun h=>absurd h hc⟩
end Go.Proofs.Ytleghjgpnefliaa
