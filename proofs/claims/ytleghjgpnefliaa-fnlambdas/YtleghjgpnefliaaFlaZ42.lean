/-
  What the model's 'l3Spine' comes to, however much is left to bind: no walk.
-/
import Derived.Test.YtleghjgpnefliaaFlaDs2
import Derived.Test.YtleghjgpnefliaaFlaDl
import Derived.Test.YtleghjgpnefliaaFlaZ2
import Derived.Test.YtleghjgpnefliaaFlaZ40
import Derived.Test.YtleghjgpnefliaaFlaZ3
import Derived.Test.YtleghjgpnefliaaFlaZ12
namespace Go.Proofs.Ytleghjgpnefliaa
open Go.RowKit
theorem spine_any:∀ left,left≤4→SaidSpine left:=by
  intro left
  induction left with
  | zero=>intro _;exact spine_zero
  | succ left ih=>intro h;exact spine_step left (by omega) (ih (by omega))
end Go.Proofs.Ytleghjgpnefliaa

/-
  What the model's 'l3Leaf' comes to with no names around it, at the three types a program may have: a term that is right.
-/
namespace Go.Proofs.Ytleghjgpnefliaa
open Go.RowKit
set_option linter.unusedVariables false
set_option linter.unusedSimpArgs false
def Wnt (t:Tr):Prop:=t=⟨1,0,[]⟩∨t=⟨2,0,[]⟩∨t=⟨6,0,[⟨1,0,[]⟩]⟩
theorem okM_num {z:Int} (h:z ∈ [0,1,2,5,-3,(1000000:Int)]):okM ⟨1,z,⟨#[]⟩,⟨#[]⟩,⟨0,0,[]⟩,[],[]⟩=true:=by
  simp at h
  rcases h with rfl | rfl | rfl | rfl | rfl | rfl <;> kernel_rfl
theorem okM_b0:okM ⟨2,0,⟨#[]⟩,⟨#[]⟩,⟨0,0,[]⟩,[],[]⟩=true:=by kernel_rfl
theorem okM_b1:okM ⟨2,1,⟨#[]⟩,⟨#[]⟩,⟨0,0,[]⟩,[],[]⟩=true:=by kernel_rfl
theorem okM_bool {z:Int} (h0:0≤z) (h1:z < 2):okM ⟨2,z,⟨#[]⟩,⟨#[]⟩,⟨0,0,[]⟩,[],[]⟩=true:=by
  have:z=0∨z=1:=by omega
  rcases this with h | h
  · rw [h];exact okM_b0
  · rw [h];exact okM_b1
theorem okM_nil:okM ⟨12,0,⟨#[]⟩,⟨#[]⟩,⟨1,0,[]⟩,[],[]⟩=true:=by kernel_rfl
set_option maxRecDepth 100000 in
set_option maxHeartbeats 4000000 in
theorem leaf0_int (p:Nat) (cao:Option Addr) (clen ccap:Nat) (ao:Option Addr) (len cap:Nat) (ae:Option Addr) (ce:Nat) (w:World) (hc:Cur w p cao clen ccap) (hs:Hs (p+1) w.heap.size w 3 ao len []) :
    Calls Try.prog 41 #[.pointer (some ⟨p,0,none⟩),.agg #[.int .i64 1,.int .i64 0,.slice ao len cap],.slice ae 0 ce] w fun e w'=>∃ rv tm,e=.returned rv∧TmV w' w.heap.size 14 2 rv tm∧okM tm=true∧Drw w w' p cao clen ccap:=by
  have hp:=hc.lt
  obtain ⟨X,hX⟩:∃ X,X=(w.alloc (.cells #[.int .i64 1,.int .i64 0,.slice ao len cap] 26)).alloc (.cells #[.int .i64 0,.int .i64 0,.string ⟨#[]⟩,.string ⟨#[]⟩,.int .i64 0,.int .i64 0,.slice none 0 0,.slice none 0 0,.slice none 0 0] 29):=⟨_,rfl⟩
  have hXs:X.heap.size=w.heap.size+2:=by rw [hX];simp
  have hXb:Below w.heap.size w X:=by rw [hX];exact ((Below.refl _ _).alloc (Nat.le_refl _) _).alloc (by simp) _
  have hX0:X.heap[w.heap.size]?=some (.cells #[.int .i64 1,.int .i64 0,.slice ao len cap] 26 (0,0)):=by rw [hX,Below.heap_alloc _ _ _ (by simp)];exact heap_new rfl
  have hX1:X.heap[w.heap.size+1]?=some (.cells #[.int .i64 0,.int .i64 0,.string ⟨#[]⟩,.string ⟨#[]⟩,.int .i64 0,.int .i64 0,.slice none 0 0,.slice none 0 0,.slice none 0 0] 29 (0,0)):=by rw [hX];exact heap_new (by simp)
  have hcX:=hc.below hXb
  have hgX:w.grownBy X (some p):=grown_below _ hXb
  have HX:Hid (X=_):=hX
  have hsX:Hs (p+1) X.heap.size X 3 ao len []:=hs_up hs hXb
  have HR:Hid (∀ W:World,X.grownBy W (some p)→W.heap[w.heap.size+1]?=some (.cells #[.int .i64 0,.int .i64 0,.string ⟨#[]⟩,.string ⟨#[]⟩,.int .i64 0,.int .i64 0,.slice none 0 0,.slice none 0 0,.slice none 0 0] 29 (0,0))):=fun W hg=>(hg.block _ (by omega) (by simp;omega)).trans hX1
  have HDr:Hid (∀ W:World,X.grownBy W (some p)→Cur W p cao clen ccap→Drw w W p cao clen ccap):=fun W hg hcu=>⟨grown_trans' hgX hg,hcu⟩
  have hrp:w.heap.size+1 < X.heap.size:=by omega
  obtain ⟨x0,x1,x2⟩:=box_cells hX0
  clear hX hXs
  have hba:Below X.heap.size X (X.alloc (.cells #[.int .i64 0,.int .i64 1,.int .i64 2,.int .i64 5,.int .i64 (-3),.int .i64 1000000] 3)):=(Below.refl _ _).alloc (Nat.le_refl _) _
  go_enter Try.func41,Try.ntmps41
  go_wp2_with fail
  rw [← HX.out]
  go_loopw [7] (fun i wr=>i=.int .i64 (-1)∧wr=X) (fun i _=>0)
  case atStart=>exact ⟨rfl,rfl⟩
  case round =>
    obtain ⟨rfl,rfl⟩:=hrel
    go_wp2_with fail
    refine (l1Int_any p cao clen ccap wr.heap.size 6 6 [0,1,2,5,-3,1000000] _ (hcX.below hba) (heap_new rfl) (by omega) rfl (by omega) (by omega)).mono ?_
    rintro e w1 ⟨z,rfl,hz,hD1⟩
    have g1:wr.grownBy w1 (some p):=grown_trans' (grown_below _ hba) hD1.grown
    have HZ:Hid (z ∈ [0,1,2,5,-3,(1000000:Int)]):=hz
    clear hz
    go_wp2_with fail
    refine (l3N_any w1.heap.size 14 2 z w1).mono ?_
    rintro e w2 ⟨rv,rfl,⟨q1,q2,q3,q4,q5,q6,q7,q8,q9,rfl,hF⟩,hb2⟩
    have g2:wr.grownBy w2 (some p):=grown_trans' g1 (grown_below _ hb2)
    have r2:=HR.out w2 g2
    have hz2:=g1.size
    obtain ⟨y0,y1,y2,y3,y4,y5,y6,y7,y8⟩:=Nine.box r2
    have yf:=row_free r2
    go_wp2_with fail
    have fin:=fin_term (w:=w) (r:=w.heap.size+1) (c1:=q3) (c2:=q6) (c3:=q9) hF (by omega) (by omega) hp (HDr.out w2 g2 (hD1.cur.below hb2))
    exact bodyPost_ret (v:=.agg #[.int .i64 1,.int .i64 z,.string ⟨#[]⟩,.string ⟨#[]⟩,.int .i64 0,.int .i64 0,.slice q1 q2 q3,.slice q4 q5 q6,.slice q7 q8 q9]) (by simp [results,Try.results41,go_sem,y0,y1,y2,y3,y4,y5,y6,y7,y8]) rfl ⟨_,_,rfl,fin.1,okM_num HZ.out,fin.2⟩
set_option maxRecDepth 100000 in
set_option maxHeartbeats 4000000 in
theorem leaf0_bool (p:Nat) (cao:Option Addr) (clen ccap:Nat) (ao:Option Addr) (len cap:Nat) (ae:Option Addr) (ce:Nat) (w:World) (hc:Cur w p cao clen ccap) (hs:Hs (p+1) w.heap.size w 3 ao len []) :
    Calls Try.prog 41 #[.pointer (some ⟨p,0,none⟩),.agg #[.int .i64 2,.int .i64 0,.slice ao len cap],.slice ae 0 ce] w fun e w'=>∃ rv tm,e=.returned rv∧TmV w' w.heap.size 14 2 rv tm∧okM tm=true∧Drw w w' p cao clen ccap:=by
  have hp:=hc.lt
  obtain ⟨X,hX⟩:∃ X,X=(w.alloc (.cells #[.int .i64 2,.int .i64 0,.slice ao len cap] 26)).alloc (.cells #[.int .i64 0,.int .i64 0,.string ⟨#[]⟩,.string ⟨#[]⟩,.int .i64 0,.int .i64 0,.slice none 0 0,.slice none 0 0,.slice none 0 0] 29):=⟨_,rfl⟩
  have hXs:X.heap.size=w.heap.size+2:=by rw [hX];simp
  have hXb:Below w.heap.size w X:=by rw [hX];exact ((Below.refl _ _).alloc (Nat.le_refl _) _).alloc (by simp) _
  have hX0:X.heap[w.heap.size]?=some (.cells #[.int .i64 2,.int .i64 0,.slice ao len cap] 26 (0,0)):=by rw [hX,Below.heap_alloc _ _ _ (by simp)];exact heap_new rfl
  have hX1:X.heap[w.heap.size+1]?=some (.cells #[.int .i64 0,.int .i64 0,.string ⟨#[]⟩,.string ⟨#[]⟩,.int .i64 0,.int .i64 0,.slice none 0 0,.slice none 0 0,.slice none 0 0] 29 (0,0)):=by rw [hX];exact heap_new (by simp)
  have hcX:=hc.below hXb
  have hgX:w.grownBy X (some p):=grown_below _ hXb
  have HX:Hid (X=_):=hX
  have hsX:Hs (p+1) X.heap.size X 3 ao len []:=hs_up hs hXb
  have HR:Hid (∀ W:World,X.grownBy W (some p)→W.heap[w.heap.size+1]?=some (.cells #[.int .i64 0,.int .i64 0,.string ⟨#[]⟩,.string ⟨#[]⟩,.int .i64 0,.int .i64 0,.slice none 0 0,.slice none 0 0,.slice none 0 0] 29 (0,0))):=fun W hg=>(hg.block _ (by omega) (by simp;omega)).trans hX1
  have HDr:Hid (∀ W:World,X.grownBy W (some p)→Cur W p cao clen ccap→Drw w W p cao clen ccap):=fun W hg hcu=>⟨grown_trans' hgX hg,hcu⟩
  have hrp:w.heap.size+1 < X.heap.size:=by omega
  obtain ⟨x0,x1,x2⟩:=box_cells hX0
  clear hX hXs
  go_enter Try.func41,Try.ntmps41
  go_wp2_with fail
  rw [← HX.out]
  go_loopw [7] (fun i wr=>i=.int .i64 (-1)∧wr=X) (fun i _=>0)
  case atStart=>exact ⟨rfl,rfl⟩
  case round =>
    obtain ⟨rfl,rfl⟩:=hrel
    go_wp2_with fail
    refine (l1Below_any p cao clen ccap 2 _ hcX (by omega) (by omega)).mono ?_
    rintro e w2 ⟨z,rfl,hz0,hz1,hD1⟩
    have r2:=HR.out w2 hD1.grown
    have hz2:=hD1.grown.size
    obtain ⟨y0,y1,y2,y3,y4,y5,y6,y7,y8⟩:=Nine.box r2
    have yf:=row_free r2
    have HZ:Hid (0≤z∧z < 2):=⟨hz0,hz1⟩
    go_wp2_with fail
    have hF:Fm w2.heap.size w2.heap.size w2 14 2 ⟨2,z,⟨#[]⟩,⟨#[]⟩,⟨0,0,[]⟩,[],[]⟩ none 0 none 0 none 0:=⟨Nat.zero_le _,Nat.zero_le _,Hs.nil _ _ _ _ _,Hs.nil _ _ _ _ _,Hm.nil _ _ _ _ _ _⟩
    have fin:=fin_term (w:=w) (r:=w.heap.size+1) (c1:=0) (c2:=0) (c3:=0) hF (by omega) (by omega) hp (HDr.out w2 hD1.grown hD1.cur)
    exact bodyPost_ret (v:=.agg #[.int .i64 2,.int .i64 z,.string ⟨#[]⟩,.string ⟨#[]⟩,.int .i64 0,.int .i64 0,.slice none 0 0,.slice none 0 0,.slice none 0 0]) (by simp [results,Try.results41,go_sem,y0,y1,y2,y3,y4,y5,y6,y7,y8]) rfl ⟨_,_,rfl,fin.1,okM_bool HZ.out.1 HZ.out.2,fin.2⟩
set_option maxRecDepth 100000 in
set_option maxHeartbeats 4000000 in
theorem leaf0_list (p:Nat) (cao:Option Addr) (clen ccap:Nat) (ao:Option Addr) (len cap:Nat) (ae:Option Addr) (ce:Nat) (w:World) (hc:Cur w p cao clen ccap) (hs:Hs (p+1) w.heap.size w 3 ao len [⟨1,0,[]⟩]) :
    Calls Try.prog 41 #[.pointer (some ⟨p,0,none⟩),.agg #[.int .i64 6,.int .i64 0,.slice ao len cap],.slice ae 0 ce] w fun e w'=>∃ rv tm,e=.returned rv∧TmV w' w.heap.size 14 2 rv tm∧okM tm=true∧Drw w w' p cao clen ccap:=by
  have hp:=hc.lt
  obtain ⟨X,hX⟩:∃ X,X=(w.alloc (.cells #[.int .i64 6,.int .i64 0,.slice ao len cap] 26)).alloc (.cells #[.int .i64 0,.int .i64 0,.string ⟨#[]⟩,.string ⟨#[]⟩,.int .i64 0,.int .i64 0,.slice none 0 0,.slice none 0 0,.slice none 0 0] 29):=⟨_,rfl⟩
  have hXs:X.heap.size=w.heap.size+2:=by rw [hX];simp
  have hXb:Below w.heap.size w X:=by rw [hX];exact ((Below.refl _ _).alloc (Nat.le_refl _) _).alloc (by simp) _
  have hX0:X.heap[w.heap.size]?=some (.cells #[.int .i64 6,.int .i64 0,.slice ao len cap] 26 (0,0)):=by rw [hX,Below.heap_alloc _ _ _ (by simp)];exact heap_new rfl
  have hX1:X.heap[w.heap.size+1]?=some (.cells #[.int .i64 0,.int .i64 0,.string ⟨#[]⟩,.string ⟨#[]⟩,.int .i64 0,.int .i64 0,.slice none 0 0,.slice none 0 0,.slice none 0 0] 29 (0,0)):=by rw [hX];exact heap_new (by simp)
  have hcX:=hc.below hXb
  have hgX:w.grownBy X (some p):=grown_below _ hXb
  have HX:Hid (X=_):=hX
  have hsX:Hs (p+1) X.heap.size X 3 ao len [⟨1,0,[]⟩]:=hs_up hs hXb
  have HR:Hid (∀ W:World,X.grownBy W (some p)→W.heap[w.heap.size+1]?=some (.cells #[.int .i64 0,.int .i64 0,.string ⟨#[]⟩,.string ⟨#[]⟩,.int .i64 0,.int .i64 0,.slice none 0 0,.slice none 0 0,.slice none 0 0] 29 (0,0))):=fun W hg=>(hg.block _ (by omega) (by simp;omega)).trans hX1
  have HDr:Hid (∀ W:World,X.grownBy W (some p)→Cur W p cao clen ccap→Drw w W p cao clen ccap):=fun W hg hcu=>⟨grown_trans' hgX hg,hcu⟩
  have hrp:w.heap.size+1 < X.heap.size:=by omega
  obtain ⟨x0,x1,x2⟩:=box_cells hX0
  clear hX hXs
  obtain rfl:len=1:=hsX.len.1
  obtain ⟨b,o,rfl,hb1,hb2,f1,m1,g1,z0,z1,z2,hp0⟩:=hsX.get 0 (by simp)
  rw [Nat.zero_mul,Nat.add_zero] at z0 z1 z2
  simp only [List.getElem_cons_zero] at z0 z1 z2 hp0
  go_enter Try.func41,Try.ntmps41
  go_wp2_with fail
  rw [← HX.out]
  go_loopw [7] (fun i wr=>i=.int .i64 (-1)∧wr=X) (fun i _=>0)
  case atStart=>exact ⟨rfl,rfl⟩
  case round =>
    obtain ⟨rfl,rfl⟩:=hrel
    go_wp2_with fail
    refine (lc_any 2 _ _ 1 0 f1 m1 g1 [] wr (Nat.le_refl _) hp0 (by simp [cntS])).mono ?_
    rintro e w2 ⟨ao2,len2,cap2,rfl,hb3,ho1⟩
    have g2:wr.grownBy w2 (some p):=grown_below _ hb3
    have r2:=HR.out w2 g2
    have hz2:=hb3.size
    obtain ⟨y0,y1,y2,y3,y4,y5,y6,y7,y8⟩:=Nine.box r2
    have yf:=row_free r2
    go_wp2_with fail
    have hF:Fm wr.heap.size w2.heap.size w2 14 2 ⟨12,0,⟨#[]⟩,⟨#[]⟩,⟨1,0,[]⟩,[],[]⟩ ao2 len2 none 0 none 0:=⟨Nat.zero_le _,Nat.zero_le _,ho1.hs.deeper (by omega),Hs.nil _ _ _ _ _,Hm.nil _ _ _ _ _ _⟩
    have fin:=fin_term (w:=w) (r:=w.heap.size+1) (c1:=cap2) (c2:=0) (c3:=0) hF (by omega) (by omega) hp (HDr.out w2 g2 (hcX.below hb3))
    exact bodyPost_ret (v:=.agg #[.int .i64 12,.int .i64 0,.string ⟨#[]⟩,.string ⟨#[]⟩,.int .i64 1,.int .i64 0,.slice ao2 len2 cap2,.slice none 0 0,.slice none 0 0]) (by simp [results,Try.results41,go_sem,y0,y1,y2,y3,y4,y5,y6,y7,y8]) rfl ⟨_,_,rfl,fin.1,okM_nil,fin.2⟩
theorem leaf0 (p:Nat) (cao:Option Addr) (clen ccap:Nat) (t:Tr) (ao:Option Addr) (len cap:Nat) (ae:Option Addr) (ce:Nat) (w:World) (hw:Wnt t) (hc:Cur w p cao clen ccap) (hs:Hs (p+1) w.heap.size w 3 ao len t.A) :
    Calls Try.prog 41 #[.pointer (some ⟨p,0,none⟩),.agg #[.int .i64 t.K,.int .i64 t.N,.slice ao len cap],.slice ae 0 ce] w fun e w'=>∃ rv tm,e=.returned rv∧TmV w' w.heap.size 14 2 rv tm∧okM tm=true∧Drw w w' p cao clen ccap:=by
  rcases hw with rfl | rfl | rfl
  · exact leaf0_int p cao clen ccap ao len cap ae ce w hc hs
  · exact leaf0_bool p cao clen ccap ao len cap ae ce w hc hs
  · exact leaf0_list p cao clen ccap ao len cap ae ce w hc hs
end Go.Proofs.Ytleghjgpnefliaa

/-
  What the model's 'l3Draw' comes to: a term that is right, in new memory; the cursor is moved on.
-/
namespace Go.Proofs.Ytleghjgpnefliaa
open Go.RowKit
set_option linter.unusedVariables false
set_option linter.unusedSimpArgs false
structure Gp (wr:World) (p:Nat) (cao:Option Addr) (clen ccap:Nat) (W:World):Prop where
  g:wr.grownBy W (some p)
  c:Cur W p cao clen ccap
theorem Gp.alloc {wr W:World} {p:Nat} {cao:Option Addr} {clen ccap:Nat} (h:Gp wr p cao clen ccap W) (o:Obj):Gp wr p cao clen ccap (W.alloc o):=⟨grown_trans' h.g (grown_below _ ((Below.refl _ _).alloc (Nat.le_refl _) _)),h.c.below ((Below.refl _ _).alloc (Nat.le_refl _) _)⟩
theorem Gp.below {wr W W':World} {p:Nat} {cao:Option Addr} {clen ccap:Nat} (h:Gp wr p cao clen ccap W) (hb:Below W.heap.size W W'):Gp wr p cao clen ccap W':=⟨grown_trans' h.g (grown_below _ hb),h.c.below hb⟩
theorem Gp.drw {wr W W':World} {p:Nat} {cao:Option Addr} {clen ccap:Nat} (h:Gp wr p cao clen ccap W) (hD:Drw W W' p cao clen ccap):Gp wr p cao clen ccap W':=⟨grown_trans' h.g hD.grown,hD.cur⟩
theorem Gp.drew {wr W:World} {p:Nat} {cao:Option Addr} {clen ccap:Nat} (h:Gp wr p cao clen ccap W):Gp wr p cao clen ccap W.drew:=h.below ((Below.refl _ _).drew)
end Go.Proofs.Ytleghjgpnefliaa
