/-
  What the model's 'l1Ty' comes to: some tree, not too great, in new memory; the cursor is moved on.
-/
import Derived.Test.YtleghjgpnefliaaFnoZ4
import Derived.Test.YtleghjgpnefliaaFnoZ2
import Derived.Test.YtleghjgpnefliaaFnoZ1
import Derived.Test.YtleghjgpnefliaaFnoZ3
namespace Go.Proofs.Ytleghjgpnefliaa
open Go.RowKit
set_option linter.unusedVariables false
set_option linter.unusedSimpArgs false
def TyEnd (w w':World) (e:Ending) (p:Nat) (cao:Option Addr) (clen ccap D c:Nat):Prop :=
 ∃ K N ao len cap ts,e=.returned (.agg #[.int .i64 K,.int .i64 N,.slice ao len cap])∧Drw w w' p cao clen ccap∧OwR w.heap.size w'.heap.size w' D ao len ts∧cntS ts+1≤c
theorem cntS_snoc (us:List Tr) (t:Tr):cntS (us++[t])=cntS us+cnt t:=by simp [cntS]
def SaidTyD (dep:Nat):Prop:=∀ (p:Nat) (cao:Option Addr) (clen ccap:Nat) (w:World),Cur w p cao clen ccap →
    Calls Try.prog 50 #[.pointer (some ⟨p,0,none⟩),.int .i64 dep,.int .i64 2] w fun e w'=>TyEnd w w' e p cao clen ccap dep (4 ^ dep)
theorem Drw.set {w w':World} {p:Nat} {cao:Option Addr} {clen ccap:Nat} (h:Drw w w' p cao clen ccap) (hp:p<w.heap.size) {g o:Nat} (hg:w.heap.size≤g) (u:Value):Drw w (w'.setCell ⟨g,o,none⟩ u) p cao clen ccap :=
 ⟨⟨h.grown.os,h.grown.tape,h.grown.output,by simpa using h.grown.size,fun k hk hne=>(Qah _ _ _ (by omega)).trans (h.grown.block k hk hne)⟩,h.cur.keep fun k hk=>Qah _ _ _ (by omega)⟩
structure TyRel (w wr:World) (p:Nat) (cao:Option Addr) (clen ccap r d j:Nat) (k N:Int) (v:Value) (us:List Tr):Prop where
 drw:Drw w wr p cao clen ccap
 res:wr.heap[w.heap.size]?=some (.cells #[.int .i64 0,.int .i64 0,.slice none 0 0] 26 (0,0))
 out:wr.heap[r]?=some (.cells #[.int .i64 k,.int .i64 N,v] 26 (0,0))
 ap:Qbu (r+1) wr d v j us
 len:us.length=j
 cnt:cntS us≤j*4 ^ d
theorem tyrel_next {w wr w1:World} {p:Nat} {cao:Option Addr} {clen ccap r d j:Nat} {k N:Int} {v:Value} {us:List Tr} (h:TyRel w wr p cao clen ccap r d j k N v us) (hr:w.heap.size<r) (hp:p<w.heap.size) (hj:j<2)
 (hD:Drw wr w1 p cao clen ccap) {K3 N3:Int} {ao3:Option Addr} {len3 cap3:Nat} {ts3:List Tr} (ho:OwR wr.heap.size w1.heap.size w1 d ao3 len3 ts3) (hc:cntS ts3+1≤4 ^ d) :
 ∃ g cap w2,(Builtin.append_ #[24,24] 24 #[v,.slice (some ⟨w1.heap.size,0,none⟩) 1 1]).run Try.prog (w1.alloc (.cells #[.int .i64 K3,.int .i64 N3,.slice ao3 len3 cap3] 26))=.ok (.slice (some ⟨g,0,none⟩) (j+1) cap) w2 ∧
   w1.cell? ⟨r,2,none⟩=some v∧r<w1.heap.size∧w2.cell? ⟨r,2,none⟩=some v∧w2.frozen? ⟨r,2,none⟩=false ∧
   TyRel w (w2.setCell ⟨r,2,none⟩ (.slice (some ⟨g,0,none⟩) (j+1) cap)) p cao clen ccap r d (j+1) k N (.slice (some ⟨g,0,none⟩) (j+1) cap) (us++[⟨K3,N3,ts3⟩]):=by
 have hrl:r<wr.heap.size:=(Array.getElem?_eq_some_iff.1 h.out).1
 have hsm:Sm (r+1) wr w1:=Sm.grown hD.grown (by omega)
 have hap:=ap_more h.ap h.len.symm ⟨K3,N3,ts3⟩
 have e:(us++[(⟨K3,N3,ts3⟩:Tr)])[j]'(by simp [h.len])=⟨K3,N3,ts3⟩:=by simp [List.getElem_append_right,h.len]
 have hrun:=ap_run2 (ao1:=ao3) (len1:=len3) (cap1:=cap3) hap (by simp [h.len]) (by simp [h.len];omega) hsm (by omega) (by rw [e];exact ho)
 rw [e] at hrun
 obtain⟨g,cap,w2,hrun,hap2,hlo⟩:=hrun
 have o1:=(hD.grown.block r hrl (by simp;omega)).trans h.out
 have o2:=(hlo.block r (by omega)).trans o1
 have hsz1:=hD.grown.size
 have hsz0:=h.drw.grown.size
 refine⟨g,cap,w2,hrun,(Qaf o1).2.2,by omega,(Qaf o2).2.2,Qad o2 2,⟨⟨?_,?_⟩,?_,?_,Qdw hap2 (by omega) _,by simp [h.len],?_⟩⟩
 · refine⟨hlo.os.trans (hD.grown.os.trans h.drw.grown.os),hlo.tape.trans (hD.grown.tape.trans h.drw.grown.tape),hlo.output.trans (hD.grown.output.trans h.drw.grown.output),by simp;have:=hlo.size;omega,fun q hq hne=>?_⟩
   rw [Qah _ _ _ (by omega),hlo.block q (by omega),hD.grown.block q (by omega) hne]
   exact h.drw.grown.block q hq hne
 · exact hD.cur.keep fun q hq=>by rw [Qah _ _ _ (by omega)];exact hlo.block q (by omega)
 · rw [Qah _ _ _ (by omega),hlo.block _ (by omega)]
   exact (hD.grown.block _ (by omega) (by simp;omega)).trans h.res
 · rw [Qas o2]
   rfl
 · rw [cntS_snoc,Qdd]
   have:=h.cnt
   rw [Nat.add_mul]
   simp only at *
   omega
set_option maxRecDepth 100000 in
set_option maxHeartbeats 2000000 in
theorem ty_step (dep:Nat) (hd:dep≤30) (IH:1<dep->SaidTyD (dep - 1)):SaidTyD dep:=by
 intro p cao clen ccap w hc
 have hp:=hc.lt
 obtain⟨X,hX⟩:∃ X,X=(w.alloc (.cells #[.int .i64 0,.int .i64 0,.slice none 0 0] 26)).alloc (.cells #[.int .i64 1,.int .i64 1,.int .i64 2,.int .i64 4,.int .i64 5,.int .i64 6,.int .i64 3] 3):=⟨_,rfl⟩
 have hXs:X.heap.size=w.heap.size+2:=by rw [hX];simp
 have hXb:Below w.heap.size w X:=by rw [hX];exact ((Below.refl _ _).alloc (Nat.le_refl _) _).alloc (by simp) _
 have hX0:X.heap[w.heap.size]?=some (.cells #[.int .i64 0,.int .i64 0,.slice none 0 0] 26 (0,0)):=by rw [hX,Below.heap_alloc _ _ _ (by simp)];exact Qac rfl
 have hX1:X.heap[w.heap.size+1]?=some (.cells #[.int .i64 1,.int .i64 1,.int .i64 2,.int .i64 4,.int .i64 5,.int .i64 6,.int .i64 3] 3 (0,0)):=by rw [hX];exact Qac (by simp)
 have hcX:=hc.below hXb
 have HX:Hid (X=_):=hX
 clear hX
 go_enter Try.func50,Try.ntmps50
 go_wp2_with fail
 rw [← HX.out]
 refine (Qdk p cao clen ccap (w.heap.size+1) 7 7 [1,1,2,4,5,6,3] _ hcX hX1 (by omega) rfl (by omega) (by omega)).mono ?_
 rintro e w1 ⟨k,rfl,hk,hD1⟩
 have hk6:1≤k∧k≤6:=by simp at hk;omega
 clear hk
 have hz1:=hD1.grown.size
 have hDw1:Drw w w1 p cao clen ccap:=⟨Qab (Qae _ hXb) hD1.grown,hD1.cur⟩
 have res1:=(hD1.grown.block w.heap.size (by omega) (by simp;omega)).trans hX0
 have hba1:∀ kk:Int,Below w1.heap.size w1 (w1.alloc (.cells #[.int .i64 kk,.int .i64 0,.slice none 0 0] 26)):=fun kk=>(Below.refl _ _).alloc (Nat.le_refl _) _
 have hDa:∀ kk:Int,Drw w (w1.alloc (.cells #[.int .i64 kk,.int .i64 0,.slice none 0 0] 26)) p cao clen ccap:=fun kk=>⟨Qab hDw1.grown (Qae _ (hba1 kk)),hDw1.cur.below (hba1 kk)⟩
 have hRa:∀ kk:Int,(w1.alloc (.cells #[.int .i64 kk,.int .i64 0,.slice none 0 0] 26)).heap[w.heap.size]?=some (.cells #[.int .i64 0,.int .i64 0,.slice none 0 0] 26 (0,0)):=fun kk=>((hba1 kk).block _ (by omega)).trans res1
 have hOa:∀ kk:Int,(w1.alloc (.cells #[.int .i64 kk,.int .i64 0,.slice none 0 0] 26)).heap[w1.heap.size]?=some (.cells #[.int .i64 kk,.int .i64 0,.slice none 0 0] 26 (0,0)):=fun kk=>Qac rfl
 have HDa:Hid (∀ kk:Int,_):=hDa
 have HRa:Hid (∀ kk:Int,_):=hRa
 have HOa:Hid (∀ kk:Int,_):=hOa
 clear hba1 hDa hRa hOa
 have hpow:1≤4 ^ dep:=Nat.one_le_pow _ _ (by omega)
 by_cases hk3:k=3
 · subst hk3
   have hdd:(dep:Int)≤1∨1<(dep:Int):=by omega
   rcases hdd with hdd|hdd
   all_goals
    go_wp2_with fail
    refine (Qat p cao clen ccap 2 _ (HDa.out 3).cur (by omega) (by omega)).mono ?_
    rintro e w2 ⟨N,rfl,hN0,hN1,hD2⟩
    have hz2:w1.heap.size+1≤w2.heap.size:=by have:=hD2.grown.size;simpa using this
    have o2:=(hD2.grown.block w1.heap.size (by simp) (by simp;omega)).trans (HOa.out 3)
    have s2:=(hD2.grown.block w.heap.size (by simp;omega) (by simp;omega)).trans (HRa.out 3)
    obtain⟨y0,y1,y2⟩:=Qaf o2
    have y3:=Qad o2
    obtain⟨x0,x1,x2⟩:=Qaf s2
    have x3:=Qad s2
    have hDw2:Drw w w2 p cao clen ccap:=(HDa.out 3).trans hD2
    have hpn:¬ p=w1.heap.size:=by omega
    have hwn:¬ w1.heap.size=w.heap.size:=by omega
    have hwn':¬ w.heap.size=w1.heap.size:=by omega
    clear o2 s2
    go_wp2_with fail
    refine wp_loop_rounds 1 ?_;rw [rounds_succ]
    go_wp2_with fail
    refine (Qbi _ _).mono ?_
    rintro e w3 ⟨rfl,hw3⟩
    subst hw3
    have hpp:parts 3=0:=by decide
    rw [hpp]
    go_wp2_with fail
    refine bodyPost_ret (v:=.agg #[.int .i64 3,.int .i64 N,.slice none 0 0]) (by simp [results,Try.results50,go_sem,x0,x1,x2]) rfl ⟨3,N,none,0,0,[],rfl,?_,OwR.nil _ _ _ _ _,by simp [cntS];omega⟩
    exact (((hDw2.set hp (by omega) _).set hp (Nat.le_refl _) _).set hp (Nat.le_refl _) _).set hp (Nat.le_refl _) _
 by_cases hleaf:(dep:Int)≤1
 · have hcase:∃ kk:Int,parts kk=0∧¬ kk=3∧((3<k∧kk=1)∨(¬ 3<k∧kk=k)):=by
    by_cases h3k:3<k
    · exact⟨1,by decide,by decide,Or.inl ⟨h3k,rfl⟩⟩
    · refine⟨k,?_,hk3,Or.inr ⟨h3k,rfl⟩⟩
      have:k=1∨k=2:=by omega
      rcases this with rfl|rfl <;> decide
   obtain⟨kk,hpk,hkk3,hcs⟩:=hcase
   have HPK:Hid (parts kk=0):=hpk
   clear hpk
   have hk3b:(k==3)=false:=by simp [hk3]
   rcases hcs with ⟨h3k,hkk⟩|⟨h3k,hkk⟩
   · subst hkk
     have z1:=HOa.out 1
     go_wp2_with fail
     refine wp_loop_rounds 1 ?_;rw [rounds_succ]
     go_wp2_with fail
     refine (Qbi _ _).mono ?_
     rintro e w3 ⟨rfl,hw3⟩
     subst hw3
     rw [HPK.out]
     obtain⟨x0,x1,x2⟩:=Qaf (HRa.out 1)
     have x3:=Qad (HRa.out 1)
     go_wp2_with fail
     refine bodyPost_ret (v:=.agg #[.int .i64 1,.int .i64 0,.slice none 0 0]) (by simp [results,Try.results50,go_sem,x0,x1,x2]) rfl ⟨1,0,none,0,0,[],rfl,?_,OwR.nil _ _ _ _ _,by simp [cntS];omega⟩
     exact (((HDa.out 1).set hp (Nat.le_refl _) _).set hp (Nat.le_refl _) _).set hp (Nat.le_refl _) _
   · subst hkk
     have z1:=HOa.out kk
     go_wp2_with fail
     refine wp_loop_rounds 1 ?_;rw [rounds_succ]
     go_wp2_with fail
     refine (Qbi _ _).mono ?_
     rintro e w3 ⟨rfl,hw3⟩
     subst hw3
     rw [HPK.out]
     obtain⟨x0,x1,x2⟩:=Qaf (HRa.out kk)
     have x3:=Qad (HRa.out kk)
     go_wp2_with fail
     refine bodyPost_ret (v:=.agg #[.int .i64 kk,.int .i64 0,.slice none 0 0]) (by simp [results,Try.results50,go_sem,x0,x1,x2]) rfl ⟨kk,0,none,0,0,[],rfl,?_,OwR.nil _ _ _ _ _,by simp [cntS];omega⟩
     exact (((HDa.out kk).set hp (Nat.le_refl _) _).set hp (Nat.le_refl _) _).set hp (Nat.le_refl _) _
 · have hd1:1<dep:=by omega
   have hde:((dep - 1:Nat):Int)=(dep:Int) - 1:=by omega
   have IH2:Hid (∀ (p:Nat) (cao:Option Addr) (clen ccap:Nat) (w:World),Cur w p cao clen ccap →
    Calls Try.prog 50 #[.pointer (some ⟨p,0,none⟩),.int .i64 ((dep:Int) - 1),.int .i64 2] w fun e w'=>TyEnd w w' e p cao clen ccap (dep - 1) (4 ^ (dep - 1))):=by
    have:=IH hd1
    unfold SaidTyD at this
    rw [hde] at this
    exact this
   have HPW:Hid (4 ^ dep=4 ^ (dep - 1)*4):=by
    show _=_
    obtain⟨q,rfl⟩:∃ q,dep=q+1:=⟨dep - 1,by omega⟩
    rw [Nat.pow_succ];simp
   have hk3b:(k==3)=false:=by simp [hk3]
   obtain⟨m,hm,hm2⟩:∃ m:Nat,parts k=m∧m≤2:=by
    have:k=1∨k=2∨k=4∨k=5∨k=6:=by omega
    rcases this with rfl|rfl|rfl|rfl|rfl
    · exact⟨0,by decide,by omega⟩
    · exact⟨0,by decide,by omega⟩
    · exact⟨2,by decide,by omega⟩
    · exact⟨2,by decide,by omega⟩
    · exact⟨1,by decide,by omega⟩
   have HM:Hid (parts k=m):=hm
   have hStart:TyRel w (w1.alloc (.cells #[.int .i64 k,.int .i64 0,.slice none 0 0] 26)) p cao clen ccap w1.heap.size (dep - 1) 0 k 0 (.slice none 0 0) []:=⟨HDa.out k,HRa.out k,HOa.out k,ap_nil _ _ _ _,rfl,by simp [cntS]⟩
   clear IH hde hm HDa HRa HOa res1 hX0 hX1 hcX
   have hdn:1<(dep:Int):=by omega
   have hwr:IntKind.i64.wrap ((dep:Int) - 1)=(dep:Int) - 1:=by rw [IntKind.wrap_i64];omega
   go_wp2_with fail
   go_loopw [9] (fun i wr=>∃ (j:Nat) (v:Value) (us:List Tr),j≤m∧i=.int .i64 j∧TyRel w wr p cao clen ccap w1.heap.size (dep - 1) j k 0 v us) (fun i _=>m - (intOf i).toNat)
   case atStart=>exact⟨0,_,_,by omega,rfl,hStart⟩
   case round =>
    obtain⟨j,v,us,hj,rfl,hT⟩:=hrel
    have hszr:=hT.drw.grown.size
    have hol:w1.heap.size<wr.heap.size:=(Array.getElem?_eq_some_iff.1 hT.out).1
    obtain⟨y0,y1,y2⟩:=Qaf hT.out
    go_wp2_with fail
    refine (Qbi _ _).mono ?_
    rintro e w3 ⟨rfl,hw3⟩
    rw [hw3,HM.out]
    clear hw3 w3
    by_cases hlt:j<m
    · have hcd:Cur wr.drew p cao clen ccap:=hT.drw.cur.keep (w':=wr.drew) (fun _ _=>rfl)
      have NX:Hid (∀ (w4:World) (K3 N3:Int) (ao3:Option Addr) (len3 cap3:Nat) (ts3:List Tr),Drw wr.drew w4 p cao clen ccap->OwR wr.drew.heap.size w4.heap.size w4 (dep - 1) ao3 len3 ts3->cntS ts3+1≤4 ^ (dep - 1)->∃ g cap w2,(Builtin.append_ #[24,24] 24 #[v,.slice (some ⟨w4.heap.size,0,none⟩) 1 1]).run Try.prog (w4.alloc (.cells #[.int .i64 K3,.int .i64 N3,.slice ao3 len3 cap3] 26))=.ok (.slice (some ⟨g,0,none⟩) (j+1) cap) w2 ∧
       w4.cell? ⟨w1.heap.size,2,none⟩=some v∧w1.heap.size<w4.heap.size∧w2.cell? ⟨w1.heap.size,2,none⟩=some v∧w2.frozen? ⟨w1.heap.size,2,none⟩=false ∧
       TyRel w (w2.setCell ⟨w1.heap.size,2,none⟩ (.slice (some ⟨g,0,none⟩) (j+1) cap)) p cao clen ccap w1.heap.size (dep - 1) (j+1) k 0 (.slice (some ⟨g,0,none⟩) (j+1) cap) (us++[⟨K3,N3,ts3⟩])):=by
       intro w4 K3 N3 ao3 len3 cap3 ts3 hD4 ho4 hc4
       exact tyrel_next hT (by omega) hp (by omega) ⟨⟨hD4.grown.os,hD4.grown.tape,hD4.grown.output,hD4.grown.size,hD4.grown.block⟩,hD4.cur⟩ ho4 hc4
      go_wp2_with fail
      go_region_law (first|(refine Qbs hrun (by rfl) _ _ (by rfl) (by rfl) (by rfl) (by rfl) ?_)|(go_simp;go_at_call 50;refine (IH2.out p cao clen ccap _ ?_).mono ?_;exact hcd;rintro e w4 ⟨K3,N3,ao3,len3,cap3,ts3,rfl,hD4,ho4,hc4⟩;obtain⟨g,cp,w2,hrun,a2,hz4,q2,q3,hN⟩:=NX.out w4 K3 N3 ao3 len3 cap3 ts3 hD4 ho4 hc4;have a3:(w4.alloc (.cells #[.int .i64 K3,.int .i64 N3,.slice ao3 len3 cap3] 26)).cell? ⟨w1.heap.size,2,none⟩=some v:=(World.cell?_of_block (Below.heap_alloc _ _ _ hz4)).trans a2))
      all_goals
       clear y0 y1 y2 a2 a3 hrun q2 q3
       go_wp2_with fail
       go_roundw
       case rel=>exact⟨j+1,_,_,by omega,by go_num,hN⟩
       case measure=>simp [intOf];omega
    · obtain⟨ao2,cap2,rfl,ho2⟩:=Qdm hT.ap hT.len.symm (by omega)
      obtain⟨x0,x1,x2⟩:=Qaf hT.res
      have x3:=Qad hT.res
      have hcnt:=hT.cnt
      go_wp2_with fail
      refine bodyPost_ret (v:=.agg #[.int .i64 k,.int .i64 0,.slice ao2 j cap2]) (by simp [results,Try.results50,go_sem,x0,x1,x2]) rfl ⟨k,0,ao2,j,cap2,us,rfl,?_,?_,?_⟩
      · exact ((hT.drw.set hp (Nat.le_refl _) _).set hp (Nat.le_refl _) _).set hp (Nat.le_refl _) _
      · refine (ho2.keep (fun q hq _=>?_) (by omega) (by simp)).deeper (by omega)
        rw [Qah _ _ _ (by omega),Qah _ _ _ (by omega),Qah _ _ _ (by omega)]
      · have hq:1≤4 ^ (dep - 1):=Nat.one_le_pow _ _ (by omega)
        have hm':j*4 ^ (dep - 1)≤2*4 ^ (dep - 1):=Nat.mul_le_mul_right _ (by omega)
        rw [HPW.out]
        omega
theorem ty_any (dep:Nat) (hd:dep≤30):SaidTyD dep:=by
 induction dep with
 | zero=>exact ty_step 0 hd (fun h=>by omega)
 | succ n ih=>exact ty_step (n+1) hd (fun _=>by simpa using ih (by omega))
def RtV (d:Nat) (vs:Int) (t:Tr):Prop:=(∃ m,Qai d t=some m)∧(Qce d t:Int)≤vs
def TyEnd2 (w w':World) (e:Ending) (p:Nat) (cao:Option Addr) (clen ccap D c:Nat) (vs:Int):Prop :=
 ∃ K N ao len cap ts,e=.returned (.agg #[.int .i64 K,.int .i64 N,.slice ao len cap])∧Drw w w' p cao clen ccap∧OwR w.heap.size w'.heap.size w' D ao len ts∧cntS ts+1≤c∧RtV D vs ⟨K,N,ts⟩
def SaidTyV (dep:Nat):Prop:=∀ (p:Nat) (cao:Option Addr) (clen ccap:Nat) (vs:Int) (w:World),Cur w p cao clen ccap->0≤vs->vs≤2 →
    Calls Try.prog 50 #[.pointer (some ⟨p,0,none⟩),.int .i64 dep,.int .i64 vs] w fun e w'=>TyEnd2 w w' e p cao clen ccap dep (4 ^ dep) vs
theorem nodesL_all {f:Tr->Option Nat}:∀ {l:List Tr},(∀ u∈l,∃ m,f u=some m)->∃ m,Qaw f l=some m
 | [],_=>⟨0,rfl⟩
 | u::l,h=>by
   obtain⟨a,ha⟩:=h u (by simp)
   obtain⟨b,hb⟩:=nodesL_all (f:=f) (l:=l) (fun v hv=>h v (by simp [hv]))
   exact⟨a+b,by simp [Qaw,ha,hb]⟩
theorem Qcy {d:Nat} {k n:Int} {us:List Tr} (h:Qbk k n us.length=true) (hu:∀ u∈us,∃ m,Qai d u=some m):∃ m,Qai (d+1) ⟨k,n,us⟩=some m:=by
 obtain⟨m,hm⟩:=nodesL_all hu
 exact⟨1+m,by simp [Qai,h,hm]⟩
theorem leafW (d:Nat) (hd:1≤d) {k:Int} (h:Qbk k 0 0=true):∃ m,Qai d ⟨k,0,[]⟩=some m:=by
 obtain⟨q,rfl⟩:∃ q,d=q+1:=⟨d - 1,by omega⟩
 exact Qcy h (fun u hu=>by simp at hu)
theorem varW (d:Nat) (hd:1≤d) (N:Int) (h0:0≤N) (h1:N<2):∃ m,Qai d ⟨3,N,[]⟩=some m:=by
 obtain⟨q,rfl⟩:∃ q,d=q+1:=⟨d - 1,by omega⟩
 exact Qcy (by simp [Qbk,parts,h0,h1]) (fun u hu=>by simp at hu)
theorem foldl_max_le {c:Nat}:∀ (l:List Nat) (a:Nat),a≤c->(∀ x∈l,x≤c)->l.foldl max a≤c
 | [],a,h,_=>h
 | x::l,a,h,hl=>foldl_max_le l (max a x) (by have:=hl x (by simp);omega) (fun y hy=>hl y (by simp [hy]))
theorem rtV_mk {d:Nat} {k:Int} {us:List Tr} {vs:Int} (h0:0≤vs) (hk:¬ k=3) (h:Qbk k 0 us.length=true) (hu:∀ u∈us,RtV d vs u):RtV (d+1) vs ⟨k,0,us⟩:=by
 refine⟨Qcy h (fun u hu2=>(hu u hu2).1),?_⟩
 have:Qce (d+1) ⟨k,0,us⟩≤vs.toNat:=by
  show (us.map (Qce d)).foldl max (var0 k 0)≤_
  refine foldl_max_le _ _ (by simp [var0,hk]) (fun x hx=>?_)
  obtain⟨u,hu2,rfl⟩:=List.mem_map.1 hx
  have:=(hu u hu2).2
  omega
 omega
theorem leafV (d:Nat) (hd:1≤d) {k:Int} (hk:¬ k=3) {vs:Int} (h0:0≤vs) (h:Qbk k 0 0=true):RtV d vs ⟨k,0,[]⟩:=by
 obtain⟨q,rfl⟩:∃ q,d=q+1:=⟨d - 1,by omega⟩
 exact rtV_mk h0 hk h (fun u hu=>by simp at hu)
theorem varV (d:Nat) (hd:1≤d) (N vs:Int) (h0:0≤N) (h1:N<2) (h2:N<vs):RtV d vs ⟨3,N,[]⟩:=by
 refine⟨varW d hd N h0 h1,?_⟩
 obtain⟨q,rfl⟩:∃ q,d=q+1:=⟨d - 1,by omega⟩
 have e:Qce (q+1) ⟨3,N,[]⟩=(N+1).toNat:=by simp [Qce,var0]
 rw [e]
 omega
theorem rts_snoc {d:Nat} {us:List Tr} {t:Tr} {vs:Int} (h:Hid (∀ u∈us,RtV d vs u)) (ht:RtV d vs t):Hid (∀ u∈us++[t],RtV d vs u):=by
 intro u hu
 rcases List.mem_append.1 hu with hu|hu
 · exact h.out u hu
 · rw [List.mem_singleton.1 hu];exact ht
set_option maxRecDepth 100000 in
set_option maxHeartbeats 2000000 in
theorem tv_step (dep:Nat) (hd0:1≤dep) (hd:dep≤30) (IH:1<dep->SaidTyV (dep - 1)):SaidTyV dep:=by
 intro p cao clen ccap vs w hc hv0 hv2
 have hp:=hc.lt
 obtain⟨X,hX⟩:∃ X,X=(w.alloc (.cells #[.int .i64 0,.int .i64 0,.slice none 0 0] 26)).alloc (.cells #[.int .i64 1,.int .i64 1,.int .i64 2,.int .i64 4,.int .i64 5,.int .i64 6,.int .i64 3] 3):=⟨_,rfl⟩
 have hXs:X.heap.size=w.heap.size+2:=by rw [hX];simp
 have hXb:Below w.heap.size w X:=by rw [hX];exact ((Below.refl _ _).alloc (Nat.le_refl _) _).alloc (by simp) _
 have hX0:X.heap[w.heap.size]?=some (.cells #[.int .i64 0,.int .i64 0,.slice none 0 0] 26 (0,0)):=by rw [hX,Below.heap_alloc _ _ _ (by simp)];exact Qac rfl
 have hX1:X.heap[w.heap.size+1]?=some (.cells #[.int .i64 1,.int .i64 1,.int .i64 2,.int .i64 4,.int .i64 5,.int .i64 6,.int .i64 3] 3 (0,0)):=by rw [hX];exact Qac (by simp)
 have hcX:=hc.below hXb
 have HX:Hid (X=_):=hX
 clear hX
 go_enter Try.func50,Try.ntmps50
 go_wp2_with fail
 rw [← HX.out]
 refine (Qdk p cao clen ccap (w.heap.size+1) 7 7 [1,1,2,4,5,6,3] _ hcX hX1 (by omega) rfl (by omega) (by omega)).mono ?_
 rintro e w1 ⟨k,rfl,hk,hD1⟩
 have hk6:1≤k∧k≤6:=by simp at hk;omega
 clear hk
 have hz1:=hD1.grown.size
 have hDw1:Drw w w1 p cao clen ccap:=⟨Qab (Qae _ hXb) hD1.grown,hD1.cur⟩
 have res1:=(hD1.grown.block w.heap.size (by omega) (by simp;omega)).trans hX0
 have hba1:∀ kk:Int,Below w1.heap.size w1 (w1.alloc (.cells #[.int .i64 kk,.int .i64 0,.slice none 0 0] 26)):=fun kk=>(Below.refl _ _).alloc (Nat.le_refl _) _
 have hDa:∀ kk:Int,Drw w (w1.alloc (.cells #[.int .i64 kk,.int .i64 0,.slice none 0 0] 26)) p cao clen ccap:=fun kk=>⟨Qab hDw1.grown (Qae _ (hba1 kk)),hDw1.cur.below (hba1 kk)⟩
 have hRa:∀ kk:Int,(w1.alloc (.cells #[.int .i64 kk,.int .i64 0,.slice none 0 0] 26)).heap[w.heap.size]?=some (.cells #[.int .i64 0,.int .i64 0,.slice none 0 0] 26 (0,0)):=fun kk=>((hba1 kk).block _ (by omega)).trans res1
 have hOa:∀ kk:Int,(w1.alloc (.cells #[.int .i64 kk,.int .i64 0,.slice none 0 0] 26)).heap[w1.heap.size]?=some (.cells #[.int .i64 kk,.int .i64 0,.slice none 0 0] 26 (0,0)):=fun kk=>Qac rfl
 have HDa:Hid (∀ kk:Int,_):=hDa
 have HRa:Hid (∀ kk:Int,_):=hRa
 have HOa:Hid (∀ kk:Int,_):=hOa
 clear hba1 hDa hRa hOa
 have hpow:1≤4 ^ dep:=Nat.one_le_pow _ _ (by omega)
 by_cases h30:k=3∧vs=0
 · obtain⟨rfl,rfl⟩:=h30
   have hdd:(dep:Int)≤1∨1<(dep:Int):=by omega
   have HPK:Hid (parts 1=0):=rfl
   rcases hdd with hdd|hdd
   all_goals
    have z1:=HOa.out 1
    go_wp2_with fail
    refine wp_loop_rounds 1 ?_;rw [rounds_succ]
    go_wp2_with fail
    refine (Qbi _ _).mono ?_
    rintro e w3 ⟨rfl,hw3⟩
    subst hw3
    rw [HPK.out]
    obtain⟨x0,x1,x2⟩:=Qaf (HRa.out 1)
    have x3:=Qad (HRa.out 1)
    go_wp2_with fail
    refine bodyPost_ret (v:=.agg #[.int .i64 1,.int .i64 0,.slice none 0 0]) (by simp [results,Try.results50,go_sem,x0,x1,x2]) rfl ⟨1,0,none,0,0,[],rfl,?_,OwR.nil _ _ _ _ _,by simp [cntS];omega,leafV dep hd0 (by decide) hv0 (by decide)⟩
    exact (((HDa.out 1).set hp (Nat.le_refl _) _).set hp (Nat.le_refl _) _).set hp (Nat.le_refl _) _
 by_cases hk3:k=3
 · subst hk3
   have hvb:(vs==0)=false:=by simp;intro e;exact h30 ⟨rfl,e⟩
   have hvp:0<vs:=by have:¬ vs=0:=fun e=>h30 ⟨rfl,e⟩;omega
   have hdd:(dep:Int)≤1∨1<(dep:Int):=by omega
   rcases hdd with hdd|hdd
   all_goals
    go_wp2_with fail
    refine (Qat p cao clen ccap vs _ (HDa.out 3).cur (by omega) (by omega)).mono ?_
    rintro e w2 ⟨N,rfl,hN0,hN1,hD2⟩
    have hz2:w1.heap.size+1≤w2.heap.size:=by have:=hD2.grown.size;simpa using this
    have o2:=(hD2.grown.block w1.heap.size (by simp) (by simp;omega)).trans (HOa.out 3)
    have s2:=(hD2.grown.block w.heap.size (by simp;omega) (by simp;omega)).trans (HRa.out 3)
    obtain⟨y0,y1,y2⟩:=Qaf o2
    have y3:=Qad o2
    obtain⟨x0,x1,x2⟩:=Qaf s2
    have x3:=Qad s2
    have hDw2:Drw w w2 p cao clen ccap:=(HDa.out 3).trans hD2
    have hpn:¬ p=w1.heap.size:=by omega
    have hwn:¬ w1.heap.size=w.heap.size:=by omega
    have hwn':¬ w.heap.size=w1.heap.size:=by omega
    clear o2 s2
    go_wp2_with fail
    refine wp_loop_rounds 1 ?_;rw [rounds_succ]
    go_wp2_with fail
    refine (Qbi _ _).mono ?_
    rintro e w3 ⟨rfl,hw3⟩
    subst hw3
    have hpp:parts 3=0:=by decide
    rw [hpp]
    go_wp2_with fail
    refine bodyPost_ret (v:=.agg #[.int .i64 3,.int .i64 N,.slice none 0 0]) (by simp [results,Try.results50,go_sem,x0,x1,x2]) rfl ⟨3,N,none,0,0,[],rfl,?_,OwR.nil _ _ _ _ _,by simp [cntS];omega,varV dep hd0 N vs hN0 (by omega) hN1⟩
    exact (((hDw2.set hp (by omega) _).set hp (Nat.le_refl _) _).set hp (Nat.le_refl _) _).set hp (Nat.le_refl _) _
 by_cases hleaf:(dep:Int)≤1
 · have hcase:∃ kk:Int,parts kk=0∧¬ kk=3∧((3<k∧kk=1)∨(¬ 3<k∧kk=k)):=by
    by_cases h3k:3<k
    · exact⟨1,by decide,by decide,Or.inl ⟨h3k,rfl⟩⟩
    · refine⟨k,?_,hk3,Or.inr ⟨h3k,rfl⟩⟩
      have:k=1∨k=2:=by omega
      rcases this with rfl|rfl <;> decide
   obtain⟨kk,hpk,hkk3,hcs⟩:=hcase
   have HPK:Hid (parts kk=0):=hpk
   have HPK2:Qbk kk 0 0=true:=by simp [Qbk,hpk,hkk3]
   clear hpk
   have hk3b:(k==3)=false:=by simp [hk3]
   rcases hcs with ⟨h3k,hkk⟩|⟨h3k,hkk⟩
   · subst hkk
     have z1:=HOa.out 1
     go_wp2_with fail
     refine wp_loop_rounds 1 ?_;rw [rounds_succ]
     go_wp2_with fail
     refine (Qbi _ _).mono ?_
     rintro e w3 ⟨rfl,hw3⟩
     subst hw3
     rw [HPK.out]
     obtain⟨x0,x1,x2⟩:=Qaf (HRa.out 1)
     have x3:=Qad (HRa.out 1)
     go_wp2_with fail
     refine bodyPost_ret (v:=.agg #[.int .i64 1,.int .i64 0,.slice none 0 0]) (by simp [results,Try.results50,go_sem,x0,x1,x2]) rfl ⟨1,0,none,0,0,[],rfl,?_,OwR.nil _ _ _ _ _,by simp [cntS];omega,leafV dep hd0 (by first|decide|exact hkk3) hv0 (by first|decide|exact HPK2)⟩
     exact (((HDa.out 1).set hp (Nat.le_refl _) _).set hp (Nat.le_refl _) _).set hp (Nat.le_refl _) _
   · subst hkk
     have z1:=HOa.out kk
     go_wp2_with fail
     refine wp_loop_rounds 1 ?_;rw [rounds_succ]
     go_wp2_with fail
     refine (Qbi _ _).mono ?_
     rintro e w3 ⟨rfl,hw3⟩
     subst hw3
     rw [HPK.out]
     obtain⟨x0,x1,x2⟩:=Qaf (HRa.out kk)
     have x3:=Qad (HRa.out kk)
     go_wp2_with fail
     refine bodyPost_ret (v:=.agg #[.int .i64 kk,.int .i64 0,.slice none 0 0]) (by simp [results,Try.results50,go_sem,x0,x1,x2]) rfl ⟨kk,0,none,0,0,[],rfl,?_,OwR.nil _ _ _ _ _,by simp [cntS];omega,leafV dep hd0 (by first|decide|exact hkk3) hv0 (by first|decide|exact HPK2)⟩
     exact (((HDa.out kk).set hp (Nat.le_refl _) _).set hp (Nat.le_refl _) _).set hp (Nat.le_refl _) _
 · have hd1:1<dep:=by omega
   have hde:((dep - 1:Nat):Int)=(dep:Int) - 1:=by omega
   have IH2:Hid (∀ (p:Nat) (cao:Option Addr) (clen ccap:Nat) (w:World),Cur w p cao clen ccap →
    Calls Try.prog 50 #[.pointer (some ⟨p,0,none⟩),.int .i64 ((dep:Int) - 1),.int .i64 vs] w fun e w'=>TyEnd2 w w' e p cao clen ccap (dep - 1) (4 ^ (dep - 1)) vs):=by
    intro p cao clen ccap w hc
    have:=IH hd1 p cao clen ccap vs w hc hv0 hv2
    rw [hde] at this
    exact this
   have HPW:Hid (4 ^ dep=4 ^ (dep - 1)*4):=by
    show _=_
    obtain⟨q,rfl⟩:∃ q,dep=q+1:=⟨dep - 1,by omega⟩
    rw [Nat.pow_succ];simp
   have hk3b:(k==3)=false:=by simp [hk3]
   obtain⟨m,hm,hm2⟩:∃ m:Nat,parts k=m∧m≤2:=by
    have:k=1∨k=2∨k=4∨k=5∨k=6:=by omega
    rcases this with rfl|rfl|rfl|rfl|rfl
    · exact⟨0,by decide,by omega⟩
    · exact⟨0,by decide,by omega⟩
    · exact⟨2,by decide,by omega⟩
    · exact⟨2,by decide,by omega⟩
    · exact⟨1,by decide,by omega⟩
   have HM:Hid (parts k=m):=hm
   have hStart:TyRel w (w1.alloc (.cells #[.int .i64 k,.int .i64 0,.slice none 0 0] 26)) p cao clen ccap w1.heap.size (dep - 1) 0 k 0 (.slice none 0 0) []:=⟨HDa.out k,HRa.out k,HOa.out k,ap_nil _ _ _ _,rfl,by simp [cntS]⟩
   clear IH hde hm HDa HRa HOa res1 hX0 hX1 hcX
   have hdn:1<(dep:Int):=by omega
   have hwr:IntKind.i64.wrap ((dep:Int) - 1)=(dep:Int) - 1:=by rw [IntKind.wrap_i64];omega
   go_wp2_with fail
   go_loopw [9] (fun i wr=>∃ (j:Nat) (v:Value) (us:List Tr),j≤m∧i=.int .i64 j∧Hid (∀ u∈us,RtV (dep - 1) vs u)∧TyRel w wr p cao clen ccap w1.heap.size (dep - 1) j k 0 v us) (fun i _=>m - (intOf i).toNat)
   case atStart=>exact⟨0,_,_,by omega,rfl,(fun u hu=>by simp at hu),hStart⟩
   case round =>
    obtain⟨j,v,us,hj,rfl,HRT,hT⟩:=hrel
    have hszr:=hT.drw.grown.size
    have hol:w1.heap.size<wr.heap.size:=(Array.getElem?_eq_some_iff.1 hT.out).1
    obtain⟨y0,y1,y2⟩:=Qaf hT.out
    go_wp2_with fail
    refine (Qbi _ _).mono ?_
    rintro e w3 ⟨rfl,hw3⟩
    rw [hw3,HM.out]
    clear hw3 w3
    by_cases hlt:j<m
    · have hcd:Cur wr.drew p cao clen ccap:=hT.drw.cur.keep (w':=wr.drew) (fun _ _=>rfl)
      have NX:Hid (∀ (w4:World) (K3 N3:Int) (ao3:Option Addr) (len3 cap3:Nat) (ts3:List Tr),Drw wr.drew w4 p cao clen ccap->OwR wr.drew.heap.size w4.heap.size w4 (dep - 1) ao3 len3 ts3->cntS ts3+1≤4 ^ (dep - 1)->∃ g cap w2,(Builtin.append_ #[24,24] 24 #[v,.slice (some ⟨w4.heap.size,0,none⟩) 1 1]).run Try.prog (w4.alloc (.cells #[.int .i64 K3,.int .i64 N3,.slice ao3 len3 cap3] 26))=.ok (.slice (some ⟨g,0,none⟩) (j+1) cap) w2 ∧
       w4.cell? ⟨w1.heap.size,2,none⟩=some v∧w1.heap.size<w4.heap.size∧w2.cell? ⟨w1.heap.size,2,none⟩=some v∧w2.frozen? ⟨w1.heap.size,2,none⟩=false ∧
       TyRel w (w2.setCell ⟨w1.heap.size,2,none⟩ (.slice (some ⟨g,0,none⟩) (j+1) cap)) p cao clen ccap w1.heap.size (dep - 1) (j+1) k 0 (.slice (some ⟨g,0,none⟩) (j+1) cap) (us++[⟨K3,N3,ts3⟩])):=by
       intro w4 K3 N3 ao3 len3 cap3 ts3 hD4 ho4 hc4
       exact tyrel_next hT (by omega) hp (by omega) ⟨⟨hD4.grown.os,hD4.grown.tape,hD4.grown.output,hD4.grown.size,hD4.grown.block⟩,hD4.cur⟩ ho4 hc4
      go_wp2_with fail
      go_region_law (first|(refine Qbs hrun (by rfl) _ _ (by rfl) (by rfl) (by rfl) (by rfl) ?_)|(go_simp;go_at_call 50;refine (IH2.out p cao clen ccap _ ?_).mono ?_;exact hcd;rintro e w4 ⟨K3,N3,ao3,len3,cap3,ts3,rfl,hD4,ho4,hc4,HW4⟩;have HRT2:=rts_snoc HRT HW4;obtain⟨g,cp,w2,hrun,a2,hz4,q2,q3,hN⟩:=NX.out w4 K3 N3 ao3 len3 cap3 ts3 hD4 ho4 hc4;have a3:(w4.alloc (.cells #[.int .i64 K3,.int .i64 N3,.slice ao3 len3 cap3] 26)).cell? ⟨w1.heap.size,2,none⟩=some v:=(World.cell?_of_block (Below.heap_alloc _ _ _ hz4)).trans a2))
      all_goals
       clear y0 y1 y2 a2 a3 hrun q2 q3 HW4
       go_wp2_with fail
       go_roundw
       case rel=>exact⟨j+1,_,_,by omega,by go_num,HRT2,hN⟩
       case measure=>simp [intOf];omega
    · obtain⟨ao2,cap2,rfl,ho2⟩:=Qdm hT.ap hT.len.symm (by omega)
      obtain⟨x0,x1,x2⟩:=Qaf hT.res
      have x3:=Qad hT.res
      have hcnt:=hT.cnt
      go_wp2_with fail
      refine bodyPost_ret (v:=.agg #[.int .i64 k,.int .i64 0,.slice ao2 j cap2]) (by simp [results,Try.results50,go_sem,x0,x1,x2]) rfl ⟨k,0,ao2,j,cap2,us,rfl,?_,?_,?_,?_⟩
      · exact ((hT.drw.set hp (Nat.le_refl _) _).set hp (Nat.le_refl _) _).set hp (Nat.le_refl _) _
      · refine (ho2.keep (fun q hq _=>?_) (by omega) (by simp)).deeper (by omega)
        rw [Qah _ _ _ (by omega),Qah _ _ _ (by omega),Qah _ _ _ (by omega)]
      · have hq:1≤4 ^ (dep - 1):=Nat.one_le_pow _ _ (by omega)
        have hm':j*4 ^ (dep - 1)≤2*4 ^ (dep - 1):=Nat.mul_le_mul_right _ (by omega)
        rw [HPW.out]
        omega
      · obtain⟨q,rfl⟩:∃ q,dep=q+1:=⟨dep - 1,by omega⟩
        refine rtV_mk hv0 hk3 ?_ HRT.out
        have h1:=HM.out
        have h2:=hT.len
        simp [Qbk,h1,h2,hk3]
        omega
theorem tv_any (dep:Nat) (h0:1≤dep) (hd:dep≤30):SaidTyV dep:=by
 induction dep with
 | zero=>omega
 | succ n ih=>exact tv_step (n+1) h0 hd (fun h=>by simpa using ih (by omega) (by omega))
end Go.Proofs.Ytleghjgpnefliaa
