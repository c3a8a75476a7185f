/-
  The model's 'l6All', 'l6Lambdas', 'Lambdas'.
-/
import Derived.Test.YtleghjgpnefliaaFlaZ47
import Derived.Test.YtleghjgpnefliaaFlaZ45
import Derived.Test.YtleghjgpnefliaaFlaZ8
import Derived.Test.YtleghjgpnefliaaFlaZ3
import Derived.Deep.RegionHeld3
import Derived.Deep.RegionLaw
import Derived.Sort.AtCall
import Derived.LoopN
import Derived.Test.YtleghjgpnefliaaFlaZ37
import Derived.Test.YtleghjgpnefliaaFlaZ44
namespace Go.Proofs.Ytleghjgpnefliaa
open Go.RowKit
set_option linter.unusedVariables false
set_option linter.unusedSimpArgs false
theorem filter_take {X:List Tm} {j:Nat} (hj:j < X.length):(X.take (j+1)).filter isFn=(X.take j).filter isFn ++ (if X[j].K=4 then [X[j]] else []):=by
  rw [List.take_succ_eq_append_getElem hj,List.filter_append]
  congr 1
  by_cases h:X[j].K=4
  · simp [isFn,h]
  · simp [isFn,h]
set_option maxRecDepth 100000 in
set_option maxHeartbeats 2000000 in
theorem l6Lambdas_any (D d L B:Nat) (t:Tm) (a1:Option Addr) (l1 c1:Nat) (a2:Option Addr) (l2 c2:Nat) (a3:Option Addr) (l3 c3:Nat) (w:World) (hB:B≤w.heap.size) (hf:Fm L B w D d t a1 l1 a2 l2 a3 l3) :
    Calls Try.prog 20 #[.agg #[.int .i64 t.K,.int .i64 t.N,.string t.S,.string t.Z,.int .i64 t.T.K,.int .i64 t.T.N,.slice a1 l1 c1,.slice a2 l2 c2,.slice a3 l3 c3]] w fun e w'=>∃ v,e=.returned v∧Below w.heap.size w w'∧TRow L B w.heap.size w' D d v (lamT t):=by
  obtain ⟨W,hW⟩:∃ W,W=(w.alloc (.cells #[.int .i64 t.K,.int .i64 t.N,.string t.S,.string t.Z,.int .i64 t.T.K,.int .i64 t.T.N,.slice a1 l1 c1,.slice a2 l2 c2,.slice a3 l3 c3] 29)).alloc (.cells #[] 29):=⟨_,rfl⟩
  have hWs:W.heap.size=w.heap.size+2:=by rw [hW];simp
  have hWb:Below w.heap.size w W:=by rw [hW];exact ((Below.refl _ _).alloc (Nat.le_refl _) _).alloc (by simp) _
  have hW0:W.heap[w.heap.size]?=some (.cells #[.int .i64 t.K,.int .i64 t.N,.string t.S,.string t.Z,.int .i64 t.T.K,.int .i64 t.T.N,.slice a1 l1 c1,.slice a2 l2 c2,.slice a3 l3 c3] 29 (0,0)):=by rw [hW,Below.heap_alloc _ _ _ (by simp)];exact heap_new rfl
  have hW1:W.heap[w.heap.size+1]?=some (.cells #[] 29 (0,0)):=by rw [hW];exact heap_new (by simp)
  have HW:Hid (W=_):=hW
  have HS:Hid (W.heap.size=w.heap.size+2):=hWs
  have hfW:=Fm.below hWb hB hf
  clear hW hWs
  cases hq:okM t
  · have HQ:Hid (okM t=false):=hq
    have HT:Hid (lamT t=[]):=by show _=_;simp [lamT,hq]
    clear hq
    go_enter Try.func20,Try.ntmps20
    go_wp2_with fail
    rw [← HW.out]
    refine (sTermOk_any D d L B t _ _ _ _ _ _ _ _ _ _ (by have:=HS.out;omega) hfW).mono ?_
    rintro e w1 ⟨rfl,hb1⟩
    rw [HQ.out]
    have x1:=(hb1.block (w.heap.size+1) (by have:=HS.out;omega)).trans hW1
    have hbw:Below w.heap.size w w1:=hWb.trans (hb1.mono (by have:=HS.out;omega))
    go_wp2_with fail
    go_ret
    exact ⟨_,rfl,hbw,by rw [HT.out];exact trow_emp x1 (by omega)⟩
  · have HQ:Hid (okM t=true):=hq
    have HT:Hid (lamT t=(allW t).filter isFn):=by show _=_;simp [lamT,hq]
    obtain ⟨m,hm,hm6⟩:=okM_some hq
    have hAl:=allW_len 24 t m hm
    clear hq
    go_enter Try.func20,Try.ntmps20
    go_wp2_with fail
    rw [← HW.out]
    refine (sTermOk_any D d L B t _ _ _ _ _ _ _ _ _ _ (by have:=HS.out;omega) hfW).mono ?_
    rintro e w1 ⟨rfl,hb1⟩
    rw [HQ.out]
    have x1:=(hb1.block (w.heap.size+1) (by have:=HS.out;omega)).trans hW1
    have x0:=(hb1.block w.heap.size (by have:=HS.out;omega)).trans hW0
    have hbw:Below w.heap.size w w1:=hWb.trans (hb1.mono (by have:=HS.out;omega))
    have hz1:w.heap.size+2≤w1.heap.size:=by have:=HS.out;have:=hb1.size;omega
    obtain ⟨f0,f1,f2,f3,f4,f5,f6,f7,f8⟩:=Nine.box x0
    have hba:Below w.heap.size w (w1.alloc (.cells #[] 29)):=hbw.alloc (by omega) _
    have hx1a:=(((Below.refl _ w1).alloc (Nat.le_refl _) (.cells #[] 29)).block (w.heap.size+1) (by omega)).trans x1
    go_wp2_with fail
    refine (la_any 24 D d d L B w.heap.size t _ _ _ _ _ _ _ _ _ _ [] m _ (Nat.le_refl _) hB (by simp;omega) (Fm.below hba hB hf) hm (trow_emp (heap_new rfl) (by omega)) (by simp;omega)).mono ?_
    rintro e w2 ⟨v,rfl,hk,hTA⟩
    rw [List.nil_append] at hTA
    obtain ⟨ao,cp,rfl⟩:=trow_form hTA
    have hz2:w1.heap.size+1≤w2.heap.size:=by have:=hk.size;simpa using this
    have hbw2:Below w.heap.size w w2:=hba.trans ⟨hk.os,hk.tape,hk.output,hk.size,fun k hk2=>hk.block k (by simp;omega) (fun e=>by have e1:w1.heap.size=k:=by { simpa [Value.ownBlock] using e };omega)⟩
    have hx2:w2.heap[w.heap.size+1]?=some (.cells #[] 29 (0,0)):=(hk.block (w.heap.size+1) (by simp;omega) (fun e=>by have e1:w1.heap.size=w.heap.size+1:=by { simpa [Value.ownBlock] using e };omega)).trans hx1a
    have hap:Value.ownBlock (.slice ao (allW t).length cp)≠some (w.heap.size+1):=fun e=>by
      rcases hk.own _ e with e1 | e1
      · have e2:w1.heap.size=w.heap.size+1:=by simpa [Value.ownBlock] using e1
        omega
      · simp at e1;omega
    obtain ⟨A,hA⟩:∃ A,allW t=A:=⟨_,rfl⟩
    rw [hA] at hTA hap hAl HT ⊢
    have HTA:Hid (TRow L B w.heap.size w2 D d (.slice ao A.length cp) A):=hTA
    have HAP:Hid (_≠_):=hap
    have HA:Hid (A.length=m):=hAl
    have hA6:A.length≤150:=by omega
    clear f0 f1 f2 f3 f4 f5 f6 f7 f8 hA hTA hap hAl hx1a hfW hk x1 x0 hba
    go_wp2_with fail
    go_loopw [3,5] (fun v i wr=>∃ (j:Nat) (aj:Option Addr) (nj cj:Nat),j≤A.length∧i=.int .i64 j∧v=.slice aj nj cj∧TRow L B w.heap.size wr D d (.slice aj nj cj) ((A.take j).filter isFn)∧Ko (.slice (some ⟨w.heap.size+1,0,none⟩) 0 0) w2 (.slice aj nj cj) wr) (fun _ i _=>A.length - (intOf i).toNat)
    case atStart=>exact ⟨0,_,_,_,by omega,rfl,rfl,trow_emp hx2 (by omega),Ko.of_below (Below.refl _ _)⟩
    case round =>
      obtain ⟨j,aj,nj,cj,hj,rfl,rfl,hTj,hkj⟩:=hrel
      have hzj:=hkj.size
      have hbwj:Below w.heap.size w wr:=hbw2.trans ⟨hkj.os,hkj.tape,hkj.output,hkj.size,fun k hk2=>hkj.block k (by omega) (fun e=>by have e1:w.heap.size+1=k:=by { simpa [Value.ownBlock] using e };omega)⟩
      by_cases hlt:j < A.length
      · have hTAj:TRow L B w.heap.size wr D d (.slice ao A.length cp) A:=trow_keep HTA.out (fun g hg=>hkj.block g (trow_own HTA.out hg).2 (fun e=>HAP.out (by
            have e1:w.heap.size+1=g:=by simpa [Value.ownBlock] using e
            rw [e1];exact hg))) (fun k _ hk2=>hkj.block k (by omega) (fun e=>by have e1:w.heap.size+1=k:=by { simpa [Value.ownBlock] using e };omega))
        obtain ⟨g,cap',e,hgb,hgw,b1,m1,d1,b2,m2,d2,b3,m3,d3,h9,hfj⟩:=trow_at hTAj j hlt
        injection e with e1 e2 e3
        subst e1
        subst e3
        have HF:=filter_take hlt
        obtain ⟨e0,e1,e2',e3,e4,e5,e6,e7,e8⟩:=h9
        by_cases h4:A[j].K=4
        · rw [if_pos h4] at HF
          have HF':Hid (_=_):=HF
          obtain ⟨n0,hn0⟩:∃ n,((A.take j).filter isFn).length=n:=⟨_,rfl⟩
          have hnj:nj=n0:=by
            obtain ⟨aq,cq,eq⟩:=trow_form hTj
            injection eq with _ eq2 _
            omega
          have hn6:n0≤150:=by have:=List.length_filter_le isFn (A.take j);rw [List.length_take] at this;omega
          obtain ⟨g3,cp3,w3,hrun,hT3,hk3⟩:=trow_push hTj (by omega) hB (by omega) (c1:=d1) (c2:=d2) (c3:=d3) hfj
          rw [hn0] at hrun hT3 hk3
          rw [← HF] at hT3
          have hkn:=hkj.trans hk3
          have HR:Hid ((Builtin.append_ #[27,27] 27 #[.slice aj nj cj,.slice (some ⟨wr.heap.size,0,none⟩) 1 1]).run Try.prog (wr.alloc (.cells #[.int .i64 4,.int .i64 A[j].N,.string A[j].S,.string A[j].Z,.int .i64 A[j].T.K,.int .i64 A[j].T.N,.slice b1 m1 d1,.slice b2 m2 d2,.slice b3 m3 d3] 29))=.ok (.slice (some ⟨g3,0,none⟩) (n0+1) cp3) w3):=by rw [h4] at hrun;exact hrun
          rw [h4] at e0
          clear HF hn0 hnj hrun hk3 hkj hTj h4 hTAj e2
          go_wp2_with (at_builtin;refine list_run HR.out (by rfl) _ _ (by rfl) (by rfl) (by rfl) (by rfl) ?_)
          go_roundw
          case rel=>exact ⟨j+1,_,_,_,by omega,by go_num,rfl,hT3,hkn⟩
          case measure=>simp [intOf];omega
        · rw [if_neg h4,List.append_nil] at HF
          have b4:(A[j].K == 4)=false:=by simp [h4]
          rw [← HF] at hTj
          clear HF h4 hTAj e2
          go_wp2_with fail
          go_roundw
          case rel=>exact ⟨j+1,_,_,_,by omega,by go_num,rfl,hTj,hkj⟩
          case measure=>simp [intOf];omega
      · have HK:Hid (lamT t=(A.take j).filter isFn):=by show _=_;rw [HT.out,List.take_of_length_le (by omega)]
        go_wp2_with fail
        go_ret
        exact ⟨_,rfl,hbwj,by rw [HK.out];exact hTj⟩
end Go.Proofs.Ytleghjgpnefliaa

/-
  The model's 'l6All', 'l6Lambdas', 'Lambdas'.
-/
namespace Go.Proofs.Ytleghjgpnefliaa
open Go.RowKit
set_option linter.unusedVariables false
set_option linter.unusedSimpArgs false
set_option maxRecDepth 100000 in
set_option maxHeartbeats 1000000 in
theorem sLambdas_any (D d L B:Nat) (t:Tm) (a1:Option Addr) (l1 c1:Nat) (a2:Option Addr) (l2 c2:Nat) (a3:Option Addr) (l3 c3:Nat) (w:World) (hB:B≤w.heap.size) (hf:Fm L B w D d t a1 l1 a2 l2 a3 l3) :
    Calls Try.prog 9 #[.agg #[.int .i64 t.K,.int .i64 t.N,.string t.S,.string t.Z,.int .i64 t.T.K,.int .i64 t.T.N,.slice a1 l1 c1,.slice a2 l2 c2,.slice a3 l3 c3]] w fun e w'=>e=.returned (.int .i64 ((lamT t).length:Int))∧Below w.heap.size w w':=by
  have hbel:Below w.heap.size w (w.alloc (.cells #[.int .i64 t.K,.int .i64 t.N,.string t.S,.string t.Z,.int .i64 t.T.K,.int .i64 t.T.N,.slice a1 l1 c1,.slice a2 l2 c2,.slice a3 l3 c3] 29)):=(Below.refl _ _).alloc (Nat.le_refl _) _
  have hf1:=Fm.below hbel hB hf
  have hll:=lamT_len t
  go_enter Try.func9,Try.ntmps9
  go_wp2_with fail
  refine (l6Lambdas_any D d L B t _ _ _ _ _ _ _ _ _ _ (by simp;omega) hf1).mono ?_
  rintro e w1 ⟨v,rfl,hb1,hT⟩
  obtain ⟨ao,cp,rfl⟩:=trow_form hT
  go_wp2_with fail
  go_ret
  exact ⟨rfl,hbel.trans (hb1.mono (by simp))⟩
end Go.Proofs.Ytleghjgpnefliaa

/-
  The law FnLambdas: its walk.
-/
namespace Go.Proofs.Ytleghjgpnefliaa
open Go.RowKit
set_option linter.unusedVariables false
set_option linter.unusedSimpArgs false
theorem big_any (cao:Option Addr) (clen ccap:Nat) (w:World) (hl:clen≤9223372036854775807) :
    Calls Try.prog 5 #[.slice cao clen ccap] w fun e w'=>e=.returned (.bool (decide (1048576 < (clen:Int))))∧w'=w:=by
  go_enter Try.func5,Try.ntmps5
  go_wp2_with fail
  go_ret
  exact ⟨ret_bool rfl,rfl⟩
set_option maxRecDepth 100000 in
set_option maxHeartbeats 4000000 in
theorem law_fnLambdas (cao:Option Addr) (clen ccap:Nat) (w:World) (hb:Bts w cao clen) (hl:clen≤9223372036854775807) :
    Calls Try.prog 3 #[.slice cao clen ccap] w fun e w'=>e=.returned (.bool true)∧Below w.heap.size w w':=by
  by_cases hbig:1048576 < (clen:Int)
  · have HBG:Hid (decide (1048576 < (clen:Int))=true):=by show _=_;simpa using hbig
    clear hbig
    go_enter Try.func3,Try.ntmps3
    go_wp2_with fail
    refine (big_any _ _ _ _ hl).mono ?_
    rintro e w1 ⟨rfl,hw⟩
    subst hw
    rw [HBG.out]
    go_wp2_with fail
    go_ret
    exact ⟨rfl,Below.refl _ _⟩
  · have HBG:Hid (decide (1048576 < (clen:Int))=false):=by show _=_;simpa using hbig
    go_enter Try.func3,Try.ntmps3
    go_wp2_with fail
    refine (big_any _ _ _ _ hl).mono ?_
    rintro e w1 ⟨rfl,hw⟩
    subst hw
    rw [HBG.out]
    go_wp2_with fail
    refine (drawLambdaAt_any cao clen ccap w1 hb (by omega)).mono ?_
    rintro e w2 ⟨tm,n,a1,l1,c1,a2,l2,c2,a3,l3,c3,rfl,hF2,hcm,hn1,hn2,hb2⟩
    have hz2:=hb2.size
    obtain ⟨Y,hY⟩:∃ Y,Y=w2.alloc (.cells #[.int .i64 tm.K,.int .i64 tm.N,.string tm.S,.string tm.Z,.int .i64 tm.T.K,.int .i64 tm.T.N,.slice a1 l1 c1,.slice a2 l2 c2,.slice a3 l3 c3] 29):=⟨_,rfl⟩
    have hYb:Below w2.heap.size w2 Y:=by rw [hY];exact (Below.refl _ _).alloc (Nat.le_refl _) _
    have hYs:Y.heap.size=w2.heap.size+1:=by rw [hY];simp
    have hY0:Y.heap[w2.heap.size]?=some (.cells #[.int .i64 tm.K,.int .i64 tm.N,.string tm.S,.string tm.Z,.int .i64 tm.T.K,.int .i64 tm.T.N,.slice a1 l1 c1,.slice a2 l2 c2,.slice a3 l3 c3] 29 (0,0)):=by rw [hY];exact heap_new rfl
    have hFY:=Fm.below hYb (Nat.le_refl _) hF2
    have hbY:Below w1.heap.size w1 Y:=hb2.trans (hYb.mono hz2)
    have HY:Hid (Y=_):=hY
    clear hY hF2
    obtain ⟨x0,x1,x2,x3,x4,x5,x6,x7,x8⟩:=Nine.box hY0
    go_wp2_with fail
    rw [← HY.out]
    refine (lambdas_any 50 25 w1.heap.size w2.heap.size tm a1 l1 c1 a2 l2 c2 a3 l3 c3 Y (by omega) hFY).mono ?_
    rintro e w3 ⟨rfl,hb3⟩
    have hz3:=hb3.size
    have y3:=(hb3.block w2.heap.size (by omega)).trans hY0
    have hF3:=Fm.below hb3 (show w2.heap.size≤Y.heap.size by omega) hFY
    have KA:=lambdaAt_any 50 25 w1.heap.size w2.heap.size tm a1 l1 c1 a2 l2 c2 a3 l3 c3 n w3 (by omega) hF3 (by omega)
    obtain ⟨R,hR⟩:∃ R,(latM tm n).1=R:=⟨_,rfl⟩
    obtain ⟨rb,hrb⟩:∃ rb,(latM tm n).2=rb:=⟨_,rfl⟩
    have hok:rb=decide (0≤n∧n < ((lamT tm).length:Int)):=by rw [← hrb];exact latM_ok tm n
    have hno:rb=false→R.K=0:=fun h=>by rw [← hR];exact latM_no (hrb.trans h)
    have hfn:rb=true→R.K=4:=fun h=>by rw [← hR];exact latM_fn (hrb.trans h)
    have hlam:=lamT_len tm
    rw [hR,hrb] at KA
    obtain ⟨many,hmany⟩:∃ many,(lamT tm).length=many:=⟨_,rfl⟩
    have HM:Hid ((lamT tm).length=many):=hmany
    rw [hmany] at hok hlam ⊢
    clear hR hrb hmany x0 x1 x2 x3 x4 x5 x6 x7 x8 hY0 hFY
    obtain ⟨x0,x1,x2,x3,x4,x5,x6,x7,x8⟩:=Nine.box y3
    have hb3w:Below w1.heap.size w1 w3:=hbY.trans (hb3.mono hbY.size)
    go_wp2_with fail
    refine KA.mono ?_
    rintro e w4 ⟨b1,m1,d1,b2,m2,d2,b3,m3,d3,rfl,hb4,hO4⟩
    have hz4:=hb4.size
    have y4:=(hb4.block w2.heap.size (by omega)).trans y3
    have hF4:=Fm.below hb4 (show w2.heap.size≤w3.heap.size by omega) hF3
    obtain ⟨Z,hZ⟩:∃ Z,Z=w4.alloc (.cells #[.int .i64 R.K,.int .i64 R.N,.string R.S,.string R.Z,.int .i64 R.T.K,.int .i64 R.T.N,.slice b1 m1 d1,.slice b2 m2 d2,.slice b3 m3 d3] 29):=⟨_,rfl⟩
    have hZb:Below w4.heap.size w4 Z:=by rw [hZ];exact (Below.refl _ _).alloc (Nat.le_refl _) _
    have hZs:Z.heap.size=w4.heap.size+1:=by rw [hZ];simp
    have hZ0:Z.heap[w4.heap.size]?=some (.cells #[.int .i64 R.K,.int .i64 R.N,.string R.S,.string R.Z,.int .i64 R.T.K,.int .i64 R.T.N,.slice b1 m1 d1,.slice b2 m2 d2,.slice b3 m3 d3] 29 (0,0)):=by rw [hZ];exact heap_new rfl
    have yZ:=(hZb.block w2.heap.size (by omega)).trans y4
    have hFZ:=Fm.below hZb (show w2.heap.size≤w4.heap.size by omega) hF4
    have hbZ:Below w1.heap.size w1 Z:=hb3w.trans ((hb4.mono hb3w.size).trans (hZb.mono (by omega)))
    have HZ:Hid (Z=_):=hZ
    clear hZ x0 x1 x2 x3 x4 x5 x6 x7 x8 y4 y3 hF3 hF4
    have KS:=sLambdas_any 50 25 w1.heap.size w2.heap.size tm a1 l1 c1 a2 l2 c2 a3 l3 c3 Z (by omega) hFZ
    rw [HM.out] at KS
    obtain ⟨x0,x1,x2,x3,x4,x5,x6,x7,x8⟩:=Nine.box yZ
    have hlt:w4.heap.size < Z.heap.size:=by omega
    have HRK:Hid (∀ W,Below Z.heap.size Z W→W.cell? ⟨w4.heap.size,0,none⟩=some (.int .i64 R.K)):=fun W hW=>(bcell hW hlt 0).trans (row_cell hZ0 0)
    have HE:Hid (∀ W,Below Z.heap.size Z W→Below w1.heap.size w1 W):=fun W hW=>hbZ.trans (hW.mono hbZ.size)
    go_upto_region 6 with fail
    rw [← HZ.out]
    by_cases h0:0≤n
    · by_cases h1:n < (many:Int)
      · have hrt:rb=true:=by rw [hok];simp [h0,h1]
        have hRK:=hfn hrt
        subst hrt
        clear hok hno hfn
        go_wp2_with fail
        refine KS.mono ?_
        rintro e w5 ⟨rfl,hb5⟩
        have k5:=HRK.out w5 hb5
        rw [hRK] at k5
        go_wp2_with fail
        go_ret
        exact ⟨rfl,HE.out _ hb5⟩
      · have hrt:rb=false:=by rw [hok];simp [h0,h1]
        have hRK:=hno hrt
        subst hrt
        clear hok hno hfn
        go_wp2_with fail
        refine KS.mono ?_
        rintro e w5 ⟨rfl,hb5⟩
        have k5:=HRK.out w5 hb5
        rw [hRK] at k5
        go_wp2_with fail
        go_ret
        exact ⟨rfl,HE.out _ hb5⟩
    · have hrt:rb=false:=by rw [hok];simp [h0]
      have hRK:=hno hrt
      subst hrt
      clear hok hno hfn
      go_wp2_with fail
      refine KS.mono ?_
      rintro e w5 ⟨rfl,hb5⟩
      have k5:=HRK.out w5 hb5
      rw [hRK] at k5
      go_wp2_with fail
      go_ret
      exact ⟨rfl,HE.out _ hb5⟩
end Go.Proofs.Ytleghjgpnefliaa
