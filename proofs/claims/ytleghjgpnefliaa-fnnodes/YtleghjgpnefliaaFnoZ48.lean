/-
  What the program's 'SameTerm' comes to where the first term's lists have blocks of their own.
-/
import Derived.Test.YtleghjgpnefliaaFnoAnM
import Derived.Test.YtleghjgpnefliaaFnoZ34
import Derived.Test.YtleghjgpnefliaaFnoZ40
import Derived.Test.YtleghjgpnefliaaFnoZ41
import Derived.Test.YtleghjgpnefliaaFnoZ42
namespace Go.Proofs.Ytleghjgpnefliaa
open Go.RowKit
set_option linter.unusedVariables false
set_option linter.unusedSimpArgs false
set_option maxHeartbeats 4000000 in
theorem sameTerm_any (D d L B L' B':Nat) (t t':Tm) (a1:Option Addr) (l1 c1:Nat) (a2:Option Addr) (l2 c2:Nat) (a3:Option Addr) (l3 c3:Nat) (b1:Option Addr) (m1 d1:Nat) (b2:Option Addr) (m2 d2:Nat) (b3:Option Addr) (m3 d3:Nat) (b:Bool) (w:World) (hB:B≤w.heap.size) (hB':B'≤w.heap.size)
 (ho:FmO L B w D d t a1 l1 a2 l2 a3 l3) (hs':Fm L' B' w D d t' b1 m1 b2 m2 b3 m3) (hb:b=true↔t=t') (hc:cntM t≤1048576) :
 Calls Try.prog 12 #[.agg #[.int .i64 t.K,.int .i64 t.N,.string t.S,.string t.Z,.int .i64 t.T.K,.int .i64 t.T.N,.slice a1 l1 c1,.slice a2 l2 c2,.slice a3 l3 c3],.agg #[.int .i64 t'.K,.int .i64 t'.N,.string t'.S,.string t'.Z,.int .i64 t'.T.K,.int .i64 t'.T.N,.slice b1 m1 d1,.slice b2 m2 d2,.slice b3 m3 d3]] w fun e w'=>e=.returned (.bool b)∧Below w.heap.size w w':=by
 have hs:=ho.fm
 obtain⟨X,hX⟩:∃ X,X=((w.alloc (.cells #[.int .i64 t.K,.int .i64 t.N,.string t.S,.string t.Z,.int .i64 t.T.K,.int .i64 t.T.N,.slice a1 l1 c1,.slice a2 l2 c2,.slice a3 l3 c3] 29)).alloc (.cells #[.int .i64 t'.K,.int .i64 t'.N,.string t'.S,.string t'.Z,.int .i64 t'.T.K,.int .i64 t'.T.N,.slice b1 m1 d1,.slice b2 m2 d2,.slice b3 m3 d3] 29)):=⟨_,rfl⟩
 have hbel:Below w.heap.size w X:=by rw [hX];exact ((Below.refl _ _).alloc (Nat.le_refl _) _).alloc (by simp) _
 have hXs:X.heap.size=w.heap.size+2:=by rw [hX];simp
 have hX0:X.heap[w.heap.size]?=some (.cells #[.int .i64 t.K,.int .i64 t.N,.string t.S,.string t.Z,.int .i64 t.T.K,.int .i64 t.T.N,.slice a1 l1 c1,.slice a2 l2 c2,.slice a3 l3 c3] 29 (0,0)):=by rw [hX,Below.heap_alloc _ _ _ (by simp)];exact Qac rfl
 have hX1:X.heap[w.heap.size+1]?=some (.cells #[.int .i64 t'.K,.int .i64 t'.N,.string t'.S,.string t'.Z,.int .i64 t'.T.K,.int .i64 t'.T.N,.slice b1 m1 d1,.slice b2 m2 d2,.slice b3 m3 d3] 29 (0,0)):=by rw [hX];exact Qac (by simp)
 have HX:Hid (X=_):=hX
 have HB:Hid (b=true↔_):=hb
 clear hX hb
 go_enter Try.func12,Try.ntmps12
 go_wp2_with fail
 rw [← HX.out]
 refine (termOk_any D d L B t _ _ _ _ _ _ _ _ _ _ (by omega) (Fm.below hbel hB hs)).mono ?_
 rintro e w1 ⟨rfl,hb1⟩
 have hz1:=hb1.size
 have hbw1:Below w.heap.size w w1:=hbel.trans (hb1.mono (by omega))
 have y0:=(hb1.block _ (by omega)).trans hX0
 have y1:=(hb1.block _ (by omega)).trans hX1
 obtain⟨f0,f1,f2,f3,f4,f5,f6,f7,f8⟩:=Nine.box y0
 obtain⟨g0,g1,g2,g3,g4,g5,g6,g7,g8⟩:=Nine.box y1
 simp only [Nat.zero_add] at f1 f2 f3 f4 f5 f6 f7 f8 g1 g2 g3 g4 g5 g6 g7 g8
 go_wp2_with fail
 refine (termOk_any D d L' B' t' _ _ _ _ _ _ _ _ _ _ (by omega) (Fm.below hbw1 hB' hs')).mono ?_
 rintro e w2 ⟨rfl,hb2⟩
 have hz2:=hb2.size
 have hbw2:Below w.heap.size w w2:=hbw1.trans (hb2.mono (by omega))
 replace y0:=(hb2.block _ (by omega)).trans y0
 replace y1:=(hb2.block _ (by omega)).trans y1
 clear f0 f1 f2 f3 f4 f5 f6 f7 f8 g0 g1 g2 g3 g4 g5 g6 g7 g8
 obtain⟨f0,f1,f2,f3,f4,f5,f6,f7,f8⟩:=Nine.box y0
 obtain⟨g0,g1,g2,g3,g4,g5,g6,g7,g8⟩:=Nine.box y1
 simp only [Nat.zero_add] at f1 f2 f3 f4 f5 f6 f7 f8 g1 g2 g3 g4 g5 g6 g7 g8
 have HE:Hid (t=t'->okM t=okM t'):=fun h=>by rw [h]
 cases h1:okM t
 all_goals cases h2:okM t'
 · clear h1 h2 HE hX0 hX1
   obtain⟨bs,⟨p1,p2,p3,hbs,q1,q2,q3,q4,q5⟩,hnd,hrng⟩:=ho
   have hin:∀ x∈bs,x<w.heap.size:=fun x hx=>Nat.lt_of_lt_of_le (hrng x hx).2 hB
   have hk:∀ x∈bs,w2.heap[x]?=w.heap[x]?:=fun x hx=>hbw2.block x (hin x hx)
   have HI:Hid (ImOk w2 D d L' B' ⟨t,a1,l1,c1,a2,l2,c2,a3,l3,c3,p1,p2,p3,t',b1,m1,d1,b2,m2,d2,b3,m3,d3⟩):=by
    refine⟨q1,q2,q3.keep fun x hx=>hk x (by rw [hbs];simp [hx]),q4.keep fun x hx=>hk x (by rw [hbs];simp [hx]),q5.keep fun x hx=>hk x (by rw [hbs];simp [hx]),Fm.below hbw2 hB' hs'⟩
   have HND:Hid ((p1++p2++p3).Nodup):=by show (p1++p2++p3).Nodup;rw [← hbs];exact hnd
   have HRN:Hid (∀ x∈p1++p2++p3,x<w2.heap.size):=fun x hx=>Nat.lt_of_lt_of_le (hin x (by rw [hbs];exact hx)) hbw2.size
   clear hin hk q1 q2 q3 q4 q5 hnd hrng hbs
   go_wp2_with fail
   refine (sameAnyTerm_any D d L' B' ⟨t,a1,l1,c1,a2,l2,c2,a3,l3,c3,p1,p2,p3,t',b1,m1,d1,b2,m2,d2,b3,m3,d3⟩ b _ (by omega) HI.out HND.out HRN.out HB.out hc).mono ?_
   rintro e w3 ⟨rfl,hb3⟩
   go_wp2_with fail
   go_ret
   exact⟨rfl,hbw2.trans (hb3.mono (by omega))⟩
 · have HF:Hid (b=false):=by
    show _=_
    rw [Bool.eq_false_iff];intro h
    have:=HE.out (HB.out.1 h)
    rw [h1,h2] at this;cases this
   clear h1 h2
   go_wp2_with fail
   go_ret
   exact⟨Qak HF.out.symm,hbw2⟩
 · have HF:Hid (b=false):=by
    show _=_
    rw [Bool.eq_false_iff];intro h
    have:=HE.out (HB.out.1 h)
    rw [h1,h2] at this;cases this
   clear h1 h2
   go_wp2_with fail
   go_ret
   exact⟨Qak HF.out.symm,hbw2⟩
 · clear h1 h2 HE
   go_wp2_with fail
   refine (rtM_any d D L B L' B' t t' _ _ _ _ _ _ _ _ _ _ _ _ _ _ _ _ _ _ b _ (by omega) (by omega) (Fm.below hbw2 hB hs) (Fm.below hbw2 hB' hs') HB.out).mono ?_
   rintro e w3 ⟨rfl,hb3⟩
   go_wp2_with fail
   go_ret
   exact⟨rfl,hbw2.trans (hb3.mono (by omega))⟩
theorem big_any (cao:Option Addr) (clen ccap:Nat) (w:World) (hl:clen≤9223372036854775807) :
 Calls Try.prog 5 #[.slice cao clen ccap] w fun e w'=>e=.returned (.bool (decide (1048576<(clen:Int))))∧w'=w:=by
 go_enter Try.func5,Try.ntmps5
 go_wp2_with fail
 go_ret
 exact⟨Qak rfl,rfl⟩
set_option maxRecDepth 100000 in
set_option maxHeartbeats 8000000 in
theorem law_fnNodes (cao:Option Addr) (clen ccap:Nat) (w:World) (hb:Bts w cao clen) (hl:clen≤9223372036854775807) :
 Calls Try.prog 4 #[.slice cao clen ccap] w fun e w'=>e=.returned (.bool true)∧Below w.heap.size w w':=by
 by_cases hbig:1048576<(clen:Int)
 · have HBG:Hid (decide (1048576<(clen:Int))=true):=by show _=_;simpa using hbig
   clear hbig
   go_enter Try.func4,Try.ntmps4
   go_wp2_with fail
   refine (big_any _ _ _ _ hl).mono ?_
   rintro e w1 ⟨rfl,hw⟩
   subst hw
   rw [HBG.out]
   go_wp2_with fail
   go_ret
   exact⟨rfl,Below.refl _ _⟩
 · have HBG:Hid (decide (1048576<(clen:Int))=false):=by show _=_;simpa using hbig
   go_enter Try.func4,Try.ntmps4
   go_wp2_with fail
   refine (big_any _ _ _ _ hl).mono ?_
   rintro e w1 ⟨rfl,hw⟩
   subst hw
   rw [HBG.out]
   go_wp2_with fail
   refine (drawTerm_any cao clen ccap w1 hb (by omega)).mono ?_
   rintro e w2 ⟨rv,tm,rfl,⟨a1,l1,c1,a2,l2,c2,a3,l3,c3,rfl,hF2⟩,hok,hb2⟩
   have hz2:=hb2.size
   have hcm:cntM tm≤1048576:=by
    obtain⟨m,hm,hm6⟩:=Qeh hok
    have:=nodesM_cnt _ _ _ hm
    omega
   obtain⟨Y,hY⟩:∃ Y,Y=w2.alloc (.cells #[.int .i64 tm.K,.int .i64 tm.N,.string tm.S,.string tm.Z,.int .i64 tm.T.K,.int .i64 tm.T.N,.slice a1 l1 c1,.slice a2 l2 c2,.slice a3 l3 c3] 29):=⟨_,rfl⟩
   have hYb:Below w2.heap.size w2 Y:=by rw [hY];exact (Below.refl _ _).alloc (Nat.le_refl _) _
   have hYs:Y.heap.size=w2.heap.size+1:=by rw [hY];simp
   have hY0:Y.heap[w2.heap.size]?=some (.cells #[.int .i64 tm.K,.int .i64 tm.N,.string tm.S,.string tm.Z,.int .i64 tm.T.K,.int .i64 tm.T.N,.slice a1 l1 c1,.slice a2 l2 c2,.slice a3 l3 c3] 29 (0,0)):=by rw [hY];exact Qac rfl
   have HY:Hid (Y=_):=hY
   clear hY
   have hFY:Fm w1.heap.size w2.heap.size Y 16 24 tm a1 l1 a2 l2 a3 l3:=(Fm.below hYb (Nat.le_refl _) hF2).wider (fun _ _ _ k=>k.deeper (by omega)) (fun _ _ _ k=>k.deeper (by omega) (by omega))
   have hbY:Below w1.heap.size w1 Y:=hb2.trans (hYb.mono hz2)
   have KN:=nodeAt_any 15 24 w1.heap.size w2.heap.size tm a1 l1 c1 a2 l2 c2 a3 l3 c3 0 Y (by omega) (Fm.below hYb (Nat.le_refl _) hF2) hcm
   rw [natM_zero hok] at KN
   obtain⟨x0,x1,x2,x3,x4,x5,x6,x7,x8⟩:=Nine.box hY0
   clear hF2 hok
   go_upto_region 4 with fail
   rw [← HY.out]
   go_wp2_with fail
   refine KN.mono ?_
   rintro e w3 ⟨b1,m1,e1,b2,m2,e2,b3,m3,e3,rfl,hb3,hO3⟩
   have hz3:=hb3.size
   have y3:=(hb3.block w2.heap.size (by omega)).trans hY0
   obtain⟨Z,hZ⟩:∃ Y,Y=w3.alloc (.cells #[.int .i64 tm.K,.int .i64 tm.N,.string tm.S,.string tm.Z,.int .i64 tm.T.K,.int .i64 tm.T.N,.slice b1 m1 e1,.slice b2 m2 e2,.slice b3 m3 e3] 29):=⟨_,rfl⟩
   have hZb:Below w3.heap.size w3 Z:=by rw [hZ];exact (Below.refl _ _).alloc (Nat.le_refl _) _
   have hZs:Z.heap.size=w3.heap.size+1:=by rw [hZ];simp
   have hZ0:Z.heap[w3.heap.size]?=some (.cells #[.int .i64 tm.K,.int .i64 tm.N,.string tm.S,.string tm.Z,.int .i64 tm.T.K,.int .i64 tm.T.N,.slice b1 m1 e1,.slice b2 m2 e2,.slice b3 m3 e3] 29 (0,0)):=by rw [hZ];exact Qac rfl
   have HZ:Hid (Z=_):=hZ
   clear hZ
   have hFZ:=Fm.below (hb3.trans (hZb.mono hb3.size)) (show w2.heap.size≤Y.heap.size by omega) hFY
   have hOZ:=hO3.below hZb (Nat.le_refl _)
   have yZ:=(hZb.block w2.heap.size (by omega)).trans y3
   have hbZ:Below w1.heap.size w1 Z:=hbY.trans ((hb3.trans (hZb.mono hb3.size)).mono hbY.size)
   have KT:=sameTerm_any 16 24 Y.heap.size w3.heap.size w1.heap.size w2.heap.size tm tm b1 m1 e1 b2 m2 e2 b3 m3 e3 a1 l1 c1 a2 l2 c2 a3 l3 c3 true Z (by omega) (by omega) hOZ hFZ (by simp) hcm
   clear x0 x1 x2 x3 x4 x5 x6 x7 x8 hY0 y3 KN hO3
   obtain⟨x0,x1,x2,x3,x4,x5,x6,x7,x8⟩:=Nine.box yZ
   obtain⟨y0,y1,y2,y3,y4,y5,y6,y7,y8⟩:=Nine.box hZ0
   go_upto_region 5 with fail
   rw [← HZ.out]
   go_wp2_with fail
   refine KT.mono ?_
   rintro e w4 ⟨rfl,hb4⟩
   have hz4:=hb4.size
   have hb4w:Below w1.heap.size w1 w4:=hbZ.trans (hb4.mono hbZ.size)
   have hz4w:=hb4w.size
   have KD:=drawNodeAt_any cao clen ccap w4 (bts_bel hb hb4w) (by omega)
   clear x0 x1 x2 x3 x4 x5 x6 x7 x8 y0 y1 y2 y3 y4 y5 y6 y7 y8 hZ0 yZ KT hOZ hFZ hFY hb2 hYb hZb hb3 hb4 hbY hbZ HY HZ hYs hZs hz2 hz3 hz4 hb
   go_wp2_with fail
   refine KD.mono ?_
   rintro e w5 ⟨t,n,p1,n1,i1,p2,n2,i2,p3,n3,i3,rfl,hF5,hc5,hn0,hn1,hb5⟩
   have hz5:=hb5.size
   obtain⟨V,hV⟩:∃ Y,Y=w5.alloc (.cells #[.int .i64 t.K,.int .i64 t.N,.string t.S,.string t.Z,.int .i64 t.T.K,.int .i64 t.T.N,.slice p1 n1 i1,.slice p2 n2 i2,.slice p3 n3 i3] 29):=⟨_,rfl⟩
   have hVb:Below w5.heap.size w5 V:=by rw [hV];exact (Below.refl _ _).alloc (Nat.le_refl _) _
   have hVs:V.heap.size=w5.heap.size+1:=by rw [hV];simp
   have hV0:V.heap[w5.heap.size]?=some (.cells #[.int .i64 t.K,.int .i64 t.N,.string t.S,.string t.Z,.int .i64 t.T.K,.int .i64 t.T.N,.slice p1 n1 i1,.slice p2 n2 i2,.slice p3 n3 i3] 29 (0,0)):=by rw [hV];exact Qac rfl
   have HV:Hid (V=_):=hV
   clear hV
   have hFV:=Fm.below hVb (Nat.le_refl _) hF5
   have hbV:Below w1.heap.size w1 V:=hb4w.trans ((hb5.trans (hVb.mono hb5.size)).mono hz4w)
   have KA:=nodeAt_any 50 25 w4.heap.size w5.heap.size t p1 n1 i1 p2 n2 i2 p3 n3 i3 n V (by omega) hFV (by omega)
   obtain⟨R,hR⟩:∃ R,(natM t n).1=R:=⟨_,rfl⟩
   obtain⟨rb,hrb⟩:∃ rb,(natM t n).2=rb:=⟨_,rfl⟩
   have hrok:rb=decide (0≤n∧n<(Qcp t:Int)):=by rw [← hrb];exact natM_ok t n
   have hno:rb=false->R.K=0:=fun h=>by rw [← hR];exact natM_no (hrb.trans h)
   have hlf:rb=true->R.A=[]->Qcp R=1:=fun h h2=>by rw [← hR] at h2 ⊢;exact natM_leaf (hrb.trans h) h2
   have hnx:rb=true->∀ a r,R.A=a::r->natM t (n+1)=(a,true):=fun h a r h2=>natM_next (hrb.trans h) (by rw [hR];exact h2)
   have hRc:cntM R≤1048576:=by rw [← hR];have:=nodeAt_cnt t n;omega
   rw [hR,hrb] at KA
   obtain⟨x0,x1,x2,x3,x4,x5,x6,x7,x8⟩:=Nine.box hV0
   clear hR hrb hF5
   go_upto_region 8 with fail
   rw [← HV.out]
   go_wp2_with fail
   refine KA.mono ?_
   rintro e w6 ⟨q1,k1,j1,q2,k2,j2,q3,k3,j3,rfl,hb6,hO6⟩
   have hz6:=hb6.size
   have v6:=(hb6.block w5.heap.size (by omega)).trans hV0
   obtain⟨U,hU⟩:∃ Y,Y=w6.alloc (.cells #[.int .i64 R.K,.int .i64 R.N,.string R.S,.string R.Z,.int .i64 R.T.K,.int .i64 R.T.N,.slice q1 k1 j1,.slice q2 k2 j2,.slice q3 k3 j3] 29):=⟨_,rfl⟩
   have hUb:Below w6.heap.size w6 U:=by rw [hU];exact (Below.refl _ _).alloc (Nat.le_refl _) _
   have hUs:U.heap.size=w6.heap.size+1:=by rw [hU];simp
   have hU0:U.heap[w6.heap.size]?=some (.cells #[.int .i64 R.K,.int .i64 R.N,.string R.S,.string R.Z,.int .i64 R.T.K,.int .i64 R.T.N,.slice q1 k1 j1,.slice q2 k2 j2,.slice q3 k3 j3] 29 (0,0)):=by rw [hU];exact Qac rfl
   have HU:Hid (U=_):=hU
   clear hU
   have hOU:=hO6.below hUb (Nat.le_refl _)
   have hbU:Below w1.heap.size w1 U:=hbV.trans ((hb6.trans (hUb.mono hb6.size)).mono hbV.size)
   have vU:=(hUb.block w5.heap.size (by omega)).trans v6
   have hFU:=Fm.below (hb6.trans (hUb.mono hb6.size)) (show w5.heap.size≤V.heap.size by omega) hFV
   have hzU:=hbU.size
   have hltv:w5.heap.size<U.heap.size:=by omega
   have hltu:w6.heap.size<U.heap.size:=by omega
   clear x0 x1 x2 x3 x4 x5 x6 x7 x8 hV0 v6 KA hO6 hFV hbV hb5 hVb hb6 hUb
   have KO:=nodesOf_any 50 25 w4.heap.size w5.heap.size t p1 n1 i1 p2 n2 i2 p3 n3 i3 U (by omega) hFU
   have HE:Hid (∀ W,Below U.heap.size U W->Below w1.heap.size w1 W):=fun W hW=>hbU.trans (hW.mono hzU)
   have HU0:Hid (∀ W,Below U.heap.size U W->W.heap[w6.heap.size]?=some (.cells #[.int .i64 R.K,.int .i64 R.N,.string R.S,.string R.Z,.int .i64 R.T.K,.int .i64 R.T.N,.slice q1 k1 j1,.slice q2 k2 j2,.slice q3 k3 j3] 29 (0,0))∧W.heap[w5.heap.size]?=some (.cells #[.int .i64 t.K,.int .i64 t.N,.string t.S,.string t.Z,.int .i64 t.T.K,.int .i64 t.T.N,.slice p1 n1 i1,.slice p2 n2 i2,.slice p3 n3 i3] 29 (0,0))):=fun W hW=>⟨(hW.block _ hltu).trans hU0,(hW.block _ hltv).trans vU⟩
   obtain⟨x0,x1,x2,x3,x4,x5,x6,x7,x8⟩:=Nine.box vU
   obtain⟨y0,y1,y2,y3,y4,y5,y6,y7,y8⟩:=Nine.box hU0
   obtain⟨many,hmany⟩:∃ many,Qcp t=many:=⟨_,rfl⟩
   rw [hmany] at KO hrok
   clear hmany hU0 vU hbU
   go_upto_region 9 with fail
   rw [← HU.out]
   have CB:Below U.heap.size U U:=Below.refl _ _
   by_cases h0:0≤n
   · by_cases h1:n<(many:Int)
     · have hrt:rb=true:=by rw [hrok];simp [h0,h1]
       subst hrt
       have hlf2:=hlf rfl
       have hnx2:=hnx rfl
       clear hrok hno hlf hnx
       go_wp2_with fail
       refine KO.mono ?_
       rintro e w7 ⟨rfl,hb7⟩
       have hz7:=hb7.size
       obtain⟨r7,t7⟩:=HU0.out w7 hb7
       have hO7:=hOU.below hb7 (show w6.heap.size≤U.heap.size by omega)
       have hF7:=Fm.below hb7 (show w5.heap.size≤U.heap.size by omega) hFU
       have HK3:Hid (k3=R.A.length):=hO7.fm.m.len.1
       have hk3:=hO7.fm.m.len.2
       clear x0 x1 x2 x3 x4 x5 x6 x7 x8 y0 y1 y2 y3 y4 y5 y6 y7 y8 KO hOU hFU
       obtain⟨x0,x1,x2,x3,x4,x5,x6,x7,x8⟩:=Nine.box t7
       obtain⟨y0,y1,y2,y3,y4,y5,y6,y7,y8⟩:=Nine.box r7
       by_cases hk:k3=0
       · have hRA:R.A=[]:=List.length_eq_zero_iff.1 (by have:=HK3.out;omega)
         have hone:=hlf2 hRA
         have KR:=nodesOf_any 51 25 V.heap.size w6.heap.size R q1 k1 j1 q2 k2 j2 q3 k3 j3 w7 (by omega) hO7.fm
         rw [hone] at KR
         subst hk
         clear hlf2 hnx2 hone hRA
         go_wp2_with fail
         refine KR.mono ?_
         rintro e w8 ⟨rfl,hb8⟩
         go_wp2_with fail
         go_ret
         exact⟨rfl,HE.out _ (hb7.trans (hb8.mono hz7))⟩
       · obtain⟨a,r,hRA⟩:∃ a r,R.A=a::r:=by
          cases h:R.A with
          | nil=>exact absurd (by have:=HK3.out;rw [h] at this;exact this) hk
          | cons a r=>exact⟨a,r,rfl⟩
         have hnat:=hnx2 a r hRA
         have hkI:¬ (k3:Int)=0:=by omega
         have hkb:((k3:Int)==0)=false:=by simp [hk]
         have hk0:(0:Int)<(k3:Int):=by omega
         have hk0n:0<k3:=by omega
         have KY:=nodeAt_any 50 25 w4.heap.size w5.heap.size t p1 n1 i1 p2 n2 i2 p3 n3 i3 (n+1) w7 (by omega) hF7 (by omega)
         rw [hnat] at KY
         have hac:cntM a≤1048576:=by
          have:=nodeAt_cnt t (n+1)
          rw [hnat] at this
          simp only at this
          omega
         obtain⟨g,o,eg,hg1,hg2,f1,f2,f3,f4,f5,f6,f7,f8,f9,hN9,hFa⟩:=hO7.fm.m.get 0 (by rw [hRA];simp)
         have ea:R.A[0]'(by rw [hRA];simp)=a:=by simp [hRA]
         rw [ea] at hN9 hFa
         rw [Nat.zero_mul,Nat.add_zero] at hN9
         subst eg
         have hF7a:Fm V.heap.size w6.heap.size w7 51 25 a f1 f2 f4 f5 f7 f8:=hFa.wider (fun _ _ _ k=>k) (fun _ _ _ k=>k.deeper (by omega) (Nat.le_refl _))
         have hgw:g<w7.heap.size:=by omega
         clear hlf2 hnx2 hRA hnat ea hFa hF7 hO7
         go_upto_region 15 with fail
         go_wp2_with fail
         refine KY.mono ?_
         rintro e w8 ⟨u1,v1,z1,u2,v2,z2,u3,v3,z3,rfl,hb8,hO8⟩
         have hz8:=hb8.size
         obtain⟨S,hS⟩:∃ Y,Y=w8.alloc (.cells #[.int .i64 a.K,.int .i64 a.N,.string a.S,.string a.Z,.int .i64 a.T.K,.int .i64 a.T.N,.slice u1 v1 z1,.slice u2 v2 z2,.slice u3 v3 z3] 29):=⟨_,rfl⟩
         have hSb:Below w8.heap.size w8 S:=by rw [hS];exact (Below.refl _ _).alloc (Nat.le_refl _) _
         have hSs:S.heap.size=w8.heap.size+1:=by rw [hS];simp
         have hS0:S.heap[w8.heap.size]?=some (.cells #[.int .i64 a.K,.int .i64 a.N,.string a.S,.string a.Z,.int .i64 a.T.K,.int .i64 a.T.N,.slice u1 v1 z1,.slice u2 v2 z2,.slice u3 v3 z3] 29 (0,0)):=by rw [hS];exact Qac rfl
         have HS:Hid (S=_):=hS
         clear hS
         have hOS:=hO8.below hSb (Nat.le_refl _)
         have hb8S:Below w7.heap.size w7 S:=hb8.trans (hSb.mono hz8)
         have hFS:=Fm.below hb8S (show w6.heap.size≤w7.heap.size by omega) hF7a
         have rS:=(hb8S.block w6.heap.size (by omega)).trans r7
         have hN9S:=hN9.world (hb8S.block g hgw)
         have hzS:=hb8S.size
         have HTB:Hid (∀ W,Below S.heap.size S W->Calls Try.prog 12 #[.agg #[.int .i64 a.K,.int .i64 a.N,.string a.S,.string a.Z,.int .i64 a.T.K,.int .i64 a.T.N,.slice u1 v1 z1,.slice u2 v2 z2,.slice u3 v3 z3],.agg #[.int .i64 a.K,.int .i64 a.N,.string a.S,.string a.Z,.int .i64 a.T.K,.int .i64 a.T.N,.slice f1 f2 f3,.slice f4 f5 f6,.slice f7 f8 f9]] W fun e w'=>e=.returned (.bool true)∧Below W.heap.size W w'):=fun W hW =>
          sameTerm_any 51 25 w7.heap.size w8.heap.size V.heap.size w6.heap.size a a u1 v1 z1 u2 v2 z2 u3 v3 z3 f1 f2 f3 f4 f5 f6 f7 f8 f9 true W (by have:=hW.size;omega) (by have:=hW.size;omega) (hOS.below hW (by omega)) (Fm.below hW (by omega) hFS) (by simp) hac
         have HES:Hid (∀ W,Below S.heap.size S W->Below w1.heap.size w1 W):=fun W hW=>HE.out W (hb7.trans ((hb8S.trans (hW.mono hzS)).mono hz7))
         clear x0 x1 x2 x3 x4 x5 x6 x7 x8 y0 y1 y2 y3 y4 y5 y6 y7 y8 hN9 hF7a hOS hFS KY hO8
         obtain⟨x0,x1,x2,x3,x4,x5,x6,x7,x8⟩:=Nine.box hS0
         obtain⟨y0,y1,y2,y3,y4,y5,y6,y7,y8⟩:=Nine.box rS
         obtain⟨g0,g1,g2,g3,g4,g5,g6,g7,g8⟩:=hN9S
         go_upto_region 16 with fail
         rw [← HS.out]
         go_region_law (first
          | (go_simp;go_at_call 12;refine (HTB.out _ (Below.refl _ _).drew).mono ?_;rintro e w9 ⟨rfl,hb9⟩))
         all_goals
          go_wp2_with fail
          go_ret
          exact⟨rfl,HES.out _ (((Below.refl _ _).drew).trans (hb9.mono (Nat.le_refl _)))⟩
     · have hrt:rb=false:=by rw [hrok];simp [h0,h1]
       have hRK:=hno hrt
       subst hrt
       clear hrok hno hlf hnx x0 x1 x2 x3 x4 x5 x6 x7 x8 
       obtain⟨x0,x1,x2,x3,x4,x5,x6,x7,x8⟩:=Nine.box (HU0.out U CB).2
       go_wp2_with fail
       refine KO.mono ?_
       rintro e w7 ⟨rfl,hb7⟩
       have k7:=Qaa (HU0.out w7 hb7).1 0
       clear y0 y1 y2 y3 y4 y5 y6 y7 y8
       rw [hRK] at k7
       have hd1:¬ n<(many:Int):=by omega
       have hd2:decide (n<(many:Int))=false:=by simp;omega
       go_wp2_with fail
       go_ret
       exact⟨rfl,HE.out _ hb7⟩
   · have hrt:rb=false:=by rw [hrok];simp [h0]
     have hRK:=hno hrt
     subst hrt
     clear hrok hno hlf hnx
     rw [hRK] at y0
     go_wp2_with fail
     go_ret
     exact⟨rfl,HE.out _ CB⟩
end Go.Proofs.Ytleghjgpnefliaa
