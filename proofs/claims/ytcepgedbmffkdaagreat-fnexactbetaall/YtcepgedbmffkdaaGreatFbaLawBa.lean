/-
  The law FnExactBetaAll's walk: whatever term lies in memory, true. (Written by mkt1.py.)
-/
import Derived.Test.YtcepgedbmffkdaaGreatFbaZ34
import Derived.Test.YtcepgedbmffkdaaGreatFbaZ37
import Derived.Test.YtcepgedbmffkdaaGreatFbaZ42
import Derived.Test.YtcepgedbmffkdaaGreatFbaZ45
import Derived.Test.YtcepgedbmffkdaaGreatFbaZ47
import Derived.Test.YtcepgedbmffkdaaGreatFbaZ23
import Derived.Test.YtcepgedbmffkdaaGreatFbaToM
namespace Go.Proofs.YtcepgedbmffkdaaGreat
open Go.RowKit
set_option linter.unusedVariables false
set_option linter.unusedSimpArgs false
theorem Fm.deep2A {L B:Nat} {w:World} {D D' d d':Nat} {t:Tm} {a1 a2 a3:Option Addr} {l1 l2 l3:Nat} (h:Fm L B w D d t a1 l1 a2 l2 a3 l3) (hD:D≤D') (hd:d≤d'):Fm L B w D' d' t a1 l1 a2 l2 a3 l3:=h.wider (fun _ _ _ k=>k.deeper hD) (fun _ _ _ k=>k.deeper hd hD)
set_option maxRecDepth 100000 in
set_option maxHeartbeats 4000000 in
theorem law_betaAllOf (SP:∀ l,SaidSput l) (D d L B:Nat) (t:Tm) (a1:Option Addr) (l1 c1:Nat) (a2:Option Addr) (l2 c2:Nat) (a3:Option Addr) (l3 c3:Nat) (w:World) (hB:B≤w.heap.size) (hf:Fm L B w D d t a1 l1 a2 l2 a3 l3) :
    Calls Tryz.prog 4 #[.agg #[.int .i64 t.K,.int .i64 t.N,.string t.S,.string t.Z,.int .i64 t.T.K,.int .i64 t.T.N,.slice a1 l1 c1,.slice a2 l2 c2,.slice a3 l3 c3]] w fun e w'=>e=.returned (.bool true)∧Below w.heap.size w w':=by
  obtain ⟨X,hX⟩:∃ X,X=w.alloc (.cells #[.int .i64 t.K,.int .i64 t.N,.string t.S,.string t.Z,.int .i64 t.T.K,.int .i64 t.T.N,.slice a1 l1 c1,.slice a2 l2 c2,.slice a3 l3 c3] 27):=⟨_,rfl⟩
  have hXs:X.heap.size=w.heap.size+1:=by rw [hX];simp
  have hXb:Below w.heap.size w X:=by rw [hX];exact (Below.refl _ _).alloc (Nat.le_refl _) _
  have hX1:X.heap[w.heap.size]?=some (.cells #[.int .i64 t.K,.int .i64 t.N,.string t.S,.string t.Z,.int .i64 t.T.K,.int .i64 t.T.N,.slice a1 l1 c1,.slice a2 l2 c2,.slice a3 l3 c3] 27 (0,0)):=by rw [hX];exact heap_new rfl
  have hf1:=Fm.below hXb hB hf
  have HX:Hid (X=_):=hX
  clear hX
  by_cases hc:(cntM t:Int)≤1048576
  · have hcn:cntM t≤1048576:=by omega
    go_enter Tryz.func4,Tryz.ntmps4
    go_wp2_with fail
    rw [← HX.out]
    refine (szTerm_any D d L B t _ _ _ _ _ _ _ _ _ _ _ (by omega) hf1 (by omega) (by omega)).mono ?_
    rintro e w1 ⟨rfl,hb1⟩
    rw [szN_pos hc]
    have hz1:=hb1.size
    have hb1w:Below w.heap.size w w1:=hXb.trans (hb1.mono (by omega))
    have y1:=(hb1.block _ (by omega)).trans hX1
    obtain ⟨f0,f1,f2,f3,f4,f5,f6,f7,f8⟩:=Nine.box y1
    clear hX1 hf1
    go_wp2_with fail
    refine (toTerm_any D d L B t _ _ _ _ _ _ _ _ _ _ (by omega) (Fm.below hb1w hB hf) hcn).mono ?_
    rintro e w2 ⟨g21,g22,g23,rfl,hb2,hs2⟩
    have hz2:=hb2.size
    have hb2w:Below w.heap.size w w2:=hb1w.trans (hb2.mono (by omega))
    have y2:=(hb2.block w.heap.size (by omega)).trans y1
    have KS:=(sBetaAll_any SP) D d _ _ t _ _ l1 _ _ l2 _ _ l3 w2 (Nat.le_refl _) hs2 hcn
    obtain ⟨R,hR⟩:∃ R,(betaAllT t)=R:=⟨_,rfl⟩
    have hRc:cntM R≤1048576:=by rw [← hR];exact betaAll_cnt t hcn
    have HRB:Hid ((betaAllT t)=R):=hR
    rw [hR] at KS
    clear f0 f1 f2 f3 f4 f5 f6 f7 f8 hR y1
    go_wp2_with fail
    refine KS.mono ?_
    rintro e w3 ⟨D3,d3,b31,m31,e31,b32,m32,e32,b33,m33,e33,rfl,hb3,hO3⟩
    have hz3:=hb3.size
    have hb3w:Below w.heap.size w w3:=hb2w.trans (hb3.mono (by omega))
    have y3:=(hb3.block w.heap.size (by omega)).trans y2
    obtain ⟨W3,hW3⟩:∃ W,W=w3.alloc (.cells #[.int .i64 R.K,.int .i64 R.N,.string R.S,.string R.Z,.int .i64 R.T.K,.int .i64 R.T.N,.slice b31 m31 e31,.slice b32 m32 e32,.slice b33 m33 e33] 34):=⟨_,rfl⟩
    have hW3s:W3.heap.size=w3.heap.size+1:=by rw [hW3];simp
    have hW3b:Below w3.heap.size w3 W3:=by rw [hW3];exact (Below.refl _ _).alloc (Nat.le_refl _) _
    have hW3n:W3.heap[w3.heap.size]?=some (.cells #[.int .i64 R.K,.int .i64 R.N,.string R.S,.string R.Z,.int .i64 R.T.K,.int .i64 R.T.N,.slice b31 m31 e31,.slice b32 m32 e32,.slice b33 m33 e33] 34 (0,0)):=by rw [hW3];exact heap_new rfl
    have HW3:Hid (W3=_):=hW3
    have yW3:=(hW3b.block w.heap.size (by omega)).trans y3
    have hbW3:Below w.heap.size w W3:=hb3w.trans (hW3b.mono (by omega))
    obtain ⟨f0,f1,f2,f3,f4,f5,f6,f7,f8⟩:=Nine.box yW3
    have hs3:=(hO3.below hW3b (Nat.le_refl _)).fm
    have hW3lt:w.heap.size < w3.heap.size:=by omega
    obtain ⟨h0,h1,h2,h3,h4,h5,h6,h7,h8⟩:=Nine.box y3
    clear hW3 y2 hO3
    go_wp2_with fail
    rw [← HW3.out]
    clear h0 h1 h2 h3 h4 h5 h6 h7 h8
    refine (toTerm_any2 D d L B t _ _ _ _ _ _ _ _ _ _ (by omega) (Fm.below hbW3 hB hf) hcn).mono ?_
    rintro e w4 ⟨g41,g42,g43,rfl,hb4,hO4⟩
    have hz4:=hb4.size
    have hb4w:Below w.heap.size w w4:=hbW3.trans (hb4.mono (by omega))
    have y4:=(hb4.block w.heap.size (by omega)).trans yW3
    have z4:=(hb4.block w3.heap.size (by omega)).trans hW3n
    obtain ⟨W4,hW4⟩:∃ W,W=w4.alloc (.cells #[.int .i64 t.K,.int .i64 t.N,.string t.S,.string t.Z,.int .i64 t.T.K,.int .i64 t.T.N,.slice (some ⟨g41,0,none⟩) l1 l1,.slice (some ⟨g42,0,none⟩) l2 l2,.slice (some ⟨g43,0,none⟩) l3 l3] 34):=⟨_,rfl⟩
    have hW4s:W4.heap.size=w4.heap.size+1:=by rw [hW4];simp
    have hW4b:Below w4.heap.size w4 W4:=by rw [hW4];exact (Below.refl _ _).alloc (Nat.le_refl _) _
    have hW4n:W4.heap[w4.heap.size]?=some (.cells #[.int .i64 t.K,.int .i64 t.N,.string t.S,.string t.Z,.int .i64 t.T.K,.int .i64 t.T.N,.slice (some ⟨g41,0,none⟩) l1 l1,.slice (some ⟨g42,0,none⟩) l2 l2,.slice (some ⟨g43,0,none⟩) l3 l3] 34 (0,0)):=by rw [hW4];exact heap_new rfl
    have HW4:Hid (W4=_):=hW4
    have hsW4:=(hO4.below hW4b (Nat.le_refl _)).fm
    have hs34:=Fm.below hW4b (by omega) (Fm.below hb4 (by omega) hs3)
    have KI:=(betaAll_any ownTerm_any) D d _ _ t _ _ l1 _ _ l2 _ _ l3 W4 (show w4.heap.size≤W4.heap.size by omega) (hO4.below hW4b (Nat.le_refl _)) hcn
    rw [HRB.out] at KI
    have hbW4:Below w.heap.size w W4:=hb4w.trans (hW4b.mono (by omega))
    obtain ⟨ms,hfO,hms,hmr⟩:=hO4
    have hfOW:=hfO.keep (w':=W4) fun b hb=>hW4b.block b (hmr b hb).2
    have HM:Hid (ms.Nodup∧∀ b ∈ ms,W3.heap.size≤b∧b < w4.heap.size):=⟨hms,hmr⟩
    have yW4:=(hW4b.block w.heap.size (by omega)).trans y4
    have zW4:=(hW4b.block w3.heap.size (by omega)).trans z4
    have hlt4:w.heap.size < w4.heap.size:=by omega
    have hlt34:w3.heap.size < w4.heap.size:=by omega
    clear f0 f1 f2 f3 f4 f5 f6 f7 f8 hW4 yW3 y3 y4 z4 hs3 hW3n hfO hmr hms
    go_wp2_with fail
    rw [← HW4.out]
    refine KI.mono ?_
    rintro e w5 ⟨D5,d5,b51,m51,e51,b52,m52,e52,b53,m53,e53,rfl,hb5,hO5⟩
    have hz5:=hb5.size
    obtain ⟨W5,hW5⟩:∃ W,W=w5.alloc (.cells #[.int .i64 R.K,.int .i64 R.N,.string R.S,.string R.Z,.int .i64 R.T.K,.int .i64 R.T.N,.slice b51 m51 e51,.slice b52 m52 e52,.slice b53 m53 e53] 34):=⟨_,rfl⟩
    have hW5s:W5.heap.size=w5.heap.size+1:=by rw [hW5];simp
    have hW5b:Below w5.heap.size w5 W5:=by rw [hW5];exact (Below.refl _ _).alloc (Nat.le_refl _) _
    have hW5n:W5.heap[w5.heap.size]?=some (.cells #[.int .i64 R.K,.int .i64 R.N,.string R.S,.string R.Z,.int .i64 R.T.K,.int .i64 R.T.N,.slice b51 m51 e51,.slice b52 m52 e52,.slice b53 m53 e53] 34 (0,0)):=by rw [hW5];exact heap_new rfl
    have hb45:Below W4.heap.size W4 W5:=hb5.trans (hW5b.mono (by omega))
    have HW5:Hid (W5=_):=hW5
    have hbW5:Below w.heap.size w W5:=hbW4.trans (hb45.mono (by omega))
    have yW5:=(hb45.block w.heap.size (by omega)).trans yW4
    have zW5:=(hb45.block w3.heap.size (by omega)).trans zW4
    have xW5:=(hb45.block w4.heap.size (by omega)).trans hW4n
    have hs35:=Fm.below hb45 (by omega) hs34
    have hsO5:=(hO5.below hW5b (Nat.le_refl _)).fm
    have hfx5:=hfOW.keep (w':=W5) fun b hb=>hb45.block b (by have:=(HM.out.2 b hb).2;omega)
    have hsx5:=Fm.below hb45 (by omega) hsW4
    obtain ⟨gs,hgO,hgn,hgr⟩:=hO5
    have hgO5:=hgO.keep (w':=W5) fun b hb=>hW5b.block b (hgr b hb).2
    have HG:Hid (gs.Nodup∧∀ b ∈ gs,W4.heap.size≤b∧b < w5.heap.size):=⟨hgn,hgr⟩
    have HSZ:Hid (W3.heap.size=w3.heap.size+1∧W4.heap.size=w4.heap.size+1∧W5.heap.size=w5.heap.size+1):=⟨hW3s,hW4s,hW5s⟩
    have hlt5:w3.heap.size < w5.heap.size:=by omega
    obtain ⟨f0,f1,f2,f3,f4,f5,f6,f7,f8⟩:=Nine.box hW5n
    obtain ⟨p0,p1,p2,p3,p4,p5,p6,p7,p8⟩:=Nine.box zW5
    obtain ⟨j0,j1,j2,j3,j4,j5,j6,j7,j8⟩:=Nine.box ((hb5.block w3.heap.size (by omega)).trans zW4)
    have KE:=fun W hW (hW':Below W5.heap.size W5 W)=>eqTerm_any (max D3 D5) (max d3 d5) _ _ _ _ R b51 m51 e51 b52 m52 e52 b53 m53 e53 b31 m31 e31 b32 m32 e32 b33 m33 e33 W (show w5.heap.size≤W.heap.size from hW) (show w3.heap.size≤W.heap.size by omega) (Fm.deep2A (Fm.below hW' (by omega) hsO5) (Nat.le_max_right _ _) (Nat.le_max_right _ _)) (Fm.deep2A (Fm.below hW' (by omega) hs35) (Nat.le_max_left _ _) (Nat.le_max_left _ _))
    have KE5:=KE W5 (by omega) (Below.refl _ _)
    clear hW5 yW4 zW4 hW4n hsW4 hs34 hfOW hgO hgn hgr KE hb5 hb4
    go_wp2_with fail
    rw [← HW5.out]
    clear j0 j1 j2 j3 j4 j5 j6 j7 j8
    refine KE5.mono ?_
    rintro e wb ⟨rfl,hbb1⟩
    have hzb:=hbb1.size
    have hbwb:Below w.heap.size w wb:=hbW5.trans (hbb1.mono (by omega))
    have yb:=(hbb1.block w.heap.size (by omega)).trans yW5
    have zb:=(hbb1.block w3.heap.size (by omega)).trans zW5
    have xb:=(hbb1.block w4.heap.size (by omega)).trans xW5
    have gb:=(hbb1.block w5.heap.size (by omega)).trans hW5n
    have hs3b:=Fm.below hbb1 (by omega) hs35
    have hsOb:=Fm.below hbb1 (by omega) hsO5
    have hfxb:=hfx5.keep (w':=wb) fun b hb=>hbb1.block b (by have:=(HM.out.2 b hb).2;omega)
    have hgOb:=hgO5.keep (w':=wb) fun b hb=>hbb1.block b (by have:=(HG.out.2 b hb).2;omega)
    have hsxb:=Fm.below hbb1 (by omega) hsx5
    have hsab:=Fm.below hbwb hB hf
    clear f0 f1 f2 f3 f4 f5 f6 f7 f8 p0 p1 p2 p3 p4 p5 p6 p7 p8 yW5 zW5 xW5 hW5n hs35 hsO5 hfx5 hgO5 hsx5 KE5
    obtain ⟨p0,p1,p2,p3,p4,p5,p6,p7,p8⟩:=Nine.box yb
    obtain ⟨q0,q1,q2,q3,q4,q5,q6,q7,q8⟩:=Nine.box xb
    have hzw:w4.heap.size < wb.heap.size:=by omega
    have hBwb:B≤wb.heap.size:=by omega
    have HST:Hid (_∧_∧_∧_∧_∧_∧_∧_):=⟨yb,zb,xb,gb,hs3b,hsOb,hfxb,hgOb⟩
    clear yb zb xb gb hs3b hsOb hfxb hgOb
    go_wp2_with fail
    go_region_with (first
      | (go_at_call 7;refine (toTerm_any D d L B t _ _ _ _ _ _ _ _ _ wb.drew hBwb (Fm.drew hsab) hcn).mono ?_;rintro e w6 ⟨g61,g62,g63,rfl,hb6,hs6⟩;have k0:w6.cell? ⟨w4.heap.size,0,none⟩=_:=(bcell hb6 hzw 0).trans q0;have k1:w6.cell? ⟨w4.heap.size,1,none⟩=_:=(bcell hb6 hzw 1).trans q1;have k2:w6.cell? ⟨w4.heap.size,2,none⟩=_:=(bcell hb6 hzw 2).trans q2;have k3:w6.cell? ⟨w4.heap.size,3,none⟩=_:=(bcell hb6 hzw 3).trans q3;have k4:w6.cell? ⟨w4.heap.size,4,none⟩=_:=(bcell hb6 hzw 4).trans q4;have k5:w6.cell? ⟨w4.heap.size,5,none⟩=_:=(bcell hb6 hzw 5).trans q5;have k6:w6.cell? ⟨w4.heap.size,6,none⟩=_:=(bcell hb6 hzw 6).trans q6;have k7:w6.cell? ⟨w4.heap.size,7,none⟩=_:=(bcell hb6 hzw 7).trans q7;have k8:w6.cell? ⟨w4.heap.size,8,none⟩=_:=(bcell hb6 hzw 8).trans q8)
      | (go_at_call 9;refine (eqTerm_any D d _ _ _ _ t _ _ _ _ _ _ _ _ _ _ _ _ _ _ _ _ _ _ w6 ?_ ?_ (Fm.below hb6 (show w4.heap.size≤wb.heap.size by omega) (Fm.drew hsxb)) hs6).mono ?_;(have h6:wb.heap.size≤w6.heap.size:=hb6.size;(show w4.heap.size≤w6.heap.size);omega);exact Nat.le_refl _;rintro e w7 ⟨rfl,hb7⟩))
    all_goals
      have hbb7:Below wb.heap.size wb w7:=((Below.refl _ _).drew.trans hb6).trans (hb7.mono hb6.size)
      clear hb6 hb7 hs6 p0 p1 p2 p3 p4 p5 p6 p7 p8 q0 q1 q2 q3 q4 q5 q6 q7 q8 k0 k1 k2 k3 k4 k5 k6 k7 k8 hsxb hsab
      obtain ⟨yb,zb,xb,gb,hs3b,hsOb,hfxb,hgOb⟩:=HST.out
      have hz7:=hbb7.size
      have hb7w:Below w.heap.size w w7:=hbwb.trans (hbb7.mono (by omega))
      have y7:=(hbb7.block w.heap.size (by omega)).trans yb
      have z7:=(hbb7.block w3.heap.size (by omega)).trans zb
      have x7:=(hbb7.block w4.heap.size (by omega)).trans xb
      have g7:=(hbb7.block w5.heap.size (by omega)).trans gb
      have hs37:=Fm.below hbb7 (by omega) hs3b
      have hsO7:=Fm.below hbb7 (by omega) hsOb
      have hfx7:=hfxb.keep (w':=w7) fun b hb=>hbb7.block b (by have:=(HM.out.2 b hb).2;omega)
      have hgO7:=hgOb.keep (w':=w7) fun b hb=>hbb7.block b (by have:=(HG.out.2 b hb).2;omega)
      obtain ⟨q0,q1,q2,q3,q4,q5,q6,q7,q8⟩:=Nine.box x7
      clear yb zb xb gb hs3b hsOb hfxb hgOb HST
      go_wp2_with fail
      refine (markTermM_any D d t _ _ _ _ _ _ _ _ _ ms _ hfx7 HM.out.1 (fun b hb=>by have:=(HM.out.2 b hb).2;omega) hcn).mono ?_
      rintro e w8 ⟨k8,rfl,hk81,hk82,hc8,_⟩
      have hz8:=hc8.size
      have hnm:∀ b,b < W3.heap.size∨w4.heap.size≤b→b ∉ ms:=fun b hb hm=>by have:=HM.out.2 b hm;omega
      have y8:=(hc8.block w.heap.size (by omega) (hnm _ (by omega))).trans y7
      have z8:=(hc8.block w3.heap.size (by omega) (hnm _ (by omega))).trans z7
      have g8:=(hc8.block w5.heap.size (by omega) (hnm _ (by omega))).trans g7
      have hs38:Fm w2.heap.size w3.heap.size w8 D3 d3 R b31 m31 b32 m32 b33 m33:=Fm.keep (fun k hk1 hk2=>hc8.block k (by omega) (hnm _ (by omega))) (Nat.le_refl _) (Nat.le_refl _) hs37
      have hsO8:Fm W4.heap.size w5.heap.size w8 D5 d5 R b51 m51 b52 m52 b53 m53:=Fm.keep (fun k hk1 hk2=>hc8.block k (by omega) (hnm _ (by omega))) (Nat.le_refl _) (Nat.le_refl _) hsO7
      have hgO8:=hgO7.keep (w':=w8) fun b hb=>hc8.block b (by have:=(HG.out.2 b hb).2;omega) (hnm _ (by have:=(HG.out.2 b hb).1;omega))
      have hb8w:Below w.heap.size w w8:=Chg.below hb7w hc8 (by omega) (fun b hb=>by have:=(HM.out.2 b hb).1;omega)
      have hk8n:¬ k8 < 0:=by omega
      clear q0 q1 q2 q3 q4 q5 q6 q7 q8 y7 z7 x7 g7 hs37 hsO7 hfx7 hgO7 hc8 hnm
      obtain ⟨f0,f1,f2,f3,f4,f5,f6,f7,f8⟩:=Nine.box g8
      obtain ⟨p0,p1,p2,p3,p4,p5,p6,p7,p8⟩:=Nine.box z8
      go_wp2_with fail
      refine (eqTerm_any (max D3 D5) (max d3 d5) _ _ _ _ R b51 m51 e51 b52 m52 e52 b53 m53 e53 b31 m31 e31 b32 m32 e32 b33 m33 e33 w8 (by omega) (by omega) (Fm.deep2A hsO8 (Nat.le_max_right _ _) (Nat.le_max_right _ _)) (Fm.deep2A hs38 (Nat.le_max_left _ _) (Nat.le_max_left _ _))).mono ?_
      rintro e w9 ⟨rfl,hb9⟩
      have hz9:=hb9.size
      have hb9w:Below w.heap.size w w9:=hb8w.trans (hb9.mono (by omega))
      have y9:=(hb9.block w.heap.size (by omega)).trans y8
      have z9:=(hb9.block w3.heap.size (by omega)).trans z8
      have g9:=(hb9.block w5.heap.size (by omega)).trans g8
      have hs39:=Fm.below hb9 (by omega) hs38
      have hgO9:=hgO8.keep (w':=w9) fun b hb=>hb9.block b (by have:=(HG.out.2 b hb).2;omega)
      clear f0 f1 f2 f3 f4 f5 f6 f7 f8 p0 p1 p2 p3 p4 p5 p6 p7 p8 y8 z8 g8 hs38 hsO8 hgO8
      obtain ⟨f0,f1,f2,f3,f4,f5,f6,f7,f8⟩:=Nine.box g9
      go_wp2_with fail
      refine (markTermM_any D5 d5 R _ _ _ _ _ _ _ _ _ gs _ hgO9 HG.out.1 (fun b hb=>by have:=(HG.out.2 b hb).2;omega) hRc).mono ?_
      rintro e w10 ⟨k10,rfl,hk101,hk102,hc10,hBr⟩
      have hz10:=hc10.size
      have hng:∀ b,b < W4.heap.size∨w5.heap.size≤b→b ∉ gs:=fun b hb hm=>by have:=HG.out.2 b hm;omega
      have y10:=(hc10.block w.heap.size (by omega) (hng _ (by omega))).trans y9
      have z10:=(hc10.block w3.heap.size (by omega) (hng _ (by omega))).trans z9
      have g10:=(hc10.block w5.heap.size (by omega) (hng _ (by omega))).trans g9
      have hs310:Fm w2.heap.size w3.heap.size w10 D3 d3 R b31 m31 b32 m32 b33 m33:=Fm.keep (fun k hk1 hk2=>hc10.block k (by omega) (hng _ (by omega))) (Nat.le_refl _) (Nat.le_refl _) hs39
      have hb10w:Below w.heap.size w w10:=Chg.below hb9w hc10 (by omega) (fun b hb=>by have:=(HG.out.2 b hb).1;omega)
      have hk10n:¬ k10 < 0:=by omega
      clear f0 f1 f2 f3 f4 f5 f6 f7 f8 y9 z9 g9 hs39 hgO9 hc10 hng
      obtain ⟨f0,f1,f2,f3,f4,f5,f6,f7,f8⟩:=Nine.box g10
      go_wp2_with fail
      refine (heldTermM_any D5 d5 R _ _ _ _ _ _ _ _ _ gs k10 _ hBr (fun b hb=>by have:=(HG.out.2 b hb).2;omega) hk102).mono ?_
      rintro e w11 ⟨rfl,hb11⟩
      have hz11:=hb11.size
      have hb11w:Below w.heap.size w w11:=hb10w.trans (hb11.mono (by omega))
      have y11:=(hb11.block w.heap.size (by omega)).trans y10
      have z11:=(hb11.block w3.heap.size (by omega)).trans z10
      have g11:=(hb11.block w5.heap.size (by omega)).trans g10
      have hs311:=Fm.below hb11 (by omega) hs310
      have hBr11:=hBr.keep (w':=w11) fun b hb=>hb11.block b (by have:=(HG.out.2 b hb).2;omega)
      clear f0 f1 f2 f3 f4 f5 f6 f7 f8 y10 z10 g10 hs310 hBr
      obtain ⟨p0,p1,p2,p3,p4,p5,p6,p7,p8⟩:=Nine.box y11
      go_wp2_with fail
      refine (toTerm_any2 D d L B t _ _ _ _ _ _ _ _ _ _ (by omega) (Fm.below hb11w hB hf) hcn).mono ?_
      rintro e w12 ⟨g1,g2,g3,rfl,hb12,hs12⟩
      have hz12:=hb12.size
      have KJ:=(betaAll_any ownTerm_any) D d _ _ t _ _ l1 _ _ l2 _ _ l3 w12 (Nat.le_refl _) hs12 hcn
      rw [HRB.out] at KJ
      clear p0 p1 p2 p3 p4 p5 p6 p7 p8
      go_wp2_with fail
      refine KJ.mono ?_
      rintro e w13 ⟨D6,d6,b61,m61,e61,b62,m62,e62,b63,m63,e63,rfl,hb13,hO13⟩
      have hz13:=hb13.size
      have hb1113:Below w11.heap.size w11 w13:=hb12.trans (hb13.mono (by omega))
      obtain ⟨W13,hW13⟩:∃ W,W=w13.alloc (.cells #[.int .i64 R.K,.int .i64 R.N,.string R.S,.string R.Z,.int .i64 R.T.K,.int .i64 R.T.N,.slice b61 m61 e61,.slice b62 m62 e62,.slice b63 m63 e63] 34):=⟨_,rfl⟩
      have hW13s:W13.heap.size=w13.heap.size+1:=by rw [hW13];simp
      have hW13b:Below w13.heap.size w13 W13:=by rw [hW13];exact (Below.refl _ _).alloc (Nat.le_refl _) _
      have hb11W:Below w11.heap.size w11 W13:=hb1113.trans (hW13b.mono (by omega))
      have hbW13:Below w.heap.size w W13:=hb11w.trans (hb11W.mono (by omega))
      have z13:=(hb1113.block w3.heap.size (by omega)).trans z11
      have gW:=(hb11W.block w5.heap.size (by omega)).trans g11
      have hs313:=Fm.below hb11W (by omega) hs311
      have hs6W:=(hO13.below hW13b (Nat.le_refl _)).fm
      have hBr13:=hBr11.keep (w':=W13) fun b hb=>hb11W.block b (by have:=(HG.out.2 b hb).2;omega)
      have HW13:Hid (W13=_):=hW13
      have hlt13:w3.heap.size < w13.heap.size:=by omega
      obtain ⟨p0,p1,p2,p3,p4,p5,p6,p7,p8⟩:=Nine.box z13
      clear hW13 y11 z11 g11 hs311 hBr11 hs12 hO13 KJ
      go_wp2_with fail
      rw [← HW13.out]
      refine (eqTerm_any (max D3 D6) (max d3 d6) _ _ _ _ R _ _ _ _ _ _ _ _ _ _ _ _ _ _ _ _ _ _ W13 (show w13.heap.size≤W13.heap.size by omega) (show w3.heap.size≤W13.heap.size by omega) (Fm.deep2A hs6W (Nat.le_max_right _ _) (Nat.le_max_right _ _)) (Fm.deep2A hs313 (Nat.le_max_left _ _) (Nat.le_max_left _ _))).mono ?_
      rintro e w14 ⟨rfl,hb14⟩
      have hz14:=hb14.size
      have hb14w:Below w.heap.size w w14:=hbW13.trans (hb14.mono (by omega))
      have g14:=(hb14.block w5.heap.size (by omega)).trans gW
      have hBr14:=hBr13.keep (w':=w14) fun b hb=>hb14.block b (by have:=(HG.out.2 b hb).2;omega)
      clear p0 p1 p2 p3 p4 p5 p6 p7 p8 z13 gW hs313 hs6W hBr13
      obtain ⟨f0,f1,f2,f3,f4,f5,f6,f7,f8⟩:=Nine.box g14
      go_wp2_with fail
      refine (heldTermM_any D5 d5 R _ _ _ _ _ _ _ _ _ gs k10 _ hBr14 (fun b hb=>by have:=(HG.out.2 b hb).2;omega) hk102).mono ?_
      rintro e w15 ⟨rfl,hb15⟩
      go_wp2_with fail
      go_ret
      exact ⟨rfl,hb14w.trans (hb15.mono (by omega))⟩
  · go_enter Tryz.func4,Tryz.ntmps4
    go_wp2_with fail
    rw [← HX.out]
    refine (szTerm_any D d L B t _ _ _ _ _ _ _ _ _ _ _ (by omega) hf1 (by omega) (by omega)).mono ?_
    rintro e w1 ⟨rfl,hb1⟩
    rw [szN_neg (by omega)]
    go_wp2_with fail
    go_ret
    exact ⟨rfl,hXb.trans (hb1.mono (by omega))⟩
end Go.Proofs.YtcepgedbmffkdaaGreat
