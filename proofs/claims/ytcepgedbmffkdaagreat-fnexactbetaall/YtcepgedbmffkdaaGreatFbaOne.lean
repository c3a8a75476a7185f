/-
  What the model's 'l2One' (one term, but for its parts) comes to.
-/
import Derived.Test.YtcepgedbmffkdaaGreatFbaZ17
namespace Go.Proofs.YtcepgedbmffkdaaGreat
open Go.RowKit Go.PlainAid
set_option linter.unusedVariables false
set_option linter.unusedSimpArgs false
set_option maxRecDepth 100000 in
set_option maxHeartbeats 60000000 in
theorem l2One_any (D d L B:Nat) (t:Tm) (a1:Option Addr) (l1 c1:Nat) (a2:Option Addr) (l2 c2:Nat) (a3:Option Addr) (l3 c3:Nat) (w:World) (hB:B≤w.heap.size) (hf:Fm L B w D d t a1 l1 a2 l2 a3 l3) :
    Calls Tryz.prog 66 #[.agg #[.int .i64 t.K,.int .i64 t.N,.string t.S,.string t.Z,.int .i64 t.T.K,.int .i64 t.T.N,.slice a1 l1 c1,.slice a2 l2 c2,.slice a3 l3 c3]] w fun e w'=>e=.returned (.bool (nodeM t))∧Below w.heap.size w w':=by
  have hl3:=hf.m.len.2
  have hl2:=hf.t2.len.2
  have hl1:=hf.t1.len.2
  have HL3:Hid (l3=t.A.length):=hf.m.len.1
  have HL2:Hid (l2=t.Ts.length):=hf.t2.len.1
  have HL1:Hid (l1=t.T.A.length):=hf.t1.len.1
  have hsz:=hf.s
  have hzz:=hf.z
  have hb0:Below w.heap.size w (w.alloc (.cells #[.int .i64 t.K,.int .i64 t.N,.string t.S,.string t.Z,.int .i64 t.T.K,.int .i64 t.T.N,.slice a1 l1 c1,.slice a2 l2 c2,.slice a3 l3 c3] 34)):=(Below.refl _ _).alloc (Nat.le_refl _) _
  go_enter Tryz.func66,Tryz.ntmps66
  go_wp2_with fail
  refine (l2Of_any _ _).mono ?_
  rintro e w1 ⟨rfl,hb1⟩
  have hz1:=hb1.size
  simp only [World.size_alloc] at hz1
  have hbw1:Below w.heap.size w w1:=hb0.trans (hb1.mono (by simp))
  have y0:=(hb1.block w.heap.size (by simp)).trans (heap_new rfl)
  obtain ⟨X,hX⟩:∃ X,X=w1.alloc (.cells #[.int .i64 (ofP t.K),.int .i64 (ofN t.K),.bool (ofS t.K),.bool (ofZ t.K),.bool (shT t.K)] 152):=⟨_,rfl⟩
  have hXb:Below w.heap.size w X:=by rw [hX];exact hbw1.alloc (by omega) _
  have hXs:X.heap.size=w1.heap.size+1:=by rw [hX];simp
  have hX0:X.heap[w.heap.size]?=some (.cells #[.int .i64 t.K,.int .i64 t.N,.string t.S,.string t.Z,.int .i64 t.T.K,.int .i64 t.T.N,.slice a1 l1 c1,.slice a2 l2 c2,.slice a3 l3 c3] 34 (0,0)):=by rw [hX,Below.heap_alloc _ _ _ (by omega)];exact y0
  have hX1:X.heap[w1.heap.size]?=some (.cells #[.int .i64 (ofP t.K),.int .i64 (ofN t.K),.bool (ofS t.K),.bool (ofZ t.K),.bool (shT t.K)] 152 (0,0)):=by rw [hX];exact heap_new rfl
  obtain ⟨f0,f1,f2,f3,f4,f5,f6,f7,f8⟩:=Nine.box hX0
  simp only [Nat.zero_add] at f1 f2 f3 f4 f5 f6 f7 f8
  have r0:X.cell? ⟨w1.heap.size,0,none⟩=some (.int .i64 (ofP t.K)):=row_cell hX1 0
  have r2:X.cell? ⟨w1.heap.size,2,none⟩=some (.bool (ofS t.K)):=row_cell hX1 2
  have r3:X.cell? ⟨w1.heap.size,3,none⟩=some (.bool (ofZ t.K)):=row_cell hX1 3
  have r4:X.cell? ⟨w1.heap.size,4,none⟩=some (.bool (shT t.K)):=row_cell hX1 4
  have HX:Hid (X=_):=hX
  have htl:w.heap.size < X.heap.size:=by omega
  have hhl:w1.heap.size < X.heap.size:=by omega
  have hZS:Hid (ofZ t.K=true→ofS t.K=true):=ofZ_ofS
  have bP:-1≤ofP t.K∧ofP t.K≤3:=by have:=shP_bd t.K;unfold ofP;split <;> omega
  have HXs:Hid (X.heap.size=w1.heap.size+1):=hXs
  clear hX hXs
  go_upto_region 2 with fail
  rw [← HX.out]
  go_cut [7,65] from 8 to 65 (fun _ c wx=>c=.bool (bad2 ((l3:Int) != ofP t.K) (numB t.K t.N) (ofS t.K) (nameP false t.S) t.S.toList.isEmpty (ofZ t.K) (nameP false t.Z) t.Z.toList.isEmpty (t.S.toList == t.Z.toList))∧Below X.heap.size X wx)
  case first =>
    cases h_b1:((l3:Int) != ofP t.K)
    · cases h_b2:(numB t.K t.N)
      · have NB:Hid (∀ w',Below X.heap.size X w'→Calls Tryz.prog 86 #[.agg #[.int .i64 t.K,.int .i64 t.N,.string t.S,.string t.Z,.int .i64 t.T.K,.int .i64 t.T.N,.slice a1 l1 c1,.slice a2 l2 c2,.slice a3 l3 c3]] w' fun e w''=>e=.returned (.bool false)∧Below X.heap.size X w''):=fun w' hC=>(l2Number_any _ _ _ _ _ _ _ _ _ _).mono fun e w'' h=>⟨by rw [h.1,h_b2],hC.trans (h.2.mono hC.size)⟩
        refine wp_region_below (by kernel_rfl) (by kernel_rfl) ?_
        repeat (first
          | go_big_quiet_skip
          | (go_big_quiet_want;unfold Oper.quiet;apply Exists.intro;refine ⟨fun w' hC=>?_,?_⟩;(have g0:=(bcell hC htl 0).trans f0;have g1:=(bcell hC htl 1).trans f1;have g2:=(bcell hC htl 2).trans f2;have g3:=(bcell hC htl 3).trans f3;have g4:=(bcell hC htl 4).trans f4;have g5:=(bcell hC htl 5).trans f5;have g6:=(bcell hC htl 6).trans f6;have g7:=(bcell hC htl 7).trans f7;have g8:=(bcell hC htl 8).trans f8;have g9:=(bcell hC hhl 0).trans r0;have g10:=(bcell hC hhl 2).trans r2;have g11:=(bcell hC hhl 3).trans r3;unfold Oper.quietAt;go_simp;first | exact rfl | exact ⟨rfl,rfl⟩ | (go_at_call 86;exact NB.out _ hC));go_big_quiet_on;simp only [Act.put,List.setIfInBounds_toArray,List.set_cons_zero,List.set_cons_succ]))
        refine wpQuiet_nil ?_
        intro w2 hb2
        go_wp2_with fail
        go_meet
        exact ⟨congrArg Value.bool (by simp [bad2, *]),hb2⟩
      · cases h_sB:(ofS t.K)
        · cases h_zB:(ofZ t.K)
          · cases h_nS:(nameP false t.S)
            · cases h_eS:(t.S.toList.isEmpty)
              · rw [h_sB] at r2
                rw [h_zB] at r3
                have NB:Hid (∀ w',Below X.heap.size X w'→Calls Tryz.prog 86 #[.agg #[.int .i64 t.K,.int .i64 t.N,.string t.S,.string t.Z,.int .i64 t.T.K,.int .i64 t.T.N,.slice a1 l1 c1,.slice a2 l2 c2,.slice a3 l3 c3]] w' fun e w''=>e=.returned (.bool true)∧Below X.heap.size X w''):=fun w' hC=>(l2Number_any _ _ _ _ _ _ _ _ _ _).mono fun e w'' h=>⟨by rw [h.1,h_b2],hC.trans (h.2.mono hC.size)⟩
                refine wp_region_below (by kernel_rfl) (by kernel_rfl) ?_
                repeat (first
                  | go_big_quiet_skip
                  | (go_big_quiet_want;unfold Oper.quiet;apply Exists.intro;refine ⟨fun w' hC=>?_,?_⟩;(have g0:=(bcell hC htl 0).trans f0;have g1:=(bcell hC htl 1).trans f1;have g2:=(bcell hC htl 2).trans f2;have g3:=(bcell hC htl 3).trans f3;have g4:=(bcell hC htl 4).trans f4;have g5:=(bcell hC htl 5).trans f5;have g6:=(bcell hC htl 6).trans f6;have g7:=(bcell hC htl 7).trans f7;have g8:=(bcell hC htl 8).trans f8;have g9:=(bcell hC hhl 0).trans r0;have g10:=(bcell hC hhl 2).trans r2;have g11:=(bcell hC hhl 3).trans r3;unfold Oper.quietAt;go_simp;first | exact rfl | exact ⟨rfl,rfl⟩ | (go_at_call 86;exact NB.out _ hC) | (go_at_call 87;refine (l2Name_any false _ _ (by first | exact hsz | exact hzz)).mono ?_;rintro e w'' ⟨rfl,hw⟩;exact ⟨rfl,by rw [hw];exact hC⟩));go_big_quiet_on;simp only [Act.put,List.setIfInBounds_toArray,List.set_cons_zero,List.set_cons_succ,h_nS]))
                refine wpQuiet_nil ?_
                intro w2 hb2
                go_wp2_with fail
                go_meet
                exact ⟨congrArg Value.bool (by simp [bad2, *]),hb2⟩
              · cases h_nZ:(nameP false t.Z)
                · cases h_eZ:(t.Z.toList.isEmpty)
                  · rw [h_sB] at r2
                    rw [h_zB] at r3
                    have NB:Hid (∀ w',Below X.heap.size X w'→Calls Tryz.prog 86 #[.agg #[.int .i64 t.K,.int .i64 t.N,.string t.S,.string t.Z,.int .i64 t.T.K,.int .i64 t.T.N,.slice a1 l1 c1,.slice a2 l2 c2,.slice a3 l3 c3]] w' fun e w''=>e=.returned (.bool true)∧Below X.heap.size X w''):=fun w' hC=>(l2Number_any _ _ _ _ _ _ _ _ _ _).mono fun e w'' h=>⟨by rw [h.1,h_b2],hC.trans (h.2.mono hC.size)⟩
                    refine wp_region_below (by kernel_rfl) (by kernel_rfl) ?_
                    repeat (first
                      | go_big_quiet_skip
                      | (go_big_quiet_want;unfold Oper.quiet;apply Exists.intro;refine ⟨fun w' hC=>?_,?_⟩;(have g0:=(bcell hC htl 0).trans f0;have g1:=(bcell hC htl 1).trans f1;have g2:=(bcell hC htl 2).trans f2;have g3:=(bcell hC htl 3).trans f3;have g4:=(bcell hC htl 4).trans f4;have g5:=(bcell hC htl 5).trans f5;have g6:=(bcell hC htl 6).trans f6;have g7:=(bcell hC htl 7).trans f7;have g8:=(bcell hC htl 8).trans f8;have g9:=(bcell hC hhl 0).trans r0;have g10:=(bcell hC hhl 2).trans r2;have g11:=(bcell hC hhl 3).trans r3;unfold Oper.quietAt;go_simp;first | exact rfl | exact ⟨rfl,rfl⟩ | (go_at_call 86;exact NB.out _ hC) | (go_at_call 87;refine (l2Name_any false _ _ (by first | exact hsz | exact hzz)).mono ?_;rintro e w'' ⟨rfl,hw⟩;exact ⟨rfl,by rw [hw];exact hC⟩));go_big_quiet_on;simp only [Act.put,List.setIfInBounds_toArray,List.set_cons_zero,List.set_cons_succ,h_nS,h_nZ]))
                    refine wpQuiet_nil ?_
                    intro w2 hb2
                    go_wp2_with fail
                    go_meet
                    exact ⟨congrArg Value.bool (by simp [bad2, *]),hb2⟩
                  · rw [h_sB] at r2
                    rw [h_zB] at r3
                    have NB:Hid (∀ w',Below X.heap.size X w'→Calls Tryz.prog 86 #[.agg #[.int .i64 t.K,.int .i64 t.N,.string t.S,.string t.Z,.int .i64 t.T.K,.int .i64 t.T.N,.slice a1 l1 c1,.slice a2 l2 c2,.slice a3 l3 c3]] w' fun e w''=>e=.returned (.bool true)∧Below X.heap.size X w''):=fun w' hC=>(l2Number_any _ _ _ _ _ _ _ _ _ _).mono fun e w'' h=>⟨by rw [h.1,h_b2],hC.trans (h.2.mono hC.size)⟩
                    refine wp_region_below (by kernel_rfl) (by kernel_rfl) ?_
                    repeat (first
                      | go_big_quiet_skip
                      | (go_big_quiet_want;unfold Oper.quiet;apply Exists.intro;refine ⟨fun w' hC=>?_,?_⟩;(have g0:=(bcell hC htl 0).trans f0;have g1:=(bcell hC htl 1).trans f1;have g2:=(bcell hC htl 2).trans f2;have g3:=(bcell hC htl 3).trans f3;have g4:=(bcell hC htl 4).trans f4;have g5:=(bcell hC htl 5).trans f5;have g6:=(bcell hC htl 6).trans f6;have g7:=(bcell hC htl 7).trans f7;have g8:=(bcell hC htl 8).trans f8;have g9:=(bcell hC hhl 0).trans r0;have g10:=(bcell hC hhl 2).trans r2;have g11:=(bcell hC hhl 3).trans r3;unfold Oper.quietAt;go_simp;first | exact rfl | exact ⟨rfl,rfl⟩ | (go_at_call 86;exact NB.out _ hC) | (go_at_call 87;refine (l2Name_any false _ _ (by first | exact hsz | exact hzz)).mono ?_;rintro e w'' ⟨rfl,hw⟩;exact ⟨rfl,by rw [hw];exact hC⟩));go_big_quiet_on;simp only [Act.put,List.setIfInBounds_toArray,List.set_cons_zero,List.set_cons_succ,h_nS,h_nZ]))
                    refine wpQuiet_nil ?_
                    intro w2 hb2
                    go_wp2_with fail
                    go_meet
                    exact ⟨congrArg Value.bool (by simp [bad2, *]),hb2⟩
                · rw [h_sB] at r2
                  rw [h_zB] at r3
                  have NB:Hid (∀ w',Below X.heap.size X w'→Calls Tryz.prog 86 #[.agg #[.int .i64 t.K,.int .i64 t.N,.string t.S,.string t.Z,.int .i64 t.T.K,.int .i64 t.T.N,.slice a1 l1 c1,.slice a2 l2 c2,.slice a3 l3 c3]] w' fun e w''=>e=.returned (.bool true)∧Below X.heap.size X w''):=fun w' hC=>(l2Number_any _ _ _ _ _ _ _ _ _ _).mono fun e w'' h=>⟨by rw [h.1,h_b2],hC.trans (h.2.mono hC.size)⟩
                  refine wp_region_below (by kernel_rfl) (by kernel_rfl) ?_
                  repeat (first
                    | go_big_quiet_skip
                    | (go_big_quiet_want;unfold Oper.quiet;apply Exists.intro;refine ⟨fun w' hC=>?_,?_⟩;(have g0:=(bcell hC htl 0).trans f0;have g1:=(bcell hC htl 1).trans f1;have g2:=(bcell hC htl 2).trans f2;have g3:=(bcell hC htl 3).trans f3;have g4:=(bcell hC htl 4).trans f4;have g5:=(bcell hC htl 5).trans f5;have g6:=(bcell hC htl 6).trans f6;have g7:=(bcell hC htl 7).trans f7;have g8:=(bcell hC htl 8).trans f8;have g9:=(bcell hC hhl 0).trans r0;have g10:=(bcell hC hhl 2).trans r2;have g11:=(bcell hC hhl 3).trans r3;unfold Oper.quietAt;go_simp;first | exact rfl | exact ⟨rfl,rfl⟩ | (go_at_call 86;exact NB.out _ hC) | (go_at_call 87;refine (l2Name_any false _ _ (by first | exact hsz | exact hzz)).mono ?_;rintro e w'' ⟨rfl,hw⟩;exact ⟨rfl,by rw [hw];exact hC⟩));go_big_quiet_on;simp only [Act.put,List.setIfInBounds_toArray,List.set_cons_zero,List.set_cons_succ,h_nS,h_nZ]))
                  refine wpQuiet_nil ?_
                  intro w2 hb2
                  go_wp2_with fail
                  go_meet
                  exact ⟨congrArg Value.bool (by simp [bad2, *]),hb2⟩
            · rw [h_sB] at r2
              rw [h_zB] at r3
              have NB:Hid (∀ w',Below X.heap.size X w'→Calls Tryz.prog 86 #[.agg #[.int .i64 t.K,.int .i64 t.N,.string t.S,.string t.Z,.int .i64 t.T.K,.int .i64 t.T.N,.slice a1 l1 c1,.slice a2 l2 c2,.slice a3 l3 c3]] w' fun e w''=>e=.returned (.bool true)∧Below X.heap.size X w''):=fun w' hC=>(l2Number_any _ _ _ _ _ _ _ _ _ _).mono fun e w'' h=>⟨by rw [h.1,h_b2],hC.trans (h.2.mono hC.size)⟩
              refine wp_region_below (by kernel_rfl) (by kernel_rfl) ?_
              repeat (first
                | go_big_quiet_skip
                | (go_big_quiet_want;unfold Oper.quiet;apply Exists.intro;refine ⟨fun w' hC=>?_,?_⟩;(have g0:=(bcell hC htl 0).trans f0;have g1:=(bcell hC htl 1).trans f1;have g2:=(bcell hC htl 2).trans f2;have g3:=(bcell hC htl 3).trans f3;have g4:=(bcell hC htl 4).trans f4;have g5:=(bcell hC htl 5).trans f5;have g6:=(bcell hC htl 6).trans f6;have g7:=(bcell hC htl 7).trans f7;have g8:=(bcell hC htl 8).trans f8;have g9:=(bcell hC hhl 0).trans r0;have g10:=(bcell hC hhl 2).trans r2;have g11:=(bcell hC hhl 3).trans r3;unfold Oper.quietAt;go_simp;first | exact rfl | exact ⟨rfl,rfl⟩ | (go_at_call 86;exact NB.out _ hC) | (go_at_call 87;refine (l2Name_any false _ _ (by first | exact hsz | exact hzz)).mono ?_;rintro e w'' ⟨rfl,hw⟩;exact ⟨rfl,by rw [hw];exact hC⟩));go_big_quiet_on;simp only [Act.put,List.setIfInBounds_toArray,List.set_cons_zero,List.set_cons_succ,h_nS]))
              refine wpQuiet_nil ?_
              intro w2 hb2
              go_wp2_with fail
              go_meet
              exact ⟨congrArg Value.bool (by simp [bad2, *]),hb2⟩
          · exfalso;have:=hZS.out h_zB;rw [h_sB] at this;cases this
        · cases h_zB:(ofZ t.K)
          · cases h_nS:(nameP false t.S)
            · rw [h_sB] at r2
              rw [h_zB] at r3
              have NB:Hid (∀ w',Below X.heap.size X w'→Calls Tryz.prog 86 #[.agg #[.int .i64 t.K,.int .i64 t.N,.string t.S,.string t.Z,.int .i64 t.T.K,.int .i64 t.T.N,.slice a1 l1 c1,.slice a2 l2 c2,.slice a3 l3 c3]] w' fun e w''=>e=.returned (.bool true)∧Below X.heap.size X w''):=fun w' hC=>(l2Number_any _ _ _ _ _ _ _ _ _ _).mono fun e w'' h=>⟨by rw [h.1,h_b2],hC.trans (h.2.mono hC.size)⟩
              refine wp_region_below (by kernel_rfl) (by kernel_rfl) ?_
              repeat (first
                | go_big_quiet_skip
                | (go_big_quiet_want;unfold Oper.quiet;apply Exists.intro;refine ⟨fun w' hC=>?_,?_⟩;(have g0:=(bcell hC htl 0).trans f0;have g1:=(bcell hC htl 1).trans f1;have g2:=(bcell hC htl 2).trans f2;have g3:=(bcell hC htl 3).trans f3;have g4:=(bcell hC htl 4).trans f4;have g5:=(bcell hC htl 5).trans f5;have g6:=(bcell hC htl 6).trans f6;have g7:=(bcell hC htl 7).trans f7;have g8:=(bcell hC htl 8).trans f8;have g9:=(bcell hC hhl 0).trans r0;have g10:=(bcell hC hhl 2).trans r2;have g11:=(bcell hC hhl 3).trans r3;unfold Oper.quietAt;go_simp;first | exact rfl | exact ⟨rfl,rfl⟩ | (go_at_call 86;exact NB.out _ hC) | (go_at_call 87;refine (l2Name_any false _ _ (by first | exact hsz | exact hzz)).mono ?_;rintro e w'' ⟨rfl,hw⟩;exact ⟨rfl,by rw [hw];exact hC⟩));go_big_quiet_on;simp only [Act.put,List.setIfInBounds_toArray,List.set_cons_zero,List.set_cons_succ,h_nS]))
              refine wpQuiet_nil ?_
              intro w2 hb2
              go_wp2_with fail
              go_meet
              exact ⟨congrArg Value.bool (by simp [bad2, *]),hb2⟩
            · cases h_nZ:(nameP false t.Z)
              · cases h_eZ:(t.Z.toList.isEmpty)
                · rw [h_sB] at r2
                  rw [h_zB] at r3
                  have NB:Hid (∀ w',Below X.heap.size X w'→Calls Tryz.prog 86 #[.agg #[.int .i64 t.K,.int .i64 t.N,.string t.S,.string t.Z,.int .i64 t.T.K,.int .i64 t.T.N,.slice a1 l1 c1,.slice a2 l2 c2,.slice a3 l3 c3]] w' fun e w''=>e=.returned (.bool true)∧Below X.heap.size X w''):=fun w' hC=>(l2Number_any _ _ _ _ _ _ _ _ _ _).mono fun e w'' h=>⟨by rw [h.1,h_b2],hC.trans (h.2.mono hC.size)⟩
                  refine wp_region_below (by kernel_rfl) (by kernel_rfl) ?_
                  repeat (first
                    | go_big_quiet_skip
                    | (go_big_quiet_want;unfold Oper.quiet;apply Exists.intro;refine ⟨fun w' hC=>?_,?_⟩;(have g0:=(bcell hC htl 0).trans f0;have g1:=(bcell hC htl 1).trans f1;have g2:=(bcell hC htl 2).trans f2;have g3:=(bcell hC htl 3).trans f3;have g4:=(bcell hC htl 4).trans f4;have g5:=(bcell hC htl 5).trans f5;have g6:=(bcell hC htl 6).trans f6;have g7:=(bcell hC htl 7).trans f7;have g8:=(bcell hC htl 8).trans f8;have g9:=(bcell hC hhl 0).trans r0;have g10:=(bcell hC hhl 2).trans r2;have g11:=(bcell hC hhl 3).trans r3;unfold Oper.quietAt;go_simp;first | exact rfl | exact ⟨rfl,rfl⟩ | (go_at_call 86;exact NB.out _ hC) | (go_at_call 87;refine (l2Name_any false _ _ (by first | exact hsz | exact hzz)).mono ?_;rintro e w'' ⟨rfl,hw⟩;exact ⟨rfl,by rw [hw];exact hC⟩));go_big_quiet_on;simp only [Act.put,List.setIfInBounds_toArray,List.set_cons_zero,List.set_cons_succ,h_nS,h_nZ]))
                  refine wpQuiet_nil ?_
                  intro w2 hb2
                  go_wp2_with fail
                  go_meet
                  exact ⟨congrArg Value.bool (by simp [bad2, *]),hb2⟩
                · rw [h_sB] at r2
                  rw [h_zB] at r3
                  have NB:Hid (∀ w',Below X.heap.size X w'→Calls Tryz.prog 86 #[.agg #[.int .i64 t.K,.int .i64 t.N,.string t.S,.string t.Z,.int .i64 t.T.K,.int .i64 t.T.N,.slice a1 l1 c1,.slice a2 l2 c2,.slice a3 l3 c3]] w' fun e w''=>e=.returned (.bool true)∧Below X.heap.size X w''):=fun w' hC=>(l2Number_any _ _ _ _ _ _ _ _ _ _).mono fun e w'' h=>⟨by rw [h.1,h_b2],hC.trans (h.2.mono hC.size)⟩
                  refine wp_region_below (by kernel_rfl) (by kernel_rfl) ?_
                  repeat (first
                    | go_big_quiet_skip
                    | (go_big_quiet_want;unfold Oper.quiet;apply Exists.intro;refine ⟨fun w' hC=>?_,?_⟩;(have g0:=(bcell hC htl 0).trans f0;have g1:=(bcell hC htl 1).trans f1;have g2:=(bcell hC htl 2).trans f2;have g3:=(bcell hC htl 3).trans f3;have g4:=(bcell hC htl 4).trans f4;have g5:=(bcell hC htl 5).trans f5;have g6:=(bcell hC htl 6).trans f6;have g7:=(bcell hC htl 7).trans f7;have g8:=(bcell hC htl 8).trans f8;have g9:=(bcell hC hhl 0).trans r0;have g10:=(bcell hC hhl 2).trans r2;have g11:=(bcell hC hhl 3).trans r3;unfold Oper.quietAt;go_simp;first | exact rfl | exact ⟨rfl,rfl⟩ | (go_at_call 86;exact NB.out _ hC) | (go_at_call 87;refine (l2Name_any false _ _ (by first | exact hsz | exact hzz)).mono ?_;rintro e w'' ⟨rfl,hw⟩;exact ⟨rfl,by rw [hw];exact hC⟩));go_big_quiet_on;simp only [Act.put,List.setIfInBounds_toArray,List.set_cons_zero,List.set_cons_succ,h_nS,h_nZ]))
                  refine wpQuiet_nil ?_
                  intro w2 hb2
                  go_wp2_with fail
                  go_meet
                  exact ⟨congrArg Value.bool (by simp [bad2, *]),hb2⟩
              · rw [h_sB] at r2
                rw [h_zB] at r3
                have NB:Hid (∀ w',Below X.heap.size X w'→Calls Tryz.prog 86 #[.agg #[.int .i64 t.K,.int .i64 t.N,.string t.S,.string t.Z,.int .i64 t.T.K,.int .i64 t.T.N,.slice a1 l1 c1,.slice a2 l2 c2,.slice a3 l3 c3]] w' fun e w''=>e=.returned (.bool true)∧Below X.heap.size X w''):=fun w' hC=>(l2Number_any _ _ _ _ _ _ _ _ _ _).mono fun e w'' h=>⟨by rw [h.1,h_b2],hC.trans (h.2.mono hC.size)⟩
                refine wp_region_below (by kernel_rfl) (by kernel_rfl) ?_
                repeat (first
                  | go_big_quiet_skip
                  | (go_big_quiet_want;unfold Oper.quiet;apply Exists.intro;refine ⟨fun w' hC=>?_,?_⟩;(have g0:=(bcell hC htl 0).trans f0;have g1:=(bcell hC htl 1).trans f1;have g2:=(bcell hC htl 2).trans f2;have g3:=(bcell hC htl 3).trans f3;have g4:=(bcell hC htl 4).trans f4;have g5:=(bcell hC htl 5).trans f5;have g6:=(bcell hC htl 6).trans f6;have g7:=(bcell hC htl 7).trans f7;have g8:=(bcell hC htl 8).trans f8;have g9:=(bcell hC hhl 0).trans r0;have g10:=(bcell hC hhl 2).trans r2;have g11:=(bcell hC hhl 3).trans r3;unfold Oper.quietAt;go_simp;first | exact rfl | exact ⟨rfl,rfl⟩ | (go_at_call 86;exact NB.out _ hC) | (go_at_call 87;refine (l2Name_any false _ _ (by first | exact hsz | exact hzz)).mono ?_;rintro e w'' ⟨rfl,hw⟩;exact ⟨rfl,by rw [hw];exact hC⟩));go_big_quiet_on;simp only [Act.put,List.setIfInBounds_toArray,List.set_cons_zero,List.set_cons_succ,h_nS,h_nZ]))
                refine wpQuiet_nil ?_
                intro w2 hb2
                go_wp2_with fail
                go_meet
                exact ⟨congrArg Value.bool (by simp [bad2, *]),hb2⟩
          · cases h_nS:(nameP false t.S)
            · rw [h_sB] at r2
              rw [h_zB] at r3
              have NB:Hid (∀ w',Below X.heap.size X w'→Calls Tryz.prog 86 #[.agg #[.int .i64 t.K,.int .i64 t.N,.string t.S,.string t.Z,.int .i64 t.T.K,.int .i64 t.T.N,.slice a1 l1 c1,.slice a2 l2 c2,.slice a3 l3 c3]] w' fun e w''=>e=.returned (.bool true)∧Below X.heap.size X w''):=fun w' hC=>(l2Number_any _ _ _ _ _ _ _ _ _ _).mono fun e w'' h=>⟨by rw [h.1,h_b2],hC.trans (h.2.mono hC.size)⟩
              refine wp_region_below (by kernel_rfl) (by kernel_rfl) ?_
              repeat (first
                | go_big_quiet_skip
                | (go_big_quiet_want;unfold Oper.quiet;apply Exists.intro;refine ⟨fun w' hC=>?_,?_⟩;(have g0:=(bcell hC htl 0).trans f0;have g1:=(bcell hC htl 1).trans f1;have g2:=(bcell hC htl 2).trans f2;have g3:=(bcell hC htl 3).trans f3;have g4:=(bcell hC htl 4).trans f4;have g5:=(bcell hC htl 5).trans f5;have g6:=(bcell hC htl 6).trans f6;have g7:=(bcell hC htl 7).trans f7;have g8:=(bcell hC htl 8).trans f8;have g9:=(bcell hC hhl 0).trans r0;have g10:=(bcell hC hhl 2).trans r2;have g11:=(bcell hC hhl 3).trans r3;unfold Oper.quietAt;go_simp;first | exact rfl | exact ⟨rfl,rfl⟩ | (go_at_call 86;exact NB.out _ hC) | (go_at_call 87;refine (l2Name_any false _ _ (by first | exact hsz | exact hzz)).mono ?_;rintro e w'' ⟨rfl,hw⟩;exact ⟨rfl,by rw [hw];exact hC⟩));go_big_quiet_on;simp only [Act.put,List.setIfInBounds_toArray,List.set_cons_zero,List.set_cons_succ,h_nS]))
              refine wpQuiet_nil ?_
              intro w2 hb2
              go_wp2_with fail
              go_meet
              exact ⟨congrArg Value.bool (by simp [bad2, *]),hb2⟩
            · cases h_nZ:(nameP false t.Z)
              · rw [h_sB] at r2
                rw [h_zB] at r3
                have NB:Hid (∀ w',Below X.heap.size X w'→Calls Tryz.prog 86 #[.agg #[.int .i64 t.K,.int .i64 t.N,.string t.S,.string t.Z,.int .i64 t.T.K,.int .i64 t.T.N,.slice a1 l1 c1,.slice a2 l2 c2,.slice a3 l3 c3]] w' fun e w''=>e=.returned (.bool true)∧Below X.heap.size X w''):=fun w' hC=>(l2Number_any _ _ _ _ _ _ _ _ _ _).mono fun e w'' h=>⟨by rw [h.1,h_b2],hC.trans (h.2.mono hC.size)⟩
                refine wp_region_below (by kernel_rfl) (by kernel_rfl) ?_
                repeat (first
                  | go_big_quiet_skip
                  | (go_big_quiet_want;unfold Oper.quiet;apply Exists.intro;refine ⟨fun w' hC=>?_,?_⟩;(have g0:=(bcell hC htl 0).trans f0;have g1:=(bcell hC htl 1).trans f1;have g2:=(bcell hC htl 2).trans f2;have g3:=(bcell hC htl 3).trans f3;have g4:=(bcell hC htl 4).trans f4;have g5:=(bcell hC htl 5).trans f5;have g6:=(bcell hC htl 6).trans f6;have g7:=(bcell hC htl 7).trans f7;have g8:=(bcell hC htl 8).trans f8;have g9:=(bcell hC hhl 0).trans r0;have g10:=(bcell hC hhl 2).trans r2;have g11:=(bcell hC hhl 3).trans r3;unfold Oper.quietAt;go_simp;first | exact rfl | exact ⟨rfl,rfl⟩ | (go_at_call 86;exact NB.out _ hC) | (go_at_call 87;refine (l2Name_any false _ _ (by first | exact hsz | exact hzz)).mono ?_;rintro e w'' ⟨rfl,hw⟩;exact ⟨rfl,by rw [hw];exact hC⟩));go_big_quiet_on;simp only [Act.put,List.setIfInBounds_toArray,List.set_cons_zero,List.set_cons_succ,h_nS,h_nZ]))
                refine wpQuiet_nil ?_
                intro w2 hb2
                go_wp2_with fail
                go_meet
                exact ⟨congrArg Value.bool (by simp [bad2, *]),hb2⟩
              · cases h_eq:(t.S.toList == t.Z.toList)
                · rw [h_sB] at r2
                  rw [h_zB] at r3
                  have NB:Hid (∀ w',Below X.heap.size X w'→Calls Tryz.prog 86 #[.agg #[.int .i64 t.K,.int .i64 t.N,.string t.S,.string t.Z,.int .i64 t.T.K,.int .i64 t.T.N,.slice a1 l1 c1,.slice a2 l2 c2,.slice a3 l3 c3]] w' fun e w''=>e=.returned (.bool true)∧Below X.heap.size X w''):=fun w' hC=>(l2Number_any _ _ _ _ _ _ _ _ _ _).mono fun e w'' h=>⟨by rw [h.1,h_b2],hC.trans (h.2.mono hC.size)⟩
                  refine wp_region_below (by kernel_rfl) (by kernel_rfl) ?_
                  repeat (first
                    | go_big_quiet_skip
                    | (go_big_quiet_want;unfold Oper.quiet;apply Exists.intro;refine ⟨fun w' hC=>?_,?_⟩;(have g0:=(bcell hC htl 0).trans f0;have g1:=(bcell hC htl 1).trans f1;have g2:=(bcell hC htl 2).trans f2;have g3:=(bcell hC htl 3).trans f3;have g4:=(bcell hC htl 4).trans f4;have g5:=(bcell hC htl 5).trans f5;have g6:=(bcell hC htl 6).trans f6;have g7:=(bcell hC htl 7).trans f7;have g8:=(bcell hC htl 8).trans f8;have g9:=(bcell hC hhl 0).trans r0;have g10:=(bcell hC hhl 2).trans r2;have g11:=(bcell hC hhl 3).trans r3;unfold Oper.quietAt;go_simp;first | exact rfl | exact ⟨rfl,rfl⟩ | (go_at_call 86;exact NB.out _ hC) | (go_at_call 87;refine (l2Name_any false _ _ (by first | exact hsz | exact hzz)).mono ?_;rintro e w'' ⟨rfl,hw⟩;exact ⟨rfl,by rw [hw];exact hC⟩));go_big_quiet_on;simp only [Act.put,List.setIfInBounds_toArray,List.set_cons_zero,List.set_cons_succ,h_nS,h_nZ]))
                  refine wpQuiet_nil ?_
                  intro w2 hb2
                  go_wp2_with fail
                  go_meet
                  exact ⟨congrArg Value.bool (by simp [bad2, *]),hb2⟩
                · rw [h_sB] at r2
                  rw [h_zB] at r3
                  have NB:Hid (∀ w',Below X.heap.size X w'→Calls Tryz.prog 86 #[.agg #[.int .i64 t.K,.int .i64 t.N,.string t.S,.string t.Z,.int .i64 t.T.K,.int .i64 t.T.N,.slice a1 l1 c1,.slice a2 l2 c2,.slice a3 l3 c3]] w' fun e w''=>e=.returned (.bool true)∧Below X.heap.size X w''):=fun w' hC=>(l2Number_any _ _ _ _ _ _ _ _ _ _).mono fun e w'' h=>⟨by rw [h.1,h_b2],hC.trans (h.2.mono hC.size)⟩
                  refine wp_region_below (by kernel_rfl) (by kernel_rfl) ?_
                  repeat (first
                    | go_big_quiet_skip
                    | (go_big_quiet_want;unfold Oper.quiet;apply Exists.intro;refine ⟨fun w' hC=>?_,?_⟩;(have g0:=(bcell hC htl 0).trans f0;have g1:=(bcell hC htl 1).trans f1;have g2:=(bcell hC htl 2).trans f2;have g3:=(bcell hC htl 3).trans f3;have g4:=(bcell hC htl 4).trans f4;have g5:=(bcell hC htl 5).trans f5;have g6:=(bcell hC htl 6).trans f6;have g7:=(bcell hC htl 7).trans f7;have g8:=(bcell hC htl 8).trans f8;have g9:=(bcell hC hhl 0).trans r0;have g10:=(bcell hC hhl 2).trans r2;have g11:=(bcell hC hhl 3).trans r3;unfold Oper.quietAt;go_simp;first | exact rfl | exact ⟨rfl,rfl⟩ | (go_at_call 86;exact NB.out _ hC) | (go_at_call 87;refine (l2Name_any false _ _ (by first | exact hsz | exact hzz)).mono ?_;rintro e w'' ⟨rfl,hw⟩;exact ⟨rfl,by rw [hw];exact hC⟩));go_big_quiet_on;simp only [Act.put,List.setIfInBounds_toArray,List.set_cons_zero,List.set_cons_succ,h_nS,h_nZ]))
                  refine wpQuiet_nil ?_
                  intro w2 hb2
                  go_wp2_with fail
                  go_meet
                  exact ⟨congrArg Value.bool (by simp [bad2, *]),hb2⟩
    · refine wp_region_below (by kernel_rfl) (by kernel_rfl) ?_
      repeat (first
        | go_big_quiet_skip
        | (go_big_quiet_want;unfold Oper.quiet;apply Exists.intro;refine ⟨fun w' hC=>?_,?_⟩;(have g0:=(bcell hC htl 0).trans f0;have g1:=(bcell hC htl 1).trans f1;have g2:=(bcell hC htl 2).trans f2;have g3:=(bcell hC htl 3).trans f3;have g4:=(bcell hC htl 4).trans f4;have g5:=(bcell hC htl 5).trans f5;have g6:=(bcell hC htl 6).trans f6;have g7:=(bcell hC htl 7).trans f7;have g8:=(bcell hC htl 8).trans f8;have g9:=(bcell hC hhl 0).trans r0;have g10:=(bcell hC hhl 2).trans r2;have g11:=(bcell hC hhl 3).trans r3;unfold Oper.quietAt;go_simp;first | exact rfl | exact ⟨rfl,rfl⟩);go_big_quiet_on;simp only [Act.put,List.setIfInBounds_toArray,List.set_cons_zero,List.set_cons_succ]))
      refine wpQuiet_nil ?_
      intro w2 hb2
      go_wp2_with fail
      go_meet
      exact ⟨congrArg Value.bool (by simp [bad2, *]),hb2⟩
  case rest =>
    obtain ⟨rfl,hbc⟩:=hcut
    have hzc:X.heap.size≤wc.heap.size:=hbc.size
    have hbwc:Below w.heap.size w wc:=hXb.trans (hbc.mono (Nat.le_of_lt htl))
    have htc:w.heap.size < wc.heap.size:=Nat.lt_of_lt_of_le htl hzc
    have hhc:w1.heap.size < wc.heap.size:=Nat.lt_of_lt_of_le hhl hzc
    have HO:Hid (nodeM t=_):=nodeM_one t
    rw [← HL3.out,← HL2.out] at HO
    cases hb2:bad2 ((l3:Int) != ofP t.K) (numB t.K t.N) (ofS t.K) (nameP false t.S) t.S.toList.isEmpty (ofZ t.K) (nameP false t.Z) t.Z.toList.isEmpty (t.S.toList == t.Z.toList)
    case true =>
      rw [hb2] at HO
      clear hb2
      go_wp2_with fail
      go_ret
      exact ⟨ret_bool (by rw [HO.out];rfl),hbwc⟩
    have HP:Hid ((l3:Int)=ofP t.K):=by
      show _=_
      have h1:=hb2
      unfold bad2 at h1
      simp only [Bool.or_eq_false_iff] at h1
      have:=h1.1.1.1.1.1.1
      simpa using this
    rw [hb2] at HO
    replace f0:=(bcell hbc htl 0).trans f0
    replace f4:=(bcell hbc htl 4).trans f4
    replace f5:=(bcell hbc htl 5).trans f5
    replace f6:=(bcell hbc htl 6).trans f6
    replace f7:=(bcell hbc htl 7).trans f7
    replace f8:=(bcell hbc htl 8).trans f8
    replace r4:=(bcell hbc hhl 4).trans r4
    clear f1 f2 f3 r0 r2 r3
    have hft1:=hf.t1.below hbwc hB
    go_upto_region 4 with fail
    go_cut [100] from 66 to 100 (fun c wx=>c=.bool (bad4 (shT t.K) (okT ⟨t.T.K,t.T.N,t.T.A⟩) ((t.T.K == 0) && (t.T.N == 0) && ((l1:Int) == 0)) (decide (2 < (l2:Int))) (t.K != 3) (decide (0 < (l2:Int))))∧Below wc.heap.size wc wx)
    case first =>
      cases h_tB:(shT t.K)
      · cases h_ok:(okT ⟨t.T.K,t.T.N,t.T.A⟩)
        · cases h_zr:((t.T.K == 0) && (t.T.N == 0) && ((l1:Int) == 0))
          · rw [h_tB] at r4
            refine wp_region_below (by kernel_rfl) (by kernel_rfl) ?_
            repeat (first
              | go_big_quiet_skip
              | (go_big_quiet_want;unfold Oper.quiet;apply Exists.intro;refine ⟨fun w' hC=>?_,?_⟩;(have g0:=(bcell hC htc 0).trans f0;have g1:=(bcell hC htc 4).trans f4;have g2:=(bcell hC htc 5).trans f5;have g3:=(bcell hC htc 6).trans f6;have g4:=(bcell hC htc 7).trans f7;have g5:=(bcell hC hhc 4).trans r4;unfold Oper.quietAt;go_simp;first | exact rfl | exact ⟨rfl,rfl⟩ | (go_at_call 88;refine (sTyOk_any D L B _ _ _ _ _ t.T.A _ (by have:=hC.size;omega) (hft1.below hC (by omega))).mono ?_;rintro e w'' ⟨rfl,hw⟩;exact ⟨rfl,hC.trans (hw.mono hC.size)⟩) | (go_at_call 89;refine (sSameTy_zero _ _ _ _ _ _ hl1).mono ?_;rintro e w'' ⟨rfl,hw⟩;exact ⟨rfl,hC.trans (hw.mono hC.size)⟩));go_big_quiet_on;simp only [Act.put,List.setIfInBounds_toArray,List.set_cons_zero,List.set_cons_succ,h_ok,h_zr]))
            refine wpQuiet_nil ?_
            intro w2 hb2
            go_wp2_with fail
            go_meet
            exact ⟨congrArg Value.bool (by simp [bad4, *]),hb2⟩
          · cases h_g2:(decide (2 < (l2:Int)))
            · cases h_k3:(t.K != 3)
              · rw [h_tB] at r4
                refine wp_region_below (by kernel_rfl) (by kernel_rfl) ?_
                repeat (first
                  | go_big_quiet_skip
                  | (go_big_quiet_want;unfold Oper.quiet;apply Exists.intro;refine ⟨fun w' hC=>?_,?_⟩;(have g0:=(bcell hC htc 0).trans f0;have g1:=(bcell hC htc 4).trans f4;have g2:=(bcell hC htc 5).trans f5;have g3:=(bcell hC htc 6).trans f6;have g4:=(bcell hC htc 7).trans f7;have g5:=(bcell hC hhc 4).trans r4;unfold Oper.quietAt;go_simp;first | exact rfl | exact ⟨rfl,rfl⟩ | (go_at_call 88;refine (sTyOk_any D L B _ _ _ _ _ t.T.A _ (by have:=hC.size;omega) (hft1.below hC (by omega))).mono ?_;rintro e w'' ⟨rfl,hw⟩;exact ⟨rfl,hC.trans (hw.mono hC.size)⟩) | (go_at_call 89;refine (sSameTy_zero _ _ _ _ _ _ hl1).mono ?_;rintro e w'' ⟨rfl,hw⟩;exact ⟨rfl,hC.trans (hw.mono hC.size)⟩));go_big_quiet_on;simp only [Act.put,List.setIfInBounds_toArray,List.set_cons_zero,List.set_cons_succ,h_ok,h_zr]))
                refine wpQuiet_nil ?_
                intro w2 hb2
                go_wp2_with fail
                go_meet
                exact ⟨congrArg Value.bool (by simp [bad4, *]),hb2⟩
              · cases h_g0:(decide (0 < (l2:Int)))
                · rw [h_tB] at r4
                  refine wp_region_below (by kernel_rfl) (by kernel_rfl) ?_
                  repeat (first
                    | go_big_quiet_skip
                    | (go_big_quiet_want;unfold Oper.quiet;apply Exists.intro;refine ⟨fun w' hC=>?_,?_⟩;(have g0:=(bcell hC htc 0).trans f0;have g1:=(bcell hC htc 4).trans f4;have g2:=(bcell hC htc 5).trans f5;have g3:=(bcell hC htc 6).trans f6;have g4:=(bcell hC htc 7).trans f7;have g5:=(bcell hC hhc 4).trans r4;unfold Oper.quietAt;go_simp;first | exact rfl | exact ⟨rfl,rfl⟩ | (go_at_call 88;refine (sTyOk_any D L B _ _ _ _ _ t.T.A _ (by have:=hC.size;omega) (hft1.below hC (by omega))).mono ?_;rintro e w'' ⟨rfl,hw⟩;exact ⟨rfl,hC.trans (hw.mono hC.size)⟩) | (go_at_call 89;refine (sSameTy_zero _ _ _ _ _ _ hl1).mono ?_;rintro e w'' ⟨rfl,hw⟩;exact ⟨rfl,hC.trans (hw.mono hC.size)⟩));go_big_quiet_on;simp only [Act.put,List.setIfInBounds_toArray,List.set_cons_zero,List.set_cons_succ,h_ok,h_zr]))
                  refine wpQuiet_nil ?_
                  intro w2 hb2
                  go_wp2_with fail
                  go_meet
                  exact ⟨congrArg Value.bool (by simp [bad4, *]),hb2⟩
                · rw [h_tB] at r4
                  refine wp_region_below (by kernel_rfl) (by kernel_rfl) ?_
                  repeat (first
                    | go_big_quiet_skip
                    | (go_big_quiet_want;unfold Oper.quiet;apply Exists.intro;refine ⟨fun w' hC=>?_,?_⟩;(have g0:=(bcell hC htc 0).trans f0;have g1:=(bcell hC htc 4).trans f4;have g2:=(bcell hC htc 5).trans f5;have g3:=(bcell hC htc 6).trans f6;have g4:=(bcell hC htc 7).trans f7;have g5:=(bcell hC hhc 4).trans r4;unfold Oper.quietAt;go_simp;first | exact rfl | exact ⟨rfl,rfl⟩ | (go_at_call 88;refine (sTyOk_any D L B _ _ _ _ _ t.T.A _ (by have:=hC.size;omega) (hft1.below hC (by omega))).mono ?_;rintro e w'' ⟨rfl,hw⟩;exact ⟨rfl,hC.trans (hw.mono hC.size)⟩) | (go_at_call 89;refine (sSameTy_zero _ _ _ _ _ _ hl1).mono ?_;rintro e w'' ⟨rfl,hw⟩;exact ⟨rfl,hC.trans (hw.mono hC.size)⟩));go_big_quiet_on;simp only [Act.put,List.setIfInBounds_toArray,List.set_cons_zero,List.set_cons_succ,h_ok,h_zr]))
                  refine wpQuiet_nil ?_
                  intro w2 hb2
                  go_wp2_with fail
                  go_meet
                  exact ⟨congrArg Value.bool (by simp [bad4, *]),hb2⟩
            · rw [h_tB] at r4
              refine wp_region_below (by kernel_rfl) (by kernel_rfl) ?_
              repeat (first
                | go_big_quiet_skip
                | (go_big_quiet_want;unfold Oper.quiet;apply Exists.intro;refine ⟨fun w' hC=>?_,?_⟩;(have g0:=(bcell hC htc 0).trans f0;have g1:=(bcell hC htc 4).trans f4;have g2:=(bcell hC htc 5).trans f5;have g3:=(bcell hC htc 6).trans f6;have g4:=(bcell hC htc 7).trans f7;have g5:=(bcell hC hhc 4).trans r4;unfold Oper.quietAt;go_simp;first | exact rfl | exact ⟨rfl,rfl⟩ | (go_at_call 88;refine (sTyOk_any D L B _ _ _ _ _ t.T.A _ (by have:=hC.size;omega) (hft1.below hC (by omega))).mono ?_;rintro e w'' ⟨rfl,hw⟩;exact ⟨rfl,hC.trans (hw.mono hC.size)⟩) | (go_at_call 89;refine (sSameTy_zero _ _ _ _ _ _ hl1).mono ?_;rintro e w'' ⟨rfl,hw⟩;exact ⟨rfl,hC.trans (hw.mono hC.size)⟩));go_big_quiet_on;simp only [Act.put,List.setIfInBounds_toArray,List.set_cons_zero,List.set_cons_succ,h_ok,h_zr]))
              refine wpQuiet_nil ?_
              intro w2 hb2
              go_wp2_with fail
              go_meet
              exact ⟨congrArg Value.bool (by simp [bad4, *]),hb2⟩
        · rw [h_tB] at r4
          refine wp_region_below (by kernel_rfl) (by kernel_rfl) ?_
          repeat (first
            | go_big_quiet_skip
            | (go_big_quiet_want;unfold Oper.quiet;apply Exists.intro;refine ⟨fun w' hC=>?_,?_⟩;(have g0:=(bcell hC htc 0).trans f0;have g1:=(bcell hC htc 4).trans f4;have g2:=(bcell hC htc 5).trans f5;have g3:=(bcell hC htc 6).trans f6;have g4:=(bcell hC htc 7).trans f7;have g5:=(bcell hC hhc 4).trans r4;unfold Oper.quietAt;go_simp;first | exact rfl | exact ⟨rfl,rfl⟩ | (go_at_call 88;refine (sTyOk_any D L B _ _ _ _ _ t.T.A _ (by have:=hC.size;omega) (hft1.below hC (by omega))).mono ?_;rintro e w'' ⟨rfl,hw⟩;exact ⟨rfl,hC.trans (hw.mono hC.size)⟩));go_big_quiet_on;simp only [Act.put,List.setIfInBounds_toArray,List.set_cons_zero,List.set_cons_succ,h_ok]))
          refine wpQuiet_nil ?_
          intro w2 hb2
          go_wp2_with fail
          go_meet
          exact ⟨congrArg Value.bool (by simp [bad4, *]),hb2⟩
      · cases h_ok:(okT ⟨t.T.K,t.T.N,t.T.A⟩)
        · rw [h_tB] at r4
          refine wp_region_below (by kernel_rfl) (by kernel_rfl) ?_
          repeat (first
            | go_big_quiet_skip
            | (go_big_quiet_want;unfold Oper.quiet;apply Exists.intro;refine ⟨fun w' hC=>?_,?_⟩;(have g0:=(bcell hC htc 0).trans f0;have g1:=(bcell hC htc 4).trans f4;have g2:=(bcell hC htc 5).trans f5;have g3:=(bcell hC htc 6).trans f6;have g4:=(bcell hC htc 7).trans f7;have g5:=(bcell hC hhc 4).trans r4;unfold Oper.quietAt;go_simp;first | exact rfl | exact ⟨rfl,rfl⟩ | (go_at_call 88;refine (sTyOk_any D L B _ _ _ _ _ t.T.A _ (by have:=hC.size;omega) (hft1.below hC (by omega))).mono ?_;rintro e w'' ⟨rfl,hw⟩;exact ⟨rfl,hC.trans (hw.mono hC.size)⟩));go_big_quiet_on;simp only [Act.put,List.setIfInBounds_toArray,List.set_cons_zero,List.set_cons_succ,h_ok]))
          refine wpQuiet_nil ?_
          intro w2 hb2
          go_wp2_with fail
          go_meet
          exact ⟨congrArg Value.bool (by simp [bad4, *]),hb2⟩
        · cases h_g2:(decide (2 < (l2:Int)))
          · cases h_k3:(t.K != 3)
            · rw [h_tB] at r4
              refine wp_region_below (by kernel_rfl) (by kernel_rfl) ?_
              repeat (first
                | go_big_quiet_skip
                | (go_big_quiet_want;unfold Oper.quiet;apply Exists.intro;refine ⟨fun w' hC=>?_,?_⟩;(have g0:=(bcell hC htc 0).trans f0;have g1:=(bcell hC htc 4).trans f4;have g2:=(bcell hC htc 5).trans f5;have g3:=(bcell hC htc 6).trans f6;have g4:=(bcell hC htc 7).trans f7;have g5:=(bcell hC hhc 4).trans r4;unfold Oper.quietAt;go_simp;first | exact rfl | exact ⟨rfl,rfl⟩ | (go_at_call 88;refine (sTyOk_any D L B _ _ _ _ _ t.T.A _ (by have:=hC.size;omega) (hft1.below hC (by omega))).mono ?_;rintro e w'' ⟨rfl,hw⟩;exact ⟨rfl,hC.trans (hw.mono hC.size)⟩));go_big_quiet_on;simp only [Act.put,List.setIfInBounds_toArray,List.set_cons_zero,List.set_cons_succ,h_ok]))
              refine wpQuiet_nil ?_
              intro w2 hb2
              go_wp2_with fail
              go_meet
              exact ⟨congrArg Value.bool (by simp [bad4, *]),hb2⟩
            · cases h_g0:(decide (0 < (l2:Int)))
              · rw [h_tB] at r4
                refine wp_region_below (by kernel_rfl) (by kernel_rfl) ?_
                repeat (first
                  | go_big_quiet_skip
                  | (go_big_quiet_want;unfold Oper.quiet;apply Exists.intro;refine ⟨fun w' hC=>?_,?_⟩;(have g0:=(bcell hC htc 0).trans f0;have g1:=(bcell hC htc 4).trans f4;have g2:=(bcell hC htc 5).trans f5;have g3:=(bcell hC htc 6).trans f6;have g4:=(bcell hC htc 7).trans f7;have g5:=(bcell hC hhc 4).trans r4;unfold Oper.quietAt;go_simp;first | exact rfl | exact ⟨rfl,rfl⟩ | (go_at_call 88;refine (sTyOk_any D L B _ _ _ _ _ t.T.A _ (by have:=hC.size;omega) (hft1.below hC (by omega))).mono ?_;rintro e w'' ⟨rfl,hw⟩;exact ⟨rfl,hC.trans (hw.mono hC.size)⟩));go_big_quiet_on;simp only [Act.put,List.setIfInBounds_toArray,List.set_cons_zero,List.set_cons_succ,h_ok]))
                refine wpQuiet_nil ?_
                intro w2 hb2
                go_wp2_with fail
                go_meet
                exact ⟨congrArg Value.bool (by simp [bad4, *]),hb2⟩
              · rw [h_tB] at r4
                refine wp_region_below (by kernel_rfl) (by kernel_rfl) ?_
                repeat (first
                  | go_big_quiet_skip
                  | (go_big_quiet_want;unfold Oper.quiet;apply Exists.intro;refine ⟨fun w' hC=>?_,?_⟩;(have g0:=(bcell hC htc 0).trans f0;have g1:=(bcell hC htc 4).trans f4;have g2:=(bcell hC htc 5).trans f5;have g3:=(bcell hC htc 6).trans f6;have g4:=(bcell hC htc 7).trans f7;have g5:=(bcell hC hhc 4).trans r4;unfold Oper.quietAt;go_simp;first | exact rfl | exact ⟨rfl,rfl⟩ | (go_at_call 88;refine (sTyOk_any D L B _ _ _ _ _ t.T.A _ (by have:=hC.size;omega) (hft1.below hC (by omega))).mono ?_;rintro e w'' ⟨rfl,hw⟩;exact ⟨rfl,hC.trans (hw.mono hC.size)⟩));go_big_quiet_on;simp only [Act.put,List.setIfInBounds_toArray,List.set_cons_zero,List.set_cons_succ,h_ok]))
                refine wpQuiet_nil ?_
                intro w2 hb2
                go_wp2_with fail
                go_meet
                exact ⟨congrArg Value.bool (by simp [bad4, *]),hb2⟩
          · rw [h_tB] at r4
            refine wp_region_below (by kernel_rfl) (by kernel_rfl) ?_
            repeat (first
              | go_big_quiet_skip
              | (go_big_quiet_want;unfold Oper.quiet;apply Exists.intro;refine ⟨fun w' hC=>?_,?_⟩;(have g0:=(bcell hC htc 0).trans f0;have g1:=(bcell hC htc 4).trans f4;have g2:=(bcell hC htc 5).trans f5;have g3:=(bcell hC htc 6).trans f6;have g4:=(bcell hC htc 7).trans f7;have g5:=(bcell hC hhc 4).trans r4;unfold Oper.quietAt;go_simp;first | exact rfl | exact ⟨rfl,rfl⟩ | (go_at_call 88;refine (sTyOk_any D L B _ _ _ _ _ t.T.A _ (by have:=hC.size;omega) (hft1.below hC (by omega))).mono ?_;rintro e w'' ⟨rfl,hw⟩;exact ⟨rfl,hC.trans (hw.mono hC.size)⟩));go_big_quiet_on;simp only [Act.put,List.setIfInBounds_toArray,List.set_cons_zero,List.set_cons_succ,h_ok]))
            refine wpQuiet_nil ?_
            intro w2 hb2
            go_wp2_with fail
            go_meet
            exact ⟨congrArg Value.bool (by simp [bad4, *]),hb2⟩
    case rest =>
      obtain ⟨rfl,hbd⟩:=hcut
      have hzd:=hbd.size
      have hbwd:Below w.heap.size w wc:=hbwc.trans (hbd.mono (Nat.le_of_lt htc))
      have htd:w.heap.size < wc.heap.size:=Nat.lt_of_lt_of_le htc hzd
      have e1:zeroT t.T=((t.T.K == 0) && (t.T.N == 0) && ((l1:Int) == 0)):=by rw [HL1.out];rfl
      have e2:okT t.T=okT ⟨t.T.K,t.T.N,t.T.A⟩:=by rw [tr_eta]
      rw [e1,e2] at HO
      clear e1 e2
      cases hb4:bad4 (shT t.K) (okT ⟨t.T.K,t.T.N,t.T.A⟩) ((t.T.K == 0) && (t.T.N == 0) && ((l1:Int) == 0)) (decide (2 < (l2:Int))) (t.K != 3) (decide (0 < (l2:Int)))
      case true =>
        rw [hb4] at HO
        clear hb4
        go_wp2_with fail
        go_ret
        exact ⟨ret_bool (by rw [HO.out];rfl),hbwd⟩
      rw [hb4] at HO
      replace HO:Hid (nodeM t=(t.Ts.all okT && fixB t.K t.A)):=HO.out
      replace f0:=(bcell hbd htc 0).trans f0
      replace f7:=(bcell hbd htc 7).trans f7
      replace f8:=(bcell hbd htc 8).trans f8
      clear hb2 hb4 f4 f5 f6 r4 hft1 hX0 hX1 y0
      go_wp2_with fail
      go_loopw [4] (fun i wr=>∃ j:Nat,j≤l2∧i=.int .i64 j∧Hid ((t.Ts.take j).all okT=true)∧Below wc.heap.size wc wr) (fun i _=>l2 - (intOf i).toNat)
      case atStart=>exact ⟨0,by omega,rfl,rfl,Below.refl _ _⟩
      case round =>
        obtain ⟨j,hj,rfl,HA,hbr⟩:=hrel
        have hszr:=hbr.size
        have hbw:Below w.heap.size w wr:=hbwd.trans (hbr.mono (Nat.le_of_lt htd))
        have g0:=(bcell hbr htd 0).trans f0
        have g7:=(bcell hbr htd 7).trans f7
        have g8:=(bcell hbr htd 8).trans f8
        by_cases hlt:j < l2
        · have hlt':j < t.Ts.length:=by have:=HL2.out;omega
          obtain ⟨b,o,rfl,_,hbB,ao1,len1,cap1,x0,x1,x2,hs1⟩:=hf.t2.get j hlt'
          have e0:=(bcell hbw (by omega) _).trans x0
          have e1:=(bcell hbw (by omega) _).trans x1
          have e2:=(bcell hbw (by omega) _).trans x2
          have hs2:=hs1.below hbw hB
          have HT:Hid ((t.Ts.take (j+1)).all okT=((t.Ts.take j).all okT && okT t.Ts[j])):=all_take hlt'
          have HF:Hid (okT t.Ts[j]=false→t.Ts.all okT=false):=fun h=>all_not hlt' h
          have HE:Hid (okT ⟨t.Ts[j].K,t.Ts[j].N,t.Ts[j].A⟩=okT t.Ts[j]):=by show _=_;rw [tr_eta]
          cases hok:okT t.Ts[j]
          · rw [hok] at HE
            replace HF:Hid (_=_):=HF.out hok
            clear hok
            go_wp2_with fail
            refine (sTyOk_any _ _ _ _ _ _ _ _ _ _ (by omega) hs2).mono ?_
            rintro e w2 ⟨rfl,hb2⟩
            rw [HE.out]
            go_wp2_with fail
            go_ret
            exact ⟨ret_bool (by rw [HO.out,HF.out,Bool.false_and]),hbw.trans (hb2.mono (by omega))⟩
          · rw [hok] at HE HT
            clear hok
            go_wp2_with fail
            refine (sTyOk_any _ _ _ _ _ _ _ _ _ _ (by omega) hs2).mono ?_
            rintro e w2 ⟨rfl,hb2⟩
            rw [HE.out]
            have hbr2:Below wc.heap.size wc w2:=hbr.trans (hb2.mono (by omega))
            go_wp2_with fail
            go_roundw
            case rel=>exact ⟨j+1,by omega,by go_num,(by show _=_;rw [HT.out,HA.out];rfl),hbr2⟩
            case measure=>simp [intOf];omega
        · have HK:Hid (nodeM t=fixB t.K t.A):=by
            have h1:=HL2.out;have h2:=HA.out;rw [List.take_of_length_le (by omega)] at h2
            show _=_
            rw [HO.out,h2,Bool.true_and]
          by_cases h7:t.K=7
          · have hp2:ofP t.K=2:=by rw [h7];rfl
            have hpA:0 < t.A.length:=by have:=HL3.out;have:=HP.out;omega
            obtain ⟨x,o,rfl,_,hx,q1,q2,q3,q4,q5,q6,q7,q8,q9,h9,_⟩:=hf.m.get 0 hpA
            have hq:=(bcell hbw (by omega) _).trans h9.c0
            simp only [Nat.zero_mul,Nat.add_zero] at hq
            have HB:Hid (fixB t.K t.A=(t.A[0].K == 4)):=by show _=_;rw [fixB_seven h7 hpA,Bool.eq_iff_iff];simp
            have h7b:(t.K != 7)=false:=by simp [h7]
            have hpos:0 < l3:=by have:=HL3.out;omega
            clear h7 hp2 h9
            go_wp2_with fail
            go_ret
            exact ⟨ret_bool (by rw [HK.out,HB.out]),hbw⟩
          · have HB:Hid (fixB t.K t.A=true):=by show _=_;simp [fixB,h7]
            have h7b:(t.K != 7)=true:=by simp [h7]
            clear h7
            go_wp2_with fail
            go_ret
            exact ⟨ret_bool (by rw [HK.out,HB.out]),hbw⟩
end Go.Proofs.YtcepgedbmffkdaaGreat
