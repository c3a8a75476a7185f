/-
  Whether a term still bears its marks: it answers the next number.
-/
import Derived.Test.YtcepgedbmffkdaaGreatFbaMkM
import Derived.Test.YtcepgedbmffkdaaGreatFbaZ7
import Derived.Test.YtcepgedbmffkdaaGreatFbaZ2
import Derived.BigQuiet
import Derived.Deep.RegionWith
import Derived.Test.YtcepgedbmffkdaaGreatFbaZ1
namespace Go.Proofs.YtcepgedbmffkdaaGreat
open Go.RowKit
set_option linter.unusedVariables false
set_option linter.unusedSimpArgs false
def SaidHM (D d:Nat):Prop:=∀ (ao:Option Addr) (len cap:Nat) (bs:List Nat) (k k':Int) (w:World),BrO w D d ao len k k' bs→(∀ b ∈ bs,b < w.heap.size)→0≤k→k'≤4611686018427387904 →
    Calls Tryz.prog 37 #[.slice ao len cap,.int .i64 k] w fun e w'=>e=.returned (.int .i64 k')∧Below w.heap.size w w'
set_option maxHeartbeats 400000 in
theorem hm_empty (ao:Option Addr) (cap:Nat) (k:Int) (w:World) :
    Calls Tryz.prog 37 #[.slice ao 0 cap,.int .i64 k] w fun e w'=>e=.returned (.int .i64 k)∧Below w.heap.size w w':=by
  go_enter Tryz.func37,Tryz.ntmps37
  go_wp2_with fail
  refine wp_loop_rounds 1 ?_;rw [rounds_succ]
  go_wp2_with fail
  go_ret
  exact ⟨rfl,Below.refl _ _⟩
theorem hm_zero (D:Nat):SaidHM D 0:=by
  intro ao len cap bs k k' w hb hin h0 h1
  obtain ⟨rfl,rfl,rfl⟩:=hb
  exact hm_empty ao cap k' w
set_option maxRecDepth 100000 in
set_option maxHeartbeats 2000000 in
theorem hm_succ (D d:Nat) (IH:SaidHM D d):SaidHM D (d+1):=by
  intro ao len cap bs k k' w hbr0 hin hk0 hk1
  rcases hbr0 with ⟨rfl,rfl,rfl⟩ | ⟨g,cs,bss,ks,rfl,hm,hg,hbl,rfl,h0,hl,hE⟩
  · exact hm_empty ao cap k' w
  have hgw:=hin g (by simp)
  have HI:Hid (∀ b ∈ bss.flatten,b < w.heap.size):=fun b hb=>hin b (List.mem_cons_of_mem _ hb)
  have HB:Hid (bss.length=len):=hbl
  have hst:∀ i,i < len→ks i+6≤ks (i+1):=fun i hi=>(hE i hi (by omega)).le (fun _ _ _ _ _ h=>h.le)
  have HCH:Hid (∀ i,i < len→0≤ks i∧ks i+6≤ks (i+1)∧ks (i+1)≤4611686018427387904):=fun i hi=>by
    have q1:=mono_chain (ks:=ks) (n:=len) (fun i hi=>by have:=hst i hi;omega) i 0 (by omega) (by omega)
    have q2:=mono_chain (ks:=ks) (n:=len) (fun i hi=>by have:=hst i hi;omega) len (i+1) (by omega) (Nat.le_refl _)
    have:=hst i hi
    refine ⟨by omega,by omega,by omega⟩
  have HE:Hid (∀ i (_:i < len) (_:i < bss.length),ElO w D (BrO w D d) g i (ks i) (ks (i+1)) bss[i]):=hE
  have HKL:Hid (ks len=k'):=hl
  have HK0:Hid (ks 0=k):=h0
  clear hE hin hg hbl hst hl h0
  go_enter Tryz.func37,Tryz.ntmps37
  go_wp2_with fail
  go_loopw [1,5] (fun kv i wr=>∃ j:Nat,j≤len∧i=.int .i64 j∧kv=.int .i64 (ks j)∧Below w.heap.size w wr) (fun _ i _=>len - (intOf i).toNat)
  case atStart=>exact ⟨0,by omega,rfl,by rw [HK0.out],Below.refl _ _⟩
  case round =>
    obtain ⟨j,hj,rfl,rfl,hbel⟩:=hrel
    have hszr:=hbel.size
    by_cases hlt:j < len
    · have hjb:j < bss.length:=by have:=HB.out;omega
      obtain ⟨hka,hkb,hkc⟩:=HCH.out j hlt
      obtain ⟨a1,l1,c1,a2,l2,c2,a3,l3,c3,t1,t2,p1,p2,p3,h9,hp,hO1,hD1,hO2,hD2,hO3⟩:=HE.out j hlt hjb
      have hpin:∀ b ∈ p1 ++ p2 ++ p3,b < w.heap.size:=fun b hb=>HI.out b (mem_part hjb (by rw [hp];exact hb))
      have hk3:=hO3.le
      obtain ⟨kn,hkn⟩:∃ x,ks (j+1)=x:=⟨_,rfl⟩
      obtain ⟨kj,hkj⟩:∃ x,ks j=x:=⟨_,rfl⟩
      rw [hkn,hkj] at hkb hO3 hk3
      rw [hkn] at hkc
      rw [hkj] at hka h9 hO1 hO2 ⊢
      have HKN:Hid (ks (j+1)=kn):=hkn
      clear hkn hkj
      obtain ⟨e0,e1,e2,e3,e4,e5,e6,e7,e8⟩:=h9.below hbel hgw
      have hH1:Hs 0 w.heap.size w D a1 l1 (markD D (kj+6) t1):=hO1.hs fun b hb=>⟨Nat.zero_le _,hpin b (by simp [hb])⟩
      have hH2:Hs 0 w.heap.size w D a2 l2 (markD D (kj+6+2 * cntS t1) t2):=hO2.hs fun b hb=>⟨Nat.zero_le _,hpin b (by simp [hb])⟩
      have HH:Hid (_∧_∧_∧_∧_∧_):=⟨hH1,hH2,hD1,hD2,hO3,hpin⟩
      have H9:Hid (Nine w g (j * 9) kj (kj+1) (mtS (kj+2)) (mtS (kj+3)) (kj+4) (kj+5) (.slice a1 l1 c1) (.slice a2 l2 c2) (.slice a3 l3 c3)):=h9
      have hgr:g < wr.heap.size:=by omega
      obtain ⟨s1,hs1⟩:∃ s,mtS (kj+2)=s:=⟨_,rfl⟩
      obtain ⟨s2,hs2⟩:∃ s,mtS (kj+3)=s:=⟨_,rfl⟩
      have M1:Hid (∀ (V w':World),Below V.heap.size V w'→Calls Tryz.prog 54 #[.int .i64 (kj+1+1)] w' fun e w''=>e=.returned (.string s1)∧Below V.heap.size V w''):=fun V w' hC =>
        (markTextX_any (kj+1+1) (by omega) (by omega) w').mono fun e w'' ⟨h1,h2⟩=>⟨by rw [h1,← hs1];congr 2;congr 1;omega,hC.trans (h2.mono hC.size)⟩
      have M2:Hid (∀ (V w':World),Below V.heap.size V w'→Calls Tryz.prog 54 #[.int .i64 (kj+1+1+1)] w' fun e w''=>e=.returned (.string s2)∧Below V.heap.size V w''):=fun V w' hC =>
        (markTextX_any (kj+1+1+1) (by omega) (by omega) w').mono fun e w'' ⟨h1,h2⟩=>⟨by rw [h1,← hs2];congr 2;congr 1;omega,hC.trans (h2.mono hC.size)⟩
      rw [hs1] at e2
      rw [hs2] at e3
      have hz1:(s1.toList != s1.toList)=false:=by simp
      have hz2:(s2.toList != s2.toList)=false:=by simp
      have HS2:Hid (mtS (kj+3)=s2):=hs2
      clear h9 hO1 hO2 hO3 hD1 hD2 hpin hH1 hH2 hs1 hs2
      go_wp2_with fail
      refine wp_region_below (by kernel_rfl) (by kernel_rfl) ?_
      repeat (first
        | go_big_quiet_skip
        | (go_big_quiet_want;unfold Oper.quiet;apply Exists.intro;refine ⟨fun w' hC=>?_,?_⟩;(have g0:=(bcell hC hgr (j * 9+2)).trans e2;unfold Oper.quietAt;go_simp;first | exact rfl | exact ⟨rfl,rfl⟩ | (go_at_call 54;exact M1.out _ _ hC));go_big_quiet_on;simp only [Act.put,List.setIfInBounds_toArray,List.set_cons_zero,List.set_cons_succ]))
      refine wpQuiet_nil ?_
      intro w3 hb3
      have hbw3:=hbel.trans (hb3.mono hszr)
      have hz3:=hb3.size
      have hg3:g < w3.heap.size:=by omega
      clear e0 e1 e2 e3 e4 e5 e6 e7 e8
      obtain ⟨e0,e1,e2,e3,e4,e5,e6,e7,e8⟩:=H9.out.below hbw3 hgw
      rw [HS2.out] at e3
      go_wp2_with fail
      refine wp_region_below (by kernel_rfl) (by kernel_rfl) ?_
      repeat (first
        | go_big_quiet_skip
        | (go_big_quiet_want;unfold Oper.quiet;apply Exists.intro;refine ⟨fun w' hC=>?_,?_⟩;(have g0:=(bcell hC hg3 (j * 9+3)).trans e3;unfold Oper.quietAt;go_simp;first | exact rfl | exact ⟨rfl,rfl⟩ | (go_at_call 54;exact M2.out _ _ hC));go_big_quiet_on;simp only [Act.put,List.setIfInBounds_toArray,List.set_cons_zero,List.set_cons_succ]))
      refine wpQuiet_nil ?_
      intro w4 hb4
      have hbw4:=hbw3.trans (hb4.mono hbw3.size)
      have hz4:=hb4.size
      clear e0 e1 e2 e3 e4 e5 e6 e7 e8
      obtain ⟨e0,e1,e2,e3,e4,e5,e6,e7,e8⟩:=H9.out.below hbw4 hgw
      have f4:kj+1+1+1+1=kj+4:=by omega
      have f5:kj+1+1+1+1+1=kj+5:=by omega
      rw [← f4] at e4
      rw [← f5] at e5
      clear f4 f5
      obtain ⟨hH1,hH2,hD1,hD2,hO3,hpin⟩:=HH.out
      go_wp2_with fail
      rw [show kj+1+1+1+1+1+1=kj+6 from by omega]
      refine (hdS_any D 0 w.heap.size _ _ _ t1 _ _ (by omega) (hH1.below hbw4 (Nat.le_refl _)) hD1 (by omega) (by omega)).mono ?_
      rintro e w5 ⟨rfl,hb5⟩
      have hbw5:=hbw4.trans (hb5.mono hbw4.size)
      have hz5:=hb5.size
      have hq1:¬ kj+6+2 * (cntS t1:Int) < 0:=by omega
      clear e0 e1 e2 e3 e4 e5 e6 e7 e8 hH1 hH2 hD1 hD2 hO3 hpin
      obtain ⟨e0,e1,e2,e3,e4,e5,e6,e7,e8⟩:=H9.out.below hbw5 hgw
      obtain ⟨hH1,hH2,hD1,hD2,hO3,hpin⟩:=HH.out
      go_wp2_with fail
      refine (hdS_any D 0 w.heap.size _ _ _ t2 _ _ (by omega) (hH2.below hbw5 (Nat.le_refl _)) hD2 (by omega) (by omega)).mono ?_
      rintro e w6 ⟨rfl,hb6⟩
      have hbw6:=hbw5.trans (hb6.mono hbw5.size)
      have hz6:=hb6.size
      have hq2:¬ kj+6+2 * (cntS t1:Int)+2 * (cntS t2:Int) < 0:=by omega
      clear e0 e1 e2 e3 e4 e5 e6 e7 e8 hH1 hH2 hD1 hD2 hO3 hpin
      obtain ⟨e0,e1,e2,e3,e4,e5,e6,e7,e8⟩:=H9.out.below hbw6 hgw
      obtain ⟨hH1,hH2,hD1,hD2,hO3,hpin⟩:=HH.out
      go_wp2_with fail
      refine (IH _ _ _ p3 _ kn _ (hO3.keep fun b hb=>hbw6.block b (hpin b (by simp [hb]))) (fun b hb=>Nat.lt_of_lt_of_le (hpin b (by simp [hb])) hbw6.size) (by omega) (by omega)).mono ?_
      rintro e w7 ⟨rfl,hb7⟩
      have hbw7:=hbw6.trans (hb7.mono hbw6.size)
      have hq3:¬ kn < 0:=by omega
      clear e0 e1 e2 e3 e4 e5 e6 e7 e8 hH1 hH2 hD1 hD2 hO3 hpin
      go_wp2_with fail
      go_roundw
      case rel=>exact ⟨j+1,by omega,by go_num,by rw [HKN.out],hbw7⟩
      case measure=>simp [intOf];omega
    · obtain rfl:j=len:=by omega
      go_wp2_with fail
      go_ret
      exact ⟨ret_int HKL.out,hbel⟩
theorem hm_any (D:Nat):∀ d,SaidHM D d:=by
  intro d
  induction d with
  | zero=>exact hm_zero D
  | succ d ih=>exact hm_succ D d ih
set_option maxRecDepth 100000 in
set_option maxHeartbeats 1000000 in
theorem heldTermM_any (D d:Nat) (t:Tm) (a1:Option Addr) (l1 c1:Nat) (a2:Option Addr) (l2 c2:Nat) (a3:Option Addr) (l3 c3:Nat) (bs:List Nat) (k':Int) (w:World) (hf:BrF w D d a1 l1 a2 l2 a3 l3 1 k' bs) (hin:∀ b ∈ bs,b < w.heap.size) (hk:k'≤4611686018427387904) :
    Calls Tryz.prog 11 #[.agg #[.int .i64 t.K,.int .i64 t.N,.string t.S,.string t.Z,.int .i64 t.T.K,.int .i64 t.T.N,.slice a1 l1 c1,.slice a2 l2 c2,.slice a3 l3 c3],.int .i64 1] w fun e w'=>e=.returned (.int .i64 k')∧Below w.heap.size w w':=by
  obtain ⟨t1,t2,p1,p2,p3,rfl,h1,d1,h2,d2,h3⟩:=hf
  have hk3:=h3.le
  have hH1:Hs 0 w.heap.size w D a1 l1 (markD D 1 t1):=h1.hs fun b hb=>⟨Nat.zero_le _,hin b (by simp [hb])⟩
  have hH2:Hs 0 w.heap.size w D a2 l2 (markD D (1+2 * cntS t1) t2):=h2.hs fun b hb=>⟨Nat.zero_le _,hin b (by simp [hb])⟩
  have hXb:Below w.heap.size w (w.alloc (.cells #[.int .i64 t.K,.int .i64 t.N,.string t.S,.string t.Z,.int .i64 t.T.K,.int .i64 t.T.N,.slice a1 l1 c1,.slice a2 l2 c2,.slice a3 l3 c3] 34)):=(Below.refl _ _).alloc (Nat.le_refl _) _
  have hq1:¬ 1+2 * (cntS t1:Int) < 0:=by omega
  have hq2:¬ 1+2 * (cntS t1:Int)+2 * (cntS t2:Int) < 0:=by omega
  have hq3:¬ k' < 0:=by omega
  go_enter Tryz.func11,Tryz.ntmps11
  go_wp2_with fail
  refine (hd_any D 0 w.heap.size _ _ _ _ _ t1 _ _ (by simp) (hH1.below hXb (Nat.le_refl _)) d1 (by omega) (by omega)).mono ?_
  rintro e w1 ⟨rfl,hb1⟩
  have hbw1:Below w.heap.size w w1:=hXb.trans (hb1.mono (by simp))
  have hz1:=hb1.size
  simp only [World.size_alloc] at hz1
  have y1:=(hb1.block w.heap.size (by simp)).trans (heap_new rfl)
  obtain ⟨f0,f1,f2,f3,f4,f5,f6,f7,f8⟩:=Nine.box y1
  go_wp2_with fail
  refine (hdS_any D 0 w.heap.size _ _ _ t2 _ _ (by omega) (hH2.below hbw1 (Nat.le_refl _)) d2 (by omega) (by omega)).mono ?_
  rintro e w2 ⟨rfl,hb2⟩
  have hbw2:Below w.heap.size w w2:=hbw1.trans (hb2.mono hbw1.size)
  have hz2:=hb2.size
  have y2:=(hb2.block w.heap.size (by omega)).trans y1
  clear f0 f1 f2 f3 f4 f5 f6 f7 f8
  obtain ⟨f0,f1,f2,f3,f4,f5,f6,f7,f8⟩:=Nine.box y2
  go_wp2_with fail
  refine (hm_any D d _ _ _ p3 _ k' _ (h3.keep fun b hb=>hbw2.block b (hin b (by simp [hb]))) (fun b hb=>Nat.lt_of_lt_of_le (hin b (by simp [hb])) hbw2.size) (by omega) hk).mono ?_
  rintro e w3 ⟨rfl,hb3⟩
  go_wp2_with fail
  go_ret
  exact ⟨rfl,hbw2.trans (hb3.mono hbw2.size)⟩
end Go.Proofs.YtcepgedbmffkdaaGreat

/-
  What 'toTy', 'toTyS' (a copy in the program's own type) come to: the same tree in new memory.
-/
namespace Go.Proofs.YtcepgedbmffkdaaGreat
open Go.RowKit
set_option linter.unusedVariables false
set_option linter.unusedSimpArgs false
theorem Tryz.infoTy2:(Tryz.prog.info? 31).map (fun i=>(i.zero,i.size,i.bytes))=some (some (.agg #[.int .i64 0,.int .i64 0,.slice none 0 0]),3,40):=by kernel_rfl
def SaidTo2 (d:Nat):Prop:=∀ (L B:Nat) (k n:Int) (ao:Option Addr) (len cap:Nat) (ts:List Tr) (w:World),B≤w.heap.size→Hs L B w d ao len ts→cntS ts≤1048576 →
    Calls Tryz.prog 21 #[.agg #[.int .i64 k,.int .i64 n,.slice ao len cap]] w fun e w'=>∃ g,e=.returned (.agg #[.int .i64 k,.int .i64 n,.slice (some ⟨g,0,none⟩) len len])∧Below w.heap.size w w'∧OwR w.heap.size w'.heap.size w' d (some ⟨g,0,none⟩) len ts
def SaidToS2 (d:Nat):Prop:=∀ (L B:Nat) (ao:Option Addr) (len cap:Nat) (ts:List Tr) (w:World),B≤w.heap.size→Hs L B w d ao len ts→cntS ts≤1048576 →
    Calls Tryz.prog 22 #[.slice ao len cap] w fun e w'=>∃ g,e=.returned (.slice (some ⟨g,0,none⟩) len len)∧Below w.heap.size w w'∧OwR w.heap.size w'.heap.size w' d (some ⟨g,0,none⟩) len ts
set_option maxHeartbeats 400000 in
theorem toTyS_succ2 (d:Nat) (IH:SaidTo2 d):SaidToS2 (d+1):=by
  intro L B ao len cap ts w hB hs hcnt
  have hl:len≤1048576:=by have:=hs.1;have:=cntS_eq ts;omega
  have HL:Hid (len=ts.length):=hs.1
  obtain ⟨i0,hi,hz0,hz1,hz2⟩:=info_parts Tryz.infoTy2
  have hmk:∃ C:Array Value,C.size=len * 3∧∀ w:World,(Instr.makeSlice 29 (.int .i64 (len:Int)) (.int .i64 (len:Int))).run Tryz.prog w=.ok (.slice (some ⟨w.heap.size,0,none⟩) len len) (w.alloc (.cells C 31)):=by
    refine ⟨madeCells (Value.cells (.agg #[.int .i64 0,.int .i64 0,.slice none 0 0])) (len * 3),?_,fun w=>?_⟩
    · exact size_madeCells _ _
    · have:=run_make (P:=Tryz.prog) (w:=w) 29 31 i0 _ Tryz.underlying29 hi hz0 .i64 .i64 (len:Int) (len:Int) (by omega) (by omega) (by rw [hz2];omega) (by omega)
      rw [hz1] at this
      simpa using this
  obtain ⟨C,hC,hmk⟩:=hmk
  go_enter Tryz.func22,Tryz.ntmps22
  go_wp2_with fail
  go_loopw [4] (fun i wr=>∃ k:Nat,k≤len∧i=.int .i64 k∧RowRel w wr d len k ts) (fun i _=>len - (intOf i).toNat)
  case atStart=>exact ⟨0,by omega,rfl,rr_start hC⟩
  case round =>
    obtain ⟨k,hk,rfl,hR⟩:=hrel
    by_cases hlt:k < len
    · have hlt':k < ts.length:=by have:=HL.out;omega
      have hbel:=hR.bel
      have hsz:=hbel.size
      obtain ⟨b,o,rfl,_,hbB,ao1,len1,cap1,c0,c1,c2,hs1⟩:=hs.2.2 k hlt'
      have e0:=(bcell hbel (by omega) _).trans c0
      have e1:=(bcell hbel (by omega) _).trans c1
      have e2:=(bcell hbel (by omega) _).trans c2
      have hs1:=hs1.below hbel hB
      have hc1:=cntS_get ts k hlt'
      go_wp2_with fail
      refine (IH _ _ _ _ _ _ _ _ _ (by omega) hs1 (by omega)).mono ?_
      rintro e w1 ⟨g,rfl,hb1,hs2⟩
      have hN:=rr_next (cap1:=len1) hR hlt hlt' hb1 hs2
      obtain ⟨cs,hrow,hcsz⟩:=rr_row hR hb1
      have f0:=row_cell hrow (k * 3)
      have f1:=row_cell hrow (k * 3+1)
      have f2:=row_cell hrow (k * 3+2)
      rw [Array.getElem?_eq_getElem (by omega)] at f0 f1 f2
      have r0:=row_free hrow (k * 3)
      have r1:=row_free hrow (k * 3+1)
      have r2:=row_free hrow (k * 3+2)
      clear hrow hs2 hR e0 e1 e2
      go_wp2_with fail
      go_roundw
      case rel=>exact ⟨k+1,by omega,by go_num,hN⟩
      case measure=>simp [intOf];omega
    · go_wp2_with fail
      go_ret
      obtain rfl:k=len:=by omega
      exact ⟨_,rfl,hR.bel,rr_done hR HL.out (by omega)⟩
set_option maxHeartbeats 400000 in
theorem toTyS_zero2:SaidToS2 0:=by
  intro L B ao len cap ts w hB hs hcnt
  obtain ⟨rfl,rfl⟩:=hs
  obtain ⟨i0,hi,hz0,hz1,hz2⟩:=info_parts Tryz.infoTy2
  have hmk:∃ C:Array Value,∀ w:World,(Instr.makeSlice 29 (.int .i64 0) (.int .i64 0)).run Tryz.prog w=.ok (.slice (some ⟨w.heap.size,0,none⟩) 0 0) (w.alloc (.cells C 31)):=by
    refine ⟨madeCells (Value.cells (.agg #[.int .i64 0,.int .i64 0,.slice none 0 0])) (0 * 3),fun w=>?_⟩
    have:=run_make (P:=Tryz.prog) (w:=w) 29 31 i0 _ Tryz.underlying29 hi hz0 .i64 .i64 0 0 (by omega) (by omega) (by omega) (by omega)
    rw [hz1] at this
    simpa using this
  obtain ⟨C,hmk⟩:=hmk
  go_enter Tryz.func22,Tryz.ntmps22
  go_wp2_with fail
  refine wp_loop_rounds 1 ?_;rw [rounds_succ]
  go_wp2_with fail
  go_ret
  exact ⟨_,rfl,(Below.refl _ _).alloc (Nat.le_refl _) _,OwR.nil _ _ _ _ _⟩
set_option maxHeartbeats 400000 in
theorem toTy_of2 (d:Nat) (h:SaidToS2 d):SaidTo2 d:=by
  intro L B k n ao len cap ts w hB hs hcnt
  obtain ⟨X,hX⟩:∃ X,X=(((w.alloc (.cells #[.int .i64 k,.int .i64 n,.slice ao len cap] 24)).alloc (.cells #[.int .i64 0,.int .i64 0,.slice none 0 0] 31)).alloc (.cells #[.int .i64 k,.int .i64 n,.slice none 0 0] 31)):=⟨_,rfl⟩
  have hXs:X.heap.size=w.heap.size+3:=by rw [hX];simp
  have hXb:Below w.heap.size w X:=by rw [hX];exact (((Below.refl _ _).alloc (Nat.le_refl _) _).alloc (by simp) _).alloc (by simp;omega) _
  have hX1:X.heap[w.heap.size+1]?=some (.cells #[.int .i64 0,.int .i64 0,.slice none 0 0] 31 (0,0)):=by
    rw [hX,Below.heap_alloc _ _ _ (by simp)];exact heap_new (by simp)
  have hX2:X.heap[w.heap.size+1+1]?=some (.cells #[.int .i64 k,.int .i64 n,.slice none 0 0] 31 (0,0)):=by
    rw [hX];exact heap_new (by simp)
  have hs1:=hs.below hXb hB
  have HX:Hid (X=_):=hX
  clear hX
  go_enter Tryz.func21,Tryz.ntmps21
  go_wp2_with fail
  rw [← HX.out]
  refine (h _ _ _ _ _ _ _ (by omega) hs1 hcnt).mono ?_
  rintro e w1 ⟨g,rfl,hb1,hs2⟩
  have hw1:=hb1.size
  have y1:=(hb1.block _ (by omega)).trans hX1
  have y2:=(hb1.block _ (by omega)).trans hX2
  have f10:=row_cell y1 0
  have f11:=row_cell y1 1
  have f12:=row_cell y1 2
  have f20:=row_cell y2 0
  have f21:=row_cell y2 1
  have f22:=row_cell y2 2
  have r1:=row_free y1
  have r2:=row_free y2
  simp only [List.getElem?_toArray,List.getElem?_cons_zero,List.getElem?_cons_succ] at f10 f11 f12 f20 f21 f22
  have hbel:Below w.heap.size w w1:=hXb.trans (hb1.mono (by omega))
  clear hX1 hX2 y1 y2 hXb
  go_wp2_with fail
  refine bodyPost_ret (v:=.agg #[.int .i64 k,.int .i64 n,.slice (some ⟨g,0,none⟩) len len]) (by simp [results,Tryz.results21,go_sem,f10,f11,f12]) rfl ⟨g,rfl,?_,?_⟩
  · exact set3_below (hbel.setCell (p:=⟨w.heap.size+1+1,2,none⟩) (by show _≤w.heap.size+1+1;omega) _) (by omega)
  · refine hs2.keep (fun j hj _=>?_) (by omega) (by simp)
    rw [row_other _ _ _ (by omega),row_other _ _ _ (by omega),row_other _ _ _ (by omega),row_other _ _ _ (by omega)]
theorem toTyS_any2:∀ d,SaidToS2 d:=by
  intro d
  induction d with
  | zero=>exact toTyS_zero2
  | succ d ih=>exact toTyS_succ2 d (toTy_of2 d ih)
theorem toTy_any2 (d:Nat):SaidTo2 d:=toTy_of2 d (toTyS_any2 d)
end Go.Proofs.YtcepgedbmffkdaaGreat

/-
  What 'toTy', 'toTyS' (a copy in the program's own type) come to: the same tree in new memory.
-/
namespace Go.Proofs.YtcepgedbmffkdaaGreat
open Go.RowKit
set_option linter.unusedVariables false
set_option linter.unusedSimpArgs false
theorem Tryz.infoTy:(Tryz.prog.info? 31).map (fun i=>(i.zero,i.size,i.bytes))=some (some (.agg #[.int .i64 0,.int .i64 0,.slice none 0 0]),3,40):=by kernel_rfl
def SaidTo (d:Nat):Prop:=∀ (L B:Nat) (k n:Int) (ao:Option Addr) (len cap:Nat) (ts:List Tr) (w:World),B≤w.heap.size→Hs L B w d ao len ts→cntS ts≤1048576 →
    Calls Tryz.prog 21 #[.agg #[.int .i64 k,.int .i64 n,.slice ao len cap]] w fun e w'=>∃ g,e=.returned (.agg #[.int .i64 k,.int .i64 n,.slice (some ⟨g,0,none⟩) len len])∧Below w.heap.size w w'∧Hs w.heap.size w'.heap.size w' d (some ⟨g,0,none⟩) len ts
def SaidToS (d:Nat):Prop:=∀ (L B:Nat) (ao:Option Addr) (len cap:Nat) (ts:List Tr) (w:World),B≤w.heap.size→Hs L B w d ao len ts→cntS ts≤1048576 →
    Calls Tryz.prog 22 #[.slice ao len cap] w fun e w'=>∃ g,e=.returned (.slice (some ⟨g,0,none⟩) len len)∧Below w.heap.size w w'∧Hs w.heap.size w'.heap.size w' d (some ⟨g,0,none⟩) len ts
structure ToRel (w wr:World) (d len k:Nat) (ts:List Tr):Prop where
  bel:Below w.heap.size w wr
  row:∃ cs:Array Value,wr.heap[w.heap.size]?=some (.cells cs 31 (0,0))∧cs.size=len * 3
  els:∀ i (_:i < k) (h:i < ts.length),El wr (Hs (w.heap.size+1) wr.heap.size wr d) w.heap.size (i * 3) ts[i]
theorem to_lt {w wr:World} {d len k:Nat} {ts:List Tr} (h:ToRel w wr d len k ts):w.heap.size < wr.heap.size:=by
  obtain ⟨cs,hr,_⟩:=h.row
  exact (Array.getElem?_eq_some_iff.1 hr).1
theorem to_row {w wr w1:World} {d len k:Nat} {ts:List Tr} (h:ToRel w wr d len k ts) (hb:Below wr.heap.size wr w1):∃ cs:Array Value,w1.heap[w.heap.size]?=some (.cells cs 31 (0,0))∧cs.size=len * 3:=by
  obtain ⟨cs,hr,hc⟩:=h.row
  exact ⟨cs,(hb.block _ (to_lt h)).trans hr,hc⟩
theorem to_next {w wr w1:World} {d len k:Nat} {ts:List Tr} (h:ToRel w wr d len k ts) (hk:k < len) (hk':k < ts.length) (hb:Below wr.heap.size wr w1) {g len1:Nat}
    (hs:Hs wr.heap.size w1.heap.size w1 d (some ⟨g,0,none⟩) len1 ts[k].A) :
    ToRel w (set3 w1 w.heap.size (k * 3) (.int .i64 ts[k].K) (.int .i64 ts[k].N) (.slice (some ⟨g,0,none⟩) len1 len1)) d len (k+1) ts:=by
  obtain ⟨cs,hr,hc⟩:=to_row h hb
  have hlt:=to_lt h
  have hsz:=hb.size
  have keep:∀ {ao:Option Addr} {len':Nat} {l:List Tr} {X Y:Nat},w.heap.size < X→Hs X Y w1 d ao len' l→Hs X Y (set3 w1 w.heap.size (k * 3) (.int .i64 ts[k].K) (.int .i64 ts[k].N) (.slice (some ⟨g,0,none⟩) len1 len1)) d ao len' l :=
    fun hX hh=>hh.keep (fun j hj _=>set3_other j (by omega)) (Nat.le_refl _) (Nat.le_refl _)
  refine ⟨?_,?_,?_⟩
  · exact set3_below (h.bel.trans (hb.mono (by omega))) (Nat.le_refl _)
  · exact ⟨_,set3_row hr,by simp [hc]⟩
  · intro i hi hi'
    rw [set3_size]
    by_cases hik:i=k
    · subst hik
      obtain ⟨x0,x1,x2⟩:=set3_cells (a:=.int .i64 ts[i].K) (b:=.int .i64 ts[i].N) (c:=.slice (some ⟨g,0,none⟩) len1 len1) hr (show i * 3+2 < cs.size by omega)
      exact ⟨_,_,_,x0,x1,x2,(keep (by omega) hs).keep (fun _ _ _=>rfl) (by omega) (Nat.le_refl _)⟩
    · obtain ⟨ao',len',cap',c0,c1,c2,hh⟩:=h.els i (by omega) hi'
      have hcell:∀ p,w1.cell? ⟨w.heap.size,p,none⟩=wr.cell? ⟨w.heap.size,p,none⟩:=fun p=>bcell hb hlt p
      have far:∀ p,p < k * 3→(set3 w1 w.heap.size (k * 3) (.int .i64 ts[k].K) (.int .i64 ts[k].N) (.slice (some ⟨g,0,none⟩) len1 len1)).cell? ⟨w.heap.size,p,none⟩=wr.cell? ⟨w.heap.size,p,none⟩ :=
        fun p hp=>(set3_far hr p (Or.inl hp)).trans (hcell p)
      refine ⟨ao',len',cap',(far _ (by omega)).trans c0,(far _ (by omega)).trans c1,(far _ (by omega)).trans c2,?_⟩
      exact (keep (by omega) (hh.below hb (Nat.le_refl _))).keep (fun _ _ _=>rfl) (Nat.le_refl _) hsz
set_option maxHeartbeats 400000 in
theorem toTyS_succ (d:Nat) (IH:SaidTo d):SaidToS (d+1):=by
  intro L B ao len cap ts w hB hs hcnt
  have hl:len≤1048576:=by have:=hs.1;have:=cntS_eq ts;omega
  have HL:Hid (len=ts.length):=hs.1
  obtain ⟨i0,hi,hz0,hz1,hz2⟩:=info_parts Tryz.infoTy
  have hmk:∃ C:Array Value,C.size=len * 3∧∀ w:World,(Instr.makeSlice 29 (.int .i64 (len:Int)) (.int .i64 (len:Int))).run Tryz.prog w=.ok (.slice (some ⟨w.heap.size,0,none⟩) len len) (w.alloc (.cells C 31)):=by
    refine ⟨madeCells (Value.cells (.agg #[.int .i64 0,.int .i64 0,.slice none 0 0])) (len * 3),?_,fun w=>?_⟩
    · exact size_madeCells _ _
    · have:=run_make (P:=Tryz.prog) (w:=w) 29 31 i0 _ Tryz.underlying29 hi hz0 .i64 .i64 (len:Int) (len:Int) (by omega) (by omega) (by rw [hz2];omega) (by omega)
      rw [hz1] at this
      simpa using this
  obtain ⟨C,hC,hmk⟩:=hmk
  go_enter Tryz.func22,Tryz.ntmps22
  go_wp2_with fail
  go_loopw [4] (fun i wr=>∃ k:Nat,k≤len∧i=.int .i64 k∧ToRel w wr d len k ts) (fun i _=>len - (intOf i).toNat)
  case atStart=>exact ⟨0,by omega,rfl,⟨(Below.refl _ _).alloc (Nat.le_refl _) _,⟨C,heap_alloc_new _ _,hC⟩,fun i hi=>by omega⟩⟩
  case round =>
    obtain ⟨k,hk,rfl,hR⟩:=hrel
    by_cases hlt:k < len
    · have hlt':k < ts.length:=by have:=HL.out;omega
      have hbel:=hR.bel
      have hsz:=hbel.size
      obtain ⟨b,o,rfl,_,hbB,ao1,len1,cap1,c0,c1,c2,hs1⟩:=hs.2.2 k hlt'
      have e0:=(bcell hbel (by omega) _).trans c0
      have e1:=(bcell hbel (by omega) _).trans c1
      have e2:=(bcell hbel (by omega) _).trans c2
      have hs1:=hs1.below hbel hB
      have hc1:=cntS_get ts k hlt'
      go_wp2_with fail
      refine (IH _ _ _ _ _ _ _ _ _ (by omega) hs1 (by omega)).mono ?_
      rintro e w1 ⟨g,rfl,hb1,hs2⟩
      have hN:=to_next hR hlt hlt' hb1 hs2
      obtain ⟨cs,hrow,hcsz⟩:=to_row hR hb1
      have f0:=row_cell hrow (k * 3)
      have f1:=row_cell hrow (k * 3+1)
      have f2:=row_cell hrow (k * 3+2)
      rw [Array.getElem?_eq_getElem (by omega)] at f0 f1 f2
      have r0:=row_free hrow (k * 3)
      have r1:=row_free hrow (k * 3+1)
      have r2:=row_free hrow (k * 3+2)
      clear hrow hs2 hR e0 e1 e2
      go_wp2_with fail
      go_roundw
      case rel=>exact ⟨k+1,by omega,by go_num,hN⟩
      case measure=>simp [intOf];omega
    · go_wp2_with fail
      go_ret
      refine ⟨_,rfl,hR.bel,?_⟩
      have:=HL.out
      refine ⟨this,by omega,fun i hi=>⟨_,_,rfl,Nat.le_refl _,to_lt hR,?_⟩⟩
      rw [Nat.zero_add]
      exact (hR.els i (by omega) hi).wider fun _ _ _ h=>h.keep (fun _ _ _=>rfl) (by omega) (Nat.le_refl _)
set_option maxHeartbeats 400000 in
theorem toTyS_zero:SaidToS 0:=by
  intro L B ao len cap ts w hB hs hcnt
  obtain ⟨rfl,rfl⟩:=hs
  obtain ⟨i0,hi,hz0,hz1,hz2⟩:=info_parts Tryz.infoTy
  have hmk:∃ C:Array Value,∀ w:World,(Instr.makeSlice 29 (.int .i64 0) (.int .i64 0)).run Tryz.prog w=.ok (.slice (some ⟨w.heap.size,0,none⟩) 0 0) (w.alloc (.cells C 31)):=by
    refine ⟨madeCells (Value.cells (.agg #[.int .i64 0,.int .i64 0,.slice none 0 0])) (0 * 3),fun w=>?_⟩
    have:=run_make (P:=Tryz.prog) (w:=w) 29 31 i0 _ Tryz.underlying29 hi hz0 .i64 .i64 0 0 (by omega) (by omega) (by omega) (by omega)
    rw [hz1] at this
    simpa using this
  obtain ⟨C,hmk⟩:=hmk
  go_enter Tryz.func22,Tryz.ntmps22
  go_wp2_with fail
  refine wp_loop_rounds 1 ?_;rw [rounds_succ]
  go_wp2_with fail
  go_ret
  exact ⟨_,rfl,(Below.refl _ _).alloc (Nat.le_refl _) _,rfl,rfl⟩
set_option maxHeartbeats 400000 in
theorem toTy_of (d:Nat) (h:SaidToS d):SaidTo d:=by
  intro L B k n ao len cap ts w hB hs hcnt
  obtain ⟨X,hX⟩:∃ X,X=(((w.alloc (.cells #[.int .i64 k,.int .i64 n,.slice ao len cap] 24)).alloc (.cells #[.int .i64 0,.int .i64 0,.slice none 0 0] 31)).alloc (.cells #[.int .i64 k,.int .i64 n,.slice none 0 0] 31)):=⟨_,rfl⟩
  have hXs:X.heap.size=w.heap.size+3:=by rw [hX];simp
  have hXb:Below w.heap.size w X:=by rw [hX];exact (((Below.refl _ _).alloc (Nat.le_refl _) _).alloc (by simp) _).alloc (by simp;omega) _
  have hX1:X.heap[w.heap.size+1]?=some (.cells #[.int .i64 0,.int .i64 0,.slice none 0 0] 31 (0,0)):=by
    rw [hX,Below.heap_alloc _ _ _ (by simp)];exact heap_new (by simp)
  have hX2:X.heap[w.heap.size+1+1]?=some (.cells #[.int .i64 k,.int .i64 n,.slice none 0 0] 31 (0,0)):=by
    rw [hX];exact heap_new (by simp)
  have hs1:=hs.below hXb hB
  have HX:Hid (X=_):=hX
  clear hX
  go_enter Tryz.func21,Tryz.ntmps21
  go_wp2_with fail
  rw [← HX.out]
  refine (h _ _ _ _ _ _ _ (by omega) hs1 hcnt).mono ?_
  rintro e w1 ⟨g,rfl,hb1,hs2⟩
  have hw1:=hb1.size
  have y1:=(hb1.block _ (by omega)).trans hX1
  have y2:=(hb1.block _ (by omega)).trans hX2
  have f10:=row_cell y1 0
  have f11:=row_cell y1 1
  have f12:=row_cell y1 2
  have f20:=row_cell y2 0
  have f21:=row_cell y2 1
  have f22:=row_cell y2 2
  have r1:=row_free y1
  have r2:=row_free y2
  simp only [List.getElem?_toArray,List.getElem?_cons_zero,List.getElem?_cons_succ] at f10 f11 f12 f20 f21 f22
  have hbel:Below w.heap.size w w1:=hXb.trans (hb1.mono (by omega))
  clear hX1 hX2 y1 y2 hXb
  go_wp2_with fail
  refine bodyPost_ret (v:=.agg #[.int .i64 k,.int .i64 n,.slice (some ⟨g,0,none⟩) len len]) (by simp [results,Tryz.results21,go_sem,f10,f11,f12]) rfl ⟨g,rfl,?_,?_⟩
  · exact set3_below (hbel.setCell (p:=⟨w.heap.size+1+1,2,none⟩) (by show _≤w.heap.size+1+1;omega) _) (by omega)
  · refine hs2.keep (fun j hj _=>?_) (by omega) (by simp)
    rw [row_other _ _ _ (by omega),row_other _ _ _ (by omega),row_other _ _ _ (by omega),row_other _ _ _ (by omega)]
theorem toTyS_any:∀ d,SaidToS d:=by
  intro d
  induction d with
  | zero=>exact toTyS_zero
  | succ d ih=>exact toTyS_succ d (toTy_of d ih)
theorem toTy_any (d:Nat):SaidTo d:=toTy_of d (toTyS_any d)
end Go.Proofs.YtcepgedbmffkdaaGreat
