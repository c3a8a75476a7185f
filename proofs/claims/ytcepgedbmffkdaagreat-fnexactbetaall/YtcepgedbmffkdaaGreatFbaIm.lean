/-
  'IsMono': the program's and the model's.
-/
import Derived.Test.YtcepgedbmffkdaaGreatFbaZ21
import Derived.Test.YtcepgedbmffkdaaGreatFbaZ19
namespace Go.Proofs.YtcepgedbmffkdaaGreat
open Go.RowKit Go.PlainAid
set_option linter.unusedVariables false
set_option linter.unusedSimpArgs false
def ownV (t:Tm):Int:=if t.K=6∨t.K=7 then t.N else 0
def mnW:Tm→Bool
  | ⟨k,n,_,_,t,ts,a⟩=>!decide (0 < (if k=6∨k=7 then n else 0)) && !decide (0 < ts.length) && !decide (0 < varsT t) && (a.attach.all fun ⟨x,_⟩=>mnW x)
theorem mnW_eq (t:Tm):mnW t=(!decide (0 < ownV t) && !decide (0 < t.Ts.length) && !decide (0 < varsT t.T) && t.A.all mnW):=by
  cases t;rw [mnW];simp [ownV]
def mnM (t:Tm):Bool:=okM t && mnW t
theorem im_take {l:List Tm} {f:Tm→Bool} {k:Nat} (h:k < l.length):(l.take (k+1)).all f=((l.take k).all f && f l[k]):=by
  rw [List.take_succ_eq_append_getElem h];simp only [List.all_append,List.all_cons,List.all_nil,Bool.and_true]
theorem im_not {l:List Tm} {f:Tm→Bool} {k:Nat} (h:k < l.length) (hf:f l[k]=false):l.all f=false:=by
  rw [Bool.eq_false_iff];intro h1
  have:=List.all_eq_true.1 h1 l[k] (List.getElem_mem h)
  rw [hf] at this;cases this
theorem ownVars_any (t:Tm) (a1:Option Addr) (l1 c1:Nat) (a2:Option Addr) (l2 c2:Nat) (a3:Option Addr) (l3 c3:Nat) (w:World) :
    Calls Tryz.prog 90 #[.agg #[.int .i64 t.K,.int .i64 t.N,.string t.S,.string t.Z,.int .i64 t.T.K,.int .i64 t.T.N,.slice a1 l1 c1,.slice a2 l2 c2,.slice a3 l3 c3]] w fun e w'=>e=.returned (.int .i64 (ownV t))∧Below w.heap.size w w':=by
  have hbel:Below w.heap.size w (w.alloc (.cells #[.int .i64 t.K,.int .i64 t.N,.string t.S,.string t.Z,.int .i64 t.T.K,.int .i64 t.T.N,.slice a1 l1 c1,.slice a2 l2 c2,.slice a3 l3 c3] 34)):=(Below.refl _ _).alloc (Nat.le_refl _) _
  by_cases h6:t.K=6
  · have HE:Hid (ownV t=t.N):=by show _=_;simp [ownV,h6]
    have h6':(t.K == 6)=true:=by simp [h6]
    clear h6
    go_enter Tryz.func90,Tryz.ntmps90
    go_wp2_with fail
    go_ret
    exact ⟨ret_int (by rw [HE.out]),hbel⟩
  · by_cases h7:t.K=7
    · have HE:Hid (ownV t=t.N):=by show _=_;simp [ownV,h7]
      have h6':(t.K == 6)=false:=by simp [h6]
      have h7':(t.K == 7)=true:=by simp [h7]
      clear h6 h7
      go_enter Tryz.func90,Tryz.ntmps90
      go_wp2_with fail
      go_ret
      exact ⟨ret_int (by rw [HE.out]),hbel⟩
    · have HE:Hid (ownV t=0):=by show _=_;simp [ownV,h6,h7]
      have h6':(t.K == 6)=false:=by simp [h6]
      have h7':(t.K == 7)=false:=by simp [h7]
      clear h6 h7
      go_enter Tryz.func90,Tryz.ntmps90
      go_wp2_with fail
      go_ret
      exact ⟨ret_int (by rw [HE.out]),hbel⟩
def SaidMn (d:Nat):Prop:=∀ (D L B:Nat) (t:Tm) (a1:Option Addr) (l1 c1:Nat) (a2:Option Addr) (l2 c2:Nat) (a3:Option Addr) (l3 c3:Nat) (w:World),B≤w.heap.size→Fm L B w D d t a1 l1 a2 l2 a3 l3 →
    Calls Tryz.prog 67 #[.agg #[.int .i64 t.K,.int .i64 t.N,.string t.S,.string t.Z,.int .i64 t.T.K,.int .i64 t.T.N,.slice a1 l1 c1,.slice a2 l2 c2,.slice a3 l3 c3]] w fun e w'=>e=.returned (.bool (mnW t))∧Below w.heap.size w w'
set_option maxHeartbeats 800000 in
theorem mn_step (d:Nat) (IH:∀ e,e < d→SaidMn e):SaidMn d:=by
  intro D L B t a1 l1 c1 a2 l2 c2 a3 l3 c3 w hB hf
  have hl:=hf.m.len.2
  have hl2:=hf.t2.len.2
  have HL:Hid (l3=t.A.length):=hf.m.len.1
  have HL2:Hid (l2=t.Ts.length):=hf.t2.len.1
  have hbel:Below w.heap.size w (w.alloc (.cells #[.int .i64 t.K,.int .i64 t.N,.string t.S,.string t.Z,.int .i64 t.T.K,.int .i64 t.T.N,.slice a1 l1 c1,.slice a2 l2 c2,.slice a3 l3 c3] 34)):=(Below.refl _ _).alloc (Nat.le_refl _) _
  have HE:Hid (mnW t=(!decide (0 < ownV t) && !decide (0 < t.Ts.length) && !decide (0 < varsT t.T) && t.A.all mnW)):=mnW_eq t
  obtain ⟨X,hX⟩:∃ X,X=w.alloc (.cells #[.int .i64 t.K,.int .i64 t.N,.string t.S,.string t.Z,.int .i64 t.T.K,.int .i64 t.T.N,.slice a1 l1 c1,.slice a2 l2 c2,.slice a3 l3 c3] 34):=⟨_,rfl⟩
  have hXs:X.heap.size=w.heap.size+1:=by rw [hX];simp
  rw [← hX] at hbel
  have hX0:X.heap[w.heap.size]?=some (.cells #[.int .i64 t.K,.int .i64 t.N,.string t.S,.string t.Z,.int .i64 t.T.K,.int .i64 t.T.N,.slice a1 l1 c1,.slice a2 l2 c2,.slice a3 l3 c3] 34 (0,0)):=by rw [hX];exact heap_new rfl
  have HX:Hid (X=_):=hX
  clear hX
  go_enter Tryz.func67,Tryz.ntmps67
  go_wp2_with fail
  rw [← HX.out]
  refine (ownVars_any t _ _ _ _ _ _ _ _ _ _).mono ?_
  rintro e w1 ⟨rfl,hb1⟩
  have hz1:=hb1.size
  have hb1w:Below w.heap.size w w1:=hbel.trans (hb1.mono (by omega))
  have y1:=(hb1.block w.heap.size (by omega)).trans hX0
  obtain ⟨f0,f1,f2,f3,f4,f5,f6,f7,f8⟩:=Nine.box y1
  simp only [Nat.zero_add] at f1 f2 f3 f4 f5 f6 f7 f8
  by_cases ho:0 < ownV t
  · have HO:Hid (decide (0 < ownV t)=true):=by show _=_;simp [ho]
    generalize ownV t=ov at ho HO HE ⊢
    go_wp2_with fail
    go_ret
    exact ⟨ret_bool (by rw [HE.out,HO.out];rfl),hb1w⟩
  have HO:Hid (decide (0 < ownV t)=false):=by show _=_;simp [ho]
  generalize ownV t=ov at ho HO HE ⊢
  by_cases hl0:0 < l2
  · have HO2:Hid (decide (0 < t.Ts.length)=true):=by have:=HL2.out;exact decide_eq_true (by omega)
    go_wp2_with fail
    go_ret
    exact ⟨ret_bool (by rw [HE.out,HO.out,HO2.out];rfl),hb1w⟩
  have HO2:Hid (decide (0 < t.Ts.length)=false):=by have:=HL2.out;exact decide_eq_false (by omega)
  go_wp2_with fail
  refine (varsOf_any D L B t.T.K t.T.N _ _ _ t.T.A _ (by omega) (hf.t1.below hb1w hB)).mono ?_
  rintro e w2 ⟨rfl,hb2⟩
  rw [tr_eta]
  have hz2:=hb2.size
  have hb2w:Below w.heap.size w w2:=hb1w.trans (hb2.mono (by omega))
  have y2:=(hb2.block w.heap.size (by omega)).trans y1
  clear f0 f1 f2 f3 f4 f5 f6 f7 f8
  obtain ⟨f0,f1,f2,f3,f4,f5,f6,f7,f8⟩:=Nine.box y2
  simp only [Nat.zero_add] at f1 f2 f3 f4 f5 f6 f7 f8
  clear y1 y2 hX0
  by_cases hv:0 < varsT t.T
  · have HV:Hid (decide (0 < varsT t.T)=true):=by show _=_;simp [hv]
    generalize varsT t.T=vv at hv HV HE ⊢
    go_wp2_with fail
    go_ret
    exact ⟨ret_bool (by rw [HE.out,HO.out,HO2.out,HV.out];rfl),hb2w⟩
  have HV:Hid (decide (0 < varsT t.T)=false):=by show _=_;simp [hv]
  generalize varsT t.T=vv at hv HV HE ⊢
  go_wp2_with fail
  go_loopw [23] (fun i wr=>∃ j:Nat,j≤l3∧i=.int .i64 j∧Hid ((t.A.take j).all mnW=true)∧Below w2.heap.size w2 wr) (fun i _=>l3 - (intOf i).toNat)
  case atStart=>exact ⟨0,by omega,rfl,rfl,Below.refl _ _⟩
  case round =>
    obtain ⟨j,hj,rfl,HA,hbr⟩:=hrel
    have hszr:=hbr.size
    by_cases hlt:j < l3
    · have hlt':j < t.A.length:=by have:=HL.out;omega
      obtain ⟨b,o,rfl,_,hbB,b1,m1,d1,b2,m2,d2,b3,m3,d3,h9,hf1⟩:=hf.m.get j hlt'
      have hbw:Below w.heap.size w wr:=hb2w.trans (hbr.mono (by omega))
      obtain ⟨e0,e1,e2,e3,e4,e5,e6,e7,e8⟩:=h9.below hbw (by omega)
      have hba:Below w.heap.size w (wr.alloc (.cells #[.int .i64 t.A[j].K,.int .i64 t.A[j].N,.string t.A[j].S,.string t.A[j].Z,.int .i64 t.A[j].T.K,.int .i64 t.A[j].T.N,.slice b1 m1 d1,.slice b2 m2 d2,.slice b3 m3 d3] 34)):=hbw.alloc (by omega) _
      have hf2:=Fm.below hba hB hf1
      have HT:Hid ((t.A.take (j+1)).all mnW=((t.A.take j).all mnW && mnW t.A[j])):=im_take hlt'
      have HF:Hid (mnW t.A[j]=false→t.A.all mnW=false):=fun h=>im_not hlt' h
      cases hok:mnW t.A[j]
      · have HP:Hid (mnW t.A[j]=false):=hok
        replace HF:Hid (_=_):=HF.out hok
        clear hok
        go_wp2_with fail
        refine (IH (d - 1) (im_pos hf.m hlt') D L B t.A[j] _ _ _ _ _ _ _ _ _ _ (by simp;omega) hf2).mono ?_
        rintro e w3 ⟨rfl,hb3⟩
        rw [HP.out]
        go_wp2_with fail
        go_ret
        exact ⟨ret_bool (by rw [HE.out,HF.out];simp),hba.trans (hb3.mono (by simp;omega))⟩
      · have HP:Hid (mnW t.A[j]=true):=hok
        rw [hok] at HT
        clear hok
        go_wp2_with fail
        refine (IH (d - 1) (im_pos hf.m hlt') D L B t.A[j] _ _ _ _ _ _ _ _ _ _ (by simp;omega) hf2).mono ?_
        rintro e w3 ⟨rfl,hb3⟩
        rw [HP.out]
        have hbr2:Below w2.heap.size w2 w3:=(hbr.alloc (by omega) _).trans (hb3.mono (by simp;omega))
        go_wp2_with fail
        go_roundw
        case rel=>exact ⟨j+1,by omega,by go_num,(by show _=_;rw [HT.out,HA.out];rfl),hbr2⟩
        case measure=>simp [intOf];omega
    · have HK:Hid (t.A.all mnW=true):=by have h1:=HL.out;have h2:=HA.out;rw [List.take_of_length_le (by omega)] at h2;exact h2
      go_wp2_with fail
      go_ret
      exact ⟨ret_bool (by rw [HE.out,HK.out,HO.out,HO2.out,HV.out];rfl),hb2w.trans (hbr.mono (by omega))⟩
theorem mn_any:∀ d,SaidMn d:=by
  intro d
  induction d using Nat.strongRecOn with
  | ind d ih=>exact mn_step d ih
def SaidMs (l:Nat):Prop:=∀ (D d L B:Nat) (t:Tm) (a1:Option Addr) (l1 c1:Nat) (a2:Option Addr) (l2 c2:Nat) (a3:Option Addr) (l3 c3:Nat) (m:Nat) (w:World),B≤w.heap.size→Fm L B w D d t a1 l1 a2 l2 a3 l3→nodesM l t=some m →
    Calls Tryz.prog 59 #[.agg #[.int .i64 t.K,.int .i64 t.N,.string t.S,.string t.Z,.int .i64 t.T.K,.int .i64 t.T.N,.slice a1 l1 c1,.slice a2 l2 c2,.slice a3 l3 c3]] w fun e w'=>e=.returned (.bool (mnW t))∧Below w.heap.size w w'
set_option maxHeartbeats 1600000 in
theorem ms_succ (l:Nat) (IH:SaidMs l):SaidMs (l+1):=by
  intro D d L B t a1 l1 c1 a2 l2 c2 a3 l3 c3 m w hB hf hm
  have hl:=hf.m.len.2
  have hl2:=hf.t2.len.2
  have HL:Hid (l3=t.A.length):=hf.m.len.1
  have HL2:Hid (l2=t.Ts.length):=hf.t2.len.1
  have hT:typesB t.K t.T t.Ts=true∧∀ i (hi:i < t.A.length),∃ a,nodesM l t.A[i]=some a:=by
    simp only [nodesM] at hm
    split at hm
    · rename_i hn
      cases h1:nodesG (nodesM l) t.A with
      | none=>simp [h1] at hm
      | some s=>exact ⟨by unfold nodeM at hn;simp only [Bool.and_eq_true] at hn;exact hn.2,im_each h1⟩
    · simp at hm
  have HT0:Hid (typesB t.K t.T t.Ts=true):=hT.1
  have HN:Hid (∀ i (hi:i < t.A.length),∃ a,nodesM l t.A[i]=some a):=hT.2
  clear hT hm
  have hbel:Below w.heap.size w (w.alloc (.cells #[.int .i64 t.K,.int .i64 t.N,.string t.S,.string t.Z,.int .i64 t.T.K,.int .i64 t.T.N,.slice a1 l1 c1,.slice a2 l2 c2,.slice a3 l3 c3] 34)):=(Below.refl _ _).alloc (Nat.le_refl _) _
  have HE:Hid (mnW t=(!decide (0 < ownV t) && !decide (0 < t.Ts.length) && !decide (0 < varsT t.T) && t.A.all mnW)):=mnW_eq t
  obtain ⟨X,hX⟩:∃ X,X=w.alloc (.cells #[.int .i64 t.K,.int .i64 t.N,.string t.S,.string t.Z,.int .i64 t.T.K,.int .i64 t.T.N,.slice a1 l1 c1,.slice a2 l2 c2,.slice a3 l3 c3] 34):=⟨_,rfl⟩
  have hXs:X.heap.size=w.heap.size+1:=by rw [hX];simp
  rw [← hX] at hbel
  have hX0:X.heap[w.heap.size]?=some (.cells #[.int .i64 t.K,.int .i64 t.N,.string t.S,.string t.Z,.int .i64 t.T.K,.int .i64 t.T.N,.slice a1 l1 c1,.slice a2 l2 c2,.slice a3 l3 c3] 34 (0,0)):=by rw [hX];exact heap_new rfl
  have HX:Hid (X=_):=hX
  clear hX
  have HO:∃ b6 b7 b0:Bool,(t.K == 6)=b6∧(t.K == 7)=b7∧decide (0 < t.N)=b0∧decide (0 < ownV t)=((b6 || b7) && b0):=by
    refine ⟨_,_,_,rfl,rfl,rfl,?_⟩
    unfold ownV
    by_cases h6:t.K=6
    · simp [h6]
    · by_cases h7:t.K=7
      · simp [h7]
      · simp [h6,h7]
  obtain ⟨b6,b7,b0,h6,h7,h0,ho⟩:=HO
  rw [ho] at HE
  clear ho
  by_cases hl0:0 < l2
  · have HO2:Hid (decide (0 < t.Ts.length)=true):=by have:=HL2.out;exact decide_eq_true (by omega)
    cases b6 <;> cases b7 <;> cases b0
    all_goals
      go_enter Tryz.func59,Tryz.ntmps59
      go_wp2_with fail
      rw [← HX.out]
      go_ret
      exact ⟨ret_bool (by rw [HE.out,HO2.out];simp),hbel⟩
  have HO2:Hid (decide (0 < t.Ts.length)=false):=by have:=HL2.out;exact decide_eq_false (by omega)
  cases b6 <;> cases b7 <;> cases b0
  all_goals
    go_enter Tryz.func59,Tryz.ntmps59
    go_wp2_with fail
    rw [← HX.out]
    first
      | (go_ret
         exact ⟨ret_bool (by rw [HE.out];simp),hbel⟩)
      | (refine (lv_own D L B t.K t.T t.Ts HT0.out _ _ _ _ (by omega) (hf.t1.below hbel hB)).mono ?_
         rintro e w2 ⟨rfl,hb2⟩
         have hz2:=hb2.size
         have hb2w:Below w.heap.size w w2:=hbel.trans (hb2.mono (by omega))
         have y2:=(hb2.block w.heap.size (by omega)).trans hX0
         obtain ⟨f0,f1,f2,f3,f4,f5,f6,f7,f8⟩:=Nine.box y2
         simp only [Nat.zero_add] at f1 f2 f3 f4 f5 f6 f7 f8
         clear y2 hX0
         by_cases hv:0 < varsT t.T
         · have HV:Hid (decide (0 < varsT t.T)=true):=by show _=_;simp [hv]
           generalize varsT t.T=vv at hv HV HE ⊢
           go_wp2_with fail
           go_ret
           exact ⟨ret_bool (by rw [HE.out,HV.out];simp),hb2w⟩
         have HV:Hid (decide (0 < varsT t.T)=false):=by show _=_;simp [hv]
         generalize varsT t.T=vv at hv HV HE ⊢
         go_wp2_with fail
         go_loopw [3] (fun i wr=>∃ j:Nat,j≤l3∧i=.int .i64 j∧Hid ((t.A.take j).all mnW=true)∧Below w2.heap.size w2 wr) (fun i _=>l3 - (intOf i).toNat)
         case atStart=>exact ⟨0,by omega,rfl,rfl,Below.refl _ _⟩
         case round =>
           obtain ⟨j,hj,rfl,HA,hbr⟩:=hrel
           have hszr:=hbr.size
           have g8:=(bcell hbr (show w.heap.size < w2.heap.size by omega) 8).trans f8
           by_cases hlt:j < l3
           · have hlt':j < t.A.length:=by have:=HL.out;omega
             obtain ⟨b,o,rfl,_,hbB,b1,m1,d1,b2,m2,d2,b3,m3,d3,h9,hf1⟩:=hf.m.get j hlt'
             have hbw:Below w.heap.size w wr:=hb2w.trans (hbr.mono (by omega))
             obtain ⟨e0,e1,e2,e3,e4,e5,e6,e7,e8⟩:=h9.below hbw (by omega)
             have hf2:=Fm.below hbw hB hf1
             obtain ⟨a,ha⟩:=HN.out j hlt'
             have HNA:Hid (_=_):=ha
             clear ha
             have HT:Hid ((t.A.take (j+1)).all mnW=((t.A.take j).all mnW && mnW t.A[j])):=im_take hlt'
             have HF:Hid (mnW t.A[j]=false→t.A.all mnW=false):=fun h=>im_not hlt' h
             cases hok:mnW t.A[j]
             · have HP:Hid (mnW t.A[j]=false):=hok
               replace HF:Hid (_=_):=HF.out hok
               clear hok
               go_wp2_with fail
               refine (IH D (d - 1) L B t.A[j] _ _ _ _ _ _ _ _ _ _ _ (by omega) hf2 HNA.out).mono ?_
               rintro e w3 ⟨rfl,hb3⟩
               rw [HP.out]
               go_wp2_with fail
               go_ret
               exact ⟨ret_bool (by rw [HE.out,HF.out];simp),hbw.trans (hb3.mono (by omega))⟩
             · have HP:Hid (mnW t.A[j]=true):=hok
               rw [hok] at HT
               clear hok
               go_wp2_with fail
               refine (IH D (d - 1) L B t.A[j] _ _ _ _ _ _ _ _ _ _ _ (by omega) hf2 HNA.out).mono ?_
               rintro e w3 ⟨rfl,hb3⟩
               rw [HP.out]
               have hbr2:Below w2.heap.size w2 w3:=hbr.trans (hb3.mono (by omega))
               go_wp2_with fail
               go_roundw
               case rel=>exact ⟨j+1,by omega,by go_num,(by show _=_;rw [HT.out,HA.out];rfl),hbr2⟩
               case measure=>simp [intOf];omega
           · have HK:Hid (t.A.all mnW=true):=by have h1:=HL.out;have h2:=HA.out;rw [List.take_of_length_le (by omega)] at h2;exact h2
             go_wp2_with fail
             go_ret
             exact ⟨ret_bool (by rw [HE.out,HK.out,HO2.out,HV.out];rfl),hb2w.trans (hbr.mono (by omega))⟩)
theorem ms_any (l:Nat):SaidMs l:=by
  induction l with
  | zero=>intro D d L B t a1 l1 c1 a2 l2 c2 a3 l3 c3 m w hB hf hm;simp [nodesM] at hm
  | succ l ih=>exact ms_succ l ih
set_option maxHeartbeats 400000 in
theorem isMono_any (D d L B:Nat) (t:Tm) (a1:Option Addr) (l1 c1:Nat) (a2:Option Addr) (l2 c2:Nat) (a3:Option Addr) (l3 c3:Nat) (w:World) (hB:B≤w.heap.size) (hf:Fm L B w D d t a1 l1 a2 l2 a3 l3) :
    Calls Tryz.prog 46 #[.agg #[.int .i64 t.K,.int .i64 t.N,.string t.S,.string t.Z,.int .i64 t.T.K,.int .i64 t.T.N,.slice a1 l1 c1,.slice a2 l2 c2,.slice a3 l3 c3]] w fun e w'=>e=.returned (.bool (mnM t))∧Below w.heap.size w w':=by
  have hbel:Below w.heap.size w (w.alloc (.cells #[.int .i64 t.K,.int .i64 t.N,.string t.S,.string t.Z,.int .i64 t.T.K,.int .i64 t.T.N,.slice a1 l1 c1,.slice a2 l2 c2,.slice a3 l3 c3] 34)):=(Below.refl _ _).alloc (Nat.le_refl _) _
  have hf1:=Fm.below hbel hB hf
  cases hq:okM t
  all_goals
    have HQ:Hid (okM t=_):=hq
    have HP:Hid (mnM t=(okM t && mnW t)):=rfl
    rw [hq] at HP
    clear hq
    go_enter Tryz.func46,Tryz.ntmps46
    go_wp2_with fail
    refine (termOk_any D d L B t _ _ _ _ _ _ _ _ _ _ (by simp;omega) hf1).mono ?_
    rintro e w1 ⟨rfl,hb1⟩
    rw [HQ.out]
    have hbw:Below w.heap.size w w1:=hbel.trans (hb1.mono (by simp))
    have hz1:=hb1.size
    simp only [World.size_alloc] at hz1
    obtain ⟨f0,f1,f2,f3,f4,f5,f6,f7,f8⟩:=Nine.box ((hb1.block w.heap.size (by simp)).trans (heap_new rfl))
    go_wp2_with fail
    first
      | (go_ret
         exact ⟨ret_bool (by rw [HP.out];rfl),hbw⟩)
      | (refine (mn_any d D L B t _ _ _ _ _ _ _ _ _ _ (by omega) (Fm.below hbw hB hf)).mono ?_
         rintro e w2 ⟨rfl,hb2⟩
         go_wp2_with fail
         go_ret
         exact ⟨ret_bool (by rw [HP.out];rfl),hbw.trans (hb2.mono (by omega))⟩)
set_option maxHeartbeats 400000 in
theorem sIsMono_any (D d L B:Nat) (t:Tm) (a1:Option Addr) (l1 c1:Nat) (a2:Option Addr) (l2 c2:Nat) (a3:Option Addr) (l3 c3:Nat) (w:World) (hB:B≤w.heap.size) (hf:Fm L B w D d t a1 l1 a2 l2 a3 l3) :
    Calls Tryz.prog 39 #[.agg #[.int .i64 t.K,.int .i64 t.N,.string t.S,.string t.Z,.int .i64 t.T.K,.int .i64 t.T.N,.slice a1 l1 c1,.slice a2 l2 c2,.slice a3 l3 c3]] w fun e w'=>e=.returned (.bool (mnM t))∧Below w.heap.size w w':=by
  have hbel:Below w.heap.size w (w.alloc (.cells #[.int .i64 t.K,.int .i64 t.N,.string t.S,.string t.Z,.int .i64 t.T.K,.int .i64 t.T.N,.slice a1 l1 c1,.slice a2 l2 c2,.slice a3 l3 c3] 34)):=(Below.refl _ _).alloc (Nat.le_refl _) _
  have hf1:=Fm.below hbel hB hf
  have HN:Hid (okM t=true→∃ m,nodesM 24 t=some m):=by
    intro h
    unfold okM at h
    cases hn:nodesM 24 t with
    | none=>rw [hn] at h;cases h
    | some m=>exact ⟨m,rfl⟩
  cases hq:okM t
  all_goals
    have HQ:Hid (okM t=_):=hq
    have HP:Hid (mnM t=(okM t && mnW t)):=rfl
    rw [hq] at HP
    clear hq
    go_enter Tryz.func39,Tryz.ntmps39
    go_wp2_with fail
    refine (sTermOk_any D d L B t _ _ _ _ _ _ _ _ _ _ (by simp;omega) hf1).mono ?_
    rintro e w1 ⟨rfl,hb1⟩
    rw [HQ.out]
    have hbw:Below w.heap.size w w1:=hbel.trans (hb1.mono (by simp))
    have hz1:=hb1.size
    simp only [World.size_alloc] at hz1
    obtain ⟨f0,f1,f2,f3,f4,f5,f6,f7,f8⟩:=Nine.box ((hb1.block w.heap.size (by simp)).trans (heap_new rfl))
    go_wp2_with fail
    first
      | (go_ret
         exact ⟨ret_bool (by rw [HP.out];rfl),hbw⟩)
      | (obtain ⟨m,hm⟩:=HN.out HQ.out
         refine (ms_any 24 D d L B t _ _ _ _ _ _ _ _ _ m _ (by omega) (Fm.below hbw hB hf) hm).mono ?_
         rintro e w2 ⟨rfl,hb2⟩
         go_wp2_with fail
         go_ret
         exact ⟨ret_bool (by rw [HP.out];rfl),hbw.trans (hb2.mono (by omega))⟩)
end Go.Proofs.YtcepgedbmffkdaaGreat
