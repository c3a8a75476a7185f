/-
  What the program's 'isName', 'namesOk', 'sameTyNode' (against the zero type), 'typesOk' come to.
-/
import Derived.Test.YtcepgedbmffkdaaGreatFbaZ3
import Derived.Test.YtcepgedbmffkdaaGreatFbaZ13
namespace Go.Proofs.YtcepgedbmffkdaaGreat
open Go.RowKit Go.PlainAid
set_option linter.unusedVariables false
set_option linter.unusedSimpArgs false
theorem nameW_size {s:ByteArray} (h:¬ (1≤s.size∧s.size≤8)):nameW s=false:=by
  unfold nameW;rw [Bool.eq_false_iff];intro h1;simp only [Bool.and_eq_true,decide_eq_true_eq] at h1;omega
theorem nameW_first {s:ByteArray} (h:isLow (bt s 0)=false):nameW s=false:=by simp [nameW,h]
theorem nameW_all {s:ByteArray} (h1:1≤s.size) (h8:s.size≤8) (h:isLow (bt s 0)=true):nameW s=allB s s.size chOk:=by simp [nameW,h1,h8,h]
theorem isLow_yes {x:Int} (h:97≤x) (h':x≤122):isLow x=true:=by simp [isLow];omega
theorem isLow_no {x:Int} (h:¬ (97≤x∧x≤122)):isLow x=false:=by simp only [isLow,decide_eq_false_iff_not];exact h
set_option maxHeartbeats 1000000 in
theorem isName_any (s:ByteArray) (w:World) (hs:s.size≤9223372036854775807):Calls Tryz.prog 135 #[.string s] w fun e w'=>e=.returned (.bool (nameW s))∧w'=w:=by
  have hb:=get_bt s
  have hb0:=bt_nonneg s 0
  by_cases h0:s.size=0
  · have HN:Hid (nameW s=false):=nameW_size (by omega)
    have hz:((s.size:Int) == 0)=true:=by simp [h0]
    clear h0
    go_enter Tryz.func135,Tryz.ntmps135
    go_wp2_with fail
    go_ret
    exact ⟨ret_bool HN.out.symm,rfl⟩
  have hz:((s.size:Int) == 0)=false:=by rw [beq_eq_false_iff_ne];omega
  by_cases h8:8 < s.size
  · have HN:Hid (nameW s=false):=nameW_size (by omega)
    go_enter Tryz.func135,Tryz.ntmps135
    go_wp2_with fail
    go_ret
    exact ⟨ret_bool HN.out.symm,rfl⟩
  by_cases hlo:bt s 0 < 97
  · have HN:Hid (nameW s=false):=nameW_first (isLow_no (by omega))
    go_enter Tryz.func135,Tryz.ntmps135
    go_wp2_with fail
    go_ret
    exact ⟨ret_bool HN.out.symm,rfl⟩
  by_cases hhi:122 < bt s 0
  · have HN:Hid (nameW s=false):=nameW_first (isLow_no (by omega))
    go_enter Tryz.func135,Tryz.ntmps135
    go_wp2_with fail
    go_ret
    exact ⟨ret_bool HN.out.symm,rfl⟩
  have HN:Hid (nameW s=allB s s.size chOk):=nameW_all (by omega) (by omega) (isLow_yes (by omega) (by omega))
  go_enter Tryz.func135,Tryz.ntmps135
  go_wp2_with fail
  go_loopw [26] (fun i wr=>∃ k:Nat,k≤s.size∧i=.int .i64 k∧Hid (allB s k chOk=true)∧wr=w) (fun i _=>s.size - (intOf i).toNat)
  case atStart=>exact ⟨0,by omega,rfl,rfl,rfl⟩
  case round =>
    obtain ⟨k,hk,rfl,HA,rfl⟩:=hrel
    by_cases hlt:k < s.size
    · have HS:Hid (allB s (k+1) chOk=(allB s k chOk && chOk (bt s k))):=allB_succ s k chOk
      have HF:Hid (chOk (bt s k)=false→allB s s.size chOk=false):=fun hf=>allB_false k hlt hf
      have hbk:=bt_nonneg s k
      obtain ⟨x,hx⟩:∃ x,x=bt s k:=⟨_,rfl⟩
      have hbk':((s[k]'hlt).toNat:Int)=x:=by rw [hx];exact hb k hlt
      have HX:Hid (x=bt s k):=hx
      rw [← hx] at HS HF hbk
      clear hx hb
      by_cases c1:97≤x
      all_goals by_cases c2:x≤122
      all_goals by_cases c3:48≤x
      all_goals by_cases c4:x≤57
      all_goals by_cases c5:x=46
      all_goals try omega
      all_goals
        first
          | (have hyes:Hid (chOk x=true):=(by show chOk x=true;simp only [chOk,isLow,isDig,Bool.or_eq_true,decide_eq_true_eq];omega)
             go_wp2_with fail
             go_roundw
             case rel=>exact ⟨k+1,by omega,by go_num,(by show _=_;rw [HS.out,HA.out,hyes.out];rfl),(by trivial)⟩
             case measure=>simp [intOf];omega)
          | (have hno:Hid (chOk x=false):=(by show chOk x=false;rw [Bool.eq_false_iff];intro hc;simp only [chOk,isLow,isDig,Bool.or_eq_true,decide_eq_true_eq] at hc;omega)
             go_wp2_with fail
             go_ret
             exact ⟨ret_bool (by rw [HN.out,HF.out hno.out]),rfl⟩)
    · have hke:k=s.size:=by omega
      have HK:Hid (allB s s.size chOk=true):=by have:=HA.out;rw [hke] at this;exact this
      clear hke
      go_wp2_with fail
      go_ret
      exact ⟨ret_bool (by rw [HN.out,HK.out]),rfl⟩
theorem isNil_size (s:ByteArray):isNil s=decide (s.size=0):=by
  unfold isNil
  rw [ByteArray.toList_eq,Bool.eq_iff_iff,List.isEmpty_iff,decide_eq_true_eq]
  have hl:s.data.toList.length=s.size:=by cases s;rfl
  rw [← hl]
  exact List.length_eq_zero_iff.symm
set_option maxHeartbeats 1000000 in
theorem namesOk_any (n:Int) (k m:Int) (s z:ByteArray) (v4 v5 v6 v7 v8:Value) (w:World) (hs:s.size≤9223372036854775807) (hz:z.size≤9223372036854775807) :
    Calls Tryz.prog 125 #[.agg #[.int .i64 k,.int .i64 m,.string s,.string z,v4,v5,v6,v7,v8],.int .i64 n] w fun e w'=>e=.returned (.bool (namesB n s z))∧Below w.heap.size w w':=by
  have hbel:Below w.heap.size w (w.alloc (.cells #[.int .i64 k,.int .i64 m,.string s,.string z,v4,v5,v6,v7,v8] 34)):=(Below.refl _ _).alloc (Nat.le_refl _) _
  by_cases h0:n=0
  · subst h0
    go_enter Tryz.func125,Tryz.ntmps125
    go_wp2_with fail
    all_goals
      go_ret
      exact ⟨ret_bool (by simp_all [namesB,isNil]),hbel⟩
  by_cases h1:n=1
  · subst h1
    clear h0
    cases h2:nameW s
    all_goals
      have HN:Hid (nameW s=_):=h2
      clear h2
      go_enter Tryz.func125,Tryz.ntmps125
      go_wp2_with (go_at_call 135;refine (isName_any _ _ hs).mono ?_;rintro e w' ⟨rfl,rfl⟩;rw [HN.out])
      all_goals
        go_ret
        exact ⟨ret_bool (by have:=HN.out;simp_all [namesB,isNil]),hbel⟩
  · have b0:(n == 0)=false:=beq_eq_false_iff_ne.2 h0
    have b1:(n == 1)=false:=beq_eq_false_iff_ne.2 h1
    have HB:Hid (namesB n s z=(nameW s && nameW z && !(s.toList == z.toList))):=by show _=_;simp [namesB,h0,h1]
    clear h0 h1
    cases h2:nameW s
    all_goals cases h3:nameW z
    all_goals cases h4:(s.toList == z.toList)
    all_goals
      have HN:Hid (nameW s=_):=h2
      have HN2:Hid (nameW z=_):=h3
      have HN3:Hid ((s.toList == z.toList)=_):=h4
      rw [h2,h3,h4] at HB
      clear h2 h3
      go_enter Tryz.func125,Tryz.ntmps125
      go_wp2_with fail
      refine (isName_any _ _ hs).mono ?_
      rintro e w' ⟨rfl,rfl⟩
      rw [HN.out]
      go_wp2_with fail
      try (refine (isName_any _ _ hz).mono ?_;rintro e w' ⟨rfl,rfl⟩;rw [HN2.out];go_wp2_with fail)
      go_ret
      exact ⟨ret_bool (by rw [HB.out];rfl),hbel⟩
set_option maxHeartbeats 1000000 in
theorem sameTyNode_zero (k n:Int) (ao:Option Addr) (len cap:Nat) (w:World) (hl:len≤9223372036854775807) :
    Calls Tryz.prog 136 #[.agg #[.int .i64 k,.int .i64 n,.slice ao len cap],.agg #[.int .i64 0,.int .i64 0,.slice none 0 0]] w fun e w'=>e=.returned (.bool ((k == 0) && (n == 0) && ((len:Int) == 0)))∧Below w.heap.size w w':=by
  have hbel:Below w.heap.size w ((w.alloc (.cells #[.int .i64 k,.int .i64 n,.slice ao len cap] 31)).alloc (.cells #[.int .i64 0,.int .i64 0,.slice none 0 0] 31)):=((Below.refl _ _).alloc (Nat.le_refl _) _).alloc (by simp) _
  cases h1:(k == 0)
  all_goals cases h2:(n == 0)
  all_goals cases h3:((len:Int) == 0)
  all_goals
    go_enter Tryz.func136,Tryz.ntmps136
    go_wp2_with fail
    go_ret
    exact ⟨rfl,hbel⟩
def typesHead (typed:Bool) (ts:Int) (t:Tr) (n:Nat):Bool:=(if typed then okT t else zeroT t) && decide ((n:Int)≤ts)
theorem all_take {l:List Tr} {f:Tr→Bool} {k:Nat} (h:k < l.length):(l.take (k+1)).all f=((l.take k).all f && f l[k]):=by
  rw [List.take_succ_eq_append_getElem h];simp only [List.all_append,List.all_cons,List.all_nil,Bool.and_true]
theorem all_not {l:List Tr} {f:Tr→Bool} {k:Nat} (h:k < l.length) (hf:f l[k]=false):l.all f=false:=by
  rw [Bool.eq_false_iff];intro h1
  have:=List.all_eq_true.1 h1 l[k] (List.getElem_mem h)
  rw [hf] at this;cases this
set_option maxHeartbeats 1000000 in
theorem typesOk_any (D L B:Nat) (k m:Int) (s z:ByteArray) (tk tn:Int) (a1:Option Addr) (l1 c1:Nat) (a2:Option Addr) (l2 c2:Nat) (v8:Value) (tA tS:List Tr) (n1 n2 n3:Int) (typed:Bool) (ts n5:Int) (w:World) (hts:0≤ts) (hts2:ts≤2)
    (hB:B≤w.heap.size) (h1:Hs L B w D a1 l1 tA) (h2:Hs L B w D a2 l2 tS) :
    Calls Tryz.prog 126 #[.agg #[.int .i64 k,.int .i64 m,.string s,.string z,.int .i64 tk,.int .i64 tn,.slice a1 l1 c1,.slice a2 l2 c2,v8],.agg #[.int .i64 n1,.int .i64 n2,.int .i64 n3,.bool typed,.int .i64 ts,.int .i64 n5]] w fun e w'=>e=.returned (.bool (typesHead typed ts ⟨tk,tn,tA⟩ l2 && tS.all okT))∧Below w.heap.size w w':=by
  have hl1:=h1.len.2
  have hl2:=h2.len.2
  have HL:Hid (l2=tS.length):=h2.len.1
  have HL1:Hid (l1=tA.length):=h1.len.1
  obtain ⟨X,hX⟩:∃ X,X=((w.alloc (.cells #[.int .i64 k,.int .i64 m,.string s,.string z,.int .i64 tk,.int .i64 tn,.slice a1 l1 c1,.slice a2 l2 c2,v8] 34)).alloc (.cells #[.int .i64 n1,.int .i64 n2,.int .i64 n3,.bool typed,.int .i64 ts,.int .i64 n5] 198)):=⟨_,rfl⟩
  have hbel:Below w.heap.size w X:=by rw [hX];exact ((Below.refl _ _).alloc (Nat.le_refl _) _).alloc (by simp) _
  have hXs:X.heap.size=w.heap.size+2:=by rw [hX];simp
  have hX0:X.heap[w.heap.size]?=some (.cells #[.int .i64 k,.int .i64 m,.string s,.string z,.int .i64 tk,.int .i64 tn,.slice a1 l1 c1,.slice a2 l2 c2,v8] 34 (0,0)):=by
    rw [hX,Below.heap_alloc _ _ _ (by simp)];exact heap_new rfl
  have hX1:X.heap[w.heap.size+1]?=some (.cells #[.int .i64 n1,.int .i64 n2,.int .i64 n3,.bool typed,.int .i64 ts,.int .i64 n5] 198 (0,0)):=by
    rw [hX];exact heap_new (by simp)
  have g1:=h1.below hbel hB
  have HX:Hid (X=_):=hX
  clear hX
  cases typed
  case' false =>
    have HT:Hid (∃ hd,typesHead false ts ⟨tk,tn,tA⟩ l2=(hd && decide ((l2:Int)≤ts))∧((tk == 0) && (tn == 0) && ((l1:Int) == 0))=hd):=⟨zeroT ⟨tk,tn,tA⟩,rfl,by rw [HL1.out];rfl⟩
    obtain ⟨hd,HT1,HT2⟩:=HT.out
    replace HT1:Hid (_=_):=HT1
    replace HT2:Hid (_=_):=HT2
    go_enter Tryz.func126,Tryz.ntmps126
    go_wp2_with fail
    rw [← HX.out]
    refine (sameTyNode_zero _ _ _ _ _ _ hl1).mono ?_
    rintro e w1 ⟨rfl,hb1⟩
    rw [HT2.out]
  case' true =>
    have HT:Hid (∃ hd,typesHead true ts ⟨tk,tn,tA⟩ l2=(hd && decide ((l2:Int)≤ts))∧okT ⟨tk,tn,tA⟩=hd):=⟨okT ⟨tk,tn,tA⟩,rfl,rfl⟩
    obtain ⟨hd,HT1,HT2⟩:=HT.out
    replace HT1:Hid (_=_):=HT1
    replace HT2:Hid (_=_):=HT2
    go_enter Tryz.func126,Tryz.ntmps126
    go_wp2_with fail
    rw [← HX.out]
    refine (tyOk_any D L B _ _ _ _ _ tA _ (by omega) g1).mono ?_
    rintro e w1 ⟨rfl,hb1⟩
    rw [HT2.out]
  all_goals
    clear HT HT2
    have hz1:=hb1.size
    have hbw1:Below w.heap.size w w1:=hbel.trans (hb1.mono (by omega))
    have y0:=(hb1.block _ (by omega)).trans hX0
    have y1:=(hb1.block _ (by omega)).trans hX1
    obtain ⟨f0,f1,f2,f3,f4,f5,f6,f7,f8⟩:=Nine.box y0
    have q3:=row_cell y1 3
    have q4:=row_cell y1 4
    simp only [List.getElem?_toArray,List.getElem?_cons_zero,List.getElem?_cons_succ] at q3 q4
    cases hd
    · go_wp2_with fail
      go_ret
      exact ⟨ret_bool (by rw [HT1.out];rfl),hbw1⟩
    by_cases hgt:ts < l2
    · go_wp2_with fail
      go_ret
      exact ⟨ret_bool (by rw [HT1.out,decide_eq_false (by omega)];rfl),hbw1⟩
    replace HT1:Hid (_=true):=HT1.out.trans (by rw [decide_eq_true (by omega)];rfl)
    go_wp2_with fail
    go_loopw [38] (fun i wr=>∃ j:Nat,j≤l2∧i=.int .i64 j∧Hid ((tS.take j).all okT=true)∧Below w1.heap.size w1 wr) (fun i _=>l2 - (intOf i).toNat)
    case atStart=>exact ⟨0,by omega,rfl,rfl,Below.refl _ _⟩
    case round =>
      obtain ⟨j,hj,rfl,HA,hbr⟩:=hrel
      have hszr:=hbr.size
      by_cases hlt:j < l2
      · have hlt':j < tS.length:=by have:=HL.out;omega
        obtain ⟨b,o,rfl,_,hbB,ao1,len1,cap1,x0,x1,x2,hs1⟩:=h2.get j hlt'
        have hbw:Below w.heap.size w wr:=hbw1.trans (hbr.mono (by omega))
        have e0:=(bcell hbw (by omega) _).trans x0
        have e1:=(bcell hbw (by omega) _).trans x1
        have e2:=(bcell hbw (by omega) _).trans x2
        have hba:Below w.heap.size w (wr.alloc (.cells #[.int .i64 tS[j].K,.int .i64 tS[j].N,.slice ao1 len1 cap1] 31)):=hbw.alloc (by omega) _
        have hs2:=hs1.below hba hB
        have HT:Hid ((tS.take (j+1)).all okT=((tS.take j).all okT && okT tS[j])):=all_take hlt'
        have HF:Hid (okT tS[j]=false→tS.all okT=false):=fun h=>all_not hlt' h
        have HE:Hid (okT ⟨tS[j].K,tS[j].N,tS[j].A⟩=okT tS[j]):=by show _=_;rw [tr_eta]
        cases hok:okT tS[j]
        · rw [hok] at HE
          replace HF:Hid (_=_):=HF.out hok
          clear hok
          go_wp2_with fail
          refine (tyOk_any _ _ _ _ _ _ _ _ _ _ (by simp;omega) hs2).mono ?_
          rintro e w2 ⟨rfl,hb2⟩
          rw [HE.out]
          go_wp2_with fail
          go_ret
          exact ⟨ret_bool (by rw [HF.out,Bool.and_false]),hba.trans (hb2.mono (by simp;omega))⟩
        · rw [hok] at HE HT
          clear hok
          go_wp2_with fail
          refine (tyOk_any _ _ _ _ _ _ _ _ _ _ (by simp;omega) hs2).mono ?_
          rintro e w2 ⟨rfl,hb2⟩
          rw [HE.out]
          have hbr2:Below w1.heap.size w1 w2:=(hbr.alloc (by omega) _).trans (hb2.mono (by simp;omega))
          go_wp2_with fail
          go_roundw
          case rel=>exact ⟨j+1,by omega,by go_num,(by show _=_;rw [HT.out,HA.out];rfl),hbr2⟩
          case measure=>simp [intOf];omega
      · have HK:Hid (tS.all okT=true):=by have h1:=HL.out;have h2:=HA.out;rw [List.take_of_length_le (by omega)] at h2;exact h2
        go_wp2_with fail
        go_ret
        exact ⟨ret_bool (by rw [HT1.out,HK.out];rfl),hbw1.trans (hbr.mono (by omega))⟩
end Go.Proofs.YtcepgedbmffkdaaGreat

/-
  What the program's 'termNodeOk' comes to.
-/
namespace Go.Proofs.YtcepgedbmffkdaaGreat
open Go.RowKit Go.PlainAid
set_option linter.unusedVariables false
set_option linter.unusedSimpArgs false
theorem nodeM_k {t:Tm} (h:kOk t.K=false):nodeM t=false:=by simp [nodeM,h]
theorem nodeM_n {t:Tm} (h:¬ (shL t.K≤t.N∧t.N≤shM t.K)):nodeM t=false:=by unfold nodeM;rw [decide_eq_false h];simp
theorem nodeM_p {t:Tm} (h:¬ (t.A.length:Int)=shP t.K):nodeM t=false:=by unfold nodeM;rw [decide_eq_false h];simp
theorem nodeM_f {t:Tm} (h:fixB t.K t.A=false):nodeM t=false:=by unfold nodeM;rw [h];simp
theorem nodeM_s {t:Tm} (h:namesB (shN t.K) t.S t.Z=false):nodeM t=false:=by unfold nodeM;rw [h];simp
theorem nodeM_all {t:Tm} (h1:kOk t.K=true) (h2:shL t.K≤t.N∧t.N≤shM t.K) (h3:(t.A.length:Int)=shP t.K) (h4:fixB t.K t.A=true) (h5:namesB (shN t.K) t.S t.Z=true):nodeM t=typesB t.K t.T t.Ts:=by
  unfold nodeM;rw [h1,decide_eq_true h2,decide_eq_true h3,h4,h5];simp
theorem fixB_seven {k:Int} {l:List Tm} (h:k=7) (hl:0 < l.length):fixB k l=decide (l[0].K=4):=by
  unfold fixB;rw [if_pos h]
  cases l with
  | nil=>simp at hl
  | cons x l=>rfl
theorem typesB_eq (t:Tm):typesB t.K t.T t.Ts=(typesHead (shT t.K) (shS t.K) ⟨t.T.K,t.T.N,t.T.A⟩ t.Ts.length && t.Ts.all okT):=by
  rw [tr_eta];rfl
set_option maxHeartbeats 2000000 in
theorem termNodeOk_any (D d L B:Nat) (t:Tm) (a1:Option Addr) (l1 c1:Nat) (a2:Option Addr) (l2 c2:Nat) (a3:Option Addr) (l3 c3:Nat) (w:World) (hB:B≤w.heap.size) (hf:Fm L B w D d t a1 l1 a2 l2 a3 l3) :
    Calls Tryz.prog 104 #[.agg #[.int .i64 t.K,.int .i64 t.N,.string t.S,.string t.Z,.int .i64 t.T.K,.int .i64 t.T.N,.slice a1 l1 c1,.slice a2 l2 c2,.slice a3 l3 c3]] w fun e w'=>e=.returned (.bool (nodeM t))∧Below w.heap.size w w':=by
  have hl3:=hf.m.len.2
  have HL3:Hid (l3=t.A.length):=hf.m.len.1
  have HL2:Hid (l2=t.Ts.length):=hf.t2.len.1
  have bN:=shN_bd t.K
  have bL:=shL_bd t.K
  have bM:=shM_bd t.K
  have bS:=shS_bd t.K
  have bP:=shP_bd t.K
  have hb0:Below w.heap.size w (w.alloc (.cells #[.int .i64 t.K,.int .i64 t.N,.string t.S,.string t.Z,.int .i64 t.T.K,.int .i64 t.T.N,.slice a1 l1 c1,.slice a2 l2 c2,.slice a3 l3 c3] 34)):=(Below.refl _ _).alloc (Nat.le_refl _) _
  cases hk:kOk t.K
  · have HN:Hid (nodeM t=false):=nodeM_k hk
    have HK:Hid (kOk t.K=false):=hk
    clear hk
    go_enter Tryz.func104,Tryz.ntmps104
    go_wp2_with fail
    refine (shapeOf_any _ _).mono ?_
    rintro e w1 ⟨rfl,hb1⟩
    rw [HK.out]
    go_wp2_with fail
    go_ret
    exact ⟨ret_bool HN.out.symm,(hb0.trans (hb1.mono (by simp))).alloc (by have:=hb1.size;simp at this;omega) _⟩
  have HK:Hid (kOk t.K=true):=hk
  clear hk
  go_enter Tryz.func104,Tryz.ntmps104
  go_wp2_with fail
  refine (shapeOf_any _ _).mono ?_
  rintro e w1 ⟨rfl,hb1⟩
  rw [HK.out]
  have hz1:=hb1.size
  simp only [World.size_alloc] at hz1
  have hbw1:Below w.heap.size w w1:=hb0.trans (hb1.mono (by simp))
  have y0:=(hb1.block w.heap.size (by simp)).trans (heap_new rfl)
  obtain ⟨f0,f1,f2,f3,f4,f5,f6,f7,f8⟩:=Nine.box y0
  simp only [Nat.zero_add] at f1 f2 f3 f4 f5 f6 f7 f8
  obtain ⟨X,hX⟩:∃ X,X=w1.alloc (.cells #[.int .i64 (shN t.K),.int .i64 (shL t.K),.int .i64 (shM t.K),.bool (shT t.K),.int .i64 (shS t.K),.int .i64 (shP t.K)] 198):=⟨_,rfl⟩
  have hXb:Below w.heap.size w X:=by rw [hX];exact hbw1.alloc (by omega) _
  have hXs:X.heap.size=w1.heap.size+1:=by rw [hX];simp
  have HX:Hid (X=_):=hX
  clear hX
  have hne:¬ w.heap.size=w1.heap.size:=by omega
  have hlt1:w.heap.size < w1.heap.size:=by omega
  have hX1:X.heap[w1.heap.size]?=some (.cells #[.int .i64 (shN t.K),.int .i64 (shL t.K),.int .i64 (shM t.K),.bool (shT t.K),.int .i64 (shS t.K),.int .i64 (shP t.K)] 198 (0,0)):=by rw [HX.out];exact heap_new rfl
  have hX0:X.heap[w.heap.size]?=some (.cells #[.int .i64 t.K,.int .i64 t.N,.string t.S,.string t.Z,.int .i64 t.T.K,.int .i64 t.T.N,.slice a1 l1 c1,.slice a2 l2 c2,.slice a3 l3 c3] 34 (0,0)):=by rw [HX.out,Below.heap_alloc _ _ _ hlt1];exact y0
  by_cases d1:t.N < shL t.K
  · have HN:Hid (nodeM t=false):=nodeM_n (by omega)
    go_wp2_with fail
    go_ret
    rw [← HX.out]
    exact ⟨ret_bool HN.out.symm,hXb⟩
  by_cases d2:shM t.K < t.N
  · have HN:Hid (nodeM t=false):=nodeM_n (by omega)
    go_wp2_with fail
    go_ret
    rw [← HX.out]
    exact ⟨ret_bool HN.out.symm,hXb⟩
  have c12:Hid (shL t.K≤t.N∧t.N≤shM t.K):=⟨by omega,by omega⟩
  by_cases c3:(l3:Int)=shP t.K
  case' neg =>
    have HN:Hid (nodeM t=false):=nodeM_p (by rw [← HL3.out];exact c3)
    have c3b:((l3:Int) != shP t.K)=true:=by simp [c3]
    clear c3
    go_wp2_with fail
    go_ret
    rw [← HX.out]
    exact ⟨ret_bool HN.out.symm,hXb⟩
  have HP:Hid ((l3:Int)=shP t.K):=c3
  have c3b:((l3:Int) != shP t.K)=false:=by simp [c3]
  have c4:∃ b:Bool,fixB t.K t.A=b∧(t.K=7→∃ x o,a3=some ⟨x,o,none⟩∧0 < l3∧x < B∧∃ q,w.cell? ⟨x,o,none⟩=some (.int .i64 q)∧b=decide (q=4))∧(¬ t.K=7→b=true):=by
    refine ⟨_,rfl,fun h7=>?_,fun h7=>by simp [fixB,h7]⟩
    have hp2:shP t.K=2:=by rw [h7];rfl
    have h2:t.A.length=2:=by have:=HL3.out;omega
    obtain ⟨x,o,e,_,hx,q1,q2,q3,q4,q5,q6,q7,q8,q9,h9,_⟩:=hf.m.get 0 (by omega)
    refine ⟨x,o,e,by omega,hx,t.A[0].K,by simpa using h9.c0,?_⟩
    exact fixB_seven h7 (by omega)
  clear c3
  obtain ⟨fx,HF,c7,c7n⟩:=c4
  replace HF:Hid (_=_):=HF
  have HT:Hid (fx=true→namesB (shN t.K) t.S t.Z=true→nodeM t=(typesHead (shT t.K) (shS t.K) ⟨t.T.K,t.T.N,t.T.A⟩ l2 && t.Ts.all okT)):=fun h h'=>by
    rw [nodeM_all HK.out c12.out (by rw [← HL3.out];exact HP.out) (HF.out.trans h) h',typesB_eq,HL2.out]
  have HN0:Hid (fx=false→nodeM t=false):=fun h=>nodeM_f (HF.out.trans h)
  have HNs:Hid (namesB (shN t.K) t.S t.Z=false→nodeM t=false):=nodeM_s
  have hfX:=Fm.below hXb hB hf
  by_cases h7:t.K=7
  case' pos =>
    obtain ⟨x,o,rfl,hpos,hxB,q,hq,rfl⟩:=c7 h7
    clear c7 c7n HF
    have hq1:w1.cell? ⟨x,o,none⟩=some (.int .i64 q):=(bcell hbw1 (by omega) _).trans hq
    have hx1:x < w1.heap.size:=by omega
    have h7b:(t.K == 7)=true:=by simp [h7]
    clear h7 hq
    cases h4:(q != 4)
    case' true =>
      have HN:Hid (nodeM t=false):=HN0.out (by simpa using h4)
      go_wp2_with fail
      go_ret
      rw [← HX.out]
      exact ⟨ret_bool HN.out.symm,hXb⟩
    replace HT:Hid (_→_):=HT.out (by simpa using h4)
  case' neg =>
    replace HT:Hid (_→_):=HT.out (c7n h7)
    have h7b:(t.K == 7)=false:=by simp [h7]
    clear c7 c7n HF h7
  all_goals
    cases hn:namesB (shN t.K) t.S t.Z
    case' false =>
      replace HNs:Hid (_=_):=HNs.out hn
      have HB:Hid (namesB (shN t.K) t.S t.Z=false):=hn
      clear hn
      go_wp2_with fail
      rw [← HX.out]
      refine (namesOk_any _ _ _ _ _ _ _ _ _ _ _ hf.s hf.z).mono ?_
      rintro e w2 ⟨rfl,hb2⟩
      rw [HB.out]
      go_wp2_with fail
      go_ret
      exact ⟨ret_bool HNs.out.symm,hXb.trans (hb2.mono (by omega))⟩
    case' true =>
      replace HT:Hid (_=_):=HT.out hn
      have HB:Hid (namesB (shN t.K) t.S t.Z=true):=hn
      clear hn
      go_wp2_with fail
      rw [← HX.out]
      refine (namesOk_any _ _ _ _ _ _ _ _ _ _ _ hf.s hf.z).mono ?_
      rintro e w2 ⟨rfl,hb2⟩
      rw [HB.out]
      have hz2:=hb2.size
      have z1:=(hb2.block _ (by omega)).trans hX1
      have z0:=(hb2.block _ (by omega)).trans hX0
      clear f0 f1 f2 f3 f4 f5 f6 f7 f8
      obtain ⟨f0,f1,f2,f3,f4,f5,f6,f7,f8⟩:=Nine.box z0
      have p0:=row_cell z1 0
      have p1:=row_cell z1 1
      have p2:=row_cell z1 2
      have p3:=row_cell z1 3
      have p4:=row_cell z1 4
      have p5:=row_cell z1 5
      simp only [List.getElem?_toArray,List.getElem?_cons_zero,List.getElem?_cons_succ] at p0 p1 p2 p3 p4 p5
      have hbw2:Below w.heap.size w w2:=hXb.trans (hb2.mono (by omega))
      have hf2:=Fm.below hbw2 hB hf
      go_wp2_with fail
      refine (typesOk_any D L B _ _ _ _ _ _ _ _ _ _ _ _ _ t.T.A t.Ts _ _ _ _ _ _ _ (by omega) (by omega) (by omega) hf2.t1 hf2.t2).mono ?_
      rintro e w3 ⟨rfl,hb3⟩
      rw [← HT.out]
      go_wp2_with fail
      go_ret
      exact ⟨rfl,hbw2.trans (hb3.mono (by omega))⟩
end Go.Proofs.YtcepgedbmffkdaaGreat

/-
  What the program's 'termNodesWithin', 'NodesOf', 'TermOk' come to.
-/
namespace Go.Proofs.YtcepgedbmffkdaaGreat
open Go.RowKit Go.PlainAid
set_option linter.unusedVariables false
set_option linter.unusedSimpArgs false
def SaidNM (l:Nat):Prop:=∀ (D d L B:Nat) (t:Tm) (a1:Option Addr) (l1 c1:Nat) (a2:Option Addr) (l2 c2:Nat) (a3:Option Addr) (l3 c3:Nat) (most:Nat) (w:World),B≤w.heap.size→Fm L B w D d t a1 l1 a2 l2 a3 l3→most≤150 →
    Calls Tryz.prog 79 #[.agg #[.int .i64 t.K,.int .i64 t.N,.string t.S,.string t.Z,.int .i64 t.T.K,.int .i64 t.T.N,.slice a1 l1 c1,.slice a2 l2 c2,.slice a3 l3 c3],.int .i64 l,.int .i64 most] w fun e w' =>
      e=.returned (.tuple #[.int .i64 ((lid most (nodesM l t)).getD 0),.bool (lid most (nodesM l t)).isSome])∧Below w.heap.size w w'
theorem lid_zero (l:Nat) (t:Tm):lid 0 (nodesM l t)=none:=by
  cases h:nodesM l t with
  | none=>rfl
  | some m=>have:=nodesM_pos l t m h;simp [lid];omega
theorem lid_no {most:Nat} {o:Option Nat} (h:∀ m,o=some m→most < m):lid most o=none:=by
  cases o with
  | none=>rfl
  | some m=>have:=h m rfl;simp [lid];omega
theorem lid_yes {most m:Nat} {o:Option Nat} (h:o=some m) (hm:m≤most):lid most o=some m:=by subst h;simp [lid,hm]
set_option maxHeartbeats 400000 in
theorem nm_zero:SaidNM 0:=by
  intro D d L B t a1 l1 c1 a2 l2 c2 a3 l3 c3 most w hB hf hm
  go_enter Tryz.func79,Tryz.ntmps79
  go_wp2_with fail
  go_ret2
  exact ⟨rfl,(Below.refl _ _).alloc (Nat.le_refl _) _⟩
set_option maxHeartbeats 800000 in
theorem nm_succ (l:Nat) (hl24:l < 24) (IH:SaidNM l):SaidNM (l+1):=by
  intro D d L B t a1 l1 c1 a2 l2 c2 a3 l3 c3 most w hB hf hm
  have hl:=hf.m.len.2
  have HL:Hid (l3=t.A.length):=hf.m.len.1
  have hbel:Below w.heap.size w (w.alloc (.cells #[.int .i64 t.K,.int .i64 t.N,.string t.S,.string t.Z,.int .i64 t.T.K,.int .i64 t.T.N,.slice a1 l1 c1,.slice a2 l2 c2,.slice a3 l3 c3] 34)):=(Below.refl _ _).alloc (Nat.le_refl _) _
  have hfa:=Fm.below hbel hB hf
  have hl0:(((l:Int)+1) == 0)=false:=by simp;omega
  by_cases hm0:most=0
  · subst hm0
    have HO:Hid (lid 0 (nodesM (l+1) t)=none):=lid_zero _ _
    go_enter Tryz.func79,Tryz.ntmps79
    go_wp2_with fail
    go_ret2
    rw [HO.out]
    exact ⟨rfl,hbel⟩
  have hmb:((most:Int) == 0)=false:=by rw [beq_eq_false_iff_ne];omega
  cases hok:nodeM t with
  | false =>
    have HO:Hid (lid most (nodesM (l+1) t)=none):=by show _=_;simp only [nodesM];rw [hok];rfl
    have HK:Hid (nodeM t=false):=hok
    clear hok
    go_enter Tryz.func79,Tryz.ntmps79
    go_wp2_with fail
    refine (termNodeOk_any D d L B t _ _ _ _ _ _ _ _ _ _ (by simp;omega) hfa).mono ?_
    rintro e w1 ⟨rfl,hb1⟩
    rw [HK.out]
    go_wp2_with fail
    go_ret2
    rw [HO.out]
    exact ⟨rfl,hbel.trans (hb1.mono (by simp))⟩
  | true =>
    have HO:Hid (nodesM (l+1) t=(nodesG (nodesM l) t.A).map (1+·)):=by show _=_;simp only [nodesM];rw [hok];rfl
    have hlen3:=nodeM_len hok
    have HK:Hid (nodeM t=true):=hok
    clear hok
    go_enter Tryz.func79,Tryz.ntmps79
    go_wp2_with fail
    refine (termNodeOk_any D d L B t _ _ _ _ _ _ _ _ _ _ (by simp;omega) hfa).mono ?_
    rintro e w1 ⟨rfl,hb1⟩
    rw [HK.out]
    have hbelw:Below w.heap.size w w1:=hbel.trans (hb1.mono (by simp))
    have hsz1:=hb1.size
    have f8:=(Nine.box ((hb1.block w.heap.size (by simp)).trans (heap_new rfl))).c8
    simp only [World.size_alloc,Nat.zero_add] at hsz1 f8
    clear hbel hfa
    go_wp2_with fail
    go_loopw [8,27] (fun v i wr=>∃ j m:Nat,j≤l3∧i=.int .i64 j∧Hid (nodesG (nodesM l) (t.A.take j)=some m)∧v=.int .i64 (1+m)∧1+m≤most∧Below w1.heap.size w1 wr) (fun _ i _=>l3 - (intOf i).toNat)
    case atStart=>exact ⟨0,0,by omega,rfl,rfl,rfl,by omega,Below.refl _ _⟩
    case round =>
      obtain ⟨j,m,hj,rfl,HM,rfl,hmm,hbr⟩:=hrel
      have hszr:=hbr.size
      by_cases hlt:j < l3
      · have hlt':j < t.A.length:=by have:=HL.out;omega
        obtain ⟨b,o,rfl,_,hbB,b1,m1,d1,b2,m2,d2,b3,m3,d3,h9,hf1⟩:=hf.m.get j hlt'
        have hbw:Below w.heap.size w wr:=hbelw.trans (hbr.mono (by omega))
        obtain ⟨e0,e1,e2,e3,e4,e5,e6,e7,e8⟩:=h9.below hbw (by omega)
        have hba:Below w.heap.size w (wr.alloc (.cells #[.int .i64 t.A[j].K,.int .i64 t.A[j].N,.string t.A[j].S,.string t.A[j].Z,.int .i64 t.A[j].T.K,.int .i64 t.A[j].T.N,.slice b1 m1 d1,.slice b2 m2 d2,.slice b3 m3 d3] 34)):=hbw.alloc (by omega) _
        have hf2:=Fm.below hba hB hf1
        have HF0:=nodesG_take (nodesM l) t.A j hlt' m HM.out
        obtain ⟨mo,hmo⟩:∃ mo:Nat,mo=most - (1+m):=⟨_,rfl⟩
        have hmo2:(most:Int) - (1+m)=mo:=by omega
        have HMO:Hid (mo=most - (1+m)):=hmo
        have hmo150:mo≤150:=by omega
        clear hmo
        cases hf:lid mo (nodesM l t.A[j]) with
        | none =>
          have HN:Hid (lid most (nodesM (l+1) t)=none):=by
            show _=_
            rw [HO.out]
            cases hq:nodesM l t.A[j] with
            | none=>rw [nodesG_none _ _ j hlt' hq];rfl
            | some a =>
              have ha:mo < a:=by
                rw [hq] at hf
                simp only [lid] at hf
                split at hf
                · cases hf
                · omega
              refine lid_no fun m' hm'=>?_
              cases hs:nodesG (nodesM l) t.A with
              | none=>rw [hs] at hm';cases hm'
              | some s =>
                rw [hs] at hm'
                simp only [Option.map_some,Option.some.injEq] at hm'
                have:=nodesG_part _ _ j hlt' m a s HM.out hq hs
                have:=HMO.out
                omega
          have HF:Hid (lid mo (nodesM l t.A[j])=none):=hf
          clear hf HF0
          go_wp2_with fail
          refine (IH D (d - 1) L B t.A[j] _ _ _ _ _ _ _ _ _ mo _ (by simp;omega) hf2 hmo150).mono ?_
          rintro e w2 ⟨rfl,hb2⟩
          rw [HF.out]
          simp only [Option.getD_none,Option.isSome_none]
          go_wp2_with fail
          go_ret2
          rw [HN.out]
          exact ⟨rfl,hba.trans (hb2.mono (by simp;omega))⟩
        | some a =>
          have ha:nodesM l t.A[j]=some a∧a≤mo:=by
            cases hq:nodesM l t.A[j] with
            | none=>rw [hq] at hf;cases hf
            | some a' =>
              rw [hq] at hf
              simp only [lid] at hf
              split at hf
              · simp only [Option.some.injEq] at hf;subst hf;exact ⟨rfl,by assumption⟩
              · cases hf
          rw [ha.1] at HF0
          have HF2:Hid (nodesG (nodesM l) (t.A.take (j+1))=some (m+a)):=HF0
          have HF:Hid (lid mo (nodesM l t.A[j])=some a):=hf
          have hamo:a≤mo:=ha.2
          have hle:1+m+a≤most:=by have:=HMO.out;omega
          clear hf HF0 ha
          go_wp2_with fail
          refine (IH D (d - 1) L B t.A[j] _ _ _ _ _ _ _ _ _ mo _ (by simp;omega) hf2 hmo150).mono ?_
          rintro e w2 ⟨rfl,hb2⟩
          rw [HF.out]
          have hbr2:Below w1.heap.size w1 w2:=(hbr.alloc (by omega) _).trans (hb2.mono (by simp;omega))
          simp only [Option.getD_some,Option.isSome_some]
          go_wp2_with fail
          go_roundw
          case rel=>exact ⟨j+1,m+a,by omega,by go_num,HF2,by go_num,by omega,hbr2⟩
          case measure=>simp [intOf];omega
      · have HK2:Hid (lid most (nodesM (l+1) t)=some (1+m)):=by
          have h1:=HL.out
          have h2:=HM.out
          rw [List.take_of_length_le (by omega)] at h2
          exact lid_yes (by rw [HO.out,h2];rfl) hmm
        go_wp2_with fail
        go_ret2
        rw [HK2.out]
        exact ⟨rfl,hbelw.trans (hbr.mono (by omega))⟩
theorem nm_any:∀ l,l≤24→SaidNM l:=by
  intro l
  induction l with
  | zero=>intro _;exact nm_zero
  | succ l ih=>intro h;exact nm_succ l (by omega) (ih (by omega))
set_option maxHeartbeats 400000 in
theorem nodesOf_any (D d L B:Nat) (t:Tm) (a1:Option Addr) (l1 c1:Nat) (a2:Option Addr) (l2 c2:Nat) (a3:Option Addr) (l3 c3:Nat) (w:World) (hB:B≤w.heap.size) (hf:Fm L B w D d t a1 l1 a2 l2 a3 l3) :
    Calls Tryz.prog 53 #[.agg #[.int .i64 t.K,.int .i64 t.N,.string t.S,.string t.Z,.int .i64 t.T.K,.int .i64 t.T.N,.slice a1 l1 c1,.slice a2 l2 c2,.slice a3 l3 c3]] w fun e w'=>e=.returned (.int .i64 (nodesTm t))∧Below w.heap.size w w':=by
  have hbel:Below w.heap.size w (w.alloc (.cells #[.int .i64 t.K,.int .i64 t.N,.string t.S,.string t.Z,.int .i64 t.T.K,.int .i64 t.T.N,.slice a1 l1 c1,.slice a2 l2 c2,.slice a3 l3 c3] 34)):=(Below.refl _ _).alloc (Nat.le_refl _) _
  have hf1:=Fm.below hbel hB hf
  cases hq:lid 150 (nodesM 24 t) with
  | none =>
    have HN:Hid (nodesTm t=0):=by show _=_;simp [nodesTm,hq]
    have HF:Hid (lid 150 (nodesM 24 t)=none):=hq
    clear hq
    go_enter Tryz.func53,Tryz.ntmps53
    go_wp2_with fail
    refine (nm_any 24 (by omega) D d L B t _ _ _ _ _ _ _ _ _ 150 _ (by simp;omega) hf1 (by omega)).mono ?_
    rintro e w2 ⟨rfl,hb2⟩
    rw [HF.out]
    simp only [Option.getD_none,Option.isSome_none]
    go_wp2_with fail
    go_ret
    rw [HN.out]
    exact ⟨rfl,hbel.trans (hb2.mono (by simp))⟩
  | some m =>
    have HN:Hid (nodesTm t=m):=by show _=_;simp [nodesTm,hq]
    have HF:Hid (lid 150 (nodesM 24 t)=some m):=hq
    clear hq
    go_enter Tryz.func53,Tryz.ntmps53
    go_wp2_with fail
    refine (nm_any 24 (by omega) D d L B t _ _ _ _ _ _ _ _ _ 150 _ (by simp;omega) hf1 (by omega)).mono ?_
    rintro e w2 ⟨rfl,hb2⟩
    rw [HF.out]
    simp only [Option.getD_some,Option.isSome_some]
    go_wp2_with fail
    go_ret
    rw [HN.out]
    exact ⟨rfl,hbel.trans (hb2.mono (by simp))⟩
theorem okM_pos (t:Tm):okM t=decide (0 < (nodesTm t:Int)):=by
  unfold okM nodesTm
  cases hq:nodesM 24 t with
  | none=>rfl
  | some m =>
    have:=nodesM_pos 24 t m hq
    simp only [lid]
    split
    · simp;omega
    · rfl
set_option maxHeartbeats 400000 in
theorem termOk_any (D d L B:Nat) (t:Tm) (a1:Option Addr) (l1 c1:Nat) (a2:Option Addr) (l2 c2:Nat) (a3:Option Addr) (l3 c3:Nat) (w:World) (hB:B≤w.heap.size) (hf:Fm L B w D d t a1 l1 a2 l2 a3 l3) :
    Calls Tryz.prog 28 #[.agg #[.int .i64 t.K,.int .i64 t.N,.string t.S,.string t.Z,.int .i64 t.T.K,.int .i64 t.T.N,.slice a1 l1 c1,.slice a2 l2 c2,.slice a3 l3 c3]] w fun e w'=>e=.returned (.bool (okM t))∧Below w.heap.size w w':=by
  have hbel:Below w.heap.size w (w.alloc (.cells #[.int .i64 t.K,.int .i64 t.N,.string t.S,.string t.Z,.int .i64 t.T.K,.int .i64 t.T.N,.slice a1 l1 c1,.slice a2 l2 c2,.slice a3 l3 c3] 34)):=(Below.refl _ _).alloc (Nat.le_refl _) _
  have hf1:=Fm.below hbel hB hf
  have HP:Hid (okM t=decide (0 < (nodesTm t:Int))):=okM_pos t
  go_enter Tryz.func28,Tryz.ntmps28
  go_wp2_with fail
  refine (nodesOf_any D d L B t _ _ _ _ _ _ _ _ _ _ (by simp;omega) hf1).mono ?_
  rintro e w2 ⟨rfl,hb2⟩
  go_wp2_with fail
  go_ret
  exact ⟨ret_bool (by rw [HP.out];try simp),hbel.trans (hb2.mono (by simp))⟩
end Go.Proofs.YtcepgedbmffkdaaGreat
