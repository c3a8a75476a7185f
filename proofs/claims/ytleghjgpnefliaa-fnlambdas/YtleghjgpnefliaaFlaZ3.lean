/-
  'l1Look' where the node itself is right: its parts in a loop; then the model's 'TyOk' and 'TyNodes'.
-/
import Derived.Test.YtleghjgpnefliaaFlaZ2
import Derived.Lib.Join
import Derived.Test.YtleghjgpnefliaaFlaZ1
import Derived.Lib.ItoaLen
namespace Go.Proofs.Ytleghjgpnefliaa
open Go.RowKit
set_option linter.unusedVariables false
set_option linter.unusedSimpArgs false
theorem nodesL_part (f:Tr→Option Nat) (l:List Tr) (k:Nat) (h:k < l.length) (m a s:Nat) (hm:nodesL f (l.take k)=some m) (ha:f l[k]=some a) (hs:nodesL f l=some s):m+a≤s:=by
  have h1:=nodesL_take f l k h m hm
  rw [ha] at h1
  have e:=congrArg (nodesL f) (List.take_append_drop (k+1) l)
  rw [nodesL_append,h1,hs] at e
  simp only [Option.map_some] at e
  cases hd:nodesL f (l.drop (k+1)) with
  | none=>simp [hd] at e
  | some x=>simp [hd] at e;omega
theorem lookOk_some {l c m:Nat} {t:Tr} (h:nodesW l t=some m):lookOk l c t=decide (c+m≤60):=by simp [lookOk,h]
structure LkRel (w wr:World) (l p c j len cap:Nat) (k n:Int) (ao:Option Addr) (m:Nat) (ts:List Tr):Prop where
  grown:w.grownBy wr (some p)
  box:wr.heap[w.heap.size]?=some (.cells #[.int .i64 k,.int .i64 n,.slice ao len cap] 26 (0,0))
  cell:wr.heap[p]?=some (.cells #[.int .i64 ((c:Int)+1+m)] 3 (0,0))
  nodes:nodesL (nodesW l) (ts.take j)=some m
set_option maxHeartbeats 1000000 in
theorem lk_yes (l:Nat) (IH:SaidLk l) (d L B p c:Nat) (k n:Int) (ao:Option Addr) (len cap:Nat) (ts:List Tr) (w:World) (hBp:B≤p) (hp:p < w.heap.size) (hcell:w.heap[p]?=some (.cells #[.int .i64 c] 3 (0,0))) (hc:c+1≤60) (hl6:l < 6) (hs:Hs L B w d ao len ts)
    (hyes:nodeOk k n len=true) :
    Calls Try.prog 95 #[.agg #[.int .i64 k,.int .i64 n,.slice ao len cap],.int .i64 ((l:Int)+1),.pointer (some ⟨p,0,none⟩)] w fun e w' =>
      e=.returned (.bool (lookOk (l+1) c ⟨k,n,ts⟩))∧w.grownBy w' (some p)∧∃ c':Int,w'.heap[p]?=some (.cells #[.int .i64 c'] 3 (0,0))∧(∀ m,nodesW (l+1) ⟨k,n,ts⟩=some m→c+m≤60→c'=c+m):=by
  have HO:Hid (nodesW (l+1) ⟨k,n,ts⟩=(nodesL (nodesW l) ts).map (1+·)):=by show _=_;simp only [nodesW];rw [← hs.len.1,hyes];rfl
  have HL:Hid (len=ts.length):=hs.len.1
  have hll:=hs.len.2
  have f:=row_cell hcell 0
  have r:=row_free hcell 0
  simp at f
  have hpn:¬ w.heap.size=p:=by omega
  have hp0:=parts_bd k
  have HW:=lk_world hcell hp (.int .i64 ((c:Int)+1)) #[.int .i64 k,.int .i64 n,.slice ao len cap] 26
  have HWW:Hid (∀ nq,_):=HW
  clear HW hcell
  have hl0:(((l:Int)+1) == 0)=false:=by simp;omega
  have h60:decide (60 < (c:Int)+1)=false:=by simp;omega
  have hlen2:=nodeOk_len hyes
  obtain ⟨hlen,hkn⟩:=nodeOk_parts hyes
  have hb:((len:Int) != parts k)=false:=by simp [hlen]
  clear hlen hyes
  have HD:∃ (b1 b2:Bool),(k == 3)=b1∧(k != 3)=!b1∧(b1=true→in01 n=true)∧(b1=false→(n != 0)=b2)∧b2=false:=by
    rcases hkn with ⟨hk,hin⟩ | ⟨hk,hn⟩
    · exact ⟨true,false,by simp [hk],by simp [hk],fun _=>hin,by simp,rfl⟩
    · exact ⟨false,false,by simp [hk],by simp [hk],by simp,fun _=>by simp [hn],rfl⟩
  clear hkn
  obtain ⟨b1,b2,hk3,hkn,hin,hn,rfl⟩:=HD
  cases b1
  case' false=>(replace hn:=hn rfl;clear hin;simp only [Bool.not_false] at hkn)
  case' true=>(replace hin:=hin rfl;clear hn;simp only [Bool.not_true] at hkn)
  all_goals
    go_enter Try.func95,Try.ntmps95
    go_wp2_with fail
    go_quiet ((first | (go_at_call 72;exact Calls.quiet_of_same (l1Args_any _ _)) | (go_at_call 94;exact Calls.quiet_of_same (l1In_any _ _))))
    go_wp2_with fail
    clear hk3 hkn hb f r h60 hl0
    try clear hin
    try clear hn
    go_loopw [7] (fun i wr=>∃ j m:Nat,j≤len∧i=.int .i64 j∧c+1+m≤60∧LkRel w wr l p c j len cap k n ao m ts) (fun i _=>len - (intOf i).toNat)
    case atStart=>exact ⟨0,0,by omega,rfl,by omega,⟨(HWW.out nq).1,(HWW.out nq).2.2,by have:=(HWW.out nq).2.1;simpa using this,rfl⟩⟩
    case round =>
      obtain ⟨j,m,hj,rfl,hm,hR⟩:=hrel
      have hg:=hR.grown
      have hsz:=hg.size
      have x2:=row_cell hR.box 2
      simp at x2
      by_cases hlt:j < len
      · have hlt':j < ts.length:=by have:=HL.out;omega
        obtain ⟨b,o,rfl,_,hbB,ao1,len1,cap1,c0,c1,c2,hs1⟩:=hs.get j hlt'
        have e0:=(gcell hg (by omega) (by omega) _).trans c0
        have e1:=(gcell hg (by omega) (by omega) _).trans c1
        have e2:=(gcell hg (by omega) (by omega) _).trans c2
        have hs2:=hs1.grown hg hBp hp
        have hcl:=hR.cell
        have hcl':wr.heap[p]?=some (.cells #[.int .i64 ((c+1+m:Nat):Int)] 3 (0,0)):=by rw [hcl];simp
        have HF:Hid (_=_):=nodesL_take (nodesW l) ts j hlt' m hR.nodes
        clear hcl
        go_wp2_with fail
        refine (IH _ _ _ _ _ _ _ _ _ _ _ _ hBp (by omega) hcl' (by omega) hs2).mono ?_
        rintro e w2 ⟨rfl,hg2,c',hc2,hc3⟩
        have hg3:=grown_trans hg hg2
        have hbox2:w2.heap[w.heap.size]?=_:=(hg2.block _ (by have:=(Array.getElem?_eq_some_iff.1 hR.box).1;exact this) (by simp;omega)).trans hR.box
        cases hv:lookOk l (c+1+m) ⟨ts[j].K,ts[j].N,ts[j].A⟩ with
        | false =>
          clear hc3 hcl'
          go_wp2_with fail
          go_ret
          have hno:lookOk (l+1) c ⟨k,n,ts⟩=false:=by
            rw [tr_eta] at hv
            unfold lookOk
            rw [HO.out]
            cases hnl:nodesL (nodesW l) ts with
            | none=>rfl
            | some s =>
              cases hf:nodesW l ts[j] with
              | none=>rw [nodesL_none _ _ j hlt' hf] at hnl;cases hnl
              | some a =>
                have h1:=nodesL_part _ _ j hlt' m a s hR.nodes hf hnl
                rw [lookOk_some hf] at hv
                simp at hv ⊢
                omega
          exact ⟨ret_bool hno.symm,hg3,_,hc2,fun m hm hle=>(lookOk_no hno m hm hle).elim⟩
        | true =>
          have hN:∃ a,nodesW l ts[j]=some a∧c+1+m+a≤60∧c'=((c+1+m:Nat):Int)+a:=by
            have hv':=hv
            rw [tr_eta] at hv'
            cases hf:nodesW l ts[j] with
            | none=>simp [lookOk,hf] at hv'
            | some a =>
              rw [lookOk_some hf] at hv'
              have hle:c+1+m+a≤60:=by simpa using hv'
              exact ⟨a,rfl,hle,hc3 a (by rw [tr_eta];exact hf) hle⟩
          obtain ⟨a,hfa,hle,hce⟩:=hN
          have hT:nodesL (nodesW l) (ts.take (j+1))=some (m+a):=by rw [HF.out,hfa];rfl
          have hR2:LkRel w w2 l p c (j+1) len cap k n (some ⟨b,o,none⟩) (m+a) ts:=⟨hg3,hbox2,by rw [hc2,hce];simp;omega,hT⟩
          clear hc3 hce hT hfa hcl' hc2 hbox2 x2 hR
          go_wp2_with fail
          go_roundw
          case rel=>exact ⟨j+1,m+a,by omega,by go_num,by omega,hR2⟩
          case measure=>simp [intOf];omega
      · have hNn:nodesL (nodesW l) ts=some m:=by have h1:=HL.out;have h2:=hR.nodes;rw [List.take_of_length_le (by omega)] at h2;exact h2
        have HN:Hid (nodesL (nodesW l) ts=some m):=hNn
        clear hNn
        have hcl:Hid (_=_):=hR.cell
        go_wp2_with fail
        go_ret
        have hw:nodesW (l+1) ⟨k,n,ts⟩=some (1+m):=by rw [HO.out,HN.out];rfl
        refine ⟨ret_bool (by rw [lookOk_some hw];simp;omega),hg,_,hcl.out,fun m' hm' _=>?_⟩
        rw [hw] at hm'
        cases hm'
        omega
theorem lk_any:∀ l,l≤6→SaidLk l:=by
  intro l
  induction l with
  | zero=>intro _;exact lk_zero
  | succ l ih =>
    intro h d L B p c k n ao len cap ts w hBp hp hcell hc hs
    have e:((l+1:Nat):Int)=(l:Int)+1:=by omega
    rw [e]
    by_cases hno:60 < c+1∨nodeOk k n len=false
    · exact lk_no l d L B p c k n ao len cap ts w hBp hp hcell hc (by omega) hs hno
    · exact lk_yes l (ih (by omega)) d L B p c k n ao len cap ts w hBp hp hcell (by omega) (by omega) hs (by simpa using fun h=>hno (Or.inr h))
end Go.Proofs.Ytleghjgpnefliaa

/-
  What the model's 'TyOk' comes to: the same as the program's.
-/
namespace Go.Proofs.Ytleghjgpnefliaa
open Go.RowKit
set_option linter.unusedVariables false
set_option linter.unusedSimpArgs false
theorem look_ok (t:Tr):lookOk 6 0 t=okT t:=by
  unfold lookOk okT nodesT
  cases h:nodesW 6 t with
  | none=>simp
  | some m =>
    have:=nodesW_pos _ _ _ h
    by_cases h6:m≤60 <;> simp [h6]
    omega
set_option maxHeartbeats 400000 in
theorem sTyOk_any (d L B:Nat) (k n:Int) (ao:Option Addr) (len cap:Nat) (ts:List Tr) (w:World) (hB:B≤w.heap.size) (hs:Hs L B w d ao len ts) :
    Calls Try.prog 88 #[.agg #[.int .i64 k,.int .i64 n,.slice ao len cap]] w fun e w'=>e=.returned (.bool (okT ⟨k,n,ts⟩))∧Below w.heap.size w w':=by
  obtain ⟨X,hX⟩:∃ X,X=((w.alloc (.cells #[.int .i64 k,.int .i64 n,.slice ao len cap] 26)).alloc (.cells #[.int .i64 0] 3)):=⟨_,rfl⟩
  have hXs:X.heap.size=w.heap.size+2:=by rw [hX];simp
  have hXb:Below w.heap.size w X:=by rw [hX];exact ((Below.refl _ _).alloc (Nat.le_refl _) _).alloc (by simp) _
  have hX1:X.heap[w.heap.size+1]?=some (.cells #[.int .i64 ((0:Nat):Int)] 3 (0,0)):=by rw [hX];exact heap_new (by simp)
  have hs1:=hs.below hXb hB
  have HX:Hid (X=_):=hX
  have HX1:Hid (_=_):=hX1
  clear hX hX1
  go_enter Try.func88,Try.ntmps88
  go_wp2_with fail
  rw [← HX.out]
  refine (lk_any 6 (by omega) _ _ _ _ _ _ _ _ _ _ _ _ (by omega) (by omega) HX1.out (by omega) hs1).mono ?_
  rintro e w1 ⟨rfl,hg,_⟩
  rw [look_ok]
  have hb2:Below w.heap.size w w1:=hXb.grown hg (by omega) (by simp)
  go_wp2_with fail
  go_ret
  exact ⟨rfl,hb2⟩
end Go.Proofs.Ytleghjgpnefliaa

/-
  What 'varsWithin', 'VarsOf', 'Ground' of the program, and 'l1Vars', 'VarsOf', 'Ground' of the model come to.
-/
namespace Go.Proofs.Ytleghjgpnefliaa
open Go.RowKit
set_option linter.unusedVariables false
set_option linter.unusedSimpArgs false
theorem nodesW_inv {l:Nat} {k n:Int} {ts:List Tr} {m:Nat} (h:nodesW (l+1) ⟨k,n,ts⟩=some m):nodeOk k n ts.length=true∧∀ j (hj:j < ts.length),∃ a,nodesW l ts[j]=some a:=by
  simp only [nodesW] at h
  split at h
  · rename_i hok
    refine ⟨hok,fun j hj=>?_⟩
    cases hf:nodesW l ts[j] with
    | some a=>exact ⟨a,rfl⟩
    | none=>rw [nodesL_none _ _ j hj hf] at h;simp at h
  · simp at h
def var0 (k n:Int):Nat:=if k=3 then (n+1).toNat else 0
def varsW:Nat→Tr→Nat
  | 0,_=>0
  | l+1,t=>(t.A.map (varsW l)).foldl max (var0 t.K t.N)
def varsTo (l:Nat) (k n:Int) (ts:List Tr) (j:Nat):Nat:=((ts.take j).map (varsW l)).foldl max (var0 k n)
theorem varsTo_zero (l:Nat) (k n:Int) (ts:List Tr):varsTo l k n ts 0=var0 k n:=by simp [varsTo]
theorem varsTo_succ (l:Nat) (k n:Int) (ts:List Tr) (j:Nat) (h:j < ts.length):varsTo l k n ts (j+1)=max (varsTo l k n ts j) (varsW l ts[j]):=by
  unfold varsTo
  rw [List.take_succ_eq_append_getElem h,List.map_append,List.foldl_append]
  rfl
theorem varsTo_all (l:Nat) (k n:Int) (ts:List Tr) (j:Nat) (h:ts.length≤j):varsTo l k n ts j=varsW (l+1) ⟨k,n,ts⟩:=by
  unfold varsTo
  rw [List.take_of_length_le h]
  rfl
theorem var0_of {k n:Int} {len:Nat} (h:nodeOk k n len=true):(k=3→0≤n∧n≤1):=by
  intro hk
  obtain ⟨h1,h2⟩:=nodeOk_parts h
  rcases h2 with ⟨_,h2⟩ | ⟨h2,_⟩
  · unfold in01 at h2;simpa using h2
  · exact absurd hk h2
def SaidVW (f l:Nat):Prop:=∀ (d L B:Nat) (k n:Int) (ao:Option Addr) (len cap:Nat) (ts:List Tr) (m:Nat) (w:World),B≤w.heap.size→Hs L B w d ao len ts→nodesW l ⟨k,n,ts⟩=some m →
    Calls Try.prog f #[.agg #[.int .i64 k,.int .i64 n,.slice ao len cap]] w fun e w'=>e=.returned (.int .i64 (varsW l ⟨k,n,ts⟩))∧Below w.heap.size w w'
theorem vw_zero (f:Nat):SaidVW f 0:=by
  intro d L B k n ao len cap ts m w hB hs hm
  simp [nodesW] at hm
def varsT (t:Tr):Nat:=if okT t=true then varsW 6 t else 0
theorem okT_some {t:Tr} (h:okT t=true):∃ m,nodesW 6 t=some m:=by
  cases hm:nodesW 6 t with
  | some m=>exact ⟨m,rfl⟩
  | none=>simp [okT,nodesT,hm] at h
end Go.Proofs.Ytleghjgpnefliaa

/-
  The tokens and the text of a type, in plain words: no walk, no statement.
-/
namespace Go.Proofs.Ytleghjgpnefliaa
open Go.RowKit
set_option linter.unusedVariables false
set_option linter.unusedSimpArgs false
theorem okT_le {t:Tr} (h:okT t=true):∃ m,nodesW 6 t=some m∧m≤60:=by
  cases hm:nodesW 6 t with
  | none=>simp [okT,nodesT,hm] at h
  | some m =>
    refine ⟨m,rfl,?_⟩
    by_cases h6:m≤60
    · exact h6
    · simp [okT,nodesT,hm,h6] at h
end Go.Proofs.Ytleghjgpnefliaa

/-
  Terms as forms: the value that 'formOf' answers of a term that is right; no memory is in it but that of its types.
-/
namespace Go.Proofs.Ytleghjgpnefliaa
open Go.RowKit
set_option linter.unusedVariables false
set_option linter.unusedSimpArgs false
theorem nodesM_inv {l:Nat} {t:Tm} {m:Nat} (h:nodesM (l+1) t=some m):nodeM t=true∧∀ j (hj:j < t.A.length),∃ a,nodesM l t.A[j]=some a:=by
  simp only [nodesM] at h
  cases hn:nodeM t with
  | false=>simp [hn] at h
  | true =>
    refine ⟨rfl,fun j hj=>?_⟩
    simp only [hn,if_true] at h
    cases hg:nodesG (nodesM l) t.A with
    | none=>simp [hg] at h
    | some s =>
      cases hj':nodesM l t.A[j] with
      | some a=>exact ⟨a,rfl⟩
      | none=>rw [nodesG_none (nodesM l) t.A j hj hj'] at hg;cases hg
theorem nodeM_kinds {t:Tm} (h:nodeM t=true):1≤t.K∧t.K≤17∧(t.A.length:Int)=shP t.K:=by
  simp only [nodeM,Bool.and_eq_true,decide_eq_true_eq,kOk] at h
  exact ⟨h.1.1.1.1.1.1,h.1.1.1.1.1.2,h.1.1.1.2⟩
theorem okM_some {t:Tm} (h:okM t=true):∃ m,nodesM 24 t=some m∧m≤150:=by
  unfold okM at h
  cases hm:nodesM 24 t with
  | none=>simp [hm,lid] at h
  | some m =>
    refine ⟨m,rfl,?_⟩
    by_cases h6:m≤150
    · exact h6
    · simp [hm,lid,h6] at h
end Go.Proofs.Ytleghjgpnefliaa

/-
  What the program's 'isName', 'namesOk', 'sameTyNode' (against the zero type), 'typesOk' come to.
-/
namespace Go.Proofs.Ytleghjgpnefliaa
open Go.RowKit Go.PlainAid
set_option linter.unusedVariables false
set_option linter.unusedSimpArgs false
theorem nameW_size {s:ByteArray} (h:¬ (1≤s.size∧s.size≤8)):nameW s=false:=by
  unfold nameW;rw [Bool.eq_false_iff];intro h1;simp only [Bool.and_eq_true,decide_eq_true_eq] at h1;omega
theorem nameW_first {s:ByteArray} (h:isLow (bt s 0)=false):nameW s=false:=by simp [nameW,h]
theorem nameW_all {s:ByteArray} (h1:1≤s.size) (h8:s.size≤8) (h:isLow (bt s 0)=true):nameW s=allB s s.size chOk:=by simp [nameW,h1,h8,h]
theorem isLow_yes {x:Int} (h:97≤x) (h':x≤122):isLow x=true:=by simp [isLow];omega
theorem isLow_no {x:Int} (h:¬ (97≤x∧x≤122)):isLow x=false:=by simp only [isLow,decide_eq_false_iff_not];exact h
set_option maxHeartbeats 1000000 in
theorem isName_any (s:ByteArray) (w:World) (hs:s.size≤9223372036854775807):Calls Try.prog 83 #[.string s] w fun e w'=>e=.returned (.bool (nameW s))∧w'=w:=by
  have hb:=get_bt s
  have hb0:=bt_nonneg s 0
  by_cases h0:s.size=0
  · have HN:Hid (nameW s=false):=nameW_size (by omega)
    have hz:((s.size:Int) == 0)=true:=by simp [h0]
    clear h0
    go_enter Try.func83,Try.ntmps83
    go_wp2_with fail
    go_ret
    exact ⟨ret_bool HN.out.symm,rfl⟩
  have hz:((s.size:Int) == 0)=false:=by rw [beq_eq_false_iff_ne];omega
  by_cases h8:8 < s.size
  · have HN:Hid (nameW s=false):=nameW_size (by omega)
    go_enter Try.func83,Try.ntmps83
    go_wp2_with fail
    go_ret
    exact ⟨ret_bool HN.out.symm,rfl⟩
  by_cases hlo:bt s 0 < 97
  · have HN:Hid (nameW s=false):=nameW_first (isLow_no (by omega))
    go_enter Try.func83,Try.ntmps83
    go_wp2_with fail
    go_ret
    exact ⟨ret_bool HN.out.symm,rfl⟩
  by_cases hhi:122 < bt s 0
  · have HN:Hid (nameW s=false):=nameW_first (isLow_no (by omega))
    go_enter Try.func83,Try.ntmps83
    go_wp2_with fail
    go_ret
    exact ⟨ret_bool HN.out.symm,rfl⟩
  have HN:Hid (nameW s=allB s s.size chOk):=nameW_all (by omega) (by omega) (isLow_yes (by omega) (by omega))
  go_enter Try.func83,Try.ntmps83
  go_wp2_with fail
  go_loopw [26] (fun i wr=>∃ k:Nat,k≤s.size∧i=.int .i64 k∧Hid (allB s k chOk=true)∧wr=w) (fun i _=>s.size - (intOf i).toNat)
  case atStart=>exact ⟨0,by omega,rfl,rfl,rfl⟩
  case round =>
    obtain ⟨k,hk,rfl,HA,rfl⟩:=hrel
    by_cases hlt:k < s.size
    · have HS:Hid (allB s (k+1) chOk=(allB s k chOk && chOk (bt s k))):=allB_succ s k chOk
      have HF:Hid (chOk (bt s k)=false→allB s s.size chOk=false):=fun hf=>allB_false k hlt hf
      have hbk:=bt_nonneg s k
      obtain ⟨x,hx⟩:∃ x,x=bt s k:=⟨_,rfl⟩
      have hbk':((s[k]'hlt).toNat:Int)=x:=by rw [hx];exact hb k hlt
      have HX:Hid (x=bt s k):=hx
      rw [← hx] at HS HF hbk
      clear hx hb
      by_cases c1:97≤x
      all_goals by_cases c2:x≤122
      all_goals by_cases c3:48≤x
      all_goals by_cases c4:x≤57
      all_goals by_cases c5:x=46
      all_goals try omega
      all_goals
        first
          | (have hyes:Hid (chOk x=true):=(by show chOk x=true;simp only [chOk,isLow,isDig,Bool.or_eq_true,decide_eq_true_eq];omega)
             go_wp2_with fail
             go_roundw
             case rel=>exact ⟨k+1,by omega,by go_num,(by show _=_;rw [HS.out,HA.out,hyes.out];rfl),(by trivial)⟩
             case measure=>simp [intOf];omega)
          | (have hno:Hid (chOk x=false):=(by show chOk x=false;rw [Bool.eq_false_iff];intro hc;simp only [chOk,isLow,isDig,Bool.or_eq_true,decide_eq_true_eq] at hc;omega)
             go_wp2_with fail
             go_ret
             exact ⟨ret_bool (by rw [HN.out,HF.out hno.out]),rfl⟩)
    · have hke:k=s.size:=by omega
      have HK:Hid (allB s s.size chOk=true):=by have:=HA.out;rw [hke] at this;exact this
      clear hke
      go_wp2_with fail
      go_ret
      exact ⟨ret_bool (by rw [HN.out,HK.out]),rfl⟩
theorem isNil_size (s:ByteArray):isNil s=decide (s.size=0):=by
  unfold isNil
  rw [ByteArray.toList_eq,Bool.eq_iff_iff,List.isEmpty_iff,decide_eq_true_eq]
  have hl:s.data.toList.length=s.size:=by cases s;rfl
  rw [← hl]
  exact List.length_eq_zero_iff.symm
set_option maxHeartbeats 1000000 in
theorem namesOk_any (n:Int) (k m:Int) (s z:ByteArray) (v4 v5 v6 v7 v8:Value) (w:World) (hs:s.size≤9223372036854775807) (hz:z.size≤9223372036854775807) :
    Calls Try.prog 69 #[.agg #[.int .i64 k,.int .i64 m,.string s,.string z,v4,v5,v6,v7,v8],.int .i64 n] w fun e w'=>e=.returned (.bool (namesB n s z))∧Below w.heap.size w w':=by
  have hbel:Below w.heap.size w (w.alloc (.cells #[.int .i64 k,.int .i64 m,.string s,.string z,v4,v5,v6,v7,v8] 29)):=(Below.refl _ _).alloc (Nat.le_refl _) _
  by_cases h0:n=0
  · subst h0
    go_enter Try.func69,Try.ntmps69
    go_wp2_with fail
    all_goals
      go_ret
      exact ⟨ret_bool (by simp_all [namesB,isNil]),hbel⟩
  by_cases h1:n=1
  · subst h1
    clear h0
    cases h2:nameW s
    all_goals
      have HN:Hid (nameW s=_):=h2
      clear h2
      go_enter Try.func69,Try.ntmps69
      go_wp2_with (go_at_call 83;refine (isName_any _ _ hs).mono ?_;rintro e w' ⟨rfl,rfl⟩;rw [HN.out])
      all_goals
        go_ret
        exact ⟨ret_bool (by have:=HN.out;simp_all [namesB,isNil]),hbel⟩
  · have b0:(n == 0)=false:=beq_eq_false_iff_ne.2 h0
    have b1:(n == 1)=false:=beq_eq_false_iff_ne.2 h1
    have HB:Hid (namesB n s z=(nameW s && nameW z && !(s.toList == z.toList))):=by show _=_;simp [namesB,h0,h1]
    clear h0 h1
    cases h2:nameW s
    all_goals cases h3:nameW z
    all_goals cases h4:(s.toList == z.toList)
    all_goals
      have HN:Hid (nameW s=_):=h2
      have HN2:Hid (nameW z=_):=h3
      have HN3:Hid ((s.toList == z.toList)=_):=h4
      rw [h2,h3,h4] at HB
      clear h2 h3
      go_enter Try.func69,Try.ntmps69
      go_wp2_with fail
      refine (isName_any _ _ hs).mono ?_
      rintro e w' ⟨rfl,rfl⟩
      rw [HN.out]
      go_wp2_with fail
      try (refine (isName_any _ _ hz).mono ?_;rintro e w' ⟨rfl,rfl⟩;rw [HN2.out];go_wp2_with fail)
      go_ret
      exact ⟨ret_bool (by rw [HB.out];rfl),hbel⟩
set_option maxHeartbeats 1000000 in
theorem sameTyNode_zero (k n:Int) (ao:Option Addr) (len cap:Nat) (w:World) (hl:len≤9223372036854775807) :
    Calls Try.prog 67 #[.agg #[.int .i64 k,.int .i64 n,.slice ao len cap],.agg #[.int .i64 0,.int .i64 0,.slice none 0 0]] w fun e w'=>e=.returned (.bool ((k == 0) && (n == 0) && ((len:Int) == 0)))∧Below w.heap.size w w':=by
  have hbel:Below w.heap.size w ((w.alloc (.cells #[.int .i64 k,.int .i64 n,.slice ao len cap] 26)).alloc (.cells #[.int .i64 0,.int .i64 0,.slice none 0 0] 26)):=((Below.refl _ _).alloc (Nat.le_refl _) _).alloc (by simp) _
  cases h1:(k == 0)
  all_goals cases h2:(n == 0)
  all_goals cases h3:((len:Int) == 0)
  all_goals
    go_enter Try.func67,Try.ntmps67
    go_wp2_with fail
    go_ret
    exact ⟨rfl,hbel⟩
def typesHead (typed:Bool) (ts:Int) (t:Tr) (n:Nat):Bool:=(if typed then okT t else zeroT t) && decide ((n:Int)≤ts)
theorem all_take {l:List Tr} {f:Tr→Bool} {k:Nat} (h:k < l.length):(l.take (k+1)).all f=((l.take k).all f && f l[k]):=by
  rw [List.take_succ_eq_append_getElem h];simp only [List.all_append,List.all_cons,List.all_nil,Bool.and_true]
theorem all_not {l:List Tr} {f:Tr→Bool} {k:Nat} (h:k < l.length) (hf:f l[k]=false):l.all f=false:=by
  rw [Bool.eq_false_iff];intro h1
  have:=List.all_eq_true.1 h1 l[k] (List.getElem_mem h)
  rw [hf] at this;cases this
set_option maxHeartbeats 1000000 in
theorem typesOk_any (D L B:Nat) (k m:Int) (s z:ByteArray) (tk tn:Int) (a1:Option Addr) (l1 c1:Nat) (a2:Option Addr) (l2 c2:Nat) (v8:Value) (tA tS:List Tr) (n1 n2 n3:Int) (typed:Bool) (ts n5:Int) (w:World) (hts:0≤ts) (hts2:ts≤2)
    (hB:B≤w.heap.size) (h1:Hs L B w D a1 l1 tA) (h2:Hs L B w D a2 l2 tS) :
    Calls Try.prog 70 #[.agg #[.int .i64 k,.int .i64 m,.string s,.string z,.int .i64 tk,.int .i64 tn,.slice a1 l1 c1,.slice a2 l2 c2,v8],.agg #[.int .i64 n1,.int .i64 n2,.int .i64 n3,.bool typed,.int .i64 ts,.int .i64 n5]] w fun e w'=>e=.returned (.bool (typesHead typed ts ⟨tk,tn,tA⟩ l2 && tS.all okT))∧Below w.heap.size w w':=by
  have hl1:=h1.len.2
  have hl2:=h2.len.2
  have HL:Hid (l2=tS.length):=h2.len.1
  have HL1:Hid (l1=tA.length):=h1.len.1
  obtain ⟨X,hX⟩:∃ X,X=((w.alloc (.cells #[.int .i64 k,.int .i64 m,.string s,.string z,.int .i64 tk,.int .i64 tn,.slice a1 l1 c1,.slice a2 l2 c2,v8] 29)).alloc (.cells #[.int .i64 n1,.int .i64 n2,.int .i64 n3,.bool typed,.int .i64 ts,.int .i64 n5] 101)):=⟨_,rfl⟩
  have hbel:Below w.heap.size w X:=by rw [hX];exact ((Below.refl _ _).alloc (Nat.le_refl _) _).alloc (by simp) _
  have hXs:X.heap.size=w.heap.size+2:=by rw [hX];simp
  have hX0:X.heap[w.heap.size]?=some (.cells #[.int .i64 k,.int .i64 m,.string s,.string z,.int .i64 tk,.int .i64 tn,.slice a1 l1 c1,.slice a2 l2 c2,v8] 29 (0,0)):=by
    rw [hX,Below.heap_alloc _ _ _ (by simp)];exact heap_new rfl
  have hX1:X.heap[w.heap.size+1]?=some (.cells #[.int .i64 n1,.int .i64 n2,.int .i64 n3,.bool typed,.int .i64 ts,.int .i64 n5] 101 (0,0)):=by
    rw [hX];exact heap_new (by simp)
  have g1:=h1.below hbel hB
  have HX:Hid (X=_):=hX
  clear hX
  cases typed
  case' false =>
    have HT:Hid (∃ hd,typesHead false ts ⟨tk,tn,tA⟩ l2=(hd && decide ((l2:Int)≤ts))∧((tk == 0) && (tn == 0) && ((l1:Int) == 0))=hd):=⟨zeroT ⟨tk,tn,tA⟩,rfl,by rw [HL1.out];rfl⟩
    obtain ⟨hd,HT1,HT2⟩:=HT.out
    replace HT1:Hid (_=_):=HT1
    replace HT2:Hid (_=_):=HT2
    go_enter Try.func70,Try.ntmps70
    go_wp2_with fail
    rw [← HX.out]
    refine (sameTyNode_zero _ _ _ _ _ _ hl1).mono ?_
    rintro e w1 ⟨rfl,hb1⟩
    rw [HT2.out]
  case' true =>
    have HT:Hid (∃ hd,typesHead true ts ⟨tk,tn,tA⟩ l2=(hd && decide ((l2:Int)≤ts))∧okT ⟨tk,tn,tA⟩=hd):=⟨okT ⟨tk,tn,tA⟩,rfl,rfl⟩
    obtain ⟨hd,HT1,HT2⟩:=HT.out
    replace HT1:Hid (_=_):=HT1
    replace HT2:Hid (_=_):=HT2
    go_enter Try.func70,Try.ntmps70
    go_wp2_with fail
    rw [← HX.out]
    refine (tyOk_any D L B _ _ _ _ _ tA _ (by omega) g1).mono ?_
    rintro e w1 ⟨rfl,hb1⟩
    rw [HT2.out]
  all_goals
    clear HT HT2
    have hz1:=hb1.size
    have hbw1:Below w.heap.size w w1:=hbel.trans (hb1.mono (by omega))
    have y0:=(hb1.block _ (by omega)).trans hX0
    have y1:=(hb1.block _ (by omega)).trans hX1
    obtain ⟨f0,f1,f2,f3,f4,f5,f6,f7,f8⟩:=Nine.box y0
    have q3:=row_cell y1 3
    have q4:=row_cell y1 4
    simp only [List.getElem?_toArray,List.getElem?_cons_zero,List.getElem?_cons_succ] at q3 q4
    cases hd
    · go_wp2_with fail
      go_ret
      exact ⟨ret_bool (by rw [HT1.out];rfl),hbw1⟩
    by_cases hgt:ts < l2
    · go_wp2_with fail
      go_ret
      exact ⟨ret_bool (by rw [HT1.out,decide_eq_false (by omega)];rfl),hbw1⟩
    replace HT1:Hid (_=true):=HT1.out.trans (by rw [decide_eq_true (by omega)];rfl)
    go_wp2_with fail
    go_loopw [38] (fun i wr=>∃ j:Nat,j≤l2∧i=.int .i64 j∧Hid ((tS.take j).all okT=true)∧Below w1.heap.size w1 wr) (fun i _=>l2 - (intOf i).toNat)
    case atStart=>exact ⟨0,by omega,rfl,rfl,Below.refl _ _⟩
    case round =>
      obtain ⟨j,hj,rfl,HA,hbr⟩:=hrel
      have hszr:=hbr.size
      by_cases hlt:j < l2
      · have hlt':j < tS.length:=by have:=HL.out;omega
        obtain ⟨b,o,rfl,_,hbB,ao1,len1,cap1,x0,x1,x2,hs1⟩:=h2.get j hlt'
        have hbw:Below w.heap.size w wr:=hbw1.trans (hbr.mono (by omega))
        have e0:=(bcell hbw (by omega) _).trans x0
        have e1:=(bcell hbw (by omega) _).trans x1
        have e2:=(bcell hbw (by omega) _).trans x2
        have hba:Below w.heap.size w (wr.alloc (.cells #[.int .i64 tS[j].K,.int .i64 tS[j].N,.slice ao1 len1 cap1] 26)):=hbw.alloc (by omega) _
        have hs2:=hs1.below hba hB
        have HT:Hid ((tS.take (j+1)).all okT=((tS.take j).all okT && okT tS[j])):=all_take hlt'
        have HF:Hid (okT tS[j]=false→tS.all okT=false):=fun h=>all_not hlt' h
        have HE:Hid (okT ⟨tS[j].K,tS[j].N,tS[j].A⟩=okT tS[j]):=by show _=_;rw [tr_eta]
        cases hok:okT tS[j]
        · rw [hok] at HE
          replace HF:Hid (_=_):=HF.out hok
          clear hok
          go_wp2_with fail
          refine (tyOk_any _ _ _ _ _ _ _ _ _ _ (by simp;omega) hs2).mono ?_
          rintro e w2 ⟨rfl,hb2⟩
          rw [HE.out]
          go_wp2_with fail
          go_ret
          exact ⟨ret_bool (by rw [HF.out,Bool.and_false]),hba.trans (hb2.mono (by simp;omega))⟩
        · rw [hok] at HE HT
          clear hok
          go_wp2_with fail
          refine (tyOk_any _ _ _ _ _ _ _ _ _ _ (by simp;omega) hs2).mono ?_
          rintro e w2 ⟨rfl,hb2⟩
          rw [HE.out]
          have hbr2:Below w1.heap.size w1 w2:=(hbr.alloc (by omega) _).trans (hb2.mono (by simp;omega))
          go_wp2_with fail
          go_roundw
          case rel=>exact ⟨j+1,by omega,by go_num,(by show _=_;rw [HT.out,HA.out];rfl),hbr2⟩
          case measure=>simp [intOf];omega
      · have HK:Hid (tS.all okT=true):=by have h1:=HL.out;have h2:=HA.out;rw [List.take_of_length_le (by omega)] at h2;exact h2
        go_wp2_with fail
        go_ret
        exact ⟨ret_bool (by rw [HT1.out,HK.out];rfl),hbw1.trans (hbr.mono (by omega))⟩
end Go.Proofs.Ytleghjgpnefliaa

/-
  The tokens and the text of a term, in plain words: no walk, no statement.
-/
namespace Go.Proofs.Ytleghjgpnefliaa
open Go.RowKit
set_option linter.unusedVariables false
set_option linter.unusedSimpArgs false
def sb (s:ByteArray):List UInt8:=s.data.toList
structure NodeIs (t:Tm):Prop where
  k1:1≤t.K
  k17:t.K≤17
  n1:shL t.K≤t.N
  n2:t.N≤shM t.K
  a:(t.A.length:Int)=shP t.K
  nm:namesB (shN t.K) t.S t.Z=true
  ty:shT t.K=true→okT t.T=true
  zt:shT t.K=false→t.T.K=0
  ts:(t.Ts.length:Int)≤shS t.K
  each:∀ x ∈ t.Ts,okT x=true
theorem NodeIs.of {t:Tm} (h:nodeM t=true):NodeIs t:=by
  simp only [nodeM,Bool.and_eq_true,decide_eq_true_eq,kOk,typesB] at h
  obtain ⟨⟨⟨⟨⟨hk,hn⟩,ha⟩,_⟩,hnm⟩,⟨hty,hts⟩,heach⟩:=h
  refine ⟨hk.1,hk.2,hn.1,hn.2,ha,hnm,fun hs=>?_,fun hs=>?_,hts,fun x hx=>List.all_eq_true.1 heach x hx⟩
  · rw [if_pos hs] at hty;exact hty
  · rw [if_neg (by simp [hs])] at hty
    simp only [zeroT,Bool.and_eq_true,beq_iff_eq] at hty
    exact hty.1.1
theorem nameW_sz {s:ByteArray} (h:nameW s=true):1≤s.size∧s.size≤8:=by
  simp only [nameW,Bool.and_eq_true,decide_eq_true_eq] at h
  exact ⟨h.1.1.1,h.1.1.2⟩
theorem NodeIs.names {t:Tm} (h:NodeIs t):t.S.size≤8∧t.Z.size≤8:=by
  have h1:=h.nm
  have hz:∀ s:ByteArray,isNil s=true→s.size≤8:=fun s hs=>by
    rw [isNil_size] at hs
    have:=of_decide_eq_true hs
    omega
  unfold namesB at h1
  split at h1
  · simp only [Bool.and_eq_true] at h1;exact ⟨hz _ h1.1,hz _ h1.2⟩
  · split at h1
    · simp only [Bool.and_eq_true] at h1;exact ⟨(nameW_sz h1.1).2,hz _ h1.2⟩
    · simp only [Bool.and_eq_true] at h1;exact ⟨(nameW_sz h1.1.1).2,(nameW_sz h1.1.2).2⟩
theorem all_nil {n:Nat}:∀ x ∈ ([]:List (List UInt8)),x.length≤n:=fun x hx=>by cases hx
theorem all_cons {y:List UInt8} {a:List (List UInt8)} {n:Nat} (hy:y.length≤n) (ha:∀ x ∈ a,x.length≤n):∀ x ∈ y :: a,x.length≤n:=fun x hx=>by
  rcases List.mem_cons.1 hx with rfl | hx
  · exact hy
  · exact ha x hx
theorem nodesM_inv2 {l:Nat} {t:Tm} {m:Nat} (h:nodesM (l+1) t=some m):NodeIs t∧(∃ b,nodesG (nodesM l) t.A=some b∧m=1+b):=by
  simp only [nodesM] at h
  cases hn:nodeM t with
  | false=>simp [hn] at h
  | true =>
    refine ⟨NodeIs.of hn,?_⟩
    simp only [hn,if_true] at h
    cases hz:nodesG (nodesM l) t.A with
    | none=>simp [hz] at h
    | some b=>simp [hz] at h;exact ⟨b,rfl,h.symm⟩
end Go.Proofs.Ytleghjgpnefliaa

/-
  How much a right term is of: no walk.
-/
namespace Go.Proofs.Ytleghjgpnefliaa
open Go.RowKit Go.PlainAid
set_option linter.unusedVariables false
set_option linter.unusedSimpArgs false
theorem nodes_cntW:∀ (l:Nat) (t:Tr) (m:Nat),nodesW l t=some m→cnt t=m:=by
  intro l
  induction l with
  | zero=>intro t m h;simp [nodesW] at h
  | succ l ih =>
    intro t m h
    simp only [nodesW] at h
    split at h
    · cases h1:nodesL (nodesW l) t.A with
      | none=>simp [h1] at h
      | some s =>
        simp [h1] at h
        have key:∀ (ts:List Tr) (s:Nat),nodesL (nodesW l) ts=some s→cntS ts=s:=by
          intro ts
          induction ts with
          | nil=>intro s hs;simp [nodesL] at hs;simp [cntS];omega
          | cons x ts ihl =>
            intro s hs
            simp only [nodesL] at hs
            cases hx:nodesW l x with
            | none=>simp [hx] at hs
            | some a =>
              cases hy:nodesL (nodesW l) ts with
              | none=>simp [hx,hy] at hs
              | some b =>
                simp [hx,hy] at hs
                have h2:=ihl b hy
                have h3:=ih x a hx
                simp only [cntS,List.map_cons,List.sum_cons] at *
                omega
        rw [cnt_eq,key _ _ h1]
        omega
    · simp at h
theorem okT_cnt {t:Tr} (h:okT t=true):cnt t≤60:=by
  obtain ⟨m,hm,h6⟩:=okT_le h
  rw [nodes_cntW _ _ _ hm]
  exact h6
theorem tys_cnt:∀ (ts:List Tr),(∀ x ∈ ts,okT x=true)→cntS ts≤60 * ts.length
  | [],_=>by simp [cntS]
  | x :: ts,h=>by
    have h1:=okT_cnt (h x (by simp))
    have h2:=tys_cnt ts fun y hy=>h y (by simp [hy])
    simp only [cntS,List.map_cons,List.sum_cons,List.length_cons] at *
    omega
theorem nodesM_cnt:∀ (l:Nat) (t:Tm) (m:Nat),nodesM l t=some m→cntM t≤200 * m:=by
  intro l
  induction l with
  | zero=>intro t m h;simp [nodesM] at h
  | succ l ih =>
    intro t m h
    have hnd:=(nodesM_inv h).1
    obtain ⟨hn,b,hb,rfl⟩:=nodesM_inv2 h
    have hnm:=hn.names
    have hT:cntS t.T.A≤60:=by
      by_cases hs:shT t.K=true
      · have h1:=okT_cnt (hn.ty hs)
        rw [cnt_eq] at h1
        omega
      · have hz:=hnd
        unfold nodeM at hz
        simp only [Bool.and_eq_true] at hz
        have hz1:=hz.2
        unfold typesB at hz1
        simp only [Bool.and_eq_true] at hz1
        have hz2:=hz1.1.1
        rw [if_neg hs] at hz2
        unfold zeroT at hz2
        simp only [Bool.and_eq_true,beq_iff_eq] at hz2
        have:t.T.A=[]:=List.length_eq_zero_iff.1 (by have:=hz2.2;omega)
        rw [this];simp [cntS]
    have hTs:=tys_cnt t.Ts hn.each
    have h2:t.Ts.length≤2:=by have:=hn.ts;have:=(shS_bd t.K).2;omega
    have hA:=nodeM_len hnd
    have hsub:∀ (ys:List Tm) (s:Nat),nodesG (nodesM l) ys=some s→subMS ys≤200 * s:=by
      intro ys
      induction ys with
      | nil=>intro s hs;simp [subMS]
      | cons y ys ihy =>
        intro s hs
        simp only [nodesG] at hs
        cases hy:nodesM l y with
        | none=>simp [hy] at hs
        | some a =>
          cases hz:nodesG (nodesM l) ys with
          | none=>simp [hy,hz] at hs
          | some c =>
            simp [hy,hz] at hs
            have e1:=ih y a hy
            have e2:=ihy c hz
            simp only [subMS,List.map_cons,List.sum_cons] at *
            omega
    have h3:=hsub _ _ hb
    have h4:=cntM_eq t
    have h5:=cntMS_eq t.A
    have h6:ownM t=t.S.size+t.Z.size+cntS t.T.A+cntS t.Ts:=rfl
    omega
end Go.Proofs.Ytleghjgpnefliaa
