/-
  'l1Look' where the node itself is right: its parts in a loop; then the model's 'TyOk' and 'TyNodes'.
-/
import Derived.Test.YtcepgedbmffkdaaGreatFbaZ4
import Derived.Test.YtcepgedbmffkdaaGreatFbaZ14
import Derived.Test.YtcepgedbmffkdaaGreatFbaZ7
import Derived.BigQuiet
import Derived.Deep.Cut
import Derived.Deep.CutRange
namespace Go.Proofs.YtcepgedbmffkdaaGreat
open Go.RowKit
set_option linter.unusedVariables false
set_option linter.unusedSimpArgs false
theorem nodesL_part (f:Tr→Option Nat) (l:List Tr) (k:Nat) (h:k < l.length) (m a s:Nat) (hm:nodesL f (l.take k)=some m) (ha:f l[k]=some a) (hs:nodesL f l=some s):m+a≤s:=by
  have h1:=nodesL_take f l k h m hm
  rw [ha] at h1
  have e:=congrArg (nodesL f) (List.take_append_drop (k+1) l)
  rw [nodesL_append,h1,hs] at e
  simp only [Option.map_some] at e
  cases hd:nodesL f (l.drop (k+1)) with
  | none=>simp [hd] at e
  | some x=>simp [hd] at e;omega
theorem lookOk_some {l c m:Nat} {t:Tr} (h:nodesW l t=some m):lookOk l c t=decide (c+m≤60):=by simp [lookOk,h]
structure LkRel (w wr:World) (l p c j len cap:Nat) (k n:Int) (ao:Option Addr) (m:Nat) (ts:List Tr):Prop where
  grown:w.grownBy wr (some p)
  box:wr.heap[w.heap.size]?=some (.cells #[.int .i64 k,.int .i64 n,.slice ao len cap] 31 (0,0))
  cell:wr.heap[p]?=some (.cells #[.int .i64 ((c:Int)+1+m)] 3 (0,0))
  nodes:nodesL (nodesW l) (ts.take j)=some m
set_option maxHeartbeats 1000000 in
theorem lk_yes (l:Nat) (IH:SaidLk l) (d L B p c:Nat) (k n:Int) (ao:Option Addr) (len cap:Nat) (ts:List Tr) (w:World) (hBp:B≤p) (hp:p < w.heap.size) (hcell:w.heap[p]?=some (.cells #[.int .i64 c] 3 (0,0))) (hc:c+1≤60) (hl6:l < 6) (hs:Hs L B w d ao len ts)
    (hyes:nodeOk k n len=true) :
    Calls Tryz.prog 107 #[.agg #[.int .i64 k,.int .i64 n,.slice ao len cap],.int .i64 ((l:Int)+1),.pointer (some ⟨p,0,none⟩)] w fun e w' =>
      e=.returned (.bool (lookOk (l+1) c ⟨k,n,ts⟩))∧w.grownBy w' (some p)∧∃ c':Int,w'.heap[p]?=some (.cells #[.int .i64 c'] 3 (0,0))∧(∀ m,nodesW (l+1) ⟨k,n,ts⟩=some m→c+m≤60→c'=c+m):=by
  have HO:Hid (nodesW (l+1) ⟨k,n,ts⟩=(nodesL (nodesW l) ts).map (1+·)):=by show _=_;simp only [nodesW];rw [← hs.len.1,hyes];rfl
  have HL:Hid (len=ts.length):=hs.len.1
  have hll:=hs.len.2
  have f:=row_cell hcell 0
  have r:=row_free hcell 0
  simp at f
  have hpn:¬ w.heap.size=p:=by omega
  have hp0:=parts_bd k
  have HW:=lk_world hcell hp (.int .i64 ((c:Int)+1)) #[.int .i64 k,.int .i64 n,.slice ao len cap] 31
  have HWW:Hid (∀ nq,_):=HW
  clear HW hcell
  have hl0:(((l:Int)+1) == 0)=false:=by simp;omega
  have h60:decide (60 < (c:Int)+1)=false:=by simp;omega
  have hlen2:=nodeOk_len hyes
  obtain ⟨hlen,hkn⟩:=nodeOk_parts hyes
  have hb:((len:Int) != parts k)=false:=by simp [hlen]
  clear hlen hyes
  have HD:∃ (b1 b2:Bool),(k == 3)=b1∧(k != 3)=!b1∧(b1=true→in01 n=true)∧(b1=false→(n != 0)=b2)∧b2=false:=by
    rcases hkn with ⟨hk,hin⟩ | ⟨hk,hn⟩
    · exact ⟨true,false,by simp [hk],by simp [hk],fun _=>hin,by simp,rfl⟩
    · exact ⟨false,false,by simp [hk],by simp [hk],by simp,fun _=>by simp [hn],rfl⟩
  clear hkn
  obtain ⟨b1,b2,hk3,hkn,hin,hn,rfl⟩:=HD
  cases b1
  case' false=>(replace hn:=hn rfl;clear hin;simp only [Bool.not_false] at hkn)
  case' true=>(replace hin:=hin rfl;clear hn;simp only [Bool.not_true] at hkn)
  all_goals
    go_enter Tryz.func107,Tryz.ntmps107
    go_wp2_with fail
    go_quiet ((first | (go_at_call 127;exact Calls.quiet_of_same (l1Args_any _ _)) | (go_at_call 106;exact Calls.quiet_of_same (l1In_any _ _))))
    go_wp2_with fail
    clear hk3 hkn hb f r h60 hl0
    try clear hin
    try clear hn
    go_loopw [7] (fun i wr=>∃ j m:Nat,j≤len∧i=.int .i64 j∧c+1+m≤60∧LkRel w wr l p c j len cap k n ao m ts) (fun i _=>len - (intOf i).toNat)
    case atStart=>exact ⟨0,0,by omega,rfl,by omega,⟨(HWW.out nq).1,(HWW.out nq).2.2,by have:=(HWW.out nq).2.1;simpa using this,rfl⟩⟩
    case round =>
      obtain ⟨j,m,hj,rfl,hm,hR⟩:=hrel
      have hg:=hR.grown
      have hsz:=hg.size
      have x2:=row_cell hR.box 2
      simp at x2
      by_cases hlt:j < len
      · have hlt':j < ts.length:=by have:=HL.out;omega
        obtain ⟨b,o,rfl,_,hbB,ao1,len1,cap1,c0,c1,c2,hs1⟩:=hs.get j hlt'
        have e0:=(gcell hg (by omega) (by omega) _).trans c0
        have e1:=(gcell hg (by omega) (by omega) _).trans c1
        have e2:=(gcell hg (by omega) (by omega) _).trans c2
        have hs2:=hs1.grown hg hBp hp
        have hcl:=hR.cell
        have hcl':wr.heap[p]?=some (.cells #[.int .i64 ((c+1+m:Nat):Int)] 3 (0,0)):=by rw [hcl];simp
        have HF:Hid (_=_):=nodesL_take (nodesW l) ts j hlt' m hR.nodes
        clear hcl
        go_wp2_with fail
        refine (IH _ _ _ _ _ _ _ _ _ _ _ _ hBp (by omega) hcl' (by omega) hs2).mono ?_
        rintro e w2 ⟨rfl,hg2,c',hc2,hc3⟩
        have hg3:=grown_trans hg hg2
        have hbox2:w2.heap[w.heap.size]?=_:=(hg2.block _ (by have:=(Array.getElem?_eq_some_iff.1 hR.box).1;exact this) (by simp;omega)).trans hR.box
        cases hv:lookOk l (c+1+m) ⟨ts[j].K,ts[j].N,ts[j].A⟩ with
        | false =>
          clear hc3 hcl'
          go_wp2_with fail
          go_ret
          have hno:lookOk (l+1) c ⟨k,n,ts⟩=false:=by
            rw [tr_eta] at hv
            unfold lookOk
            rw [HO.out]
            cases hnl:nodesL (nodesW l) ts with
            | none=>rfl
            | some s =>
              cases hf:nodesW l ts[j] with
              | none=>rw [nodesL_none _ _ j hlt' hf] at hnl;cases hnl
              | some a =>
                have h1:=nodesL_part _ _ j hlt' m a s hR.nodes hf hnl
                rw [lookOk_some hf] at hv
                simp at hv ⊢
                omega
          exact ⟨ret_bool hno.symm,hg3,_,hc2,fun m hm hle=>(lookOk_no hno m hm hle).elim⟩
        | true =>
          have hN:∃ a,nodesW l ts[j]=some a∧c+1+m+a≤60∧c'=((c+1+m:Nat):Int)+a:=by
            have hv':=hv
            rw [tr_eta] at hv'
            cases hf:nodesW l ts[j] with
            | none=>simp [lookOk,hf] at hv'
            | some a =>
              rw [lookOk_some hf] at hv'
              have hle:c+1+m+a≤60:=by simpa using hv'
              exact ⟨a,rfl,hle,hc3 a (by rw [tr_eta];exact hf) hle⟩
          obtain ⟨a,hfa,hle,hce⟩:=hN
          have hT:nodesL (nodesW l) (ts.take (j+1))=some (m+a):=by rw [HF.out,hfa];rfl
          have hR2:LkRel w w2 l p c (j+1) len cap k n (some ⟨b,o,none⟩) (m+a) ts:=⟨hg3,hbox2,by rw [hc2,hce];simp;omega,hT⟩
          clear hc3 hce hT hfa hcl' hc2 hbox2 x2 hR
          go_wp2_with fail
          go_roundw
          case rel=>exact ⟨j+1,m+a,by omega,by go_num,by omega,hR2⟩
          case measure=>simp [intOf];omega
      · have hNn:nodesL (nodesW l) ts=some m:=by have h1:=HL.out;have h2:=hR.nodes;rw [List.take_of_length_le (by omega)] at h2;exact h2
        have HN:Hid (nodesL (nodesW l) ts=some m):=hNn
        clear hNn
        have hcl:Hid (_=_):=hR.cell
        go_wp2_with fail
        go_ret
        have hw:nodesW (l+1) ⟨k,n,ts⟩=some (1+m):=by rw [HO.out,HN.out];rfl
        refine ⟨ret_bool (by rw [lookOk_some hw];simp;omega),hg,_,hcl.out,fun m' hm' _=>?_⟩
        rw [hw] at hm'
        cases hm'
        omega
theorem lk_any:∀ l,l≤6→SaidLk l:=by
  intro l
  induction l with
  | zero=>intro _;exact lk_zero
  | succ l ih =>
    intro h d L B p c k n ao len cap ts w hBp hp hcell hc hs
    have e:((l+1:Nat):Int)=(l:Int)+1:=by omega
    rw [e]
    by_cases hno:60 < c+1∨nodeOk k n len=false
    · exact lk_no l d L B p c k n ao len cap ts w hBp hp hcell hc (by omega) hs hno
    · exact lk_yes l (ih (by omega)) d L B p c k n ao len cap ts w hBp hp hcell (by omega) (by omega) hs (by simpa using fun h=>hno (Or.inr h))
end Go.Proofs.YtcepgedbmffkdaaGreat

/-
  What the model's 'TyOk' comes to: the same as the program's.
-/
namespace Go.Proofs.YtcepgedbmffkdaaGreat
open Go.RowKit
set_option linter.unusedVariables false
set_option linter.unusedSimpArgs false
theorem look_ok (t:Tr):lookOk 6 0 t=okT t:=by
  unfold lookOk okT nodesT
  cases h:nodesW 6 t with
  | none=>simp
  | some m =>
    have:=nodesW_pos _ _ _ h
    by_cases h6:m≤60 <;> simp [h6]
    omega
set_option maxHeartbeats 400000 in
theorem sTyOk_any (d L B:Nat) (k n:Int) (ao:Option Addr) (len cap:Nat) (ts:List Tr) (w:World) (hB:B≤w.heap.size) (hs:Hs L B w d ao len ts) :
    Calls Tryz.prog 88 #[.agg #[.int .i64 k,.int .i64 n,.slice ao len cap]] w fun e w'=>e=.returned (.bool (okT ⟨k,n,ts⟩))∧Below w.heap.size w w':=by
  obtain ⟨X,hX⟩:∃ X,X=((w.alloc (.cells #[.int .i64 k,.int .i64 n,.slice ao len cap] 31)).alloc (.cells #[.int .i64 0] 3)):=⟨_,rfl⟩
  have hXs:X.heap.size=w.heap.size+2:=by rw [hX];simp
  have hXb:Below w.heap.size w X:=by rw [hX];exact ((Below.refl _ _).alloc (Nat.le_refl _) _).alloc (by simp) _
  have hX1:X.heap[w.heap.size+1]?=some (.cells #[.int .i64 ((0:Nat):Int)] 3 (0,0)):=by rw [hX];exact heap_new (by simp)
  have hs1:=hs.below hXb hB
  have HX:Hid (X=_):=hX
  have HX1:Hid (_=_):=hX1
  clear hX hX1
  go_enter Tryz.func88,Tryz.ntmps88
  go_wp2_with fail
  rw [← HX.out]
  refine (lk_any 6 (by omega) _ _ _ _ _ _ _ _ _ _ _ _ (by omega) (by omega) HX1.out (by omega) hs1).mono ?_
  rintro e w1 ⟨rfl,hg,_⟩
  rw [look_ok]
  have hb2:Below w.heap.size w w1:=hXb.grown hg (by omega) (by simp)
  go_wp2_with fail
  go_ret
  exact ⟨rfl,hb2⟩
end Go.Proofs.YtcepgedbmffkdaaGreat

/-
  What the model's 'l1In', 'l2Name' come to.
-/
namespace Go.Proofs.YtcepgedbmffkdaaGreat
open Go.RowKit Go.PlainAid
set_option linter.unusedVariables false
set_option linter.unusedSimpArgs false
def inB (x a b:Int):Bool:=decide (a≤x∧x≤b)
set_option maxHeartbeats 400000 in
theorem l1In_gen (x a b:Int) (w:World):Calls Tryz.prog 106 #[.int .i64 x,.int .i64 a,.int .i64 b] w fun e w'=>e=.returned (.bool (inB x a b))∧w'=w:=by
  by_cases h:a≤x
  all_goals
    go_enter Tryz.func106,Tryz.ntmps106
    go_wp2
    go_ret
    exact ⟨ret_bool (by unfold inB;rw [Bool.eq_iff_iff];simp;try omega),rfl⟩
def chPl (x:Int):Bool:=isLow x || isDig x
def chF (plain:Bool) (x:Int):Bool:=if plain then chPl x else chOk x
def nameP (plain:Bool) (s:ByteArray):Bool:=decide (1≤s.size) && decide (s.size≤8) && isLow (bt s 0) && allB s s.size (chF plain)
theorem nameP_false (s:ByteArray):nameP false s=nameW s:=rfl
theorem chF_eq (p:Bool) (x:Int):chF p x=(inB x 97 122 || inB x 48 57 || (!p && !(x != 46))):=by
  cases p
  · show chOk x=_
    have e:(x != 46)=!decide (x=46):=by rw [Bool.eq_iff_iff];simp
    rw [e,Bool.not_not,Bool.not_false,Bool.true_and];rfl
  · show chPl x=_
    rw [Bool.not_true,Bool.false_and,Bool.or_false];rfl
theorem nameP_size {p:Bool} {s:ByteArray} (h:¬ (1≤s.size∧s.size≤8)):nameP p s=false:=by
  unfold nameP;rw [Bool.eq_false_iff];intro h1;simp only [Bool.and_eq_true,decide_eq_true_eq] at h1;omega
theorem nameP_first {p:Bool} {s:ByteArray} (h:isLow (bt s 0)=false):nameP p s=false:=by simp [nameP,h]
theorem nameP_all {p:Bool} {s:ByteArray} (h1:1≤s.size) (h8:s.size≤8) (h:isLow (bt s 0)=true):nameP p s=allB s s.size (chF p):=by simp [nameP,h1,h8,h]
set_option maxHeartbeats 1000000 in
theorem l2Name_any (p:Bool) (s:ByteArray) (w:World) (hs:s.size≤9223372036854775807):Calls Tryz.prog 87 #[.string s,.bool p] w fun e w'=>e=.returned (.bool (nameP p s))∧w'=w:=by
  have hb:=get_bt s
  have hb0:=bt_nonneg s 0
  have hb1:=bt_le s 0
  by_cases h18:1≤s.size∧s.size≤8
  case' neg =>
    have HN:Hid (nameP p s=false):=nameP_size h18
    have HI:Hid (inB s.size 1 8=false):=by show _=_;unfold inB;rw [decide_eq_false];omega
    go_enter Tryz.func87,Tryz.ntmps87
    go_wp2_with (go_at_call 106;refine (l1In_gen _ _ _ _).mono ?_;rintro e w' ⟨rfl,rfl⟩;rw [HI.out])
    go_ret
    exact ⟨ret_bool HN.out.symm,rfl⟩
  have HI:Hid (inB s.size 1 8=true):=by show _=_;unfold inB;rw [decide_eq_true];omega
  obtain ⟨h1,h8⟩:=h18
  cases hlo:isLow (bt s 0)
  · have HN:Hid (nameP p s=false):=nameP_first hlo
    have HI2:Hid (inB (bt s 0) 97 122=false):=hlo
    clear hlo
    go_enter Tryz.func87,Tryz.ntmps87
    go_wp2_with (go_at_call 106;refine (l1In_gen _ _ _ _).mono ?_;rintro e w' ⟨rfl,rfl⟩;first | rw [HI.out] | rw [HI2.out])
    go_ret
    exact ⟨ret_bool HN.out.symm,rfl⟩
  have HN:Hid (nameP p s=allB s s.size (chF p)):=nameP_all h1 h8 hlo
  have HI2:Hid (inB (bt s 0) 97 122=true):=hlo
  clear hlo
  go_enter Tryz.func87,Tryz.ntmps87
  go_wp2_with (go_at_call 106;refine (l1In_gen _ _ _ _).mono ?_;rintro e w2 ⟨rfl,hw2⟩;rw [hw2];clear hw2 w2;first | rw [HI.out] | rw [HI2.out])
  go_loopw [5] (fun i wr=>∃ k:Nat,k≤s.size∧i=.int .i64 k∧Hid (allB s k (chF p)=true)∧wr=w) (fun i _=>s.size - (intOf i).toNat)
  case atStart=>exact ⟨0,by omega,rfl,rfl,rfl⟩
  case round =>
    obtain ⟨k,hk,rfl,HA,rfl⟩:=hrel
    by_cases hlt:k < s.size
    · have HS:Hid (allB s (k+1) (chF p)=(allB s k (chF p) && (chF p) (bt s k))):=allB_succ s k _
      have HF:Hid ((chF p) (bt s k)=false→allB s s.size (chF p)=false):=fun hf=>allB_false k hlt hf
      have hbk:=bt_nonneg s k
      have hbk2:=bt_le s k
      obtain ⟨x,hx⟩:∃ x,x=bt s k:=⟨_,rfl⟩
      have hbk':((s[k]'hlt).toNat:Int)=x:=by rw [hx];exact hb k hlt
      rw [← hx] at HS HF hbk hbk2
      clear hx hb
      have HC:Hid (chF p x=(inB x 97 122 || inB x 48 57 || (!p && !(x != 46)))):=chF_eq p x
      cases hl:inB x 97 122
      all_goals cases hd:inB x 48 57
      all_goals cases hq:(x != 46)
      all_goals cases p
      all_goals
        have HL:Hid (inB x 97 122=_):=hl
        have HD:Hid (inB x 48 57=_):=hd
        rw [hl,hd,hq] at HC
        clear hl hd
        go_wp2_with (go_at_call 106;refine (l1In_gen _ _ _ _).mono ?_;rintro e w' ⟨rfl,rfl⟩;first | rw [HL.out] | rw [HD.out])
        first
          | (go_roundw
             case rel=>exact ⟨k+1,by omega,by go_num,(by have:=HC.out;show _=_;rw [HS.out,HA.out,this];rfl),(by trivial)⟩
             case measure=>simp [intOf];omega)
          | (go_ret
             exact ⟨ret_bool (by rw [HN.out,HF.out (HC.out.trans rfl)]),rfl⟩)
    · have hke:k=s.size:=by omega
      have HK:Hid (allB s s.size (chF p)=true):=by have:=HA.out;rw [hke] at this;exact this
      clear hke
      go_wp2_with fail
      go_ret
      exact ⟨ret_bool (by rw [HN.out,HK.out]),rfl⟩
end Go.Proofs.YtcepgedbmffkdaaGreat

/-
  What the model's 'l2Of', 'l2Number' come to.
-/
namespace Go.Proofs.YtcepgedbmffkdaaGreat
open Go.RowKit Go.PlainAid
set_option linter.unusedVariables false
set_option linter.unusedSimpArgs false
def ofP (k:Int):Int:=if kOk k then shP k else -1
def ofN (k:Int):Int:=if k=1∨k=2∨k=6∨k=7∨k=15 then 1 else 0
def ofS (k:Int):Bool:=decide (k=3∨k=4∨k=6∨k=7∨k=14∨k=17)
def ofZ (k:Int):Bool:=decide (k=14)
set_option maxHeartbeats 1000000 in
theorem l2Of_any (k:Int) (w:World):Calls Tryz.prog 85 #[.int .i64 k] w fun e w'=>e=.returned (.agg #[.int .i64 (ofP k),.int .i64 (ofN k),.bool (ofS k),.bool (ofZ k),.bool (shT k)])∧Below w.heap.size w w':=by
  by_cases h1:k=1
  · subst h1;go_enter Tryz.func85,Tryz.ntmps85;go_wp2;refine bodyPost_ret (v:=.agg #[.int .i64 0,.int .i64 1,.bool false,.bool false,.bool false]) (by simp [results,Tryz.results85,go_sem]) rfl ⟨rfl,?_⟩;exact (Below.refl _ _).alloc (Nat.le_refl _) _
  by_cases h2:k=2
  · subst h2;go_enter Tryz.func85,Tryz.ntmps85;go_wp2;refine bodyPost_ret (v:=.agg #[.int .i64 0,.int .i64 1,.bool false,.bool false,.bool false]) (by simp [results,Tryz.results85,go_sem]) rfl ⟨rfl,?_⟩;exact (Below.refl _ _).alloc (Nat.le_refl _) _
  by_cases h3:k=3
  · subst h3;go_enter Tryz.func85,Tryz.ntmps85;go_wp2;refine bodyPost_ret (v:=.agg #[.int .i64 0,.int .i64 0,.bool true,.bool false,.bool false]) (by simp [results,Tryz.results85,go_sem]) rfl ⟨rfl,?_⟩;exact (Below.refl _ _).alloc (Nat.le_refl _) _
  by_cases h4:k=4
  · subst h4;go_enter Tryz.func85,Tryz.ntmps85;go_wp2;refine bodyPost_ret (v:=.agg #[.int .i64 1,.int .i64 0,.bool true,.bool false,.bool true]) (by simp [results,Tryz.results85,go_sem]) rfl ⟨rfl,?_⟩;exact (Below.refl _ _).alloc (Nat.le_refl _) _
  by_cases h5:k=5
  · subst h5;go_enter Tryz.func85,Tryz.ntmps85;go_wp2;refine bodyPost_ret (v:=.agg #[.int .i64 2,.int .i64 0,.bool false,.bool false,.bool false]) (by simp [results,Tryz.results85,go_sem]) rfl ⟨rfl,?_⟩;exact (Below.refl _ _).alloc (Nat.le_refl _) _
  by_cases h6:k=6
  · subst h6;go_enter Tryz.func85,Tryz.ntmps85;go_wp2;refine bodyPost_ret (v:=.agg #[.int .i64 2,.int .i64 1,.bool true,.bool false,.bool false]) (by simp [results,Tryz.results85,go_sem]) rfl ⟨rfl,?_⟩;exact (Below.refl _ _).alloc (Nat.le_refl _) _
  by_cases h7:k=7
  · subst h7;go_enter Tryz.func85,Tryz.ntmps85;go_wp2;refine bodyPost_ret (v:=.agg #[.int .i64 2,.int .i64 1,.bool true,.bool false,.bool true]) (by simp [results,Tryz.results85,go_sem]) rfl ⟨rfl,?_⟩;exact (Below.refl _ _).alloc (Nat.le_refl _) _
  by_cases h8:k=8
  · subst h8;go_enter Tryz.func85,Tryz.ntmps85;go_wp2;refine bodyPost_ret (v:=.agg #[.int .i64 3,.int .i64 0,.bool false,.bool false,.bool false]) (by simp [results,Tryz.results85,go_sem]) rfl ⟨rfl,?_⟩;exact (Below.refl _ _).alloc (Nat.le_refl _) _
  by_cases h9:k=9
  · subst h9;go_enter Tryz.func85,Tryz.ntmps85;go_wp2;refine bodyPost_ret (v:=.agg #[.int .i64 2,.int .i64 0,.bool false,.bool false,.bool false]) (by simp [results,Tryz.results85,go_sem]) rfl ⟨rfl,?_⟩;exact (Below.refl _ _).alloc (Nat.le_refl _) _
  by_cases h10:k=10
  · subst h10;go_enter Tryz.func85,Tryz.ntmps85;go_wp2;refine bodyPost_ret (v:=.agg #[.int .i64 1,.int .i64 0,.bool false,.bool false,.bool false]) (by simp [results,Tryz.results85,go_sem]) rfl ⟨rfl,?_⟩;exact (Below.refl _ _).alloc (Nat.le_refl _) _
  by_cases h11:k=11
  · subst h11;go_enter Tryz.func85,Tryz.ntmps85;go_wp2;refine bodyPost_ret (v:=.agg #[.int .i64 1,.int .i64 0,.bool false,.bool false,.bool false]) (by simp [results,Tryz.results85,go_sem]) rfl ⟨rfl,?_⟩;exact (Below.refl _ _).alloc (Nat.le_refl _) _
  by_cases h12:k=12
  · subst h12;go_enter Tryz.func85,Tryz.ntmps85;go_wp2;refine bodyPost_ret (v:=.agg #[.int .i64 0,.int .i64 0,.bool false,.bool false,.bool true]) (by simp [results,Tryz.results85,go_sem]) rfl ⟨rfl,?_⟩;exact (Below.refl _ _).alloc (Nat.le_refl _) _
  by_cases h13:k=13
  · subst h13;go_enter Tryz.func85,Tryz.ntmps85;go_wp2;refine bodyPost_ret (v:=.agg #[.int .i64 2,.int .i64 0,.bool false,.bool false,.bool false]) (by simp [results,Tryz.results85,go_sem]) rfl ⟨rfl,?_⟩;exact (Below.refl _ _).alloc (Nat.le_refl _) _
  by_cases h14:k=14
  · subst h14;go_enter Tryz.func85,Tryz.ntmps85;go_wp2;refine bodyPost_ret (v:=.agg #[.int .i64 3,.int .i64 0,.bool true,.bool true,.bool false]) (by simp [results,Tryz.results85,go_sem]) rfl ⟨rfl,?_⟩;exact (Below.refl _ _).alloc (Nat.le_refl _) _
  by_cases h15:k=15
  · subst h15;go_enter Tryz.func85,Tryz.ntmps85;go_wp2;refine bodyPost_ret (v:=.agg #[.int .i64 2,.int .i64 1,.bool false,.bool false,.bool false]) (by simp [results,Tryz.results85,go_sem]) rfl ⟨rfl,?_⟩;exact (Below.refl _ _).alloc (Nat.le_refl _) _
  by_cases h16:k=16
  · subst h16;go_enter Tryz.func85,Tryz.ntmps85;go_wp2;refine bodyPost_ret (v:=.agg #[.int .i64 1,.int .i64 0,.bool false,.bool false,.bool true]) (by simp [results,Tryz.results85,go_sem]) rfl ⟨rfl,?_⟩;exact (Below.refl _ _).alloc (Nat.le_refl _) _
  by_cases h17:k=17
  · subst h17;go_enter Tryz.func85,Tryz.ntmps85;go_wp2;refine bodyPost_ret (v:=.agg #[.int .i64 2,.int .i64 0,.bool true,.bool false,.bool false]) (by simp [results,Tryz.results85,go_sem]) rfl ⟨rfl,?_⟩;exact (Below.refl _ _).alloc (Nat.le_refl _) _
  have e1:ofP k=-1:=by unfold ofP kOk;rw [decide_eq_false (by omega)];rfl
  have e2:ofN k=0:=by unfold ofN;rw [if_neg (by omega)]
  have e3:ofS k=false:=by unfold ofS;rw [decide_eq_false (by omega)]
  have e4:ofZ k=false:=by unfold ofZ;rw [decide_eq_false (by omega)]
  have e5:shT k=false:=by unfold shT;rw [decide_eq_false (by omega)]
  rw [e1,e2,e3,e4,e5]
  have b1:(k == 1)=false:=beq_eq_false_iff_ne.2 h1
  have b2:(k == 2)=false:=beq_eq_false_iff_ne.2 h2
  have b3:(k == 3)=false:=beq_eq_false_iff_ne.2 h3
  have b4:(k == 4)=false:=beq_eq_false_iff_ne.2 h4
  have b5:(k == 5)=false:=beq_eq_false_iff_ne.2 h5
  have b6:(k == 6)=false:=beq_eq_false_iff_ne.2 h6
  have b7:(k == 7)=false:=beq_eq_false_iff_ne.2 h7
  have b8:(k == 8)=false:=beq_eq_false_iff_ne.2 h8
  have b9:(k == 9)=false:=beq_eq_false_iff_ne.2 h9
  have b10:(k == 10)=false:=beq_eq_false_iff_ne.2 h10
  have b11:(k == 11)=false:=beq_eq_false_iff_ne.2 h11
  have b12:(k == 12)=false:=beq_eq_false_iff_ne.2 h12
  have b13:(k == 13)=false:=beq_eq_false_iff_ne.2 h13
  have b14:(k == 14)=false:=beq_eq_false_iff_ne.2 h14
  have b15:(k == 15)=false:=beq_eq_false_iff_ne.2 h15
  have b16:(k == 16)=false:=beq_eq_false_iff_ne.2 h16
  have b17:(k == 17)=false:=beq_eq_false_iff_ne.2 h17
  clear e1 e2 e3 e4 e5 h1 h2 h3 h4 h5 h6 h7 h8 h9 h10 h11 h12 h13 h14 h15 h16 h17
  go_enter Tryz.func85,Tryz.ntmps85;go_wp2;refine bodyPost_ret (v:=.agg #[.int .i64 (-1),.int .i64 0,.bool false,.bool false,.bool false]) (by simp [results,Tryz.results85,go_sem]) rfl ⟨rfl,?_⟩;exact (Below.refl _ _).alloc (Nat.le_refl _) _
def numB (k n:Int):Bool:=inB n (shL k) (shM k)
set_option maxHeartbeats 1000000 in
theorem l2Number_any (k n:Int) (v2 v3 v4 v5 v6 v7 v8:Value) (w:World):Calls Tryz.prog 86 #[.agg #[.int .i64 k,.int .i64 n,v2,v3,v4,v5,v6,v7,v8]] w fun e w'=>e=.returned (.bool (numB k n))∧Below w.heap.size w w':=by
  have hb0:Below w.heap.size w (w.alloc (.cells #[.int .i64 k,.int .i64 n,v2,v3,v4,v5,v6,v7,v8] 34)):=(Below.refl _ _).alloc (Nat.le_refl _) _
  by_cases h1:k=1
  · subst h1
    go_enter Tryz.func86,Tryz.ntmps86
    go_wp2_with fail
    refine (l1In_gen _ _ _ _).mono ?_
    rintro e w' ⟨rfl,rfl⟩
    go_wp2_with fail
    go_ret
    exact ⟨rfl,hb0⟩
  by_cases h2:k=2
  · subst h2
    go_enter Tryz.func86,Tryz.ntmps86
    go_wp2_with fail
    refine (l1In_gen _ _ _ _).mono ?_
    rintro e w' ⟨rfl,rfl⟩
    go_wp2_with fail
    go_ret
    exact ⟨rfl,hb0⟩
  by_cases h6:k=6
  · subst h6
    go_enter Tryz.func86,Tryz.ntmps86
    go_wp2_with fail
    refine (l1In_gen _ _ _ _).mono ?_
    rintro e w' ⟨rfl,rfl⟩
    go_wp2_with fail
    go_ret
    exact ⟨rfl,hb0⟩
  by_cases h7:k=7
  · subst h7
    go_enter Tryz.func86,Tryz.ntmps86
    go_wp2_with fail
    refine (l1In_gen _ _ _ _).mono ?_
    rintro e w' ⟨rfl,rfl⟩
    go_wp2_with fail
    go_ret
    exact ⟨rfl,hb0⟩
  by_cases h15:k=15
  · subst h15
    go_enter Tryz.func86,Tryz.ntmps86
    go_wp2_with fail
    refine (l1In_gen _ _ _ _).mono ?_
    rintro e w' ⟨rfl,rfl⟩
    go_wp2_with fail
    go_ret
    exact ⟨rfl,hb0⟩
  have HE:Hid (numB k n=(n == 0)):=by
    show _=_
    have e1:shL k=0:=by unfold shL;rw [if_neg h1,if_neg h15]
    have e2:shM k=0:=by unfold shM;rw [if_neg h1,if_neg h2,if_neg (by omega),if_neg h15]
    unfold numB inB;rw [e1,e2,Bool.eq_iff_iff];simp;omega
  have b1:(k == 1)=false:=beq_eq_false_iff_ne.2 h1
  have b2:(k == 2)=false:=beq_eq_false_iff_ne.2 h2
  have b6:(k == 6)=false:=beq_eq_false_iff_ne.2 h6
  have b7:(k == 7)=false:=beq_eq_false_iff_ne.2 h7
  have b15:(k == 15)=false:=beq_eq_false_iff_ne.2 h15
  clear h1 h2 h6 h7 h15
  go_enter Tryz.func86,Tryz.ntmps86
  go_wp2_with fail
  go_ret
  exact ⟨ret_bool HE.out.symm,hb0⟩
end Go.Proofs.YtcepgedbmffkdaaGreat

/-
  What the model's 'SameTy' against the zero type comes to; and 'l2One' (one term, but for its parts).
-/
namespace Go.Proofs.YtcepgedbmffkdaaGreat
open Go.RowKit Go.PlainAid
set_option linter.unusedVariables false
set_option linter.unusedSimpArgs false
set_option maxHeartbeats 1000000 in
theorem sSameTy_zero (k n:Int) (ao:Option Addr) (len cap:Nat) (w:World) (hl:len≤9223372036854775807) :
    Calls Tryz.prog 89 #[.agg #[.int .i64 k,.int .i64 n,.slice ao len cap],.agg #[.int .i64 0,.int .i64 0,.slice none 0 0]] w fun e w'=>e=.returned (.bool ((k == 0) && (n == 0) && ((len:Int) == 0)))∧Below w.heap.size w w':=by
  have hbel:Below w.heap.size w ((w.alloc (.cells #[.int .i64 k,.int .i64 n,.slice ao len cap] 31)).alloc (.cells #[.int .i64 0,.int .i64 0,.slice none 0 0] 31)):=((Below.refl _ _).alloc (Nat.le_refl _) _).alloc (by simp) _
  cases h1:(k == 0)
  case' false=>have h1':(k != 0)=true:=(by simp only [bne,h1];rfl)
  case' true=>have h1':(k != 0)=false:=(by simp only [bne,h1];rfl)
  all_goals cases h2:(n == 0)
  all_goals (have h2':(n != 0)=!(n == 0):=rfl;rw [h2] at h2')
  all_goals (by_cases h3:len=0)
  all_goals first
    | (subst h3
       go_enter Tryz.func89,Tryz.ntmps89
       go_wp2_with fail
       first
         | (go_ret;exact ⟨rfl,hbel⟩)
         | (refine wp_loop_rounds 1 ?_;rw [rounds_succ];go_wp2_with fail;go_ret;exact ⟨rfl,hbel⟩))
    | (have h3':((len:Int) != 0)=true:=(by simp;omega)
       have HF:Hid (((len:Int) == 0)=false):=(by show _=_;rw [beq_eq_false_iff_ne];omega)
       go_enter Tryz.func89,Tryz.ntmps89
       go_wp2_with fail
       go_ret
       exact ⟨ret_bool (by rw [HF.out];simp),hbel⟩)
def bad2 (b1 b2 sB nS eS zB nZ eZ eq:Bool):Bool:=b1 || !b2 || (sB != nS) || (!sB && !eS) || (zB != nZ) || (!zB && !eZ) || (zB && eq)
def bad4 (tB ok zr g2 k3 g0:Bool):Bool:=(tB != ok) || (!tB && !zr) || g2 || (k3 && g0)
theorem nameW_nil {s:ByteArray} (h:nameP false s=true):s.toList.isEmpty=false:=by
  have h1:isNil s=decide (s.size=0):=isNil_size s
  unfold isNil at h1
  rw [h1,decide_eq_false_iff_not]
  simp only [nameP,Bool.and_eq_true,decide_eq_true_eq] at h
  omega
theorem okT_zero {t:Tr} (h:okT t=true):zeroT t=false:=by
  rw [Bool.eq_false_iff];intro hz
  simp only [zeroT,Bool.and_eq_true,beq_iff_eq] at hz
  have h1:nodeOk t.K t.N t.A.length=false:=by
    rw [hz.1.1];unfold nodeOk parts;simp
  simp only [okT,nodesT,nodesW,h1] at h
  cases h
theorem names_eq (k:Int) (s z:ByteArray):namesB (shN k) s z=(!((ofS k != nameP false s) || (!ofS k && !s.toList.isEmpty) || (ofZ k != nameP false z) || (!ofZ k && !z.toList.isEmpty) || (ofZ k && (s.toList == z.toList)))):=by
  have hs:nameP false s=true→s.toList.isEmpty=false:=nameW_nil
  have hz:nameP false z=true→z.toList.isEmpty=false:=nameW_nil
  by_cases h14:k=14
  · have e1:shN k=2:=by rw [h14];rfl
    have e2:ofS k=true:=by rw [h14];rfl
    have e3:ofZ k=true:=by rw [h14];rfl
    rw [e1,e2,e3]
    show (nameW s && nameW z && !(s.toList == z.toList))=_
    rw [← nameP_false,← nameP_false]
    cases nameP false s <;> cases nameP false z <;> cases (s.toList == z.toList) <;> rfl
  · have e3:ofZ k=false:=by unfold ofZ;rw [decide_eq_false h14]
    by_cases h1:k=3∨k=4∨k=6∨k=7∨k=17
    · have e1:shN k=1:=by unfold shN;rw [if_pos h1]
      have e2:ofS k=true:=by unfold ofS;rw [decide_eq_true];omega
      rw [e1,e2,e3]
      show (nameW s && isNil z)=_
      rw [← nameP_false]
      unfold isNil
      cases h2:nameP false s <;> cases h3:nameP false z <;> cases h4:z.toList.isEmpty <;> simp_all
    · have e1:shN k=0:=by unfold shN;rw [if_neg h1,if_neg h14]
      have e2:ofS k=false:=by unfold ofS;rw [decide_eq_false];omega
      rw [e1,e2,e3]
      show (isNil s && isNil z)=_
      unfold isNil
      cases h2:nameP false s <;> cases h3:nameP false z <;> cases h4:z.toList.isEmpty <;> cases h5:s.toList.isEmpty <;> simp_all
theorem types_eq (k:Int) (t:Tr) (ts:List Tr):typesB k t ts=(!(bad4 (shT k) (okT t) (zeroT t) (decide (2 < (ts.length:Int))) (k != 3) (decide (0 < (ts.length:Int)))) && ts.all okT):=by
  have hz:okT t=true→zeroT t=false:=okT_zero
  have hl:decide ((ts.length:Int)≤shS k)=!(decide (2 < (ts.length:Int)) || ((k != 3) && decide (0 < (ts.length:Int)))):=by
    unfold shS
    by_cases h3:k=3
    · have e:(k != 3)=false:=by simp [h3]
      rw [if_pos h3,e,Bool.false_and,Bool.or_false,Bool.eq_iff_iff];simp
    · have e:(k != 3)=true:=by simp [h3]
      rw [if_neg h3,e,Bool.true_and,Bool.eq_iff_iff,decide_eq_true_eq,Bool.not_eq_true',Bool.or_eq_false_iff,decide_eq_false_iff_not,decide_eq_false_iff_not];omega
  unfold typesB bad4
  rw [hl]
  cases shT k <;> cases h1:okT t <;> cases h2:zeroT t <;> simp_all
theorem nodeM_one (t:Tm):nodeM t=(!(bad2 ((t.A.length:Int) != ofP t.K) (numB t.K t.N) (ofS t.K) (nameP false t.S) t.S.toList.isEmpty (ofZ t.K) (nameP false t.Z) t.Z.toList.isEmpty (t.S.toList == t.Z.toList)) && !(bad4 (shT t.K) (okT t.T) (zeroT t.T) (decide (2 < (t.Ts.length:Int))) (t.K != 3) (decide (0 < (t.Ts.length:Int)))) && t.Ts.all okT && fixB t.K t.A):=by
  unfold nodeM
  rw [names_eq,types_eq]
  have e1:(kOk t.K && decide ((t.A.length:Int)=shP t.K))=!((t.A.length:Int) != ofP t.K):=by
    unfold ofP
    cases kOk t.K
    · rw [if_neg Bool.false_ne_true,Bool.false_and,eq_comm,Bool.not_eq_false']
      rw [bne_iff_ne];omega
    · rw [if_pos rfl,Bool.true_and,Bool.eq_iff_iff];simp
  have e2:numB t.K t.N=decide (shL t.K≤t.N∧t.N≤shM t.K):=rfl
  rw [e2]
  unfold bad2
  generalize decide (shL t.K≤t.N∧t.N≤shM t.K)=b2
  generalize ((t.A.length:Int) != ofP t.K)=b1 at e1 ⊢
  generalize (bad4 _ _ _ _ _ _)=b4
  generalize (ofS t.K != nameP false t.S)=c1
  generalize (!ofS t.K && !t.S.toList.isEmpty)=c2
  generalize (ofZ t.K != nameP false t.Z)=c3
  generalize (!ofZ t.K && !t.Z.toList.isEmpty)=c4
  generalize (ofZ t.K && t.S.toList == t.Z.toList)=c5
  generalize kOk t.K=k1 at e1 ⊢
  generalize decide ((t.A.length:Int)=shP t.K)=p1 at e1 ⊢
  generalize fixB t.K t.A=fx
  generalize t.Ts.all okT=al
  cases b1 <;> cases k1 <;> cases p1 <;> simp at e1 <;> cases b2 <;> cases b4 <;> cases c1 <;> cases c2 <;> cases c3 <;> cases c4 <;> cases c5 <;> cases fx <;> cases al <;> rfl
theorem ofZ_ofS {k:Int} (h:ofZ k=true):ofS k=true:=by
  simp only [ofZ,ofS,decide_eq_true_eq] at *;omega
end Go.Proofs.YtcepgedbmffkdaaGreat
