/-
  A dot in a name: 'strings.Contains' at one byte, walked; and plain names, in plain words.
-/
import Derived.Test.YtleghjgpnefliaaFlaZ34
import Derived.Lib.Bytealg
import Derived.Test.YtleghjgpnefliaaFlaZ37
import Derived.Test.YtleghjgpnefliaaFlaTg8
import Derived.Test.YtleghjgpnefliaaFlaDu
namespace Go.Proofs.Ytleghjgpnefliaa
open Go.RowKit Go.PlainAid
set_option linter.unusedVariables false
set_option linter.unusedSimpArgs false
def hasDot (s:ByteArray):Bool:=decide (0≤Lib.indexByte s.data.toList 46)
theorem indexByte_mem (c:UInt8):∀ l:List UInt8,(0≤Lib.indexByte l c) ↔ c ∈ l:=by
  intro l
  induction l with
  | nil=>simp [Lib.indexByte]
  | cons b l ih =>
    have hge:=Lib.indexByte_ge l c
    unfold Lib.indexByte
    by_cases hb:b=c
    · simp [hb]
    · have h1:(b == c)=false:=by simp [hb]
      rw [h1]
      by_cases h2:Lib.indexByte l c=-1
      · have:¬ c ∈ l:=fun h=>by have:=ih.2 h;omega
        simp [h2,this];exact fun h=>hb h.symm
      · have h3:(Lib.indexByte l c == -1)=false:=by simp [h2]
        have:c ∈ l:=ih.1 (by omega)
        simp [h3,this];omega
theorem bt_list (s:ByteArray) (i:Nat) (h:i < s.data.toList.length):bt s i=((s.data.toList[i]).toNat:Int):=by
  have hl:s.data.toList.length=s.size:=by cases s;rfl
  rw [← get_bt s i (by omega)]
  cases s;rfl
theorem allB_list (s:ByteArray) (f:Int→Bool):allB s s.size f=s.data.toList.all (fun b=>f b.toNat):=by
  have hl:s.data.toList.length=s.size:=by cases s;rfl
  rw [Bool.eq_iff_iff]
  constructor
  · intro h
    rw [List.all_eq_true]
    intro b hb
    obtain ⟨i,hi,rfl⟩:=List.getElem_of_mem hb
    rw [← bt_list s i hi]
    exact allB_get h i (by omega)
  · intro h
    unfold allB
    rw [List.all_eq_true]
    intro i hi
    have hi':i < s.data.toList.length:=by have:=List.mem_range.1 hi;omega
    rw [bt_list s i hi']
    exact List.all_eq_true.1 h _ (List.getElem_mem hi')
theorem chPl_dot (x:Int) (h:chOk x=true):chPl x=!decide (x=46):=by
  by_cases h46:x=46
  · subst h46;rfl
  · have:chOk x=(chPl x || decide (x=46)):=rfl
    rw [this,decide_eq_false h46,Bool.or_false] at h
    rw [h,decide_eq_false h46];rfl
theorem dot_name {s:ByteArray} (h:isNil s=true∨nameW s=true):(!hasDot s)=(s.toList.isEmpty || nameP true s):=by
  have hd:hasDot s=decide ((46:UInt8) ∈ s.data.toList):=by unfold hasDot;rw [Bool.eq_iff_iff];simp only [decide_eq_true_eq];exact indexByte_mem 46 _
  rw [hd]
  rcases h with h | h
  · have h1:s.toList.isEmpty=true:=h
    have h2:s.data.toList=[]:=by rw [← ByteArray.toList_eq];exact List.isEmpty_iff.1 h1
    rw [h1,h2];simp
  · have h1:s.toList.isEmpty=false:=by
      have e:isNil s=decide (s.size=0):=isNil_size s
      unfold isNil at e
      rw [e,decide_eq_false_iff_not]
      simp only [nameW,Bool.and_eq_true,decide_eq_true_eq] at h
      omega
    rw [h1,Bool.false_or]
    simp only [nameW,Bool.and_eq_true,decide_eq_true_eq] at h
    obtain ⟨⟨⟨h2,h3⟩,h4⟩,h5⟩:=h
    have e:nameP true s=allB s s.size chPl:=by
      rw [nameP_all h2 h3 h4];rfl
    rw [e,allB_list]
    rw [allB_list,List.all_eq_true] at h5
    rw [Bool.eq_iff_iff,List.all_eq_true,Bool.not_eq_true',decide_eq_false_iff_not]
    constructor
    · intro hn b hb
      rw [chPl_dot _ (h5 b hb),Bool.not_eq_true',decide_eq_false_iff_not]
      intro h46
      have:b=46:=by apply UInt8.toNat_inj.1;have:(46:UInt8).toNat=46:=rfl;omega
      exact hn (this ▸ hb)
    · intro ha hm
      have:=ha 46 hm
      rw [chPl_dot _ (h5 46 hm)] at this
      simp at this
end Go.Proofs.Ytleghjgpnefliaa

/-
  'Plain': the program's and the model's.
-/
namespace Go.Proofs.Ytleghjgpnefliaa
open Go.RowKit Go.PlainAid
set_option linter.unusedVariables false
set_option linter.unusedSimpArgs false
def plW:Tm→Bool
  | ⟨_,_,s,z,_,_,a⟩=>!hasDot s && !hasDot z && (a.attach.all fun ⟨x,_⟩=>plW x)
theorem plW_eq (t:Tm):plW t=(!hasDot t.S && !hasDot t.Z && t.A.all plW):=by
  cases t;rw [plW];simp
def plS:Tm→Bool
  | ⟨_,_,s,z,_,_,a⟩=>(s.toList.isEmpty || nameP true s) && (z.toList.isEmpty || nameP true z) && (a.attach.all fun ⟨x,_⟩=>plS x)
theorem plS_eq (t:Tm):plS t=((t.S.toList.isEmpty || nameP true t.S) && (t.Z.toList.isEmpty || nameP true t.Z) && t.A.all plS):=by
  cases t;rw [plS];simp
theorem nodesG_each {f:Tm→Option Nat} {l:List Tm} {m:Nat} (h:nodesG f l=some m):∀ x ∈ l,∃ a,f x=some a:=by
  intro x hx
  obtain ⟨i,hi,rfl⟩:=List.getElem_of_mem hx
  cases hf:f l[i] with
  | none=>rw [nodesG_none f l i hi hf] at h;cases h
  | some a=>exact ⟨a,rfl⟩
theorem names_split {n:Int} {s z:ByteArray} (h:namesB n s z=true):(isNil s=true∨nameW s=true)∧(isNil z=true∨nameW z=true):=by
  unfold namesB at h
  split at h
  · simp only [Bool.and_eq_true] at h;exact ⟨Or.inl h.1,Or.inl h.2⟩
  · split at h
    · simp only [Bool.and_eq_true] at h;exact ⟨Or.inr h.1,Or.inl h.2⟩
    · simp only [Bool.and_eq_true] at h;exact ⟨Or.inr h.1.1,Or.inr h.1.2⟩
theorem pl_same:∀ (l:Nat) (t:Tm) (m:Nat),nodesM l t=some m→plW t=plS t:=by
  intro l
  induction l with
  | zero=>intro t m h;simp [nodesM] at h
  | succ l ih =>
    intro t m h
    simp only [nodesM] at h
    split at h
    · rename_i hn
      cases h1:nodesG (nodesM l) t.A with
      | none=>simp [h1] at h
      | some s =>
        have hns:namesB (shN t.K) t.S t.Z=true:=by
          unfold nodeM at hn
          simp only [Bool.and_eq_true] at hn
          exact hn.1.2
        obtain ⟨h2,h3⟩:=names_split hns
        have h4:t.A.all plW=t.A.all plS:=by
          rw [Bool.eq_iff_iff,List.all_eq_true,List.all_eq_true]
          constructor
          · intro hh x hx
            obtain ⟨a,ha⟩:=nodesG_each h1 x hx
            rw [← ih x a ha];exact hh x hx
          · intro hh x hx
            obtain ⟨a,ha⟩:=nodesG_each h1 x hx
            rw [ih x a ha];exact hh x hx
        rw [plW_eq,plS_eq,dot_name h2,dot_name h3,h4]
    · simp at h
def plM (t:Tm):Bool:=okM t && plW t
theorem plM_spec (t:Tm):plM t=(okM t && plS t):=by
  unfold plM
  cases h:okM t
  · rfl
  · unfold okM at h
    cases hn:nodesM 24 t with
    | none=>rw [hn] at h;cases h
    | some m=>rw [pl_same 24 t m hn]
theorem allM_take {l:List Tm} {f:Tm→Bool} {k:Nat} (h:k < l.length):(l.take (k+1)).all f=((l.take k).all f && f l[k]):=by
  rw [List.take_succ_eq_append_getElem h];simp only [List.all_append,List.all_cons,List.all_nil,Bool.and_true]
theorem allM_not {l:List Tm} {f:Tm→Bool} {k:Nat} (h:k < l.length) (hf:f l[k]=false):l.all f=false:=by
  rw [Bool.eq_false_iff];intro h1
  have:=List.all_eq_true.1 h1 l[k] (List.getElem_mem h)
  rw [hf] at this;cases this
def SaidPs (d:Nat):Prop:=∀ (D L B:Nat) (t:Tm) (a1:Option Addr) (l1 c1:Nat) (a2:Option Addr) (l2 c2:Nat) (a3:Option Addr) (l3 c3:Nat) (w:World),B≤w.heap.size→Fm L B w D d t a1 l1 a2 l2 a3 l3 →
    Calls Try.prog 77 #[.agg #[.int .i64 t.K,.int .i64 t.N,.string t.S,.string t.Z,.int .i64 t.T.K,.int .i64 t.T.N,.slice a1 l1 c1,.slice a2 l2 c2,.slice a3 l3 c3]] w fun e w'=>e=.returned (.bool (plS t))∧Below w.heap.size w w'
theorem Hm.pos {L B:Nat} {w:World} {D d:Nat} {ao:Option Addr} {len:Nat} {ts:List Tm} (h:Hm L B w D d ao len ts) {j:Nat} (hj:j < ts.length):d - 1 < d:=by
  cases d with
  | zero=>obtain ⟨_,rfl⟩:=h;simp at hj
  | succ d=>omega
set_option maxHeartbeats 800000 in
theorem ps_step (d:Nat) (IH:∀ e,e < d→SaidPs e):SaidPs d:=by
  intro D L B t a1 l1 c1 a2 l2 c2 a3 l3 c3 w hB hf
  have hl:=hf.m.len.2
  have hsz:=hf.s
  have hzz:=hf.z
  have HL:Hid (l3=t.A.length):=hf.m.len.1
  have hbel:Below w.heap.size w (w.alloc (.cells #[.int .i64 t.K,.int .i64 t.N,.string t.S,.string t.Z,.int .i64 t.T.K,.int .i64 t.T.N,.slice a1 l1 c1,.slice a2 l2 c2,.slice a3 l3 c3] 29)):=(Below.refl _ _).alloc (Nat.le_refl _) _
  have HE:Hid (plS t=((t.S.toList.isEmpty || nameP true t.S) && (t.Z.toList.isEmpty || nameP true t.Z) && t.A.all plS)):=plS_eq t
  obtain ⟨X,hX⟩:∃ X,X=w.alloc (.cells #[.int .i64 t.K,.int .i64 t.N,.string t.S,.string t.Z,.int .i64 t.T.K,.int .i64 t.T.N,.slice a1 l1 c1,.slice a2 l2 c2,.slice a3 l3 c3] 29):=⟨_,rfl⟩
  have hXs:X.heap.size=w.heap.size+1:=by rw [hX];simp
  rw [← hX] at hbel
  have hX0:X.heap[w.heap.size]?=some (.cells #[.int .i64 t.K,.int .i64 t.N,.string t.S,.string t.Z,.int .i64 t.T.K,.int .i64 t.T.N,.slice a1 l1 c1,.slice a2 l2 c2,.slice a3 l3 c3] 29 (0,0)):=by rw [hX];exact heap_new rfl
  have htl:w.heap.size < X.heap.size:=by omega
  obtain ⟨f0,f1,f2,f3,f4,f5,f6,f7,f8⟩:=Nine.box hX0
  simp only [Nat.zero_add] at f1 f2 f3 f4 f5 f6 f7 f8
  have HX:Hid (X=_):=hX
  clear hX
  have HD:Hid (∃ bS bZ:Bool,(t.S.toList.isEmpty || nameP true t.S)=bS∧(t.Z.toList.isEmpty || nameP true t.Z)=bZ):=⟨_,_,rfl,rfl⟩
  cases hS:t.S.toList.isEmpty
  all_goals cases hS2:nameP true t.S
  all_goals cases hZ:t.Z.toList.isEmpty
  all_goals cases hZ2:nameP true t.Z
  all_goals
    have HS2:Hid (nameP true t.S=_):=hS2
    have HZ2:Hid (nameP true t.Z=_):=hZ2
    rw [hS,hS2,hZ,hZ2] at HE
    clear HD hS2 hZ2
    go_enter Try.func77,Try.ntmps77
    go_wp2_with (go_at_call 87;refine (l2Name_any true _ _ (by first | exact hsz | exact hzz)).mono ?_;rintro e w1 ⟨rfl,hw1⟩;rw [hw1];clear hw1 w1;first | rw [HS2.out] | rw [HZ2.out])
    first
      | (go_ret
         rw [← HX.out]
         exact ⟨ret_bool (by rw [HE.out];rfl),hbel⟩)
      | (rw [← HX.out]
         go_loopw [3] (fun i wr=>∃ j:Nat,j≤l3∧i=.int .i64 j∧Hid ((t.A.take j).all plS=true)∧Below X.heap.size X wr) (fun i _=>l3 - (intOf i).toNat)
         case atStart=>exact ⟨0,by omega,rfl,rfl,Below.refl _ _⟩
         case round =>
           obtain ⟨j,hj,rfl,HA,hbr⟩:=hrel
           have hszr:=hbr.size
           have g8:=(bcell hbr htl 8).trans f8
           by_cases hlt:j < l3
           · have hlt':j < t.A.length:=by have:=HL.out;omega
             obtain ⟨b,o,rfl,_,hbB,b1,m1,d1,b2,m2,d2,b3,m3,d3,h9,hf1⟩:=hf.m.get j hlt'
             have hbw:Below w.heap.size w wr:=hbel.trans (hbr.mono (by omega))
             obtain ⟨e0,e1,e2,e3,e4,e5,e6,e7,e8⟩:=h9.below hbw (by omega)
             have hf2:=Fm.below hbw hB hf1
             have HT:Hid ((t.A.take (j+1)).all plS=((t.A.take j).all plS && plS t.A[j])):=allM_take hlt'
             have HF:Hid (plS t.A[j]=false→t.A.all plS=false):=fun h=>allM_not hlt' h
             cases hok:plS t.A[j]
             · have HP:Hid (plS t.A[j]=false):=hok
               replace HF:Hid (_=_):=HF.out hok
               clear hok
               go_wp2_with fail
               refine (IH (d - 1) (hf.m.pos hlt') D L B t.A[j] _ _ _ _ _ _ _ _ _ _ (by omega) hf2).mono ?_
               rintro e w2 ⟨rfl,hb2⟩
               rw [HP.out]
               go_wp2_with fail
               go_ret
               exact ⟨ret_bool (by rw [HE.out,HF.out];rfl),hbw.trans (hb2.mono (by omega))⟩
             · have HP:Hid (plS t.A[j]=true):=hok
               rw [hok] at HT
               clear hok
               go_wp2_with fail
               refine (IH (d - 1) (hf.m.pos hlt') D L B t.A[j] _ _ _ _ _ _ _ _ _ _ (by omega) hf2).mono ?_
               rintro e w2 ⟨rfl,hb2⟩
               rw [HP.out]
               have hbr2:Below X.heap.size X w2:=hbr.trans (hb2.mono (by omega))
               go_wp2_with fail
               go_roundw
               case rel=>exact ⟨j+1,by omega,by go_num,(by show _=_;rw [HT.out,HA.out];rfl),hbr2⟩
               case measure=>simp [intOf];omega
           · have HK:Hid (t.A.all plS=true):=by have h1:=HL.out;have h2:=HA.out;rw [List.take_of_length_le (by omega)] at h2;exact h2
             go_wp2_with fail
             go_ret
             exact ⟨ret_bool (by rw [HE.out,HK.out];rfl),hbel.trans (hbr.mono (by omega))⟩)
theorem ps_any:∀ d,SaidPs d:=by
  intro d
  induction d using Nat.strongRecOn with
  | ind d ih=>exact ps_step d ih
set_option maxHeartbeats 400000 in
theorem sPlain_any (D d L B:Nat) (t:Tm) (a1:Option Addr) (l1 c1:Nat) (a2:Option Addr) (l2 c2:Nat) (a3:Option Addr) (l3 c3:Nat) (w:World) (hB:B≤w.heap.size) (hf:Fm L B w D d t a1 l1 a2 l2 a3 l3) :
    Calls Try.prog 60 #[.agg #[.int .i64 t.K,.int .i64 t.N,.string t.S,.string t.Z,.int .i64 t.T.K,.int .i64 t.T.N,.slice a1 l1 c1,.slice a2 l2 c2,.slice a3 l3 c3]] w fun e w'=>e=.returned (.bool (plM t))∧Below w.heap.size w w':=by
  have hbel:Below w.heap.size w (w.alloc (.cells #[.int .i64 t.K,.int .i64 t.N,.string t.S,.string t.Z,.int .i64 t.T.K,.int .i64 t.T.N,.slice a1 l1 c1,.slice a2 l2 c2,.slice a3 l3 c3] 29)):=(Below.refl _ _).alloc (Nat.le_refl _) _
  have hf1:=Fm.below hbel hB hf
  cases hq:okM t
  all_goals
    have HQ:Hid (okM t=_):=hq
    have HP:Hid (plM t=(okM t && plS t)):=plM_spec t
    rw [hq] at HP
    clear hq
    go_enter Try.func60,Try.ntmps60
    go_wp2_with fail
    refine (sTermOk_any D d L B t _ _ _ _ _ _ _ _ _ _ (by simp;omega) hf1).mono ?_
    rintro e w1 ⟨rfl,hb1⟩
    rw [HQ.out]
    have hbw:Below w.heap.size w w1:=hbel.trans (hb1.mono (by simp))
    have hz1:=hb1.size
    simp only [World.size_alloc] at hz1
    obtain ⟨f0,f1,f2,f3,f4,f5,f6,f7,f8⟩:=Nine.box ((hb1.block w.heap.size (by simp)).trans (heap_new rfl))
    go_wp2_with fail
    first
      | (go_ret
         exact ⟨ret_bool (by rw [HP.out];rfl),hbw⟩)
      | (refine (ps_any d D L B t _ _ _ _ _ _ _ _ _ _ (by omega) (Fm.below hbw hB hf)).mono ?_
         rintro e w2 ⟨rfl,hb2⟩
         go_wp2_with fail
         go_ret
         exact ⟨ret_bool (by rw [HP.out];rfl),hbw.trans (hb2.mono (by omega))⟩)
end Go.Proofs.Ytleghjgpnefliaa

/-
  What the model's 'l3Type' and 'Program' come to at any term.
-/
namespace Go.Proofs.Ytleghjgpnefliaa
open Go.RowKit
set_option linter.unusedVariables false
set_option linter.unusedSimpArgs false
theorem type_any (n:Nat):SaidTp n:=by
  induction n with
  | zero =>
    intro P p L B D d m t a1 l1 c1 a2 l2 c2 a3 l3 c3 v es vs w hp hPp hPn hLB hB hD hf hm
    simp [nodesM] at hm
  | succ n ih=>exact type_step n ih
set_option maxRecDepth 100000 in
set_option maxHeartbeats 8000000 in
theorem program_any (p D d L B:Nat) (t:Tm) (a1:Option Addr) (l1 c1:Nat) (a2:Option Addr) (l2 c2:Nat) (a3:Option Addr) (l3 c3:Nat) (w:World) (hp:p < w.heap.size) (hL:p+1≤L) (hB:B≤w.heap.size) (hD:D≤14) (hf:Fm L B w D d t a1 l1 a2 l2 a3 l3) :
    Calls Try.prog 39 #[.agg #[.int .i64 t.K,.int .i64 t.N,.string t.S,.string t.Z,.int .i64 t.T.K,.int .i64 t.T.N,.slice a1 l1 c1,.slice a2 l2 c2,.slice a3 l3 c3]] w fun e w'=>(∃ b:Bool,e=.returned (.bool b)∧(b=true→plM t=true))∧Below w.heap.size w w':=by
  obtain ⟨X,hX⟩:∃ X,X=w.alloc (.cells #[.int .i64 t.K,.int .i64 t.N,.string t.S,.string t.Z,.int .i64 t.T.K,.int .i64 t.T.N,.slice a1 l1 c1,.slice a2 l2 c2,.slice a3 l3 c3] 29):=⟨_,rfl⟩
  have hXs:X.heap.size=w.heap.size+1:=by rw [hX];simp
  have hXb:Below w.heap.size w X:=by rw [hX];exact (Below.refl _ _).alloc (Nat.le_refl _) _
  have hX0:X.heap[w.heap.size]?=some (.cells #[.int .i64 t.K,.int .i64 t.N,.string t.S,.string t.Z,.int .i64 t.T.K,.int .i64 t.T.N,.slice a1 l1 c1,.slice a2 l2 c2,.slice a3 l3 c3] 29 (0,0)):=by rw [hX];exact heap_new rfl
  obtain ⟨x0,x1,x2,x3,x4,x5,x6,x7,x8⟩:=Nine.box hX0
  have HX:Hid (X=_):=hX
  have K1:=sPlain_any D d L B t a1 l1 c1 a2 l2 c2 a3 l3 c3 X (by omega) (Fm.below hXb hB hf)
  obtain ⟨pb,hpb⟩:∃ pb,pb=plM t:=⟨_,rfl⟩
  rw [← hpb] at K1 ⊢
  have HPB:Hid (pb=plM t):=hpb
  have HTY:Hid (pb=true→∀ (W:World) (vs:Int) (ao:Option Addr) (cap:Nat),Below w.heap.size w W→Calls Try.prog 61 #[.agg #[.int .i64 t.K,.int .i64 t.N,.string t.S,.string t.Z,.int .i64 t.T.K,.int .i64 t.T.N,.slice a1 l1 c1,.slice a2 l2 c2,.slice a3 l3 c3],.slice ao 0 cap,.int .i64 vs] W fun e w'=>CkQ (fun k=>p+1≤k) e w'∧Below W.heap.size W w'):=fun hpt W vs ao cap hb=>by
    have hok:okM t=true:=by
      have:=hpb.symm.trans hpt
      unfold plM at this
      simp only [Bool.and_eq_true] at this
      exact this.1
    obtain ⟨m,hm,_⟩:=okM_some hok
    have hz:=hb.size
    exact type_any 24 (fun k=>p+1≤k) p L B D d m t a1 l1 c1 a2 l2 c2 a3 l3 c3 (.slice ao 0 cap) [] vs W (by omega) (fun k hk=>hk) (fun k hk=>by omega) (fun k h1 _=>by omega) (by omega) hD (Fm.below hb hB hf) hm (EnQ.none _ _ _ _ _) (fun e he=>by simp at he) (by simp)
  clear hX hpb
  go_enter Try.func39,Try.ntmps39
  go_wp2_with fail
  rw [← HX.out]
  refine K1.mono ?_
  rintro e w1 ⟨rfl,hb1⟩
  have hz1:=hb1.size
  have hb1w:Below w.heap.size w w1:=hXb.trans (hb1.mono (by omega))
  have r1:=(hb1.block w.heap.size (by omega)).trans hX0
  clear K1 x0 x1 x2 x3 x4 x5 x6 x7 x8
  obtain ⟨x0,x1,x2,x3,x4,x5,x6,x7,x8⟩:=Nine.box r1
  cases pb with
  | false =>
    go_wp2_with fail
    go_ret
    exact ⟨⟨_,rfl,fun h=>by simp at h⟩,hb1w⟩
  | true =>
    have hbA:Below w.heap.size w (w1.alloc (.cells #[] 93)):=hb1w.alloc hb1w.size _
    go_wp2_with fail
    refine Calls.mono (HTY.out (by simp) _ _ _ _ hbA) ?_
    rintro e w3 ⟨⟨ya,yl,yc,y,code,rfl,hy,hyr⟩,hb3⟩
    have hb3w:Below w.heap.size w w3:=hbA.trans (hb3.mono hbA.size)
    have hz3:=hb3w.size
    have hYl:=hy.len.2
    obtain ⟨Y,hY⟩:∃ Y,Y=w3.alloc (.cells #[.int .i64 y.K,.int .i64 y.N,.slice ya yl yc] 26):=⟨_,rfl⟩
    have hYb:Below w3.heap.size w3 Y:=by rw [hY];exact (Below.refl _ _).alloc (Nat.le_refl _) _
    have hYs:Y.heap.size=w3.heap.size+1:=by rw [hY];simp
    have hYw:Below w.heap.size w Y:=hb3w.trans (hYb.mono hz3)
    have hY0:Y.heap[w3.heap.size]?=some (.cells #[.int .i64 y.K,.int .i64 y.N,.slice ya yl yc] 26 (0,0)):=by rw [hY];exact heap_new rfl
    obtain ⟨y0,y1,y2⟩:=box_cells hY0
    have HY:Hid (Y=_):=hY
    have hyY:HsQ (fun k=>p+1≤k) Y 14 ya yl y.A:=hy.below hYb
    clear hY hyr x0 x1 x2 x3 x4 x5 x6 x7 x8
    have HDW:Hid (∀ n,Below w.heap.size w (Y.drewN n)):=fun n=>⟨hYw.os,hYw.tape,hYw.output,hYw.size,hYw.block⟩
    cases hc:(code == 0) with
    | false =>
      go_wp2_with fail
      rw [← HY.out]
      go_quiet (fail)
      go_wp2_with fail
      refine bodyPost_ret (v:=.bool false) (by simp [results,Try.results39,go_sem]) rfl ?_
      exact ⟨by simp,HDW.out _⟩
    | true =>
      cases hk1:(y.K == 1) with
      | true =>
        go_wp2_with fail
        rw [← HY.out]
        go_quiet (fail)
        go_wp2_with fail
        refine bodyPost_ret (v:=.bool true) (by simp [results,Try.results39,go_sem]) rfl ?_
        exact ⟨by simp,HDW.out _⟩
      | false =>
        cases hk2:(y.K == 2) with
        | true =>
          go_wp2_with fail
          rw [← HY.out]
          go_quiet (fail)
          go_wp2_with fail
          refine bodyPost_ret (v:=.bool true) (by simp [results,Try.results39,go_sem]) rfl ?_
          exact ⟨by simp,HDW.out _⟩
        | false =>
          obtain ⟨sb,hsb⟩:=same_bool y ⟨6,0,[⟨1,0,[]⟩]⟩
          have HS:Hid (∀ (W:World) (ga:Option Addr) (gl gc:Nat),Below Y.heap.size Y W→HsQ (fun k=>p+1≤k) W 14 ga gl [⟨1,0,[]⟩]→Calls Try.prog 62 #[.agg #[.int .i64 y.K,.int .i64 y.N,.slice ya yl yc],.agg #[.int .i64 6,.int .i64 0,.slice ga gl gc]] W fun e w'=>e=.returned (.bool sb)∧Below W.heap.size W w'):=fun W ga gl gc hW hg =>
            ss_any 14 0 W.heap.size 0 W.heap.size _ _ _ _ _ _ _ _ _ _ _ _ sb W (Nat.le_refl _) (Nat.le_refl _) (HsQ.hs (fun _ _=>Nat.zero_le _) (hyY.below hW)) (HsQ.hs (fun _ _=>Nat.zero_le _) hg) (by rw [tr_eta];exact hsb)
          have HC:Hid (∀ W:World,Below Y.heap.size Y W→W.cell? ⟨w3.heap.size,0,none⟩=some (.int .i64 y.K)∧W.cell? ⟨w3.heap.size,1,none⟩=some (.int .i64 y.N)∧W.cell? ⟨w3.heap.size,2,none⟩=some (.slice ya yl yc)):=fun W hb=>box_cells ((hb.block _ (by omega)).trans hY0)
          have HLI:Hid (∀ W:World,Below Y.heap.size Y W→Calls Try.prog 37 #[.agg #[.int .i64 1,.int .i64 0,.slice none 0 0]] W fun e w'=>(∃ ga gl gc,e=.returned (.agg #[.int .i64 6,.int .i64 0,.slice ga gl gc])∧HsQ (fun k=>p+1≤k) w' 14 ga gl [⟨1,0,[]⟩])∧Below W.heap.size W w'):=fun W hb=>by
            refine (l3List_q (fun k=>p+1≤k) 13 ⟨1,0,[]⟩ _ W (fun k hk=>by have:=hb.size;omega) ⟨none,0,0,rfl,HsQ.nil _ _ _ _⟩).mono ?_
            rintro e w' ⟨v',rfl,⟨ga,gl,gc,rfl,hg⟩,hb'⟩
            exact ⟨⟨ga,gl,gc,rfl,hg⟩,hb'⟩
          have g0:Below Y.heap.size Y Y.drew:=(Below.refl _ _).drew
          clear hsb
          go_wp2_with fail
          rw [← HY.out]
          go_region_held3 (fun W=>W.cell? ⟨w3.heap.size,0,none⟩=some (.int .i64 y.K)∧W.cell? ⟨w3.heap.size,1,none⟩=some (.int .i64 y.N)∧W.cell? ⟨w3.heap.size,2,none⟩=some (.slice ya yl yc))
            (first | with_reducible exact HC.out _ q3 | with_reducible exact HC.out _ q2 | with_reducible exact HC.out _ q1 | with_reducible exact HC.out _ g0)
            (first
              | (go_at_call 62;(with_reducible refine Calls.mono (HS.out _ _ _ _ q2 hg) ?_);rintro e v3 ⟨rfl,hb3'⟩;have q3:Below Y.heap.size Y v3:=q2.trans (hb3'.mono q2.size))
              | (go_at_call 37;(with_reducible refine Calls.mono (HLI.out _ q1) ?_);rintro e v2 ⟨⟨ga,gl,gc,rfl,hg⟩,hb2'⟩;have q2:Below Y.heap.size Y v2:=q1.trans (hb2'.mono q1.size))
              | (go_at_call 35;(with_reducible refine Calls.mono (l3Int_q _) ?_);rintro e v1 ⟨rfl,hb1'⟩;have q1:Below Y.heap.size Y v1:=g0.trans (hb1'.mono g0.size)))
          all_goals
            go_wp2_with fail
            refine bodyPost_ret (v:=.bool sb) (by simp [results,Try.results39,go_sem]) rfl ?_
            exact ⟨by cases sb <;> simp,hYw.trans (q3.mono hYw.size)⟩
end Go.Proofs.Ytleghjgpnefliaa

/-
  What the model's 'l3Make', 'l3Uses' and 'l3Shape' come to, at every depth that is drawn: no walk.
-/
namespace Go.Proofs.Ytleghjgpnefliaa
open Go.RowKit
set_option linter.unusedVariables false
set_option linter.unusedSimpArgs false
theorem make_any:∀ dep,dep≤5→SaidMake dep:=by
  intro dep
  induction dep with
  | zero=>intro _;exact make_zero
  | succ dep ih =>
    intro h
    have IH:=ih (by omega)
    exact make_step dep (by omega) IH (uses_step dep (by omega) IH) (shape_step dep (by omega) IH)
theorem shape_any (dep:Nat) (h:dep≤4):SaidShape dep:=shape_step dep h (make_any dep (by omega))
end Go.Proofs.Ytleghjgpnefliaa

/-
  What the model's 'l3Spine' comes to where nothing is left to bind.
-/
namespace Go.Proofs.Ytleghjgpnefliaa
open Go.RowKit
set_option linter.unusedVariables false
set_option linter.unusedSimpArgs false
def SaidSpine (left:Nat):Prop:=∀ (p:Nat) (cao:Option Addr) (clen ccap:Nat) (wv:Value) (t:Tr) (v:Value) (es:List Ev) (w:World),Cur w p cao clen ccap→Ty2 w p 3 wv t→En2 w p 14 v es→es.length+4 * left+40≤300 →
    Calls Try.prog 38 #[.pointer (some ⟨p,0,none⟩),wv,v,.int .i64 (left:Int)] w fun e w'=>∃ rv tm,e=.returned rv∧TmV w' w.heap.size 14 (20+left) rv tm∧Drw w w' p cao clen ccap
set_option maxRecDepth 100000 in
set_option maxHeartbeats 4000000 in
theorem spine_zero:SaidSpine 0:=by
  intro p cao clen ccap wv t v es w hc hwv hv hlen
  have hp:=hc.lt
  obtain ⟨⟨ao,len,cap,rfl,hs⟩,m,hm⟩:=hwv
  obtain ⟨ae,ce,rfl⟩:=hv.1.form
  obtain ⟨X,hX⟩:∃ X,X=(((w.alloc (.cells #[.int .i64 t.K,.int .i64 t.N,.slice ao len cap] 26)).alloc (.cells #[.int .i64 0,.int .i64 0,.string ⟨#[]⟩,.string ⟨#[]⟩,.int .i64 0,.int .i64 0,.slice none 0 0,.slice none 0 0,.slice none 0 0] 29)).alloc (.cells #[.int .i64 3,.int .i64 0,.slice none 0 0] 26)).alloc (.cells #[.int .i64 3,.int .i64 1,.slice none 0 0] 26):=⟨_,rfl⟩
  have hXs:X.heap.size=w.heap.size+4:=by rw [hX];simp
  have hXb:Below w.heap.size w X:=by rw [hX];exact (((((Below.refl _ _).alloc (Nat.le_refl _) _).alloc (by simp) _).alloc (by simp <;> omega) _).alloc (by simp <;> omega) _)
  have hX0:X.heap[w.heap.size]?=some (.cells #[.int .i64 t.K,.int .i64 t.N,.slice ao len cap] 26 (0,0)):=by rw [hX,Below.heap_alloc _ _ _ (by simp <;> omega),Below.heap_alloc _ _ _ (by simp <;> omega),Below.heap_alloc _ _ _ (by simp)];exact heap_new rfl
  have hX1:X.heap[w.heap.size+1]?=some (.cells #[.int .i64 0,.int .i64 0,.string ⟨#[]⟩,.string ⟨#[]⟩,.int .i64 0,.int .i64 0,.slice none 0 0,.slice none 0 0,.slice none 0 0] 29 (0,0)):=by rw [hX,Below.heap_alloc _ _ _ (by simp <;> omega),Below.heap_alloc _ _ _ (by simp)];exact heap_new (by simp)
  have hgX:w.grownBy X (some p):=grown_below _ hXb
  have hcX:=hc.below hXb
  have HTX:Hid (∀ W:World,X.grownBy W (some p)→Ty2 W p 3 (.agg #[.int .i64 t.K,.int .i64 t.N,.slice ao len cap]) t):=fun W hg=>Ty2.grown (w:=X) ⟨⟨ao,len,cap,rfl,hs_up hs hXb⟩,m,hm⟩ hg
  have HEX:Hid (∀ W:World,X.grownBy W (some p)→En2 W p 14 (.slice ae es.length ce) es):=fun W hg=>(hv.grown hgX).grown hg
  have HRX:Hid (∀ W:World,X.grownBy W (some p)→W.heap[w.heap.size+1]?=some (.cells #[.int .i64 0,.int .i64 0,.string ⟨#[]⟩,.string ⟨#[]⟩,.int .i64 0,.int .i64 0,.slice none 0 0,.slice none 0 0,.slice none 0 0] 29 (0,0))):=fun W hg=>(hg.block _ (by omega) (by simp;omega)).trans hX1
  have HBX:Hid (∀ W:World,X.grownBy W (some p)→W.cell? ⟨w.heap.size,0,none⟩=some (.int .i64 t.K)∧W.cell? ⟨w.heap.size,1,none⟩=some (.int .i64 t.N)∧W.cell? ⟨w.heap.size,2,none⟩=some (.slice ao len cap)):=fun W hg=>box_cells ((hg.block _ (by omega) (by simp;omega)).trans hX0)
  have HSF:Hid (∀ W:World,X.grownBy W (some p)→∀ a0 a1 a2 a3 a4 a5 a6 a7 a8:Value,(((((((((W.setCell ⟨w.heap.size+1,0,none⟩ a0).setCell ⟨w.heap.size+1,1,none⟩ a1).setCell ⟨w.heap.size+1,2,none⟩ a2).setCell ⟨w.heap.size+1,3,none⟩ a3).setCell ⟨w.heap.size+1,4,none⟩ a4).setCell ⟨w.heap.size+1,5,none⟩ a5).setCell ⟨w.heap.size+1,6,none⟩ a6).setCell ⟨w.heap.size+1,7,none⟩ a7).setCell ⟨w.heap.size+1,8,none⟩ a8).cell? ⟨w.heap.size,0,none⟩=some (.int .i64 t.K)∧(((((((((W.setCell ⟨w.heap.size+1,0,none⟩ a0).setCell ⟨w.heap.size+1,1,none⟩ a1).setCell ⟨w.heap.size+1,2,none⟩ a2).setCell ⟨w.heap.size+1,3,none⟩ a3).setCell ⟨w.heap.size+1,4,none⟩ a4).setCell ⟨w.heap.size+1,5,none⟩ a5).setCell ⟨w.heap.size+1,6,none⟩ a6).setCell ⟨w.heap.size+1,7,none⟩ a7).setCell ⟨w.heap.size+1,8,none⟩ a8).cell? ⟨w.heap.size,1,none⟩=some (.int .i64 t.N)∧(((((((((W.setCell ⟨w.heap.size+1,0,none⟩ a0).setCell ⟨w.heap.size+1,1,none⟩ a1).setCell ⟨w.heap.size+1,2,none⟩ a2).setCell ⟨w.heap.size+1,3,none⟩ a3).setCell ⟨w.heap.size+1,4,none⟩ a4).setCell ⟨w.heap.size+1,5,none⟩ a5).setCell ⟨w.heap.size+1,6,none⟩ a6).setCell ⟨w.heap.size+1,7,none⟩ a7).setCell ⟨w.heap.size+1,8,none⟩ a8).cell? ⟨w.heap.size,2,none⟩=some (.slice ao len cap)):=by
    intro W hg a0 a1 a2 a3 a4 a5 a6 a7 a8
    obtain ⟨v0,v1,v2⟩:=HBX.out W hg
    have e:(((((((((W.setCell ⟨w.heap.size+1,0,none⟩ a0).setCell ⟨w.heap.size+1,1,none⟩ a1).setCell ⟨w.heap.size+1,2,none⟩ a2).setCell ⟨w.heap.size+1,3,none⟩ a3).setCell ⟨w.heap.size+1,4,none⟩ a4).setCell ⟨w.heap.size+1,5,none⟩ a5).setCell ⟨w.heap.size+1,6,none⟩ a6).setCell ⟨w.heap.size+1,7,none⟩ a7).setCell ⟨w.heap.size+1,8,none⟩ a8).heap[w.heap.size]?=W.heap[w.heap.size]?:=nest9_other _ _ _ _ _ _ _ _ _ _ _ _ (by omega)
    exact ⟨(World.cell?_of_block (a:=⟨w.heap.size,0,none⟩) e).trans v0,(World.cell?_of_block (a:=⟨w.heap.size,1,none⟩) e).trans v1,(World.cell?_of_block (a:=⟨w.heap.size,2,none⟩) e).trans v2⟩
  have HX:Hid (X=_):=hX
  obtain ⟨n,hn⟩:∃ n,n=es.length:=⟨_,rfl⟩
  have HN:Hid (n=es.length):=hn
  rw [← hn] at hlen HEX ⊢
  have g0:X.grownBy X.drew (some p):=grown_below _ ((Below.refl _ _).drew)
  have cu0:Cur X.drew p cao clen ccap:=hcX.keep (w':=X.drew) (fun _ _=>rfl)
  clear hX hn hX0 hX1
  go_enter Try.func38,Try.ntmps38
  go_wp2_with fail
  rw [← HX.out]
  have HMk:Hid (∀ (W:World) (x:Int),X.grownBy W (some p)→Cur W p cao clen ccap→0≤x→x < 2→Calls Try.prog 54 #[.pointer (some ⟨p,0,none⟩),.agg #[.int .i64 t.K,.int .i64 t.N,.slice ao len cap],.slice ae n ce,.int .i64 (2+x),.int .i64 0] W fun e w'=>∃ rv tm,e=.returned rv∧TmV w' W.heap.size 14 19 rv tm∧Drw W w' p cao clen ccap):=by
    intro W x hg hcu h0 h1
    have hx:x=0∨x=1:=by omega
    rcases hx with rfl | rfl
    · exact (make_any 2 (by omega) p cao clen ccap _ t _ es 0 W hcu ((HTX.out W hg).up (by omega)) (HEX.out W hg) (by have:=HN.out;omega) (by omega) (by omega)).mono fun e w' ⟨rv,tm,h1,h2,h3⟩=>⟨rv,tm,h1,h2.deeper (Nat.le_refl _) (by omega),h3⟩
    · exact (make_any 3 (by omega) p cao clen ccap _ t _ es 0 W hcu ((HTX.out W hg).up (by omega)) (HEX.out W hg) (by have:=HN.out;omega) (by omega) (by omega)).mono fun e w' ⟨rv,tm,h1,h2,h3⟩=>⟨rv,tm,h1,h2.deeper (Nat.le_refl _) (by omega),h3⟩
  go_region_held3 (fun w'=>w'.cell? ⟨w.heap.size,0,none⟩=some (.int .i64 t.K)∧w'.cell? ⟨w.heap.size,1,none⟩=some (.int .i64 t.N)∧w'.cell? ⟨w.heap.size,2,none⟩=some (.slice ao len cap))
    (first | with_reducible exact HBX.out _ g2 | with_reducible exact HBX.out _ g1 | with_reducible exact HBX.out _ g0 | with_reducible exact HSF.out _ g2 _ _ _ _ _ _ _ _ _)
    (first
      | (go_at_call 54;refine (HMk.out _ x g1 cu1 hx0 hx1).mono ?_;rintro e w2 ⟨rv,tm,rfl,⟨q1,q2,q3,q4,q5,q6,q7,q8,q9,rfl,hF⟩,hD2⟩;have g2:X.grownBy w2 (some p):=grown_trans' g1 hD2.grown;have r2:=HRX.out w2 g2;obtain ⟨y0,y1,y2,y3,y4,y5,y6,y7,y8⟩:=Nine.box r2;have yf:=row_free r2)
      | (go_at_call 30;refine (l1Below_any p cao clen ccap 2 _ cu0 (by omega) (by omega)).mono ?_;rintro e w1 ⟨x,rfl,hx0,hx1,hD1⟩;have g1:X.grownBy w1 (some p):=grown_trans' g0 hD1.grown;have cu1:=hD1.cur;have hwx:IntKind.i64.wrap (2+x)=2+x:=(by rw [IntKind.wrap_i64];omega)))
  all_goals
    go_wp2_with fail
    have hz2:=g2.size
    have hz1:=g1.size
    have fin:=fin_term (w:=w) (r:=w.heap.size+1) (c1:=q3) (c2:=q6) (c3:=q9) hF (by omega) (by omega) hp ⟨grown_trans' hgX g2,hD2.cur⟩
    exact bodyPost_ret (v:=.agg #[.int .i64 tm.K,.int .i64 tm.N,.string tm.S,.string tm.Z,.int .i64 tm.T.K,.int .i64 tm.T.N,.slice q1 q2 q3,.slice q4 q5 q6,.slice q7 q8 q9]) (by simp [results,Try.results38,go_sem,y0,y1,y2,y3,y4,y5,y6,y7,y8]) rfl ⟨_,_,rfl,fin.1.deeper (Nat.le_refl _) (by omega),fin.2⟩
end Go.Proofs.Ytleghjgpnefliaa
