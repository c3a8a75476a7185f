/-
  Terms that are left to be compared, as a list, and the types that are; what lies in memory of them: no walk.
-/
import Derived.Test.YtleghjgpnefliaaFnoZ7
import Derived.Test.YtleghjgpnefliaaFnoZ2
import Derived.LaidEqlPtr
import Derived.Laws.StructEq
import Derived.MapKept
import Derived.Test.YtleghjgpnefliaaFnoZ11
namespace Go.Proofs.Ytleghjgpnefliaa
open Go.RowKit
set_option linter.unusedVariables false
set_option linter.unusedSimpArgs false
theorem own_keep {wr w1:World} {ty:TypeId} {k:Nat} {v:Value} {n:Nat} {xs:List Value} (h:wr.ownsRow 0 ty k v n xs) (hb:∀ g,v.ownBlock=some g->w1.heap[g]?=wr.heap[g]?):w1.ownsRow 0 ty k v n xs:=by
 refine⟨h.1,?_⟩
 rcases h.2 with hn|⟨g,cap,cur,rfl,hg,hh,r⟩
 · exact Or.inl hn
 · exact Or.inr ⟨g,cap,cur,rfl,hg,(hb g rfl).trans hh,r⟩
theorem Qcw {wr:World} {ty:TypeId} {k:Nat} {v:Value} {n:Nat} {xs:List Value} (h:wr.ownsRow 0 ty k v n xs) {g:Nat} (hg:v.ownBlock=some g):g<wr.heap.size∧∃ cur fr,wr.heap[g]?=some (.cells cur ty fr):=by
 rcases h.2 with ⟨rfl,_⟩|⟨g',cap,cur,rfl,_,hh,_⟩
 · cases hg
 · have e:g'=g:=by simpa [Value.ownBlock] using hg
   subst e
   exact⟨(Array.getElem?_eq_some_iff.1 hh).1,cur,_,hh⟩
theorem OwM.deeper {w:World} {D:Nat}:∀ {d d':Nat} {ao:Option Addr} {len:Nat} {ts:List Tm} {bs:List Nat},d≤d'->OwM w D d ao len ts bs->OwM w D d' ao len ts bs:=by
 intro d
 induction d with
 | zero =>
   intro d' ao len ts bs _ h
   cases d' with
   | zero=>exact h
   | succ d'=>exact Or.inl h
 | succ d ih =>
   intro d' ao len ts bs hd h
   cases d' with
   | zero=>omega
   | succ d' =>
     rcases h with h|⟨g,cs,bss,e,hl,hm,hg,hc,hbl,hbs,hE⟩
     · exact Or.inl h
     · refine Or.inr ⟨g,cs,bss,e,hl,hm,hg,hc,hbl,hbs,fun i hi hi'=>?_⟩
       obtain⟨a1,l1,c1,a2,l2,c2,a3,l3,c3,h9,hf⟩:=hE i hi hi'
       exact⟨a1,l1,c1,a2,l2,c2,a3,l3,c3,h9,hf.map (fun _ _ _ _ _ hr=>hr) (fun _ _ _ _ _ hr=>ih (by omega) hr)⟩
theorem OwM.len {w:World} {D d:Nat} {ao:Option Addr} {len:Nat} {ts:List Tm} {bs:List Nat} (h:OwM w D d ao len ts bs):len=ts.length∧len≤9223372036854775807:=by
 cases d with
 | zero=>obtain⟨rfl,rfl,_⟩:=h;exact⟨rfl,by omega⟩
 | succ d =>
   rcases h with ⟨rfl,rfl,_⟩|⟨g,cs,bss,e,hl,hm,_⟩
   · exact⟨rfl,by omega⟩
   · exact⟨hl,hm⟩
theorem bytes_eq {s z:ByteArray} (h:(s.toList==z.toList)=true):s=z:=by
 have h1:s.toList=z.toList:=beq_iff_eq.1 h
 rw [ByteArray.toList_eq,ByteArray.toList_eq] at h1
 cases s;cases z
 congr 1
 exact Array.toList_inj.1 h1
def likeMB (l l':List Tm) (j:Nat):Prop:=l.take j=l'.take j
theorem likeM_all {l l':List Tm} {j:Nat} (h:likeMB l l' j) (h1:l.length≤j) (h2:l'.length≤j):l=l':=by
 unfold likeMB at h;rwa [List.take_of_length_le h1,List.take_of_length_le h2] at h
theorem likeM_next {l l':List Tm} {j:Nat} (h:likeMB l l' j) (h1:j<l.length) (h2:j<l'.length) (he:l[j]=l'[j]):likeMB l l' (j+1):=by
 unfold likeMB at *
 rw [List.take_succ_eq_append_getElem h1,List.take_succ_eq_append_getElem h2,h,he]
theorem unlikeM_at {l l':List Tm} {j:Nat} (h1:j<l.length) (h2:j<l'.length) (he:¬ l[j]=l'[j]):¬ l=l':=by
 intro h;subst h;exact he rfl
theorem Try.stoodM:Try.prog.stoodInHeld 73=false:=by kernel_rfl
theorem Try.infoTmP:(Try.prog.info? 29).map (fun i=>i.size)=some 9:=by kernel_rfl
theorem Try.infoUM:(Try.prog.info? 74).map (fun i=>i.zero)=some (some (.agg #[])):=by kernel_rfl
def keyVM (c:Nat) (q:Option Addr) (n:Int):Value:=.agg #[.pointer (some ⟨c,0,none⟩),.pointer q,.int .i64 n]
set_option maxRecDepth 100000 in
set_option maxHeartbeats 1000000 in
theorem keyM_other {w:World} {c c':Nat} {q q':Option Addr} {n n':Int} {cs cs':Array Value} {t t':TypeId} (hne:c≠c') (h:w.heap[c]?=some (.cells cs t (0,0))) (h':w.heap[c']?=some (.cells cs' t' (0,0))) :
 (Op.equal 73 (keyVM c q n) (keyVM c' q' n')).run Try.prog w=.ok false w:=by
 obtain⟨i0,hi,hz⟩:=Option.map_eq_some_iff.1 Try.infoTmP
 have hA:(⟨c,0,none⟩:Addr)≠⟨c',0,none⟩:=by intro e;exact hne (congrArg Addr.block e)
 have hs:=run_sameAddr_other (P:=Try.prog) w (a:=⟨c,0,none⟩) (b:=⟨c',0,none⟩) hA h h'
 have hp:∀ d:Nat,(Op.equalIn (d+1) 71 (.pointer (some ⟨c,0,none⟩)) (.pointer (some ⟨c',0,none⟩))).run Try.prog w=.ok false w:=fun d=>by
  simp [Op.equalIn,run_underlying Try.underlying71,sizeOf,typeInfo,hi,hz,hs]
 have hpart:∀ a b d:Value,(part 71 #[a,b,d] 0).run Try.prog w=.ok a w:=fun a b d=>by
  simp [part,isAgg,run_underlying Try.underlying71]
 unfold Op.equal keyVM
 show (Op.equalIn (9999+1) _ _ _).run _ _=_
 rw [run_equalIn_struct w 9999 _ _ _ (by unfold Program.fieldsOf;rw [Try.underlying73]) Try.stoodM]
 simp [Program.fieldsOf,Try.underlying73,Op.eqFields,hpart,hp 9998]
def KeysInM (es:Array MapEntry) (cs:List Nat):Prop:=∀ e∈es.toList,∃ c q n,c∈cs∧e.key=keyVM c q n
theorem findM_none {w:World} {c:Nat} {q:Option Addr} {n:Int} {cs:List Nat} (hfr:∀ x,x=c∨x∈cs->∃ a t,w.heap[x]?=some (.cells a t (0,0))) (hc:c ∉ cs) :
 ∀ (es:List MapEntry) (i:Nat),(∀ e∈es,∃ c q n,c∈cs∧e.key=keyVM c q n)->(Instr.findAsking 73 (keyVM c q n) es i).run Try.prog w=.ok none w:=by
 intro es
 induction es with
 | nil=>intro i _;simp [Instr.findAsking]
 | cons e es ih =>
   intro i h
   obtain⟨c',q',n',hc',he⟩:=h e (by simp)
   obtain⟨a,t,ha⟩:=hfr c (Or.inl rfl)
   obtain⟨a',t',ha'⟩:=hfr c' (Or.inr hc')
   have hne:c≠c':=fun e=>hc (e ▸ hc')
   have hk:=keyM_other (q:=q) (n:=n) (q':=q') (n':=n') hne ha ha'
   simp [Instr.findAsking,he,hk,ih (i+1) (fun e he=>h e (by simp [he]))]
theorem findM_key {w:World} {c:Nat} {q:Option Addr} {n:Int} {cs:List Nat} (hfr:∀ x,x=c∨x∈cs->∃ a t,w.heap[x]?=some (.cells a t (0,0))) (hc:c ∉ cs) {es:Array MapEntry} (hk:KeysInM es cs) :
 (Instr.findKey 73 (keyVM c q n) es.toList).run Try.prog w=.ok none w:=by
 have h2:=findM_none (w:=w) (q:=q) (n:=n) hfr hc es.toList 0 hk
 unfold Instr.findKey
 simp only [Sem.run_bind,run_underlying Try.underlying73,Result.andThen_ok]
 cases hes:es.toList with
 | nil=>simp [Instr.findNow]
 | cons e l =>
   rw [hes] at h2
   simp [Instr.findNow,Instr.sameNow,h2]
set_option maxRecDepth 100000 in
theorem checkM_key {w:World} (b:Bool) (c:Nat) (q:Option Addr) (n:Int):(Instr.checkKey b 10000 73 (keyVM c q n)).run Try.prog w=.ok () w:=by
 have hp:∀ (d:Nat) (v:Option Addr),(Instr.checkKey b (d+1) 71 (.pointer v)).run Try.prog w=.ok () w:=fun d v=>by simp [Instr.checkKey,run_underlying Try.underlying71]
 have hn:∀ (d:Nat) (v:Int),(Instr.checkKey b (d+1) 3 (.int .i64 v)).run Try.prog w=.ok () w:=fun d v=>by simp [Instr.checkKey,run_underlying Try.underlying3]
 have hpart0:∀ a b d:Value,(part 71 #[a,b,d] 0).run Try.prog w=.ok a w:=fun a b d=>by simp [part,isAgg,run_underlying Try.underlying71]
 have hpart1:∀ a b d:Value,(part 71 #[a,b,d] 1).run Try.prog w=.ok b w:=fun a b d=>by simp [part,isAgg,run_underlying Try.underlying71]
 have hpart2:∀ a b d:Value,(part 3 #[a,b,d] 2).run Try.prog w=.ok d w:=fun a b d=>by simp [part,isAgg,run_underlying Try.underlying3]
 unfold keyVM
 show (Instr.checkKey b (9999+1) _ _).run _ _=_
 rw [Instr.checkKey]
 simp only [Sem.run_bind,run_underlying Try.underlying73,Result.andThen_ok]
 simp [hpart0,hpart1,hpart2,hp 9998,hn 9998]
theorem lookupM_new {w:World} {mp c:Nat} {q:Option Addr} {n:Int} {cs:List Nat} {es:Array MapEntry} {clock:Nat} (hm:w.heap[mp]?=some (.map es clock)) (hfr:∀ x,x=c∨x∈cs->∃ a t,w.heap[x]?=some (.cells a t (0,0))) (hc:c ∉ cs) (hk:KeysInM es cs) :
 (Instr.lookup 65 (.map (some mp)) (keyVM c q n) true).run Try.prog w=.ok (.tuple #[.agg #[],.bool false]) w:=by
 have h1:=findM_key (w:=w) (q:=q) (n:=n) hfr hc hk
 have h2:=checkM_key (w:=w) es.isEmpty c q n
 obtain⟨i1,hi1,hz1⟩:=Option.map_eq_some_iff.1 Try.infoUM
 have hz:(zeroValue 74).run Try.prog w=.ok (.agg #[]) w:=by
  simp [zeroValue,typeInfo,hi1,hz1]
 have hg:=MapKept.run_getObj_map (P:=Try.prog) hm
 unfold Instr.lookup
 simp [run_underlying Try.underlying65,hg,h1,h2,hz]
theorem updateM_new {w:World} {mp c:Nat} {q:Option Addr} {n:Int} {cs:List Nat} {es:Array MapEntry} {clock:Nat} (hm:w.heap[mp]?=some (.map es clock)) (hfr:∀ x,x=c∨x∈cs->∃ a t,w.heap[x]?=some (.cells a t (0,0))) (hc:c ∉ cs) (hk:KeysInM es cs) :
 (Instr.mapUpdate 65 (.map (some mp)) (keyVM c q n) (.agg #[])).run Try.prog w=.ok () { w with heap:=w.heap.setIfInBounds mp (.map (es.push { key:=keyVM c q n,val:=.agg #[],born:=clock }) (clock+1)) }:=by
 have h1:=findM_key (w:=w) (q:=q) (n:=n) hfr hc hk
 have h2:=checkM_key (w:=w) false c q n
 have hg:=MapKept.run_getObj_map (P:=Try.prog) hm
 have hs:=fun o=>MapKept.run_setObj_map (P:=Try.prog) o hm
 unfold Instr.mapUpdate
 simp [run_underlying Try.underlying65,hg,hs,h1,h2]
def SaidRt (d:Nat):Prop:=∀ (L B L' B':Nat) (k n:Int) (ao:Option Addr) (len cap:Nat) (ts:List Tr) (k' n':Int) (ao':Option Addr) (len' cap':Nat) (ts':List Tr) (b:Bool) (w:World),B≤w.heap.size->B'≤w.heap.size->Hs L B w d ao len ts->Hs L' B' w d ao' len' ts' →
    (b=true↔(⟨k,n,ts⟩:Tr)=⟨k',n',ts'⟩) →
    Calls Try.prog 43 #[.agg #[.int .i64 k,.int .i64 n,.slice ao len cap],.agg #[.int .i64 k',.int .i64 n',.slice ao' len' cap']] w fun e w'=>e=.returned (.bool b)∧Below w.heap.size w w'
set_option maxRecDepth 100000 in
set_option maxHeartbeats 4000000 in
theorem rt_step (d:Nat) (IH:0<d->SaidRt (d - 1)):SaidRt d:=by
 intro L B L' B' k n ao len cap ts k' n' ao' len' cap' ts' b w hB hB' hs hs' hb
 have hl:=hs.len.2
 have hl':=hs'.len.2
 have HL:Hid (len=ts.length):=hs.len.1
 have HL':Hid (len'=ts'.length):=hs'.len.1
 have HB:Hid (b=true↔(⟨k,n,ts⟩:Tr)=⟨k',n',ts'⟩):=hb
 clear hb
 obtain⟨X,hX⟩:∃ X,X=((w.alloc (.cells #[.int .i64 k,.int .i64 n,.slice ao len cap] 26)).alloc (.cells #[.int .i64 k',.int .i64 n',.slice ao' len' cap'] 26)):=⟨_,rfl⟩
 have hbel:Below w.heap.size w X:=by rw [hX];exact ((Below.refl _ _).alloc (Nat.le_refl _) _).alloc (by simp) _
 have hXs:X.heap.size=w.heap.size+2:=by rw [hX];simp
 have hX0:X.heap[w.heap.size]?=some (.cells #[.int .i64 k,.int .i64 n,.slice ao len cap] 26 (0,0)):=by rw [hX,Below.heap_alloc _ _ _ (by simp)];exact Qac rfl
 have hX1:X.heap[w.heap.size+1]?=some (.cells #[.int .i64 k',.int .i64 n',.slice ao' len' cap'] 26 (0,0)):=by rw [hX];exact Qac (by simp)
 have HX:Hid (X=_):=hX
 clear hX
 have HXs:Hid (_=_):=hXs
 cases hq:((k==k')&&(n==n')&&((len:Int)==(len':Int)))
 case' false =>
  have HF:Hid (b=false):=by
   show _=_
   rw [Bool.eq_false_iff];intro h
   have e:=HB.out.1 h
   have e1:k=k':=congrArg Tr.K e
   have e2:n=n':=congrArg Tr.N e
   have e3:len=len':=by rw [HL.out,HL'.out];exact congrArg (fun t=>t.A.length) e
   rw [e1,e2,e3] at hq
   simp at hq
  have HQ:Hid (_=false):=hq
  clear hq
  go_enter Try.func43,Try.ntmps43
  go_wp2_with fail
  rw [← HX.out]
  refine (Qdy _ _ _ _ _ _ _ _ _ _ _ hl hl').mono ?_
  rintro e w1 ⟨rfl,hb1⟩
  rw [HQ.out]
  go_wp2_with fail
  go_ret
  exact⟨Qak HF.out.symm,hbel.trans (hb1.mono (by omega))⟩
 have HQ:Hid (_=true):=hq
 have H3:Hid (len=len'):=by simp only [Bool.and_eq_true,beq_iff_eq] at hq;show _=_;omega
 have HY:Hid (ts=ts'->b=true):=fun h=>HB.out.2 (by simp only [Bool.and_eq_true,beq_iff_eq] at hq;rw [hq.1.1,hq.1.2,h])
 have HNo:Hid (¬ ts=ts'->b=false):=fun h=>by rw [Bool.eq_false_iff];intro hb;exact h (congrArg Tr.A (HB.out.1 hb))
 clear hq
 have f2:=Qaa hX0 2
 have g2:=Qaa hX1 2
 simp only [List.getElem?_toArray,List.getElem?_cons_zero,List.getElem?_cons_succ] at f2 g2
 have htl:w.heap.size<X.heap.size:=by omega
 have htl':w.heap.size+1<X.heap.size:=by omega
 go_enter Try.func43,Try.ntmps43
 go_wp2_with fail
 rw [← HX.out]
 refine (Qdy _ _ _ _ _ _ _ _ _ _ _ hl hl').mono ?_
 rintro e w1 ⟨rfl,hb1⟩
 rw [HQ.out]
 replace hX0:=(hb1.block _ htl).trans hX0
 replace hX1:=(hb1.block _ htl').trans hX1
 replace f2:=(Qag hb1 htl 2).trans f2
 replace g2:=(Qag hb1 htl' 2).trans g2
 have hz1:=hb1.size
 replace htl:=Nat.lt_of_lt_of_le htl hz1
 replace htl':=Nat.lt_of_lt_of_le htl' hz1
 replace hbel:Below w.heap.size w w1:=hbel.trans (hb1.mono (by omega))
 clear hXs hX0 hX1
 go_wp2_with fail
 go_loopw [13] (fun i wr=>∃ j:Nat,j≤len∧i=.int .i64 j∧Hid (likeB ts ts' j)∧Below w1.heap.size w1 wr) (fun i _=>len - (intOf i).toNat)
 case atStart=>exact⟨0,by omega,rfl,rfl,Below.refl _ _⟩
 case round =>
  obtain⟨j,hj,rfl,HA,hbr⟩:=hrel
  have hszr:=hbr.size
  have p2:=(Qag hbr htl 2).trans f2
  have q2:=(Qag hbr htl' 2).trans g2
  have hbw:Below w.heap.size w wr:=hbel.trans (hbr.mono (by omega))
  have htr:w.heap.size<wr.heap.size:=by omega
  have htr':w.heap.size+1<wr.heap.size:=by omega
  by_cases hlt:j<len
  · have hlt1:j<ts.length:=by have:=HL.out;omega
    have hlt2:j<ts'.length:=by have:=HL'.out;have:=H3.out;omega
    have hlt':j<len':=by have:=H3.out;omega
    obtain⟨x,o,rfl,_,hxB,ao1,len1,cap1,c0,c1,c2,hs1⟩:=hs.get j hlt1
    obtain⟨x',o',rfl,_,hxB',ao2,len2,cap2,c0',c1',c2',hs2⟩:=hs'.get j hlt2
    have e0:=(Qag hbw (by omega) _).trans c0
    have e1:=(Qag hbw (by omega) _).trans c1
    have e2:=(Qag hbw (by omega) _).trans c2
    have e0':=(Qag hbw (by omega) _).trans c0'
    have e1':=(Qag hbw (by omega) _).trans c1'
    have e2':=(Qag hbw (by omega) _).trans c2'
    have hxr:x<wr.heap.size:=by omega
    have hxr':x'<wr.heap.size:=by omega
    have hd:0<d:=by
     cases d with
     | zero=>obtain⟨_,rfl⟩:=hs;simp at hlt1
     | succ d=>omega
    have hr1:=hs1.below hbw hB
    have hr2:=hs2.below hbw hB'
    have hBr:B≤wr.heap.size:=by omega
    have hBr':B'≤wr.heap.size:=by omega
    have hj0:(0:Int)≤(j:Int):=by omega
    have hjl:(j:Int)<(len:Int):=by omega
    have hjl':(j:Int)<(len':Int):=by omega
    clear c0 c1 c2 c0' c1' c2'
    by_cases heq:ts[j]=ts'[j]
    · have HE:Hid (ts[j]=ts'[j]):=heq
      have HN:Hid (likeB ts ts' (j+1)):=like_next HA.out hlt1 hlt2 heq
      clear heq
      go_wp2_with fail
      refine Qaj (by kernel_rfl) (by kernel_rfl) ?_
      repeat (first
       | go_big_quiet_skip
       | (go_big_quiet_want;unfold Oper.quiet;apply Exists.intro;refine⟨fun w' hC=>?_,?_⟩;(have y0:=(Qag hC htr 2).trans p2;have y1:=(Qag hC htr' 2).trans q2;have z0:=(Qag hC hxr _).trans e0;have z1:=(Qag hC hxr _).trans e1;have z2:=(Qag hC hxr _).trans e2;have z0':=(Qag hC hxr' _).trans e0';have z1':=(Qag hC hxr' _).trans e1';have z2':=(Qag hC hxr' _).trans e2';unfold Oper.quietAt;go_simp;first|exact rfl|exact⟨rfl,rfl⟩|(go_at_call 43;refine (IH hd L B L' B' _ _ _ _ _ ts[j].A _ _ _ _ _ ts'[j].A true _ (Nat.le_trans hBr hC.size) (Nat.le_trans hBr' hC.size) (hr1.below hC hBr) (hr2.below hC hBr') (Iff.intro (fun _=>by rw [Qap,Qap];exact HE.out) (fun _=>rfl))).mono ?_;rintro e w'' ⟨rfl,hw⟩;exact⟨rfl,hC.trans (hw.mono hC.size)⟩));go_big_quiet_on;simp only [Act.put,List.setIfInBounds_toArray,List.set_cons_zero,List.set_cons_succ]))
      refine wpQuiet_nil ?_
      intro w2 hb2
      have hbr2:Below w1.heap.size w1 w2:=hbr.trans (hb2.mono hszr)
      go_wp2_with fail
      go_roundw
      case rel=>exact⟨j+1,by omega,by go_num,HN,hbr2⟩
      case measure=>simp [intOf];omega
    · have HE:Hid (¬ ts[j]=ts'[j]):=heq
      have HN:Hid (b=false):=HNo.out (unlike_at hlt1 hlt2 heq)
      clear heq
      go_wp2_with fail
      refine Qaj (by kernel_rfl) (by kernel_rfl) ?_
      repeat (first
       | go_big_quiet_skip
       | (go_big_quiet_want;unfold Oper.quiet;apply Exists.intro;refine⟨fun w' hC=>?_,?_⟩;(have y0:=(Qag hC htr 2).trans p2;have y1:=(Qag hC htr' 2).trans q2;have z0:=(Qag hC hxr _).trans e0;have z1:=(Qag hC hxr _).trans e1;have z2:=(Qag hC hxr _).trans e2;have z0':=(Qag hC hxr' _).trans e0';have z1':=(Qag hC hxr' _).trans e1';have z2':=(Qag hC hxr' _).trans e2';unfold Oper.quietAt;go_simp;first|exact rfl|exact⟨rfl,rfl⟩|(go_at_call 43;refine (IH hd L B L' B' _ _ _ _ _ ts[j].A _ _ _ _ _ ts'[j].A false _ (Nat.le_trans hBr hC.size) (Nat.le_trans hBr' hC.size) (hr1.below hC hBr) (hr2.below hC hBr') (Iff.intro (fun h=>nomatch h) (fun h=>(HE.out (by rw [Qap,Qap] at h;exact h)).elim))).mono ?_;rintro e w'' ⟨rfl,hw⟩;exact⟨rfl,hC.trans (hw.mono hC.size)⟩));go_big_quiet_on;simp only [Act.put,List.setIfInBounds_toArray,List.set_cons_zero,List.set_cons_succ]))
      refine wpQuiet_nil ?_
      intro w2 hb2
      go_wp2_with fail
      go_ret
      exact⟨Qak HN.out.symm,hbw.trans (hb2.mono (by omega))⟩
  · have HT:Hid (b=true):=HY.out (like_all HA.out (by have:=HL.out;omega) (by have:=HL'.out;have:=H3.out;omega))
    go_wp2_with fail
    go_ret
    exact⟨Qak HT.out.symm,hbw⟩
theorem rt_any (d:Nat):SaidRt d:=by
 induction d with
 | zero=>exact rt_step 0 (fun h=>by omega)
 | succ d ih=>exact rt_step (d+1) (fun _=>by simpa using ih)
def likeTm (t t':Tm) (l2 m2 l3 m3:Nat):Bool:=(t.K==t'.K)&&(t.N==t'.N)&&(t.S.toList==t'.S.toList)&&(t.Z.toList==t'.Z.toList)&&((l2:Int)==(m2:Int))&&((l3:Int)==(m3:Int))
set_option maxHeartbeats 2000000 in
theorem sameTermNode_any (t t':Tm) (v6:Value) (a2:Option Addr) (l2 c2:Nat) (a3:Option Addr) (l3 c3:Nat) (u6:Value) (b2:Option Addr) (m2 d2:Nat) (b3:Option Addr) (m3 d3:Nat) (w:World) (hl2:l2≤9223372036854775807) (hm2:m2≤9223372036854775807) (hl3:l3≤9223372036854775807) (hm3:m3≤9223372036854775807) :
 Calls Try.prog 42 #[.agg #[.int .i64 t.K,.int .i64 t.N,.string t.S,.string t.Z,.int .i64 t.T.K,.int .i64 t.T.N,v6,.slice a2 l2 c2,.slice a3 l3 c3],.agg #[.int .i64 t'.K,.int .i64 t'.N,.string t'.S,.string t'.Z,.int .i64 t'.T.K,.int .i64 t'.T.N,u6,.slice b2 m2 d2,.slice b3 m3 d3]] w fun e w'=>e=.returned (.bool (likeTm t t' l2 m2 l3 m3))∧Below w.heap.size w w':=by
 have hbel:Below w.heap.size w ((w.alloc (.cells #[.int .i64 t.K,.int .i64 t.N,.string t.S,.string t.Z,.int .i64 t.T.K,.int .i64 t.T.N,v6,.slice a2 l2 c2,.slice a3 l3 c3] 29)).alloc (.cells #[.int .i64 t'.K,.int .i64 t'.N,.string t'.S,.string t'.Z,.int .i64 t'.T.K,.int .i64 t'.T.N,u6,.slice b2 m2 d2,.slice b3 m3 d3] 29)):=((Below.refl _ _).alloc (Nat.le_refl _) _).alloc (by simp) _
 unfold likeTm
 cases h1:(t.K==t'.K)
 · go_enter Try.func42,Try.ntmps42
   go_wp2_with fail
   go_ret
   exact⟨rfl,hbel⟩
 cases h2:(t.N==t'.N)
 · go_enter Try.func42,Try.ntmps42
   go_wp2_with fail
   go_ret
   exact⟨rfl,hbel⟩
 cases h3:(t.S.toList==t'.S.toList)
 · go_enter Try.func42,Try.ntmps42
   go_wp2_with fail
   go_ret
   exact⟨rfl,hbel⟩
 cases h4:(t.Z.toList==t'.Z.toList)
 · go_enter Try.func42,Try.ntmps42
   go_wp2_with fail
   go_ret
   exact⟨rfl,hbel⟩
 cases h5:((l2:Int)==(m2:Int))
 · go_enter Try.func42,Try.ntmps42
   go_wp2_with fail
   go_ret
   exact⟨rfl,hbel⟩
 cases h6:((l3:Int)==(m3:Int))
 all_goals
  go_enter Try.func42,Try.ntmps42
  go_wp2_with fail
  go_ret
  exact⟨rfl,hbel⟩
set_option maxHeartbeats 2000000 in
theorem eqFuncTy_any (d L B L' B':Nat) (ao:Option Addr) (len cap:Nat) (ts:List Tr) (ao':Option Addr) (len' cap':Nat) (ts':List Tr) (b:Bool) (w:World) (hB:B≤w.heap.size) (hB':B'≤w.heap.size) (hs:Hs L B w d ao len ts) (hs':Hs L' B' w d ao' len' ts') (hb:b=true↔ts=ts') :
 Calls Try.prog 44 #[.slice ao len cap,.slice ao' len' cap',.func (.func 43) #[] #[]] w fun e w'=>e=.returned (.bool b)∧Below w.heap.size w w':=by
 have hl:=hs.len.2
 have hl':=hs'.len.2
 have HL:Hid (len=ts.length):=hs.len.1
 have HL':Hid (len'=ts'.length):=hs'.len.1
 have HB:Hid (b=true↔ts=ts'):=hb
 clear hb
 by_cases h3:len=len'
 case' neg =>
  have h3b:((len:Int) != (len':Int))=true:=by rw [bne_iff_ne];omega
  have HF:Hid (b=false):=by show _=_;rw [Bool.eq_false_iff];intro h;exact h3 (by rw [HL.out,HL'.out,HB.out.1 h])
  clear h3
  go_enter Try.func44,Try.ntmps44
  go_wp2_with fail
  go_ret
  exact⟨Qak HF.out.symm,Below.refl _ _⟩
 have h3b:((len:Int) != (len':Int))=false:=by simp [h3]
 have H3:Hid (len=len'):=h3
 clear h3
 go_enter Try.func44,Try.ntmps44
 go_wp2_with fail
 go_loopw [17] (fun i wr=>∃ j:Nat,j≤len∧i=.int .i64 j∧Hid (likeB ts ts' j)∧Below w.heap.size w wr) (fun i _=>len - (intOf i).toNat)
 case atStart=>exact⟨0,by omega,rfl,rfl,Below.refl _ _⟩
 case round =>
  obtain⟨j,hj,rfl,HA,hbr⟩:=hrel
  have hszr:=hbr.size
  by_cases hlt:j<len
  · have hlt1:j<ts.length:=by have:=HL.out;omega
    have hlt2:j<ts'.length:=by have:=HL'.out;have:=H3.out;omega
    have hlt':j<len':=by have:=H3.out;omega
    obtain⟨x,o,rfl,_,hxB,ao1,len1,cap1,c0,c1,c2,hs1⟩:=hs.get j hlt1
    obtain⟨x',o',rfl,_,hxB',ao2,len2,cap2,c0',c1',c2',hs2⟩:=hs'.get j hlt2
    have e0:=(Qag hbr (by omega) _).trans c0
    have e1:=(Qag hbr (by omega) _).trans c1
    have e2:=(Qag hbr (by omega) _).trans c2
    have e0':=(Qag hbr (by omega) _).trans c0'
    have e1':=(Qag hbr (by omega) _).trans c1'
    have e2':=(Qag hbr (by omega) _).trans c2'
    have hxr':x'<wr.heap.size:=by omega
    have hba:Below w.heap.size w ((wr.alloc (.cells #[.int .i64 ts[j].K,.int .i64 ts[j].N,.slice ao1 len1 cap1] 26)).alloc (.cells #[.int .i64 ts'[j].K,.int .i64 ts'[j].N,.slice ao2 len2 cap2] 26)):=(hbr.alloc (by omega) _).alloc (by simp;omega) _
    have hr1:=hs1.below hba hB
    have hr2:=hs2.below hba hB'
    clear c0 c1 c2 c0' c1' c2'
    by_cases heq:ts[j]=ts'[j]
    · have HE:Hid (ts[j]=ts'[j]):=heq
      have HN:Hid (likeB ts ts' (j+1)):=like_next HA.out hlt1 hlt2 heq
      clear heq
      go_wp2_with fail
      refine (rt_any (d - 1) L B L' B' _ _ _ _ _ ts[j].A _ _ _ _ _ ts'[j].A true _ (by simp;omega) (by simp;omega) hr1 hr2 (Iff.intro (fun _=>by rw [Qap,Qap];exact HE.out) (fun _=>rfl))).mono ?_
      rintro e w2 ⟨rfl,hb2⟩
      have hbr2:Below w.heap.size w w2:=hba.trans (hb2.mono (by simp;omega))
      go_wp2_with fail
      go_roundw
      case rel=>exact⟨j+1,by omega,by go_num,HN,hbr2⟩
      case measure=>simp [intOf];omega
    · have HE:Hid (¬ ts[j]=ts'[j]):=heq
      have HN:Hid (b=false):=by show _=_;rw [Bool.eq_false_iff];intro h;exact unlike_at hlt1 hlt2 heq (HB.out.1 h)
      clear heq
      go_wp2_with fail
      refine (rt_any (d - 1) L B L' B' _ _ _ _ _ ts[j].A _ _ _ _ _ ts'[j].A false _ (by simp;omega) (by simp;omega) hr1 hr2 (Iff.intro (fun h=>nomatch h) (fun h=>(HE.out (by rw [Qap,Qap] at h;exact h)).elim))).mono ?_
      rintro e w2 ⟨rfl,hb2⟩
      go_wp2_with fail
      go_ret
      exact⟨Qak HN.out.symm,hba.trans (hb2.mono (by simp;omega))⟩
  · have HT:Hid (b=true):=HB.out.2 (like_all HA.out (by have:=HL.out;omega) (by have:=HL'.out;have:=H3.out;omega))
    go_wp2_with fail
    go_ret
    exact⟨Qak HT.out.symm,hbr⟩
end Go.Proofs.Ytleghjgpnefliaa
