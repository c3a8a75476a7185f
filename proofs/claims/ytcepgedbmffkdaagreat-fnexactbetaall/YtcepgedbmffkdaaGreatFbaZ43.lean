/-
  Rows of names: held against each other; marked; and whether they still bear their marks.
-/
import Derived.Test.YtcepgedbmffkdaaGreatFbaZ2
import Derived.Test.YtcepgedbmffkdaaGreatFbaZ7
import Derived.BigQuiet
import Derived.Deep.RegionWith
import Derived.Laws.IdiomStrings
import Derived.Test.YtcepgedbmffkdaaGreatFbaZ1
namespace Go.Proofs.YtcepgedbmffkdaaGreat
open Go.RowKit
set_option linter.unusedVariables false
set_option linter.unusedSimpArgs false
theorem below_drewN {B:Nat} {w wr:World} (h:Below B w wr) (n:Nat):Below B w (wr.drewN n):=⟨h.os,h.tape,h.output,h.size,h.block⟩
def dg:Nat→Nat→List UInt8→List UInt8
  | 0,_,acc=>acc
  | f+1,n,acc=>if n=0 then acc else dg f (n / 10) (UInt8.ofNat (48+n % 10) :: acc)
theorem dg_zero (f:Nat) (acc:List UInt8):dg f 0 acc=acc:=by cases f <;> simp [dg]
theorem dg_step (f n:Nat) (acc:List UInt8) (h:0 < n) (hf:n < f):dg f n acc=dg (f - 1) (n / 10) (UInt8.ofNat (48+n % 10) :: acc):=by
  cases f with
  | zero=>omega
  | succ f=>simp [dg];intro e;omega
def mt (k:Nat):List UInt8:=if k=0 then [109,48] else 109 :: dg (k+1) k []
theorem conv_byte (w:World) (g:Nat) (b:UInt8) (x:Int) (hx:x=(b.toNat:Int)) (hg:g=w.heap.size):(convert 138 9 (.slice (some ⟨g,0,none⟩) 1 1)).run Tryz.prog (w.alloc (.cells #[.int .u8 x] 5))=.ok (.string ⟨#[b]⟩) (w.alloc (.cells #[.int .u8 x] 5)):=by
  refine run_convert_bytes_back _ _ _ _ ⟨g,0,none⟩ 1 [b] Tryz.underlying138 Tryz.underlying5 Tryz.underlying9 ?_
  intro j hj
  have hj0:j=0:=by simpa using hj
  subst hj0
  show (w.alloc _).cell? ⟨g,0,none⟩=_
  rw [row_cell (heap_new hg),hx]
  rfl
theorem str_cons (b:UInt8) (a:List UInt8):(⟨#[b]⟩:ByteArray) ++ ⟨a.toArray⟩=⟨(b :: a).toArray⟩:=by
  apply ByteArray.ext
  simp
set_option maxRecDepth 100000 in
set_option maxHeartbeats 1000000 in
theorem markText_any (k:Nat) (hk:k≤4611686018427387904) (w:World):Calls Tryz.prog 54 #[.int .i64 k] w fun e w'=>e=.returned (tk (mt k))∧Below w.heap.size w w':=by
  by_cases h0:k=0
  · subst h0
    go_enter Tryz.func54,Tryz.ntmps54
    go_wp2_with fail
    go_ret
    exact ⟨rfl,Below.refl _ _⟩
  · have hb:¬ (k:Int)≤0:=by omega
    have HM:Hid (mt k=109 :: dg (k+1) k []):=by show _=_;simp [mt,h0]
    clear h0
    go_enter Tryz.func54,Tryz.ntmps54
    go_wp2_with fail
    go_loopw [0,3] (fun kk o wr=>∃ (n f:Nat) (acc:List UInt8),kk=.int .i64 n∧o=.string ⟨acc.toArray⟩∧n < f∧n+acc.length≤4611686018427387904∧Below w.heap.size w wr∧Hid (dg f n acc=dg (k+1) k [])) (fun kk _ _=>(intOf kk).toNat)
    case atStart=>exact ⟨k,k+1,[],rfl,rfl,by omega,by simpa using hk,Below.refl _ _,rfl⟩
    case round =>
      obtain ⟨n,f,acc,rfl,rfl,hf,hl,hbr,HD⟩:=hrel
      by_cases hn:0 < n
      · obtain ⟨b,hbv⟩:∃ b:UInt8,b=UInt8.ofNat (48+n % 10):=⟨_,rfl⟩
        have hx:48+(n:Int) % 10=((b.toNat:Nat):Int):=by
          have:b.toNat=48+n % 10:=by rw [hbv];simp;omega
          rw [this];omega
        have hcv:=conv_byte wr wr.heap.size b (48+(n:Int) % 10) hx rfl
        have HD2:Hid (dg (f - 1) (n / 10) (b :: acc)=dg (k+1) k []):=by show _=_;rw [← HD.out,dg_step f n acc hn hf,hbv]
        have hdv:n / 10 < n:=by omega
        have hla:acc.length≤4611686018427387904:=by omega
        clear hbv hx
        go_wp2_with fail
        go_roundw
        case rel=>exact ⟨n / 10,f - 1,b :: acc,by go_num,by rw [str_cons],by omega,by simp only [List.length_cons];omega,hbr.alloc (by have:=hbr.size;omega) _,HD2⟩
        case measure=>simp [intOf];omega
      · have hn0:n=0:=by omega
        subst hn0
        rw [dg_zero] at HD
        have hla:acc.length≤4611686018427387904:=by omega
        go_wp2_with fail
        go_ret
        exact ⟨by rw [HM.out,← HD.out];exact congrArg Ending.returned (congrArg Value.string (str_cons 109 acc)),hbr⟩
end Go.Proofs.YtcepgedbmffkdaaGreat

/-
  What 'markTyS', 'markTy' (every node numbered anew, in order) and 'heldTyS', 'heldTy' (whether it still bears these numbers) come to.
-/
namespace Go.Proofs.YtcepgedbmffkdaaGreat
open Go.RowKit
set_option linter.unusedVariables false
set_option linter.unusedSimpArgs false
def kAt (k:Int) (ts:List Tr) (i:Nat):Int:=k+2 * ((i:Int)+subS (ts.take i))
def partsAt (ts:List Tr) (i:Nat):List Tr:=match ts[i]? with | some t=>t.A | none=>[]
def markD:Nat→Int→List Tr→List Tr
  | 0,_,_=>[]
  | d+1,k,ts=>(List.range ts.length).map fun i=>⟨kAt k ts i,kAt k ts i+1,markD d (kAt k ts i+2) (partsAt ts i)⟩
def Dp:Nat→List Tr→Prop
  | 0,ts=>ts=[]
  | d+1,ts=>∀ i (_:i < ts.length),Dp d ts[i].A
theorem partsAt_eq {ts:List Tr} {i:Nat} (h:i < ts.length):partsAt ts i=ts[i].A:=by simp [partsAt,List.getElem?_eq_getElem h]
theorem kAt_zero (k:Int) (ts:List Tr):kAt k ts 0=k:=by simp [kAt,subS]
theorem kAt_succ (k:Int) (ts:List Tr) (i:Nat) (h:i < ts.length):kAt k ts (i+1)=kAt k ts i+2+2 * cntS ts[i].A:=by
  unfold kAt;rw [subS_take ts i h];omega
theorem kAt_all (k:Int) (ts:List Tr) (i:Nat) (h:i=ts.length):kAt k ts i=k+2 * cntS ts:=by
  unfold kAt;rw [cntS_eq,List.take_of_length_le (by omega)];omega
theorem kAt_le (k:Int) (ts:List Tr) (i:Nat) (h:i < ts.length):k≤kAt k ts i∧kAt k ts i+2+2 * cntS ts[i].A≤k+2 * cntS ts:=by
  have h1:=subS_take ts i h
  have h2:=subS_take_le ts (i+1)
  have h3:=cntS_eq ts
  unfold kAt
  omega
theorem markD_len (d:Nat) (k:Int) (ts:List Tr):(markD (d+1) k ts).length=ts.length:=by simp [markD]
theorem markD_get (d:Nat) (k:Int) (ts:List Tr) (i:Nat) (h:i < (markD (d+1) k ts).length):(markD (d+1) k ts)[i]=⟨kAt k ts i,kAt k ts i+1,markD d (kAt k ts i+2) (partsAt ts i)⟩:=by
  simp [markD]
theorem Hs.dp {L B:Nat} {w:World}:∀ {d:Nat} {ao:Option Addr} {len:Nat} {ts:List Tr},Hs L B w d ao len ts→Dp d ts:=by
  intro d
  induction d with
  | zero=>intro ao len ts h;exact h.2
  | succ d ih =>
    intro ao len ts h i hi
    obtain ⟨b,o,_,_,_,ao',len',cap',_,_,_,hr⟩:=h.2.2 i hi
    exact ih hr
theorem Ow.dp {w:World}:∀ {d:Nat} {ao:Option Addr} {len:Nat} {ts:List Tr} {bs:List Nat},Ow w d ao len ts bs→Dp d ts:=by
  intro d
  induction d with
  | zero=>intro ao len ts bs h;exact h.2.1
  | succ d ih =>
    intro ao len ts bs h i hi
    rcases h with ⟨_,rfl,_⟩ | ⟨g,cs,bss,e,hl,hm,hg,hc,hbl,rfl,hE⟩
    · simp at hi
    · obtain ⟨ao',len',cap',_,_,_,hr⟩:=hE i hi (by omega)
      exact ih hr
structure Chg (bs:List Nat) (w w':World):Prop where
  os:w'.os=w.os
  tape:w'.tape=w.tape
  output:w'.output=w.output
  size:w.heap.size≤w'.heap.size
  block:∀ k,k < w.heap.size→k ∉ bs→w'.heap[k]?=w.heap[k]?
theorem Chg.refl (bs:List Nat) (w:World):Chg bs w w:=⟨rfl,rfl,rfl,Nat.le_refl _,fun _ _ _=>rfl⟩
theorem Chg.trans {bs:List Nat} {a b c:World} (h:Chg bs a b) (k:Chg bs b c):Chg bs a c :=
  ⟨k.os.trans h.os,k.tape.trans h.tape,k.output.trans h.output,Nat.le_trans h.size k.size,fun i hi hn=>(k.block i (Nat.lt_of_lt_of_le hi h.size) hn).trans (h.block i hi hn)⟩
theorem Chg.mono {bs bs':List Nat} {a b:World} (h:Chg bs a b) (hs:∀ x ∈ bs,x ∈ bs'):Chg bs' a b:=⟨h.os,h.tape,h.output,h.size,fun i hi hn=>h.block i hi (fun hm=>hn (hs i hm))⟩
theorem Chg.set {bs:List Nat} {a w:World} (h:Chg bs a w) {g o:Nat} (hg:g ∈ bs) (u:Value):Chg bs a (w.setCell ⟨g,o,none⟩ u) :=
  h.trans ⟨rfl,rfl,rfl,by simp,fun k _ hn=>row_other _ _ _ (fun e=>hn (e ▸ hg))⟩
theorem Chg.below {bs:List Nat} {B:Nat} {a w w':World} (h:Below B a w) (k:Chg bs w w') (hB:B≤w.heap.size) (hb:∀ b ∈ bs,B≤b):Below B a w' :=
  h.trans ⟨k.os,k.tape,k.output,k.size,fun i hi=>k.block i (by omega) (fun hm=>by have:=hb i hm;omega)⟩
theorem Below.chg {bs:List Nat} {w w':World} (h:Below w.heap.size w w'):Chg bs w w':=⟨h.os,h.tape,h.output,h.size,fun k hk _=>h.block k hk⟩
def RowF (w:World) (d g n:Nat) (bss:List (List Nat)) (F:Nat→Tr):Prop :=
  ∃ cs:Array Value,w.heap[g]?=some (.cells cs 31 (0,0))∧n * 3≤cs.size∧∀ i (_:i < n) (_:i < bss.length),El w (fun ao len l=>Ow w d ao len l bss[i]) g (i * 3) (F i)
theorem flatten_apart {bss:List (List Nat)} (h:bss.flatten.Nodup) {i j:Nat} (hi:i < bss.length) (hj:j < bss.length) (hij:i≠j) {b:Nat} (hb:b ∈ bss[i]):b ∉ bss[j]:=by
  unfold List.Nodup at h
  rw [List.pairwise_flatten] at h
  obtain ⟨_,hp⟩:=h
  rw [List.pairwise_iff_getElem] at hp
  intro hb2
  rcases Nat.lt_or_gt_of_ne hij with hlt | hlt
  · exact hp i j hi hj hlt b hb b hb2 rfl
  · exact hp j i hj hi hlt b hb2 b hb rfl
theorem part_nodup {bss:List (List Nat)} (h:bss.flatten.Nodup) {i:Nat} (hi:i < bss.length):bss[i].Nodup:=by
  unfold List.Nodup at h
  rw [List.pairwise_flatten] at h
  exact h.1 _ (List.getElem_mem hi)
theorem rowF_step {w w3:World} {d g n i:Nat} {bss:List (List Nat)} {F:Nat→Tr} {K N:Int} {l:List Tr} {ao:Option Addr} {len cap:Nat}
    (h:RowF w d g n bss F) (hnd:(g :: bss.flatten).Nodup) (hi:i < n) (hib:i < bss.length) (hbl:bss.length=n) (hcell:w.cell? ⟨g,i * 3+2,none⟩=some (.slice ao len cap))
    (hg:g < w.heap.size) (hin:∀ b ∈ bss.flatten,b < w.heap.size)
    (hc:Chg bss[i] ((w.setCell ⟨g,i * 3,none⟩ (.int .i64 K)).setCell ⟨g,i * 3+1,none⟩ (.int .i64 N)) w3) (ho:Ow w3 d ao len l bss[i]) :
    RowF w3 d g n bss (fun j=>if j=i then ⟨K,N,l⟩ else F j):=by
  obtain ⟨cs,hr,hcs,hE⟩:=h
  rw [List.nodup_cons] at hnd
  have hr2:=row_set (row_set hr (i * 3) (.int .i64 K)) (i * 3+1) (.int .i64 N)
  have hr3:w3.heap[g]?=_:=(hc.block g (by simpa using hg) (fun hm=>hnd.1 (mem_part hib hm))).trans hr2
  refine ⟨_,hr3,by simpa using hcs,fun j hj hjb=>?_⟩
  dsimp only
  by_cases hji:j=i
  · subst hji
    rw [if_pos rfl]
    refine ⟨ao,len,cap,?_,?_,?_,ho⟩
    · rw [row_cell hr3];simp [Array.getElem?_setIfInBounds];omega
    · rw [row_cell hr3];simp [Array.getElem?_setIfInBounds];omega
    · rw [row_cell hr3]
      rw [row_cell hr] at hcell
      simp only [Array.getElem?_setIfInBounds,Array.size_setIfInBounds]
      rw [if_neg (by omega),if_neg (by omega)]
      exact hcell
  · rw [if_neg hji]
    obtain ⟨ao',len',cap',c0,c1,c2,hh⟩:=hE j hj hjb
    have far:∀ p,p≠i * 3→p≠i * 3+1→w3.cell? ⟨g,p,none⟩=w.cell? ⟨g,p,none⟩:=by
      intro p h1 h2
      rw [row_cell hr3,row_cell hr]
      simp only [Array.getElem?_setIfInBounds]
      rw [if_neg (by omega),if_neg (by omega)]
    refine ⟨ao',len',cap',(far _ (by omega) (by omega)).trans c0,(far _ (by omega) (by omega)).trans c1,(far _ (by omega) (by omega)).trans c2,hh.keep fun b hb=>?_⟩
    have hbf:=mem_part hjb hb
    have hbg:b≠g:=fun e=>hnd.1 (e ▸ hbf)
    rw [hc.block b (by simpa using hin b hbf) (flatten_apart hnd.2 hjb hib hji hb),row_other _ _ _ hbg,row_other _ _ _ hbg]
def SaidMkS (d:Nat):Prop:=∀ (ao:Option Addr) (len cap:Nat) (ts:List Tr) (bs:List Nat) (k:Int) (w:World),Ow w d ao len ts bs→bs.Nodup→(∀ b ∈ bs,b < w.heap.size)→0≤k→k+2 * cntS ts≤4611686018427387904 →
    Calls Tryz.prog 33 #[.slice ao len cap,.int .i64 k] w fun e w'=>e=.returned (.int .i64 (k+2 * cntS ts))∧Chg bs w w'∧Ow w' d ao len (markD d k ts) bs
set_option maxHeartbeats 400000 in
theorem mkS_empty (d:Nat) (ao:Option Addr) (cap:Nat) (k:Int) (w:World) :
    Calls Tryz.prog 33 #[.slice ao 0 cap,.int .i64 k] w fun e w'=>e=.returned (.int .i64 (k+2 * cntS []))∧Chg [] w w'∧Ow w' d ao 0 (markD d k []) []:=by
  go_enter Tryz.func33,Tryz.ntmps33
  go_wp2_with fail
  refine wp_loop_rounds 1 ?_;rw [rounds_succ]
  go_wp2_with fail
  go_ret
  refine ⟨ret_int (by simp [cntS]),Chg.refl _ _,?_⟩
  cases d with
  | zero=>exact ⟨rfl,rfl,rfl⟩
  | succ d=>exact Or.inl ⟨rfl,by simp [markD],rfl⟩
set_option maxHeartbeats 800000 in
theorem mkS_succ (d:Nat) (IH:SaidMkS d):SaidMkS (d+1):=by
  intro ao len cap ts bs k w ho hnd hin hk0 hk1
  rcases ho with ⟨rfl,rfl,rfl⟩ | ⟨g,cs,bss,rfl,hl,hm,hg,hc,hbl,rfl,hE⟩
  · exact mkS_empty (d+1) ao cap k w
  have HL:Hid (len=ts.length):=hl
  have hgw:=hin g (by simp)
  have hin2:∀ b ∈ bss.flatten,b < w.heap.size:=fun b hb=>hin b (List.mem_cons_of_mem _ hb)
  have HI:Hid (∀ b ∈ bss.flatten,b < w.heap.size):=hin2
  have HND:Hid (g :: bss.flatten).Nodup:=hnd
  have HB:Hid (bss.length=ts.length):=hbl
  have hRow:RowF w d g len bss (fun j=>if j < 0 then ⟨kAt k ts j,kAt k ts j+1,markD d (kAt k ts j+2) (partsAt ts j)⟩ else ts.getD j ⟨0,0,[]⟩) :=
    ⟨cs,hg,hc,fun i hi hi'=>by
      dsimp only
      rw [if_neg (by omega)]
      have:=hE i (by omega) hi'
      have e:ts.getD i ⟨0,0,[]⟩=ts[i]:=by simp [List.getD,List.getElem?_eq_getElem (show i < ts.length by omega)]
      rw [e];exact this⟩
  clear hE hin hin2 hnd hg hc hl hbl
  go_enter Tryz.func33,Tryz.ntmps33
  go_wp2_with fail
  go_loopw [1,5] (fun kv i wr=>∃ j:Nat,j≤len∧i=.int .i64 j∧kv=.int .i64 (kAt k ts j)∧Chg (g :: bss.flatten) w wr ∧
      RowF wr d g len bss (fun x=>if x < j then ⟨kAt k ts x,kAt k ts x+1,markD d (kAt k ts x+2) (partsAt ts x)⟩ else ts.getD x ⟨0,0,[]⟩)) (fun _ i _=>len - (intOf i).toNat)
  case atStart=>exact ⟨0,by omega,rfl,by rw [kAt_zero],Chg.refl _ _,hRow⟩
  case round =>
    obtain ⟨j,hj,rfl,rfl,hch,hR⟩:=hrel
    have hszr:=hch.size
    by_cases hlt:j < len
    · have hlt':j < ts.length:=by have:=HL.out;omega
      have hjb:j < bss.length:=by have:=HB.out;omega
      have hle:=kAt_le k ts j hlt'
      have hR2:=hR
      obtain ⟨cs',hr,hcs,hEl⟩:=hR2
      obtain ⟨ao1,len1,cap1,c0,c1,c2,ho1⟩:=hEl j hlt hjb
      dsimp only at c0 c1 ho1
      rw [if_neg (by omega)] at c0 c1 ho1
      have eg:ts.getD j ⟨0,0,[]⟩=ts[j]:=by simp [List.getD,List.getElem?_eq_getElem hlt']
      rw [eg] at c0 c1 ho1
      have r0:=row_free hr (j * 3)
      have r1:=row_free hr (j * 3+1)
      have HS:Hid (kAt k ts (j+1)=kAt k ts j+2+2 * cntS ts[j].A):=kAt_succ k ts j hlt'
      have HLE:Hid (kAt k ts j+2+2 * cntS ts[j].A≤k+2 * cntS ts):=hle.2
      have hka:=hle.1
      have hkb:kAt k ts j+2≤4611686018427387904:=by have:=hle.2;omega
      clear hEl hle hcs eg
      generalize hkj:kAt k ts j=kj at *
      have HKJ:Hid (kAt k ts j=kj):=hkj
      clear hkj
      have hnd:=HND.out
      rw [List.nodup_cons] at hnd
      obtain ⟨X,hX⟩:∃ X,X=(wr.setCell ⟨g,j * 3,none⟩ (.int .i64 kj)).setCell ⟨g,j * 3+1,none⟩ (.int .i64 (kj+1)):=⟨_,rfl⟩
      have hXo:Ow X d ao1 len1 ts[j].A bss[j]:=by
        rw [hX]
        exact ho1.keep fun b hb=>by
          have hbg:b≠g:=fun e=>hnd.1 (e ▸ mem_part hjb hb)
          rw [row_other _ _ _ hbg,row_other _ _ _ hbg]
      have hXs:X.heap.size=wr.heap.size:=by rw [hX];simp
      have HX:Hid (X=_):=hX
      have HN2:Hid bss[j].Nodup:=part_nodup hnd.2 hjb
      have HIn2:Hid (∀ b ∈ bss[j],b < X.heap.size):=fun b hb=>by have:=HI.out b (mem_part hjb hb);omega
      clear hX hnd ho1
      go_wp2_with fail
      rw [show kj+1+1=kj+2 from by omega,← HX.out]
      refine (IH _ _ _ _ _ _ _ hXo HN2.out HIn2.out (by omega) (by have:=HLE.out;omega)).mono ?_
      rintro e w3 ⟨rfl,hch3,ho3⟩
      have hRn:=rowF_step hR HND.out hlt hjb (by have:=HB.out;have:=HL.out;omega) c2 (by omega) (fun b hb=>by have:=HI.out b hb;omega) (by rw [← HX.out];exact hch3) ho3
      have hchn:Chg (g :: bss.flatten) w w3:=(hch.trans (by rw [HX.out];exact ((Chg.refl _ _).set (by simp) _).set (by simp) _)).trans (hch3.mono fun b hb=>List.mem_cons_of_mem _ (mem_part hjb hb))
      have hRn2:RowF w3 d g len bss (fun x=>if x < j+1 then ⟨kAt k ts x,kAt k ts x+1,markD d (kAt k ts x+2) (partsAt ts x)⟩ else ts.getD x ⟨0,0,[]⟩):=by
        obtain ⟨cs3,q1,q2,q3⟩:=hRn
        refine ⟨cs3,q1,q2,fun i hi hi'=>?_⟩
        have:=q3 i hi hi'
        dsimp only at this ⊢
        by_cases hij:i=j
        · subst hij
          rw [if_pos rfl] at this
          rw [if_pos (by omega),HKJ.out,partsAt_eq hlt']
          exact this
        · rw [if_neg hij] at this
          by_cases hij2:i < j
          · rw [if_pos hij2] at this;rw [if_pos (by omega)];exact this
          · rw [if_neg hij2] at this;rw [if_neg (by omega)];exact this
      clear hR hRn hch3 ho3 hXo c0 c1 c2 r0 r1 hr
      go_wp2_with fail
      go_roundw
      case rel=>exact ⟨j+1,by omega,by go_num,by rw [HS.out],hchn,hRn2⟩
      case measure=>simp [intOf];omega
    · have hjl:j=ts.length:=by have:=HL.out;omega
      have HK:Hid (kAt k ts j=k+2 * cntS ts):=kAt_all k ts j hjl
      have HJ:Hid (j=ts.length):=hjl
      clear hjl
      go_wp2_with fail
      go_ret
      refine ⟨ret_int HK.out,hch,?_⟩
      obtain ⟨cs',hr,hcs,hEl⟩:=hR
      refine Or.inr ⟨g,cs',bss,rfl,by rw [markD_len];exact HL.out,hm,hr,hcs,by rw [markD_len];exact HB.out,rfl,fun i hi hi'=>?_⟩
      have hi2:i < ts.length:=by rw [markD_len] at hi;exact hi
      have:=hEl i (by have:=HL.out;omega) hi'
      dsimp only at this
      rw [if_pos (by have:=HJ.out;omega)] at this
      rw [markD_get]
      exact this
theorem mkS_any (d:Nat):SaidMkS d:=by
  induction d with
  | zero =>
    intro ao len cap ts bs k w ho _ _ _ _
    obtain ⟨rfl,rfl,rfl⟩:=ho
    exact mkS_empty 0 ao cap k w
  | succ d ih=>exact mkS_succ d ih
end Go.Proofs.YtcepgedbmffkdaaGreat

/-
  'markTy' of a whole type; 'heldTyS', 'heldTy' over what bears the numbers: they answer the count.
-/
namespace Go.Proofs.YtcepgedbmffkdaaGreat
open Go.RowKit
set_option linter.unusedVariables false
set_option linter.unusedSimpArgs false
set_option maxHeartbeats 400000 in
theorem mk_any (d:Nat) (K N:Int) (ao:Option Addr) (len cap:Nat) (ts:List Tr) (bs:List Nat) (k:Int) (w:World) (ho:Ow w d ao len ts bs) (hnd:bs.Nodup) (hin:∀ b ∈ bs,b < w.heap.size) (hk0:0≤k) (hk1:k+2 * cntS ts≤4611686018427387904) :
    Calls Tryz.prog 32 #[.agg #[.int .i64 K,.int .i64 N,.slice ao len cap],.int .i64 k] w fun e w'=>e=.returned (.int .i64 (k+2 * cntS ts))∧Chg bs w w'∧Ow w' d ao len (markD d k ts) bs:=by
  obtain ⟨X,hX⟩:∃ X,X=w.alloc (.cells #[.int .i64 K,.int .i64 N,.slice ao len cap] 31):=⟨_,rfl⟩
  have hXs:X.heap.size=w.heap.size+1:=by rw [hX];simp
  have hXb:Below w.heap.size w X:=by rw [hX];exact (Below.refl _ _).alloc (Nat.le_refl _) _
  have hXo:Ow X d ao len ts bs:=ho.keep fun b hb=>hXb.block b (hin b hb)
  have HIn:Hid (∀ b ∈ bs,b < X.heap.size):=fun b hb=>by have:=hin b hb;omega
  have HX:Hid (X=_):=hX
  have HND:Hid bs.Nodup:=hnd
  clear hX hin hnd
  go_enter Tryz.func32,Tryz.ntmps32
  go_wp2_with fail
  rw [← HX.out]
  refine (mkS_any d _ _ _ _ _ _ _ hXo HND.out HIn.out hk0 hk1).mono ?_
  rintro e w1 ⟨rfl,hc1,ho1⟩
  go_wp2_with fail
  go_ret
  exact ⟨rfl,(Below.chg hXb).trans hc1,ho1⟩
def SaidHdS (d:Nat):Prop:=∀ (L B:Nat) (ao:Option Addr) (len cap:Nat) (ts:List Tr) (k:Int) (w:World),B≤w.heap.size→Hs L B w d ao len (markD d k ts)→Dp d ts→0≤k→k+2 * cntS ts≤4611686018427387904 →
    Calls Tryz.prog 36 #[.slice ao len cap,.int .i64 k] w fun e w'=>e=.returned (.int .i64 (k+2 * cntS ts))∧Below w.heap.size w w'
set_option maxHeartbeats 400000 in
theorem hdS_zero:SaidHdS 0:=by
  intro L B ao len cap ts k w hB hs hd hk0 hk1
  obtain ⟨rfl,_⟩:=hs
  have hd:ts=[]:=hd
  subst hd
  go_enter Tryz.func36,Tryz.ntmps36
  go_wp2_with fail
  refine wp_loop_rounds 1 ?_;rw [rounds_succ]
  go_wp2_with fail
  go_ret
  exact ⟨ret_int (by simp [cntS]),Below.refl _ _⟩
set_option maxHeartbeats 800000 in
theorem hdS_succ (d:Nat) (IH:SaidHdS d):SaidHdS (d+1):=by
  intro L B ao len cap ts k w hB hs hd hk0 hk1
  have HL:Hid (len=ts.length):=by have:=hs.1;rw [markD_len] at this;exact this
  have hl:=hs.2.1
  have HD:Hid (Dp (d+1) ts):=hd
  clear hd
  go_enter Tryz.func36,Tryz.ntmps36
  go_wp2_with fail
  go_loopw [1,5] (fun kv i wr=>∃ j:Nat,j≤len∧i=.int .i64 j∧kv=.int .i64 (kAt k ts j)∧Below w.heap.size w wr) (fun _ i _=>len - (intOf i).toNat)
  case atStart=>exact ⟨0,by omega,rfl,by rw [kAt_zero],Below.refl _ _⟩
  case round =>
    obtain ⟨j,hj,rfl,rfl,hbel⟩:=hrel
    have hszr:=hbel.size
    by_cases hlt:j < len
    · have hlt':j < ts.length:=by have:=HL.out;omega
      have hle:=kAt_le k ts j hlt'
      obtain ⟨b,o,rfl,_,hbB,hel⟩:=hs.2.2 j (by rw [markD_len];exact hlt')
      rw [markD_get] at hel
      obtain ⟨ao1,len1,cap1,c0,c1,c2,hs1⟩:=hel
      dsimp only at c0 c1 hs1
      rw [partsAt_eq hlt'] at hs1
      have e0:=(bcell hbel (by omega) _).trans c0
      have e1:=(bcell hbel (by omega) _).trans c1
      have e2:=(bcell hbel (by omega) _).trans c2
      have hs2:=hs1.below hbel hB
      have HDj:Hid (Dp d ts[j].A):=HD.out j hlt'
      have HS:Hid (kAt k ts (j+1)=kAt k ts j+2+2 * cntS ts[j].A):=kAt_succ k ts j hlt'
      have HLE:Hid (kAt k ts j+2+2 * cntS ts[j].A≤k+2 * cntS ts):=hle.2
      have hka:=hle.1
      have hkb:kAt k ts j+2≤4611686018427387904:=by have:=hle.2;omega
      clear hle c0 c1 c2
      generalize hkj:kAt k ts j=kj at *
      clear hkj
      go_wp2_with fail
      rw [show kj+1+1=kj+2 from by omega]
      refine (IH _ _ _ _ _ _ _ _ (by omega) hs2 HDj.out (by omega) (by have:=HLE.out;omega)).mono ?_
      rintro e w1 ⟨rfl,hb1⟩
      have hbel1:Below w.heap.size w w1:=hbel.trans (hb1.mono hszr)
      have hnn:0≤kj+2+2 * cntS ts[j].A:=by omega
      go_wp2_with fail
      go_roundw
      case rel=>exact ⟨j+1,by omega,by go_num,by rw [HS.out],hbel1⟩
      case measure=>simp [intOf];omega
    · have HK:Hid (kAt k ts j=k+2 * cntS ts):=kAt_all k ts j (by have:=HL.out;omega)
      go_wp2_with fail
      go_ret
      exact ⟨ret_int HK.out,hbel⟩
theorem hdS_any (d:Nat):SaidHdS d:=by
  induction d with
  | zero=>exact hdS_zero
  | succ d ih=>exact hdS_succ d ih
set_option maxHeartbeats 400000 in
theorem hd_any (d L B:Nat) (K N:Int) (ao:Option Addr) (len cap:Nat) (ts:List Tr) (k:Int) (w:World) (hB:B≤w.heap.size) (hs:Hs L B w d ao len (markD d k ts)) (hd:Dp d ts) (hk0:0≤k) (hk1:k+2 * cntS ts≤4611686018427387904) :
    Calls Tryz.prog 35 #[.agg #[.int .i64 K,.int .i64 N,.slice ao len cap],.int .i64 k] w fun e w'=>e=.returned (.int .i64 (k+2 * cntS ts))∧Below w.heap.size w w':=by
  have hbel:Below w.heap.size w (w.alloc (.cells #[.int .i64 K,.int .i64 N,.slice ao len cap] 31)):=(Below.refl _ _).alloc (Nat.le_refl _) _
  have hs1:=hs.below hbel hB
  have hnn:0≤k+2 * cntS ts:=by omega
  go_enter Tryz.func35,Tryz.ntmps35
  go_wp2_with fail
  refine (hdS_any d _ _ _ _ _ _ _ _ (by simp;omega) hs1 hd hk0 hk1).mono ?_
  rintro e w1 ⟨rfl,hb1⟩
  go_wp2_with fail
  go_ret
  exact ⟨rfl,hbel.trans (hb1.mono (by simp))⟩
end Go.Proofs.YtcepgedbmffkdaaGreat
