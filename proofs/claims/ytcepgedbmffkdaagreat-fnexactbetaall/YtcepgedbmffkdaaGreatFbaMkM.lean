/-
  Marking a term that owns its memory: what it bears then, block by block.
-/
import Derived.Test.YtcepgedbmffkdaaGreatFbaZ43
import Derived.Test.YtcepgedbmffkdaaGreatFbaZ4
namespace Go.Proofs.YtcepgedbmffkdaaGreat
open Go.RowKit
set_option linter.unusedVariables false
set_option linter.unusedSimpArgs false
def mtS (k:Int):ByteArray:=⟨(mt k.toNat).toArray⟩
theorem markTextX_any (k:Int) (h0:0≤k) (h1:k≤4611686018427387904) (w:World):Calls Tryz.prog 54 #[.int .i64 k] w fun e w'=>e=.returned (.string (mtS k))∧Below w.heap.size w w':=by
  obtain ⟨n,rfl⟩:∃ n:Nat,k=n:=⟨k.toNat,by omega⟩
  exact (markText_any n (by omega) w).mono fun e w' ⟨h1,h2⟩=>⟨by rw [h1];simp [tk,mtS],h2⟩
def ElO (w:World) (D:Nat) (r:Option Addr→Nat→Int→Int→List Nat→Prop) (g i:Nat) (k k':Int) (bs:List Nat):Prop :=
  ∃ a1 l1 c1 a2 l2 c2 a3 l3 c3 t1 t2 p1 p2 p3,Nine w g (i * 9) k (k+1) (mtS (k+2)) (mtS (k+3)) (k+4) (k+5) (.slice a1 l1 c1) (.slice a2 l2 c2) (.slice a3 l3 c3)∧bs=p1 ++ p2 ++ p3 ∧
    Ow w D a1 l1 (markD D (k+6) t1) p1∧Dp D t1∧Ow w D a2 l2 (markD D (k+6+2 * cntS t1) t2) p2∧Dp D t2∧r a3 l3 (k+6+2 * cntS t1+2 * cntS t2) k' p3
def BrO (w:World) (D:Nat):Nat→Option Addr→Nat→Int→Int→List Nat→Prop
  | 0,_,len,k,k',bs=>len=0∧k'=k∧bs=[]
  | d+1,ao,len,k,k',bs=>(len=0∧k'=k∧bs=[]) ∨
      ∃ (g:Nat) (cs:Array Value) (bss:List (List Nat)) (ks:Nat→Int),ao=some ⟨g,0,none⟩∧len≤9223372036854775807∧w.heap[g]?=some (.cells cs 34 (0,0))∧bss.length=len∧bs=g :: bss.flatten∧ks 0=k∧ks len=k' ∧
        ∀ i (_:i < len) (_:i < bss.length),ElO w D (BrO w D d) g i (ks i) (ks (i+1)) bss[i]
theorem ElO.map {w w':World} {D:Nat} {r r':Option Addr→Nat→Int→Int→List Nat→Prop} {g i:Nat} {k k':Int} {bs:List Nat} (h:ElO w D r g i k k' bs) (hg:∀ j,j < 9→w'.cell? ⟨g,i * 9+j,none⟩=w.cell? ⟨g,i * 9+j,none⟩) (hb:∀ b ∈ bs,w'.heap[b]?=w.heap[b]?)
    (kR:∀ ao len a b p,(∀ x ∈ p,x ∈ bs)→r ao len a b p→r' ao len a b p):ElO w' D r' g i k k' bs:=by
  obtain ⟨a1,l1,c1,a2,l2,c2,a3,l3,c3,t1,t2,p1,p2,p3,h9,rfl,h1,h2,h3,h4,h5⟩:=h
  exact ⟨a1,l1,c1,a2,l2,c2,a3,l3,c3,t1,t2,p1,p2,p3,h9.of_cells hg,rfl,h1.keep fun b hb'=>hb b (by simp [hb']),h2,h3.keep fun b hb'=>hb b (by simp [hb']),h4,kR _ _ _ _ _ (fun x hx=>by simp [hx]) h5⟩
theorem BrO.keep {w w':World} {D:Nat}:∀ {d:Nat} {ao:Option Addr} {len:Nat} {k k':Int} {bs:List Nat},(∀ b ∈ bs,w'.heap[b]?=w.heap[b]?)→BrO w D d ao len k k' bs→BrO w' D d ao len k k' bs:=by
  intro d
  induction d with
  | zero=>intro ao len k k' bs _ h;exact h
  | succ d ih =>
    intro ao len k k' bs hb h
    rcases h with h | ⟨g,cs,bss,ks,e,hm,hg,hbl,rfl,h0,hl,hE⟩
    · exact Or.inl h
    · have hgg:=hb g (by simp)
      refine Or.inr ⟨g,cs,bss,ks,e,hm,hgg.trans hg,hbl,rfl,h0,hl,fun i hi hi'=>?_⟩
      have hin:∀ b ∈ bss[i],w'.heap[b]?=w.heap[b]?:=fun b hb'=>hb b (List.mem_cons_of_mem _ (mem_part hi' hb'))
      exact (hE i hi hi').map (fun j _=>World.cell?_of_block hgg) hin fun _ _ _ _ p hp hr=>ih (fun b hb'=>hin b (hp b hb')) hr
theorem mono_chain {ks:Nat→Int} {n:Nat} (h:∀ i,i < n→ks i≤ks (i+1)):∀ j i,i≤j→j≤n→ks i≤ks j:=by
  intro j
  induction j with
  | zero =>
    intro i hi _;have:i=0:=by omega
    rw [this];omega
  | succ j ih =>
    intro i hi hj
    by_cases e:i=j+1
    · rw [e];omega
    · have h1:=ih i (by omega) (by omega)
      have h2:=h j (by omega)
      omega
theorem ElO.le {w:World} {D:Nat} {r:Option Addr→Nat→Int→Int→List Nat→Prop} (hr:∀ ao len a b p,r ao len a b p→a≤b) {g i:Nat} {k k':Int} {bs:List Nat} (h:ElO w D r g i k k' bs):k+6≤k':=by
  obtain ⟨a1,l1,c1,a2,l2,c2,a3,l3,c3,t1,t2,p1,p2,p3,h9,rfl,h1,h2,h3,h4,h5⟩:=h
  have:=hr _ _ _ _ _ h5
  omega
theorem BrO.le {w:World} {D:Nat}:∀ {d:Nat} {ao:Option Addr} {len:Nat} {k k':Int} {bs:List Nat},BrO w D d ao len k k' bs→k≤k':=by
  intro d
  induction d with
  | zero=>intro ao len k k' bs h;rw [h.2.1];omega
  | succ d ih =>
    intro ao len k k' bs h
    rcases h with ⟨_,h,_⟩ | ⟨g,cs,bss,ks,e,hm,hg,hbl,rfl,h0,hl,hE⟩
    · omega
    · have:=mono_chain (ks:=ks) (n:=len) (fun i hi=>by have:=(hE i hi (by omega)).le (fun _ _ _ _ _ h=>ih h);omega) len 0 (by omega) (Nat.le_refl _)
      omega
structure Sv (g o:Nat) (cs:Array Value) (q:List Nat) (vs:List Value) (wr W:World):Prop where
  os:W.os=wr.os
  tape:W.tape=wr.tape
  output:W.output=wr.output
  size:wr.heap.size≤W.heap.size
  other:∀ b,b < wr.heap.size→b≠g→b ∉ q→W.heap[b]?=wr.heap[b]?
  row:∃ c:Array Value,W.heap[g]?=some (.cells c 34 (0,0))∧c.size=cs.size∧(∀ i,(i < o∨o+6≤i)→c[i]?=cs[i]?)∧∀ i,i < vs.length→c[o+i]?=vs[i]?
theorem Sv.refl {g o:Nat} {cs:Array Value} {wr:World} (h:wr.heap[g]?=some (.cells cs 34 (0,0))):Sv g o cs [] [] wr wr :=
  ⟨rfl,rfl,rfl,Nat.le_refl _,fun _ _ _ _=>rfl,cs,h,rfl,fun _ _=>rfl,fun i hi=>by simp at hi⟩
theorem Sv.set {g o:Nat} {cs:Array Value} {q:List Nat} {vs:List Value} {wr W:World} (h:Sv g o cs q vs wr W) (c:Nat) (hv:vs.length=c) (hc:c < 6) (hs:o+c < cs.size) (x:Value):Sv g o cs q (vs ++ [x]) wr (W.setCell ⟨g,o+c,none⟩ x):=by
  obtain ⟨cw,h1,h2,h3,h4⟩:=h.row
  refine ⟨h.os,h.tape,h.output,by rw [World.size_setCell];exact h.size,fun b hb hg hq=>by rw [row_other _ _ _ hg];exact h.other b hb hg hq,_,row_set h1 _ _,by simpa using h2,fun i hi=>?_,fun i hi=>?_⟩
  · rw [Array.getElem?_setIfInBounds_ne (by omega)]
    exact h3 i hi
  · rw [List.length_append] at hi
    have hi:i < vs.length+1:=hi
    by_cases e:i=vs.length
    · subst e
      rw [hv,Array.getElem?_setIfInBounds_self_of_lt (by omega),← hv]
      simp
    · rw [Array.getElem?_setIfInBounds_ne (by omega),List.getElem?_append_left (by omega)]
      exact h4 i (by omega)
theorem Sv.below {g o:Nat} {cs:Array Value} {q:List Nat} {vs:List Value} {wr W W':World} (h:Sv g o cs q vs wr W) (hb:Below W.heap.size W W'):Sv g o cs q vs wr W':=by
  obtain ⟨cw,h1,h2,h3⟩:=h.row
  exact ⟨hb.os.trans h.os,hb.tape.trans h.tape,hb.output.trans h.output,Nat.le_trans h.size hb.size,fun b hb' hg hq=>(hb.block b (Nat.lt_of_lt_of_le hb' h.size)).trans (h.other b hb' hg hq),cw,(hb.block g (Array.getElem?_eq_some_iff.1 h1).1).trans h1,h2,h3⟩
theorem Sv.chg {g o:Nat} {cs:Array Value} {q p:List Nat} {vs:List Value} {wr W W':World} (h:Sv g o cs q vs wr W) (hc:Chg p W W') (hg:g ∉ p):Sv g o cs (q ++ p) vs wr W':=by
  obtain ⟨cw,h1,h2,h3⟩:=h.row
  exact ⟨hc.os.trans h.os,hc.tape.trans h.tape,hc.output.trans h.output,Nat.le_trans h.size hc.size,fun b hb' hg' hq=>(hc.block b (Nat.lt_of_lt_of_le hb' h.size) (fun e=>hq (List.mem_append_right _ e))).trans (h.other b hb' hg' (fun e=>hq (List.mem_append_left _ e))),cw,(hc.block g (Array.getElem?_eq_some_iff.1 h1).1 hg).trans h1,h2,h3⟩
theorem Sv.keep {g o:Nat} {cs:Array Value} {q:List Nat} {vs:List Value} {wr W:World} (h:Sv g o cs q vs wr W) (i:Nat) (hi:i < o∨o+6≤i):W.cell? ⟨g,i,none⟩=cs[i]?:=by
  obtain ⟨cw,h1,h2,h3,_⟩:=h.row
  rw [row_cell h1];exact h3 i hi
theorem Sv.has {g o:Nat} {cs:Array Value} {q:List Nat} {vs:List Value} {wr W:World} (h:Sv g o cs q vs wr W) (i:Nat) (hi:i < cs.size):∃ x,W.cell? ⟨g,i,none⟩=some x:=by
  obtain ⟨cw,h1,h2,h3⟩:=h.row
  rw [row_cell h1]
  exact ⟨cw[i]'(by omega),by simp [h2,hi]⟩
theorem Sv.free {g o:Nat} {cs:Array Value} {q:List Nat} {vs:List Value} {wr W:World} (h:Sv g o cs q vs wr W) (i:Nat):W.frozen? ⟨g,i,none⟩=false:=by
  obtain ⟨cw,h1,h2,h3⟩:=h.row
  exact row_free h1 i
theorem Sv.at {g o:Nat} {cs:Array Value} {q:List Nat} {vs:List Value} {wr W:World} (h:Sv g o cs q vs wr W) (i:Nat) (hi:i < vs.length):W.cell? ⟨g,o+i,none⟩=vs[i]?:=by
  obtain ⟨cw,h1,h2,h3,h4⟩:=h.row
  rw [row_cell h1];exact h4 i hi
def RestN (wr:World) (D d g len j:Nat) (ts:List Tm) (bss:List (List Nat)):Prop :=
  ∃ cs:Array Value,wr.heap[g]?=some (.cells cs 34 (0,0))∧len * 9≤cs.size∧∀ i (_:i < ts.length) (_:i < bss.length),j≤i→∃ a1 l1 c1 a2 l2 c2 a3 l3 c3,Nine wr g (i * 9) ts[i].K ts[i].N ts[i].S ts[i].Z ts[i].T.K ts[i].T.N (.slice a1 l1 c1) (.slice a2 l2 c2) (.slice a3 l3 c3)∧FldO wr D (OwM wr D d) ts[i] a1 l1 a2 l2 a3 l3 bss[i]
def DoneN (wr:World) (D d g j:Nat) (ks:Nat→Int) (bss:List (List Nat)):Prop:=∀ i (_:i < j) (_:i < bss.length),ElO wr D (BrO wr D d) g i (ks i) (ks (i+1)) bss[i]
def SaidMM (D d:Nat):Prop:=∀ (ao:Option Addr) (len cap:Nat) (ts:List Tm) (bs:List Nat) (k:Int) (w:World),OwM w D d ao len ts bs→bs.Nodup→(∀ b ∈ bs,b < w.heap.size)→0≤k→k+6 * cntMS ts≤4611686018427387904 →
    Calls Tryz.prog 34 #[.slice ao len cap,.int .i64 k] w fun e w'=>∃ k',e=.returned (.int .i64 k')∧k'≤k+6 * cntMS ts∧Chg bs w w'∧BrO w' D d ao len k k' bs
set_option maxHeartbeats 400000 in
theorem mm_empty (D d:Nat) (ao:Option Addr) (cap:Nat) (k:Int) (w:World) :
    Calls Tryz.prog 34 #[.slice ao 0 cap,.int .i64 k] w fun e w'=>∃ k',e=.returned (.int .i64 k')∧k'≤k+6 * cntMS []∧Chg [] w w'∧BrO w' D d ao 0 k k' []:=by
  go_enter Tryz.func34,Tryz.ntmps34
  go_wp2_with fail
  refine wp_loop_rounds 1 ?_;rw [rounds_succ]
  go_wp2_with fail
  go_ret
  refine ⟨_,rfl,by omega,Chg.refl _ _,?_⟩
  cases d with
  | zero=>exact ⟨rfl,rfl,rfl⟩
  | succ d=>exact Or.inl ⟨rfl,rfl,rfl⟩
theorem mm_zero (D:Nat):SaidMM D 0:=by
  intro ao len cap ts bs k w ho hnd hin h0 h1
  obtain ⟨rfl,rfl,rfl⟩:=ho
  exact mm_empty D 0 ao cap k w
theorem ks_next {ks:Nat→Int} {j:Nat} (k5:Int):(fun x=>if x≤j then ks x else k5) 0=ks 0∧(fun x=>if x≤j then ks x else k5) j=ks j∧(fun x=>if x≤j then ks x else k5) (j+1)=k5:=by
  refine ⟨by simp,by simp,by simp;omega⟩
set_option maxRecDepth 100000 in
set_option maxHeartbeats 2000000 in
theorem mm_succ (D d:Nat) (IH:SaidMM D d):SaidMM D (d+1):=by
  intro ao len cap ts bs k w ho hnd hin hk0 hk1
  rcases ho with ⟨rfl,rfl,rfl⟩ | ⟨g,cs,bss,rfl,hl,hm,hg,hc,hbl,rfl,hE⟩
  · exact mm_empty D (d+1) ao cap k w
  have HL:Hid (len=ts.length):=hl
  have hgw:=hin g (by simp)
  have HI:Hid (∀ b ∈ bss.flatten,b < w.heap.size):=fun b hb=>hin b (List.mem_cons_of_mem _ hb)
  have HND:Hid (g :: bss.flatten).Nodup:=hnd
  have HB:Hid (bss.length=ts.length):=hbl
  have HC:Hid (cntMS ts=ts.length+subMS ts):=cntMS_eq ts
  have hRow:RestN w D d g len 0 ts bss:=⟨cs,hg,hc,fun i hi hi' _=>hE i hi hi'⟩
  clear hE hin hnd hg hc hl hbl
  go_enter Tryz.func34,Tryz.ntmps34
  go_wp2_with fail
  go_loopw [1,5] (fun kv i wr=>∃ (j:Nat) (ks:Nat→Int),j≤len∧i=.int .i64 j∧kv=.int .i64 (ks j)∧Hid (ks 0=k)∧k≤ks j∧ks j≤k+6 * ((j:Int)+subMS (ts.take j))∧Chg (g :: bss.flatten) w wr∧RestN wr D d g len j ts bss∧DoneN wr D d g j ks bss) (fun _ i _=>len - (intOf i).toNat)
  case atStart=>exact ⟨0,fun _=>k,by omega,rfl,rfl,rfl,Int.le_refl k,by simp [subMS],Chg.refl _ _,hRow,fun i hi _=>by omega⟩
  case round =>
    obtain ⟨j,ks,hj,rfl,rfl,HK0,hkl,hku,hch,hR,hDn⟩:=hrel
    have hszr:=hch.size
    by_cases hlt:j < len
    · have hlt':j < ts.length:=by have:=HL.out;omega
      have hjb:j < bss.length:=by have:=HB.out;omega
      obtain ⟨cs',hr,hcs,hEl⟩:=hR
      obtain ⟨a1,l1,c1,a2,l2,c2,a3,l3,c3,h9,p1,p2,p3,hp,_,_,hO1,hO2,hO3⟩:=hEl j hlt' hjb (Nat.le_refl _)
      obtain ⟨kj,hkj⟩:∃ kj,ks j=kj:=⟨_,rfl⟩
      rw [hkj] at hkl hku ⊢
      have HKJ:Hid (ks j=kj):=hkj
      have HDN:Hid (DoneN wr D d g j ks bss):=hDn
      clear hkj hDn
      have hkt:kj+6+2 * cntS ts[j].T.A+2 * cntS ts[j].Ts+6 * cntMS ts[j].A≤k+6 * cntMS ts∧kj+6+2 * cntS ts[j].T.A+2 * cntS ts[j].Ts+6 * cntMS ts[j].A≤k+6 * (((j+1:Nat):Int)+subMS (ts.take (j+1))):=by
        have q1:=subMS_take ts j hlt'
        have q2:=subMS_take_le ts (j+1)
        have q3:=HC.out
        have q4:=cntM_eq ts[j]
        unfold ownM at q4
        have q5:j+1≤ts.length:=hlt'
        constructor <;> omega
      have HKT:Hid (_∧_):=hkt
      have hk6:kj+6≤4611686018427387904:=by have:=hkt.1;omega
      have hs0:Sv g (j * 9) cs' [] [] wr wr:=Sv.refl hr
      have hcsz:j * 9+9≤cs'.size:=by omega
      obtain ⟨n0,n1,n2,n3,n4,n5,n6,n7,n8⟩:=h9
      have f0:=hs0.free
      obtain ⟨A0,hA0⟩:∃ A0,A0=(wr.setCell ⟨g,j * 9,none⟩ (.int .i64 kj)).setCell ⟨g,j * 9+1,none⟩ (.int .i64 (kj+1)):=⟨_,rfl⟩
      have hsA:Sv g (j * 9) cs' [] ([] ++ [.int .i64 kj] ++ [.int .i64 (kj+1)]) wr A0:=by rw [hA0];exact (hs0.set 0 rfl (by omega) (by omega) _).set 1 rfl (by omega) (by omega) _
      have HA0:Hid (A0=_):=hA0
      have hnd:=HND.out
      rw [List.nodup_cons] at hnd
      clear hA0 hkt
      have hpn:=part_nodup hnd.2 hjb
      rw [hp] at hpn
      have hpin:∀ b ∈ p1 ++ p2 ++ p3,b≠g∧b < wr.heap.size:=fun b hb=>by
        have hbf:b ∈ bss.flatten:=mem_part hjb (by rw [hp];exact hb)
        exact ⟨fun e=>hnd.1 (e ▸ hbf),by have:=HI.out b hbf;omega⟩
      have hn12:=(List.nodup_append.1 hpn).1
      have hn3:=(List.nodup_append.1 hpn).2.1
      have hd3:=(List.nodup_append.1 hpn).2.2
      have hn1:=(List.nodup_append.1 hn12).1
      have hn2:=(List.nodup_append.1 hn12).2.1
      have hd2:=(List.nodup_append.1 hn12).2.2
      have HP:Hid (_∧_∧_∧_∧_∧_):=⟨hpin,hn1,hn2,hn3,hd2,hd3⟩
      have HO:Hid (_∧_∧_):=⟨hO1,hO2,hO3⟩
      have HR6:Hid (_∧_∧_):=⟨(row_cell hr _).symm.trans n6,(row_cell hr _).symm.trans n7,(row_cell hr _).symm.trans n8⟩
      have HDP:Hid (Dp D ts[j].T.A∧Dp D ts[j].Ts):=⟨hO1.dp,hO2.dp⟩
      clear hpn hpin hn12 hn3 hd3 hn1 hn2 hd2 hO1 hO2 hO3 hnd
      go_wp2_with fail
      rw [← HA0.out]
      refine (markTextX_any _ (by omega) (by omega) _).mono ?_
      rintro e w1 ⟨rfl,hb1⟩
      have hs1:=hsA.below hb1
      obtain ⟨x2,hx2⟩:=hs1.has (j * 9+2) (by omega)
      have f1:=hs1.free (j * 9+2)
      clear n0 n1 n2 n3 n4 n5 n6 n7 n8 f0
      obtain ⟨s1,hs1e⟩:∃ s,mtS (kj+1+1)=s:=⟨_,rfl⟩
      rw [hs1e]
      have HS1:Hid (mtS (kj+2)=s1):=by show _=_;rw [← hs1e];congr 1;omega
      clear hs1e
      go_wp2_with fail
      have hsB:=hs1.set 2 rfl (by omega) (by omega) (.string s1)
      refine (markTextX_any _ (by omega) (by omega) _).mono ?_
      rintro e w2 ⟨rfl,hb2⟩
      have hs2:=hsB.below hb2
      obtain ⟨x3,hx3⟩:=hs2.has (j * 9+3) (by omega)
      obtain ⟨x4,hx4⟩:=hs2.has (j * 9+4) (by omega)
      obtain ⟨x5,hx5⟩:=hs2.has (j * 9+5) (by omega)
      have g3:=hs2.free (j * 9+3)
      have g4:=hs2.free (j * 9+4)
      have g5:=hs2.free (j * 9+5)
      have k6:=(hs2.keep (j * 9+6) (by omega)).trans HR6.out.1
      obtain ⟨s2,hs2e⟩:∃ s,mtS (kj+1+1+1)=s:=⟨_,rfl⟩
      rw [hs2e]
      have HS2:Hid (mtS (kj+3)=s2):=by show _=_;rw [← hs2e];congr 1;omega
      clear hx2 f1 hb1 hs2e
      go_wp2_with fail
      obtain ⟨A2,hA2⟩:∃ A2,A2=((w2.setCell ⟨g,j * 9+3,none⟩ (.string s2)).setCell ⟨g,j * 9+4,none⟩ (.int .i64 (kj+1+1+1+1))).setCell ⟨g,j * 9+4+1,none⟩ (.int .i64 (kj+1+1+1+1+1)):=⟨_,rfl⟩
      have hsC:Sv g (j * 9) cs' [] ([] ++ [.int .i64 kj] ++ [.int .i64 (kj+1)] ++ [.string s1] ++ [.string s2] ++ [.int .i64 (kj+1+1+1+1)] ++ [.int .i64 (kj+1+1+1+1+1)]) wr A2:=by rw [hA2];exact ((hs2.set 3 rfl (by omega) (by omega) _).set 4 rfl (by omega) (by omega) _).set 5 rfl (by omega) (by omega) _
      rw [← hA2]
      clear hA2 hx3 hx4 hx5 g3 g4 g5 k6 hb2
      obtain ⟨hpin,hn1,hn2,hn3,hd2,hd3⟩:=HP.out
      obtain ⟨hO1,hO2,hO3⟩:=HO.out
      have hOA:Ow A2 D a1 l1 ts[j].T.A p1:=hO1.keep fun b hb=>hsC.other b (hpin b (by simp [hb])).2 (hpin b (by simp [hb])).1 (by simp)
      refine (mkS_any D _ _ _ _ p1 _ _ hOA hn1 (fun b hb=>Nat.lt_of_lt_of_le (hpin b (by simp [hb])).2 hsC.size) (by omega) (by have:=HKT.out.1;omega)).mono ?_
      rintro e w3 ⟨rfl,hc3,hM1⟩
      have hs3:=hsC.chg hc3 (fun e=>(hpin g (by simp [e])).1 rfl)
      have hOB:Ow w3 D a2 l2 ts[j].Ts p2:=hO2.keep fun b hb=>hs3.other b (hpin b (by simp [hb])).2 (hpin b (by simp [hb])).1 (fun e=>hd2 b (by simpa using e) b hb rfl)
      have k7:=(hs3.keep (j * 9+7) (by omega)).trans HR6.out.2.1
      have hin2:∀ b ∈ p2,b < w3.heap.size:=fun b hb=>Nat.lt_of_lt_of_le (hpin b (by simp [hb])).2 hs3.size
      have hin1:∀ b ∈ p1,b < w3.heap.size:=fun b hb=>Nat.lt_of_lt_of_le (hpin b (by simp [hb])).2 hs3.size
      have HM1:Hid (Ow w3 D a1 l1 (markD D (kj+6) ts[j].T.A) p1∧∀ b ∈ p1,b < w3.heap.size):=by
        refine ⟨?_,hin1⟩
        have e6:kj+1+1+1+1+1+1=kj+6:=by omega
        rw [e6] at hM1
        exact hM1
      clear hpin hn1 hn3 hd2 hd3 hO1 hO2 hO3 hOA hsC hc3 hM1 hin1
      go_wp2_with fail
      refine (mkS_any D _ _ _ _ p2 _ _ hOB hn2 hin2 (by omega) (by have:=HKT.out.1;omega)).mono ?_
      rintro e w4 ⟨rfl,hc4,hM2⟩
      obtain ⟨hpin,hn1,_,hn3,hd2,hd3⟩:=HP.out
      obtain ⟨hO1,hO2,hO3⟩:=HO.out
      have hs4:=hs3.chg hc4 (fun e=>(hpin g (by simp [e])).1 rfl)
      have hOC:OwM w4 D d a3 l3 ts[j].A p3:=hO3.keep fun b hb=>hs4.other b (hpin b (by simp [hb])).2 (hpin b (by simp [hb])).1 (fun e=>hd3 b (by simpa using e) b hb rfl)
      have k8:=(hs4.keep (j * 9+8) (by omega)).trans HR6.out.2.2
      have hin3:∀ b ∈ p3,b < w4.heap.size:=fun b hb=>Nat.lt_of_lt_of_le (hpin b (by simp [hb])).2 hs4.size
      have HM2:Hid (Ow w4 D a1 l1 (markD D (kj+6) ts[j].T.A) p1∧Ow w4 D a2 l2 (markD D (kj+6+2 * cntS ts[j].T.A) ts[j].Ts) p2∧(∀ b ∈ p1,b < w4.heap.size)∧∀ b ∈ p2,b < w4.heap.size):=by
        refine ⟨HM1.out.1.keep fun b hb=>hc4.block b (HM1.out.2 b hb) (fun e=>hd2 b hb b e rfl),?_,fun b hb=>Nat.lt_of_lt_of_le (HM1.out.2 b hb) hc4.size,fun b hb=>Nat.lt_of_lt_of_le (hin2 b hb) hc4.size⟩
        have e6:kj+1+1+1+1+1+1+2 * cntS ts[j].T.A=kj+6+2 * cntS ts[j].T.A:=by omega
        rw [e6] at hM2
        exact hM2
      clear hpin hn1 hd2 hd3 hO1 hO2 hO3 hOB hn2 hin2 hs3 hc4 k7 hM2 HM1
      go_wp2_with fail
      refine (IH _ _ _ _ p3 _ _ hOC hn3 hin3 (by omega) (by have:=HKT.out.1;omega)).mono ?_
      rintro e w5 ⟨k5,rfl,hk5b,hc5,hBr⟩
      have hk5a:=hBr.le
      obtain ⟨hpin,_,_,_,hd2,hd3⟩:=HP.out
      have hs5:=hs4.chg hc5 (fun e=>(hpin g (by simp [e])).1 rfl)
      have hsub:∀ b ∈ [] ++ p1 ++ p2 ++ p3,b ∈ g :: bss.flatten:=fun b hb=>List.mem_cons_of_mem _ (mem_part hjb (by rw [hp];simpa using hb))
      have hchn:Chg (g :: bss.flatten) w w5:=hch.trans ⟨hs5.os,hs5.tape,hs5.output,hs5.size,fun b hb hn=>hs5.other b hb (fun e=>hn (by simp [e])) (fun e=>hn (hsub b e))⟩
      have hRn:RestN w5 D d g len (j+1) ts bss:=by
        obtain ⟨c5,r1,r2,r3,_⟩:=hs5.row
        refine ⟨c5,r1,by omega,fun i hi hi' hji=>?_⟩
        obtain ⟨b1,m1,d1,b2,m2,d2,b3,m3,d3,h9i,hfi⟩:=hEl i hi hi' (by omega)
        refine ⟨b1,m1,d1,b2,m2,d2,b3,m3,d3,h9i.of_cells (fun c hc=>?_),hfi.keep fun b hb=>?_⟩
        · rw [row_cell r1,row_cell hr];exact r3 _ (by omega)
        · have hbf:=mem_part hi' hb
          have hndd:=HND.out
          rw [List.nodup_cons] at hndd
          refine hs5.other b (by have:=HI.out b hbf;omega) (fun e=>hndd.1 (e ▸ hbf)) (fun e=>?_)
          exact flatten_apart hndd.2 hi' hjb (by omega) hb (by rw [hp];simpa using e)
      have hDn2:DoneN w5 D d g (j+1) (fun x=>if x≤j then ks x else k5) bss:=by
        intro i hi hi'
        by_cases hij:i=j
        · subst hij
          have e1:(fun x=>if x≤i then ks x else k5) i=kj:=by rw [(ks_next k5).2.1];exact HKJ.out
          rw [e1,(ks_next k5).2.2]
          obtain ⟨m1,m2,m3,m4⟩:=HM2.out
          refine ⟨a1,l1,c1,a2,l2,c2,a3,l3,c3,ts[i].T.A,ts[i].Ts,p1,p2,p3,?_,hp,m1.keep fun b hb=>hc5.block b (m3 b hb) (fun e=>hd3 b (by simp [hb]) b e rfl),HDP.out.1,m2.keep fun b hb=>hc5.block b (m4 b hb) (fun e=>hd3 b (by simp [hb]) b e rfl),HDP.out.2,?_⟩
          · have v0:=hs5.at 0 (by simp)
            have v1:=hs5.at 1 (by simp)
            have v2:=hs5.at 2 (by simp)
            have v3:=hs5.at 3 (by simp)
            have v4:=hs5.at 4 (by simp)
            have v5:=hs5.at 5 (by simp)
            have e4:kj+1+1+1+1=kj+4:=by omega
            have e5:kj+1+1+1+1+1=kj+5:=by omega
            refine ⟨v0,v1,?_,?_,?_,?_,(hs5.keep _ (by omega)).trans HR6.out.1,(hs5.keep _ (by omega)).trans HR6.out.2.1,(hs5.keep _ (by omega)).trans HR6.out.2.2⟩
            · rw [HS1.out];exact v2
            · rw [HS2.out];exact v3
            · rw [← e4];exact v4
            · rw [← e5];exact v5
          · have e6:kj+1+1+1+1+1+1+2 * cntS ts[i].T.A+2 * cntS ts[i].Ts=kj+6+2 * cntS ts[i].T.A+2 * cntS ts[i].Ts:=by omega
            rw [e6] at hBr
            exact hBr
        · have e1:(fun x=>if x≤j then ks x else k5) i=ks i:=by simp;omega
          have e2:(fun x=>if x≤j then ks x else k5) (i+1)=ks (i+1):=by simp;omega
          rw [e1,e2]
          have hndd:=HND.out
          rw [List.nodup_cons] at hndd
          have hin:∀ b ∈ bss[i],w5.heap[b]?=wr.heap[b]?:=fun b hb=>by
            have hbf:=mem_part hi' hb
            refine hs5.other b (by have:=HI.out b hbf;omega) (fun e=>hndd.1 (e ▸ hbf)) (fun e=>?_)
            exact flatten_apart hndd.2 hi' hjb (by omega) hb (by rw [hp];simpa using e)
          refine (HDN.out i (by omega) hi').map (fun c hc=>?_) hin fun _ _ _ _ p hp' hr'=>hr'.keep fun b hb=>hin b (hp' b hb)
          rw [hs5.keep _ (by omega),row_cell hr]
      have hkn:k≤k5∧k5≤k+6 * (((j+1:Nat):Int)+subMS (ts.take (j+1))):=by
        have:=HKT.out.2
        constructor <;> omega
      clear hpin hs5 hs4 hOC hn3 hin3 k8 hEl hr hc5 hBr HM2 HDN hd2 hd3
      go_wp2_with fail
      go_roundw
      case rel=>exact ⟨j+1,fun x=>if x≤j then ks x else k5,by omega,by go_num,by rw [(ks_next k5).2.2],(by show _=_;rw [(ks_next k5).1];exact HK0.out),by rw [(ks_next k5).2.2];exact hkn.1,by rw [(ks_next k5).2.2];exact hkn.2,hchn,hRn,hDn2⟩
      case measure=>simp [intOf];omega
    · have HJ:Hid (j=ts.length):=by show _=_;have:=HL.out;omega
      have HKE:Hid (ks j≤k+6 * cntMS ts):=by
        show _≤_
        have q:=HC.out
        have e:ts.take j=ts:=List.take_of_length_le (by have:=HJ.out;omega)
        rw [e] at hku
        have:=HJ.out
        omega
      have hjl:j=len:=by omega
      subst hjl
      go_wp2_with fail
      go_ret
      obtain ⟨cs',hr,hcs,hEl⟩:=hR
      exact ⟨_,rfl,HKE.out,hch,Or.inr ⟨g,cs',bss,ks,rfl,hm,hr,by have:=HB.out;have:=HL.out;omega,rfl,HK0.out,rfl,hDn⟩⟩
theorem mm_any (D:Nat):∀ d,SaidMM D d:=by
  intro d
  induction d with
  | zero=>exact mm_zero D
  | succ d ih=>exact mm_succ D d ih
def BrF (w:World) (D d:Nat) (a1:Option Addr) (l1:Nat) (a2:Option Addr) (l2:Nat) (a3:Option Addr) (l3:Nat) (k k':Int) (bs:List Nat):Prop :=
  ∃ t1 t2 p1 p2 p3,bs=p1 ++ p2 ++ p3∧Ow w D a1 l1 (markD D k t1) p1∧Dp D t1∧Ow w D a2 l2 (markD D (k+2 * cntS t1) t2) p2∧Dp D t2∧BrO w D d a3 l3 (k+2 * cntS t1+2 * cntS t2) k' p3
theorem BrF.keep {w w':World} {D d:Nat} {a1 a2 a3:Option Addr} {l1 l2 l3:Nat} {k k':Int} {bs:List Nat} (h:BrF w D d a1 l1 a2 l2 a3 l3 k k' bs) (hb:∀ b ∈ bs,w'.heap[b]?=w.heap[b]?):BrF w' D d a1 l1 a2 l2 a3 l3 k k' bs:=by
  obtain ⟨t1,t2,p1,p2,p3,rfl,h1,h2,h3,h4,h5⟩:=h
  exact ⟨t1,t2,p1,p2,p3,rfl,h1.keep fun b hb'=>hb b (by simp [hb']),h2,h3.keep fun b hb'=>hb b (by simp [hb']),h4,h5.keep fun b hb'=>hb b (by simp [hb'])⟩
set_option maxRecDepth 100000 in
set_option maxHeartbeats 1000000 in
theorem markTermM_any (D d:Nat) (t:Tm) (a1:Option Addr) (l1 c1:Nat) (a2:Option Addr) (l2 c2:Nat) (a3:Option Addr) (l3 c3:Nat) (bs:List Nat) (w:World) (hf:FldO w D (OwM w D d) t a1 l1 a2 l2 a3 l3 bs) (hnd:bs.Nodup) (hin:∀ b ∈ bs,b < w.heap.size) (hc:cntM t≤1048576) :
    Calls Tryz.prog 10 #[.agg #[.int .i64 t.K,.int .i64 t.N,.string t.S,.string t.Z,.int .i64 t.T.K,.int .i64 t.T.N,.slice a1 l1 c1,.slice a2 l2 c2,.slice a3 l3 c3],.int .i64 1] w fun e w'=>∃ k':Int,e=.returned (.int .i64 k')∧1≤k'∧k'≤4611686018427387904∧Chg bs w w'∧BrF w' D d a1 l1 a2 l2 a3 l3 1 k' bs:=by
  obtain ⟨p1,p2,p3,rfl,_,_,hO1,hO2,hO3⟩:=hf
  have hn12:=(List.nodup_append.1 hnd).1
  have hn3:=(List.nodup_append.1 hnd).2.1
  have hd3:=(List.nodup_append.1 hnd).2.2
  have hn1:=(List.nodup_append.1 hn12).1
  have hn2:=(List.nodup_append.1 hn12).2.1
  have hd2:=(List.nodup_append.1 hn12).2.2
  have hce:=cntM_eq t
  unfold ownM at hce
  obtain ⟨X,hX⟩:∃ X,X=w.alloc (.cells #[.int .i64 t.K,.int .i64 t.N,.string t.S,.string t.Z,.int .i64 t.T.K,.int .i64 t.T.N,.slice a1 l1 c1,.slice a2 l2 c2,.slice a3 l3 c3] 34):=⟨_,rfl⟩
  have hXb:Below w.heap.size w X:=by rw [hX];exact (Below.refl _ _).alloc (Nat.le_refl _) _
  have hXs:X.heap.size=w.heap.size+1:=by rw [hX];simp
  have hX1:X.heap[w.heap.size]?=some (.cells #[.int .i64 t.K,.int .i64 t.N,.string t.S,.string t.Z,.int .i64 t.T.K,.int .i64 t.T.N,.slice a1 l1 c1,.slice a2 l2 c2,.slice a3 l3 c3] 34 (0,0)):=by rw [hX];exact heap_new rfl
  have HX:Hid (X=_):=hX
  have hnw:w.heap.size ∉ p1 ++ p2 ++ p3:=fun e=>by have:=hin _ e;omega
  clear hX
  go_enter Tryz.func10,Tryz.ntmps10
  go_wp2_with fail
  rw [← HX.out]
  have hin1:∀ b ∈ p1,b < X.heap.size:=fun b hb=>by have:=hin b (by simp [hb]);omega
  refine (mk_any D _ _ _ _ _ _ p1 _ _ (hO1.keep fun b hb=>hXb.block b (hin b (by simp [hb]))) hn1 hin1 (by omega) (by omega)).mono ?_
  rintro e w1 ⟨rfl,hc1,hM1⟩
  have hz1:=hc1.size
  have y1:=(hc1.block w.heap.size (by omega) (fun e=>hnw (by simp [e]))).trans hX1
  obtain ⟨f0,f1,f2,f3,f4,f5,f6,f7,f8⟩:=Nine.box y1
  have hO2':Ow w1 D a2 l2 t.Ts p2:=hO2.keep fun b hb=>(hc1.block b (by have:=hin b (by simp [hb]);omega) (fun e=>hd2 b e b hb rfl)).trans (hXb.block b (hin b (by simp [hb])))
  have hin2:∀ b ∈ p2,b < w1.heap.size:=fun b hb=>by have:=hin b (by simp [hb]);omega
  go_wp2_with fail
  refine (mkS_any D _ _ _ _ p2 _ _ hO2' hn2 hin2 (by omega) (by omega)).mono ?_
  rintro e w2 ⟨rfl,hc2,hM2⟩
  have hz2:=hc2.size
  have y2:=(hc2.block w.heap.size (by omega) (fun e=>hnw (by simp [e]))).trans y1
  clear f0 f1 f2 f3 f4 f5 f6 f7 f8
  obtain ⟨f0,f1,f2,f3,f4,f5,f6,f7,f8⟩:=Nine.box y2
  have hO3':OwM w2 D d a3 l3 t.A p3:=hO3.keep fun b hb=>(hc2.block b (by have:=hin b (by simp [hb]);omega) (fun e=>hd3 b (by simp [e]) b hb rfl)).trans ((hc1.block b (by have:=hin b (by simp [hb]);omega) (fun e=>hd3 b (by simp [e]) b hb rfl)).trans (hXb.block b (hin b (by simp [hb]))))
  have hin3:∀ b ∈ p3,b < w2.heap.size:=fun b hb=>by have:=hin b (by simp [hb]);omega
  go_wp2_with fail
  refine (mm_any D d _ _ _ _ p3 _ _ hO3' hn3 hin3 (by omega) (by omega)).mono ?_
  rintro e w3 ⟨k3,rfl,hk3,hc3,hBr⟩
  have hk3':=hBr.le
  go_wp2_with fail
  go_ret
  refine ⟨_,rfl,by omega,by omega,(((Below.chg hXb).trans (hc1.mono fun x hx=>by simp [hx])).trans (hc2.mono fun x hx=>by simp [hx])).trans (hc3.mono fun x hx=>by simp [hx]),t.T.A,t.Ts,p1,p2,p3,rfl,?_,hO1.dp,?_,hO2.dp,hBr⟩
  · exact (hM1.keep fun b hb=>hc2.block b (by have:=hin1 b hb;omega) (fun e=>hd2 b hb b e rfl)).keep fun b hb=>hc3.block b (by have:=hin1 b hb;omega) (fun e=>hd3 b (by simp [hb]) b e rfl)
  · exact hM2.keep fun b hb=>hc3.block b (by have:=hin2 b hb;omega) (fun e=>hd3 b (by simp [hb]) b e rfl)
end Go.Proofs.YtcepgedbmffkdaaGreat
