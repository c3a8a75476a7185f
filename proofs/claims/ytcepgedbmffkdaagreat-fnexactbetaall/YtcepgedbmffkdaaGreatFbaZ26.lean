/-
  Free names in the model: 'l2Free'.
-/
import Derived.Test.YtcepgedbmffkdaaGreatFbaZ16
import Derived.Test.YtcepgedbmffkdaaGreatFbaZ15
import Derived.Deep.RegionHeld3
import Derived.Deep.RegionLaw
import Derived.Sort.AtCall
import Derived.LoopN
import Derived.Test.YtcepgedbmffkdaaGreatFbaIm
import Derived.Test.YtcepgedbmffkdaaGreatFbaZ25
namespace Go.Proofs.YtcepgedbmffkdaaGreat
open Go.RowKit
set_option linter.unusedVariables false
set_option linter.unusedSimpArgs false
def SaidLf (l:Nat):Prop:=∀ (D d L B base:Nat) (t:Tm) (a1:Option Addr) (l1 c1:Nat) (a2:Option Addr) (l2 c2:Nat) (a3:Option Addr) (l3 c3:Nat) (vb vo:Value) (Bd Fr:List (List UInt8)) (m:Nat) (w:World),B≤base→base≤w.heap.size→Fm L B w D d t a1 l1 a2 l2 a3 l3→nodesM l t=some m→Toks base w vb Bd→Toks base w vo Fr→(∀ g,vb.ownBlock=some g→vo.ownBlock≠some g)→Bd.length+2 * l≤1000→Fr.length+m≤1000 →
    Calls Tryz.prog 41 #[.agg #[.int .i64 t.K,.int .i64 t.N,.string t.S,.string t.Z,.int .i64 t.T.K,.int .i64 t.T.N,.slice a1 l1 c1,.slice a2 l2 c2,.slice a3 l3 c3],vb,vo] w fun e w'=>∃ vo',e=.returned vo'∧Ko vo w vo' w'∧Toks base w' vo' (freeW l t Bd Fr)
theorem lf_zero:SaidLf 0:=by
  intro D d L B base t a1 l1 c1 a2 l2 c2 a3 l3 c3 vb vo Bd Fr m w hB hb hf hm
  simp [nodesM] at hm
set_option maxRecDepth 100000 in
set_option maxHeartbeats 4000000 in
theorem lf_loop (l:Nat) (IH:SaidLf l) (D d L B base:Nat) (t:Tm) (a1:Option Addr) (l1 c1:Nat) (a2:Option Addr) (l2 c2:Nat) (a3:Option Addr) (l3 c3:Nat) (vb vo:Value) (Bd Fr:List (List UInt8)) (m:Nat) (w:World) (hB:B≤base) (hb:base≤w.heap.size) (hf:Fm L B w D d t a1 l1 a2 l2 a3 l3) (hm:nodesM (l+1) t=some m) (hTb:Toks base w vb Bd) (hTo:Toks base w vo Fr) (hap:∀ g,vb.ownBlock=some g→vo.ownBlock≠some g) (h1:Bd.length+2 * (l+1)≤1000) (h2:Fr.length+m≤1000) (h3:¬ t.K=3) :
    Calls Tryz.prog 41 #[.agg #[.int .i64 t.K,.int .i64 t.N,.string t.S,.string t.Z,.int .i64 t.T.K,.int .i64 t.T.N,.slice a1 l1 c1,.slice a2 l2 c2,.slice a3 l3 c3],vb,vo] w fun e w'=>∃ vo',e=.returned vo'∧Ko vo w vo' w'∧Toks base w' vo' (freeW (l+1) t Bd Fr):=by
  obtain ⟨hn,hparts⟩:=nodesM_inv hm
  obtain ⟨hl3,hl3m⟩:=hf.m.len
  have HL:Hid (l3=t.A.length):=hl3
  have hA3:=nodeM_len hn
  have hl33:l3≤3:=by omega
  have HG:Hid (∀ j (hj:j < t.A.length),∃ a,nodesM l t.A[j]=some a∧(freeF (freeW l) t.K (bs t.S) (bs t.Z) 0 (t.A.take j) Bd Fr).length+a≤1000):=by
    intro j hj
    obtain ⟨a,ha⟩:=hparts j hj
    refine ⟨a,ha,?_⟩
    simp only [nodesM,hn,if_true] at hm
    cases hz:nodesG (nodesM l) t.A with
    | none=>simp [hz] at hm
    | some b =>
      simp [hz] at hm
      cases hp:nodesG (nodesM l) (t.A.take j) with
      | none =>
        have e:=nodesG_append (nodesM l) (t.A.take j) (t.A.drop j)
        rw [List.take_append_drop,hp,hz] at e
        cases hd:nodesG (nodesM l) (t.A.drop j) <;> simp [hd] at e
      | some q =>
        have h5:=nodesG_part (nodesM l) t.A j hj q a b hp ha hz
        have h6:=freeF_len (f:=freeW l) (g:=nodesM l) (fun t m Bd Fr h=>freeW_len l t m Bd Fr h) t.K (bs t.S) (bs t.Z) (t.A.take j) 0 Bd Fr q hp
        omega
  have HE:Hid (freeW (l+1) t Bd Fr=freeF (freeW l) t.K (bs t.S) (bs t.Z) 0 t.A Bd Fr):=by show _=_;simp [freeW,h3]
  have b3:(t.K == 3)=false:=by simp [h3]
  obtain ⟨ab,cb,rfl⟩:=toks_form hTb
  obtain ⟨ao,co,rfl⟩:=toks_form hTo
  obtain ⟨X,hX⟩:∃ X,X=w.alloc (.cells #[.int .i64 t.K,.int .i64 t.N,.string t.S,.string t.Z,.int .i64 t.T.K,.int .i64 t.T.N,.slice a1 l1 c1,.slice a2 l2 c2,.slice a3 l3 c3] 34):=⟨_,rfl⟩
  have hXs:X.heap.size=w.heap.size+1:=by rw [hX];simp
  have hXb:Below w.heap.size w X:=by rw [hX];exact (Below.refl _ _).alloc (Nat.le_refl _) _
  have hX1:X.heap[w.heap.size]?=some (.cells #[.int .i64 t.K,.int .i64 t.N,.string t.S,.string t.Z,.int .i64 t.T.K,.int .i64 t.T.N,.slice a1 l1 c1,.slice a2 l2 c2,.slice a3 l3 c3] 34 (0,0)):=by rw [hX];exact heap_new rfl
  have HX:Hid (X=_):=hX
  have HXS:Hid (X.heap.size=w.heap.size+1):=hXs
  have hno:Value.ownBlock (.slice ao Fr.length co)≠some w.heap.size:=fun e=>by have:=(toks_own hTo e).2;omega
  have HTB:=toks_bel hTb hXb
  have HTO:=toks_bel hTo hXb
  clear hX hXs hm hparts hn h3 hA3 hl3
  go_enter Tryz.func41,Tryz.ntmps41
  go_wp2_with fail
  rw [← HX.out]
  go_loopw [2,7] (fun o i wr=>∃ (j:Nat) (vj:Value),j≤l3∧i=.int .i64 j∧o=vj∧Ko (.slice ao Fr.length co) X vj wr∧Toks base wr vj (freeF (freeW l) t.K (bs t.S) (bs t.Z) 0 (t.A.take j) Bd Fr)) (fun _ i _=>l3 - (intOf i).toNat)
  case atStart=>exact ⟨0,_,by omega,rfl,rfl,Ko.of_below (Below.refl _ _),HTO⟩
  case round =>
    obtain ⟨j,vj,hj,rfl,rfl,hko,hTj⟩:=hrel
    have hzr:=hko.size
    have hbxr:=(hko.block w.heap.size (by have:=HXS.out;omega) hno).trans hX1
    obtain ⟨b0,b1,b2,b3',b4,b5,b6,b7,b8⟩:=Nine.box hbxr
    obtain ⟨aj,nj,cj,rfl⟩:∃ aj nj cj,u2=.slice aj nj cj:=by obtain ⟨x,y,e⟩:=toks_form hTj;exact ⟨x,_,y,e⟩
    by_cases hlt:j < l3
    · have hlt':j < t.A.length:=by have:=HL.out;omega
      obtain ⟨eb,eo,rfl,_,hebB,e1,m1,d1,e2,m2,d2,e3,m3,d3,h9,hfi⟩:=hf.m.get j hlt'
      obtain ⟨a,ha,hfl⟩:=HG.out j hlt'
      have hbw:Below base w wr:=(hXb.mono hb).trans (hko.below HTO (by have:=HXS.out;omega))
      have h9r:=h9.world (hbw.block eb (by omega))
      obtain ⟨n0,n1,n2,n3,n4,n5,n6,n7,n8⟩:=h9r
      have hTbr:Toks base wr (.slice ab Bd.length cb) Bd:=toks_keep HTB fun g hg=>hko.block g (toks_own HTB hg).2 (hap g hg)
      have hT0:Toks base ((wr.alloc (.cells #[] 9)).drew) (.slice (some ⟨wr.heap.size,0,none⟩) 0 0) []:=⟨rfl,Or.inr ⟨wr.heap.size,0,#[],rfl,by have:=HXS.out;omega,heap_new rfl,by simp,by unfold maxLen;simp,by simp,by simp⟩⟩
      have hBe1:Below wr.heap.size wr ((wr.alloc (.cells #[] 9)).drew):=((Below.refl _ _).alloc (Nat.le_refl _) _).drew
      have hTb1:=toks_bel hTbr hBe1
      obtain ⟨v1,W2,hr1,hT1,hg1,ho1⟩:=toks_join hT0 (by show base≤(wr.alloc _).heap.size;simp;have:=HXS.out;omega) Bd (by simp;omega) ab cb (fun hp=>toks_src hTb1 hp)
      rw [List.nil_append] at hT1
      have hne0:∀ k,k < wr.heap.size→some k≠Value.ownBlock (.slice (some ⟨wr.heap.size,0,none⟩) 0 0):=fun k hk e=>by
        have e2:k=wr.heap.size:=by simpa [Value.ownBlock] using e
        omega
      have hz1:(wr.alloc (.cells #[] 9)).drew.heap.size=wr.heap.size+1:=by show (wr.alloc _).heap.size=_;simp
      have hBe2:Below wr.heap.size wr W2:=hBe1.trans ⟨hg1.os,hg1.tape,hg1.output,hg1.size,fun k hk=>hg1.block k (by omega) (hne0 k hk)⟩
      obtain ⟨av1,cv1,rfl⟩:=toks_form hT1
      have hown1:∀ k,Value.ownBlock (.slice av1 Bd.length cv1)=some k→wr.heap.size≤k:=fun k hk=>by
        rcases ho1 k hk with e | e
        · have e2:wr.heap.size=k:=by simpa [Value.ownBlock] using e
          omega
        · omega
      have AP:Hid (∀ (W3:World) (g3:Nat),Below W2.heap.size W2 W3→W3.heap[g3]?=some (.cells ((bindsW t.K (bs t.S) (bs t.Z) j).map tk).toArray 9 (0,0))→∃ a4 n4 c4 W4,(Builtin.append_ #[60,60] 60 #[.slice av1 Bd.length cv1,.slice (some ⟨g3,0,none⟩) (bindsW t.K (bs t.S) (bs t.Z) j).length (bindsW t.K (bs t.S) (bs t.Z) j).length]).run Tryz.prog W3=.ok (.slice a4 n4 c4) W4∧Below wr.heap.size wr W3∧Below wr.heap.size wr W4 ∧
          Calls Tryz.prog 41 #[.agg #[.int .i64 t.A[j].K,.int .i64 t.A[j].N,.string t.A[j].S,.string t.A[j].Z,.int .i64 t.A[j].T.K,.int .i64 t.A[j].T.N,.slice e1 m1 d1,.slice e2 m2 d2,.slice e3 m3 d3],.slice a4 n4 c4,.slice aj nj cj] W4 fun e w'=>∃ vo',e=.returned vo'∧Ko (.slice aj nj cj) W4 vo' w'∧Toks base w' vo' (freeF (freeW l) t.K (bs t.S) (bs t.Z) 0 (t.A.take (j+1)) Bd Fr)):=by
        intro W3 g3 hb3 hc3
        have hz3:=hb3.size
        have hBe3:Below wr.heap.size wr W3:=hBe2.trans (hb3.mono hBe2.size)
        have hbl:(bindsW t.K (bs t.S) (bs t.Z) j).length≤2:=by unfold bindsW;split;simp;split <;> simp
        obtain ⟨v2,W4,hr2,hT2,hg2,ho2⟩:=toks_join (toks_bel hT1 hb3) (by have:=hBe3.size;have:=HXS.out;omega) (bindsW t.K (bs t.S) (bs t.Z) j) (by omega) (some ⟨g3,0,none⟩) (bindsW t.K (bs t.S) (bs t.Z) j).length (fun _=>⟨g3,rfl,fun q u hu=>by rw [row_cell hc3,Nat.zero_add];simpa using hu⟩)
        have hBe4:Below wr.heap.size wr W4:=hBe3.trans ⟨hg2.os,hg2.tape,hg2.output,hg2.size,fun k hk=>hg2.block k (by have:=hBe3.size;omega) (fun e=>by have:=hown1 k e.symm;omega)⟩
        obtain ⟨a4,c4,rfl⟩:=toks_form hT2
        refine ⟨a4,_,c4,W4,hr2,hBe3,hBe4,?_⟩
        have hbw4:Below base w W4:=hbw.trans (hBe4.mono (by have:=HXS.out;omega))
        have hfi4:Fm L B W4 D (d - 1) t.A[j] e1 m1 e2 m2 e3 m3:=Fm.keep (fun k _ hk=>hbw4.block k (by omega)) (Nat.le_refl _) (Nat.le_refl _) hfi
        have hTj4:=toks_bel hTj hBe4
        refine (IH D (d - 1) L B base t.A[j] e1 m1 d1 e2 m2 d2 e3 m3 d3 _ _ (Bd ++ bindsW t.K (bs t.S) (bs t.Z) j) _ a W4 hB (by have:=hBe4.size;have:=HXS.out;omega) hfi4 ha hT2 hTj4 (fun g hg e=>?_) (by rw [List.length_append];omega) hfl).mono ?_
        · have h5:=(toks_own hTj e).2
          rcases ho2 g hg with e6 | e6
          · have:=hown1 g e6;omega
          · have:=hBe3.size;omega
        · rintro e w' ⟨vo',h6,h7,h8⟩
          refine ⟨vo',h6,h7,?_⟩
          rw [List.take_succ_eq_append_getElem hlt',freeF_snoc]
          have e9:0+(t.A.take j).length=j:=by rw [List.length_take];omega
          rw [e9]
          exact h8
      have HR1:Hid ((Builtin.append_ #[60,60] 60 #[.slice (some ⟨wr.heap.size,0,none⟩) 0 0,.slice ab Bd.length cb]).run Tryz.prog ((wr.alloc (.cells #[] 9)).drew)=.ok (.slice av1 Bd.length cv1) W2):=hr1
      have SK:Hid (∀ W:World,Below wr.heap.size wr W→W.cell? ⟨w.heap.size,0,none⟩=some (.int .i64 t.K)∧W.cell? ⟨w.heap.size,1,none⟩=some (.int .i64 t.N)∧W.cell? ⟨w.heap.size,2,none⟩=some (.string t.S)∧W.cell? ⟨w.heap.size,3,none⟩=some (.string t.Z)∧W.cell? ⟨w.heap.size,4,none⟩=some (.int .i64 t.T.K)∧W.cell? ⟨w.heap.size,5,none⟩=some (.int .i64 t.T.N)∧W.cell? ⟨w.heap.size,6,none⟩=some (.slice a1 l1 c1)∧W.cell? ⟨w.heap.size,7,none⟩=some (.slice a2 l2 c2)∧W.cell? ⟨w.heap.size,8,none⟩=some (.slice (some ⟨eb,eo,none⟩) l3 c3)∧W.cell? ⟨eb,eo+j * 9,none⟩=some (.int .i64 t.A[j].K)∧W.cell? ⟨eb,eo+j * 9+1,none⟩=some (.int .i64 t.A[j].N)∧W.cell? ⟨eb,eo+j * 9+2,none⟩=some (.string t.A[j].S)∧W.cell? ⟨eb,eo+j * 9+3,none⟩=some (.string t.A[j].Z)∧W.cell? ⟨eb,eo+j * 9+4,none⟩=some (.int .i64 t.A[j].T.K)∧W.cell? ⟨eb,eo+j * 9+5,none⟩=some (.int .i64 t.A[j].T.N)∧W.cell? ⟨eb,eo+j * 9+6,none⟩=some (.slice e1 m1 d1)∧W.cell? ⟨eb,eo+j * 9+7,none⟩=some (.slice e2 m2 d2)∧W.cell? ⟨eb,eo+j * 9+8,none⟩=some (.slice e3 m3 d3)):=fun W hW=>by
        have g0:w.heap.size < wr.heap.size:=by have:=HXS.out;omega
        have g1:eb < wr.heap.size:=by have:=HXS.out;omega
        refine ⟨(bcell hW g0 _).trans b0,(bcell hW g0 _).trans b1,(bcell hW g0 _).trans b2,(bcell hW g0 _).trans b3',(bcell hW g0 _).trans b4,(bcell hW g0 _).trans b5,(bcell hW g0 _).trans b6,(bcell hW g0 _).trans b7,(bcell hW g0 _).trans b8,(bcell hW g1 _).trans n0,(bcell hW g1 _).trans n1,(bcell hW g1 _).trans n2,(bcell hW g1 _).trans n3,(bcell hW g1 _).trans n4,(bcell hW g1 _).trans n5,(bcell hW g1 _).trans n6,(bcell hW g1 _).trans n7,(bcell hW g1 _).trans n8⟩
      have SK5:Hid (∀ (W4 W:World) (vo':Value),Below wr.heap.size wr W4→Ko (.slice aj nj cj) W4 vo' W→W.cell? ⟨w.heap.size,0,none⟩=some (.int .i64 t.K)∧W.cell? ⟨w.heap.size,1,none⟩=some (.int .i64 t.N)∧W.cell? ⟨w.heap.size,2,none⟩=some (.string t.S)∧W.cell? ⟨w.heap.size,3,none⟩=some (.string t.Z)∧W.cell? ⟨w.heap.size,4,none⟩=some (.int .i64 t.T.K)∧W.cell? ⟨w.heap.size,5,none⟩=some (.int .i64 t.T.N)∧W.cell? ⟨w.heap.size,6,none⟩=some (.slice a1 l1 c1)∧W.cell? ⟨w.heap.size,7,none⟩=some (.slice a2 l2 c2)∧W.cell? ⟨w.heap.size,8,none⟩=some (.slice (some ⟨eb,eo,none⟩) l3 c3)∧W.cell? ⟨eb,eo+j * 9,none⟩=some (.int .i64 t.A[j].K)∧W.cell? ⟨eb,eo+j * 9+1,none⟩=some (.int .i64 t.A[j].N)∧W.cell? ⟨eb,eo+j * 9+2,none⟩=some (.string t.A[j].S)∧W.cell? ⟨eb,eo+j * 9+3,none⟩=some (.string t.A[j].Z)∧W.cell? ⟨eb,eo+j * 9+4,none⟩=some (.int .i64 t.A[j].T.K)∧W.cell? ⟨eb,eo+j * 9+5,none⟩=some (.int .i64 t.A[j].T.N)∧W.cell? ⟨eb,eo+j * 9+6,none⟩=some (.slice e1 m1 d1)∧W.cell? ⟨eb,eo+j * 9+7,none⟩=some (.slice e2 m2 d2)∧W.cell? ⟨eb,eo+j * 9+8,none⟩=some (.slice e3 m3 d3)):=fun W4 W vo' hW4 hk=>by
        have g0:w.heap.size < wr.heap.size:=by have:=HXS.out;omega
        have g1:eb < wr.heap.size:=by have:=HXS.out;omega
        have hown:∀ k,Value.ownBlock (.slice aj nj cj)=some k→base≤k∧k≠w.heap.size:=fun k hk2=>by
          have h5:=(toks_own hTj hk2).1
          refine ⟨h5,fun e=>?_⟩
          rcases hko.own k hk2 with e6 | e6
          · exact hno (by rw [← e];exact e6)
          · have:=HXS.out;omega
        have r0:W.heap[w.heap.size]?=W4.heap[w.heap.size]?:=hk.block _ (by have:=hW4.size;omega) (fun e=>(hown _ e).2 rfl)
        have r1:W.heap[eb]?=W4.heap[eb]?:=hk.block _ (by have:=hW4.size;omega) (fun e=>by have:=(hown _ e).1;omega)
        obtain ⟨x0,x1,x2,x3,x4,x5,x6,x7,x8,y0,y1,y2,y3,y4,y5,y6,y7,y8⟩:=SK.out W4 hW4
        exact ⟨(World.cell?_of_block r0).trans x0,(World.cell?_of_block r0).trans x1,(World.cell?_of_block r0).trans x2,(World.cell?_of_block r0).trans x3,(World.cell?_of_block r0).trans x4,(World.cell?_of_block r0).trans x5,(World.cell?_of_block r0).trans x6,(World.cell?_of_block r0).trans x7,(World.cell?_of_block r0).trans x8,(World.cell?_of_block r1).trans y0,(World.cell?_of_block r1).trans y1,(World.cell?_of_block r1).trans y2,(World.cell?_of_block r1).trans y3,(World.cell?_of_block r1).trans y4,(World.cell?_of_block r1).trans y5,(World.cell?_of_block r1).trans y6,(World.cell?_of_block r1).trans y7,(World.cell?_of_block r1).trans y8⟩
      clear hr1 hT0 hTb1 hTbr hg1 ho1 hown1 hT1 h9 hfi ha hfl hz1 hne0
      go_wp2_with fail
      go_region_held3 (fun W=>W.cell? ⟨w.heap.size,0,none⟩=some (.int .i64 t.K)∧W.cell? ⟨w.heap.size,1,none⟩=some (.int .i64 t.N)∧W.cell? ⟨w.heap.size,2,none⟩=some (.string t.S)∧W.cell? ⟨w.heap.size,3,none⟩=some (.string t.Z)∧W.cell? ⟨w.heap.size,4,none⟩=some (.int .i64 t.T.K)∧W.cell? ⟨w.heap.size,5,none⟩=some (.int .i64 t.T.N)∧W.cell? ⟨w.heap.size,6,none⟩=some (.slice a1 l1 c1)∧W.cell? ⟨w.heap.size,7,none⟩=some (.slice a2 l2 c2)∧W.cell? ⟨w.heap.size,8,none⟩=some (.slice (some ⟨eb,eo,none⟩) l3 c3)∧W.cell? ⟨eb,eo+j * 9,none⟩=some (.int .i64 t.A[j].K)∧W.cell? ⟨eb,eo+j * 9+1,none⟩=some (.int .i64 t.A[j].N)∧W.cell? ⟨eb,eo+j * 9+2,none⟩=some (.string t.A[j].S)∧W.cell? ⟨eb,eo+j * 9+3,none⟩=some (.string t.A[j].Z)∧W.cell? ⟨eb,eo+j * 9+4,none⟩=some (.int .i64 t.A[j].T.K)∧W.cell? ⟨eb,eo+j * 9+5,none⟩=some (.int .i64 t.A[j].T.N)∧W.cell? ⟨eb,eo+j * 9+6,none⟩=some (.slice e1 m1 d1)∧W.cell? ⟨eb,eo+j * 9+7,none⟩=some (.slice e2 m2 d2)∧W.cell? ⟨eb,eo+j * 9+8,none⟩=some (.slice e3 m3 d3))
        (first | (refine ⟨?_,?_,?_,?_,?_,?_,?_,?_,?_,?_,?_,?_,?_,?_,?_,?_,?_,?_⟩;exact b0;exact b1;exact b2;exact b3';exact b4;exact b5;exact b6;exact b7;exact b8;exact n0;exact n1;exact n2;exact n3;exact n4;exact n5;exact n6;exact n7;exact n8) | exact SK5.out _ _ _ hbe4 hko5 | exact SK.out _ hbe4 | exact SK.out _ hbe3 | exact SK.out _ hBe2 | exact SK.out _ hBe1)
        (first
          | (refine step_run hr4 (by rfl) _ _ (by rfl) (by rfl) (by rfl) (by rfl) ?_)
          | (refine step_run HR1.out (by rfl) _ _ (by rfl) (by rfl) (by rfl) (by rfl) ?_)
          | (go_at_call 62;refine (l2Binds_any t _ _ _ _ _ _ _ _ _ j (by omega) _).mono ?_;rintro e w3 ⟨g3,rfl,hb3,hg3,hc3⟩;obtain ⟨a4,n4,c4,w4,hr4,hbe3,hbe4,hca⟩:=AP.out w3 g3 hb3 hc3)
          | (go_at_call 41;refine hca.mono ?_;rintro e w5 ⟨vo5,rfl,hko5,hT5⟩))
      all_goals
        have hkn:=hko.trans ((Ko.of_below hbe4).trans hko5)
        clear hr4 hca
        go_wp2_with fail
        go_roundw
        case rel=>exact ⟨j+1,_,by omega,by go_num,rfl,hkn,hT5⟩
        case measure=>simp [intOf];omega
    · have HK:Hid (t.A.take j=t.A):=by show _=_;exact List.take_of_length_le (by have:=HL.out;omega)
      go_wp2_with fail
      go_ret
      exact ⟨_,rfl,(Ko.of_below hXb).trans hko,by rw [HE.out];rw [HK.out] at hTj;exact hTj⟩
set_option maxRecDepth 100000 in
set_option maxHeartbeats 2000000 in
theorem lf_var (l:Nat) (D d L B base:Nat) (t:Tm) (a1:Option Addr) (l1 c1:Nat) (a2:Option Addr) (l2 c2:Nat) (a3:Option Addr) (l3 c3:Nat) (vb vo:Value) (Bd Fr:List (List UInt8)) (m:Nat) (w:World) (hB:B≤base) (hb:base≤w.heap.size) (hf:Fm L B w D d t a1 l1 a2 l2 a3 l3) (hm:nodesM (l+1) t=some m) (hTb:Toks base w vb Bd) (hTo:Toks base w vo Fr) (h1:Bd.length+2 * (l+1)≤1000) (h2:Fr.length+m≤1000) (h3:t.K=3) :
    Calls Tryz.prog 41 #[.agg #[.int .i64 t.K,.int .i64 t.N,.string t.S,.string t.Z,.int .i64 t.T.K,.int .i64 t.T.N,.slice a1 l1 c1,.slice a2 l2 c2,.slice a3 l3 c3],vb,vo] w fun e w'=>∃ vo',e=.returned vo'∧Ko vo w vo' w'∧Toks base w' vo' (freeW (l+1) t Bd Fr):=by
  obtain ⟨hn,_⟩:=nodesM_inv hm
  have hlen:=(nodeM_kinds hn).2.2
  rw [h3] at hlen
  have hA:t.A.length=0:=by have:(t.A.length:Int)=0:=hlen;omega
  have hl3:l3=0:=by have:=hf.m.len.1;omega
  have hA0:t.A=[]:=List.length_eq_zero_iff.1 hA
  have HE:Hid (freeW (l+1) t Bd Fr=meetW Bd Fr (bs t.S)):=by show _=_;simp [freeW,h3,hA0,freeF]
  have hl0:¬ (0:Int) < (l3:Int):=by omega
  clear hl3
  obtain ⟨ab,cb,rfl⟩:=toks_form hTb
  obtain ⟨ao,co,rfl⟩:=toks_form hTo
  obtain ⟨X,hX⟩:∃ X,X=w.alloc (.cells #[.int .i64 t.K,.int .i64 t.N,.string t.S,.string t.Z,.int .i64 t.T.K,.int .i64 t.T.N,.slice a1 l1 c1,.slice a2 l2 c2,.slice a3 l3 c3] 34):=⟨_,rfl⟩
  have hXs:X.heap.size=w.heap.size+1:=by rw [hX];simp
  have hXb:Below w.heap.size w X:=by rw [hX];exact (Below.refl _ _).alloc (Nat.le_refl _) _
  have hX1:X.heap[w.heap.size]?=some (.cells #[.int .i64 t.K,.int .i64 t.N,.string t.S,.string t.Z,.int .i64 t.T.K,.int .i64 t.T.N,.slice a1 l1 c1,.slice a2 l2 c2,.slice a3 l3 c3] 34 (0,0)):=by rw [hX];exact heap_new rfl
  have hTbX:=toks_bel hTb hXb
  have hToX:=toks_bel hTo hXb
  have K1:=l2Has_any _ _ t.S X hTbX (by omega)
  have K2:=l2Has_any _ _ t.S X hToX (by omega)
  obtain ⟨b0,b1,b2,b3,b4,b5,b6,b7,b8⟩:=Nine.box hX1
  have HX:Hid (w.alloc (.cells #[.int .i64 3,.int .i64 t.N,.string t.S,.string t.Z,.int .i64 t.T.K,.int .i64 t.T.N,.slice a1 l1 c1,.slice a2 l2 c2,.slice a3 l3 c3] 34)=X):=by show _=_;rw [hX,h3]
  have hk0:Ko (.slice ao Fr.length co) w (.slice ao Fr.length co) X:=Ko.of_below hXb
  clear hX hlen hA hA0 hn
  by_cases hb1:bs t.S ∈ Bd
  · have HM:Hid (meetW Bd Fr (bs t.S)=Fr):=by show _=_;simp [meetW,hb1]
    have hd:decide (bs t.S ∈ Bd)=true:=by simp [hb1]
    rw [hd] at K1
    clear hb1 hd
    go_enter Tryz.func41,Tryz.ntmps41
    go_wp2_with fail
    rw [HX.out]
    refine K1.mono ?_
    rintro e w1 ⟨rfl,rfl⟩
    go_wp2_with fail
    refine wp_loop_rounds 1 ?_
    rw [rounds_succ]
    go_wp2_with fail
    go_ret
    exact ⟨_,rfl,hk0,by rw [HE.out,HM.out];exact hToX⟩
  · have hd:decide (bs t.S ∈ Bd)=false:=by simp [hb1]
    rw [hd] at K1
    by_cases hf1:bs t.S ∈ Fr
    · have HM:Hid (meetW Bd Fr (bs t.S)=Fr):=by show _=_;simp [meetW,hf1]
      have hd2:decide (bs t.S ∈ Fr)=true:=by simp [hf1]
      rw [hd2] at K2
      clear hb1 hd hf1 hd2
      go_enter Tryz.func41,Tryz.ntmps41
      go_wp2_with fail
      rw [HX.out]
      refine K1.mono ?_
      rintro e w1 ⟨rfl,rfl⟩
      go_wp2_with fail
      refine K2.mono ?_
      rintro e w2 ⟨rfl,rfl⟩
      go_wp2_with fail
      refine wp_loop_rounds 1 ?_
      rw [rounds_succ]
      go_wp2_with fail
      go_ret
      exact ⟨_,rfl,hk0,by rw [HE.out,HM.out];exact hToX⟩
    · have HM:Hid (meetW Bd Fr (bs t.S)=Fr ++ [bs t.S]):=by show _=_;simp [meetW,hb1,hf1]
      have hd2:decide (bs t.S ∈ Fr)=false:=by simp [hf1]
      rw [hd2] at K2
      clear hb1 hd hf1 hd2
      have hW:Below X.heap.size X (X.alloc (.cells #[.string t.S] 9)):=(Below.refl _ _).alloc (Nat.le_refl _) _
      obtain ⟨g,cap,w2,hrun,hT2,hgr,hat,hlt⟩:=toks_grow (toks_bel hToX hW) (by simp;omega) [bs t.S] (by simp) (by simp;omega) X.heap.size 1 (by
        intro j u hu
        have hj:j=0:=by
          have:=(List.getElem?_eq_some_iff.1 hu).1
          simpa using this
        subst hj
        have e:tk (bs t.S)=u:=by simpa using hu
        rw [← e,tk_bs,row_cell (heap_new rfl)]
        rfl)
      have hko:=hk0.trans (ko_grown (n:=Fr.length+1) (cap:=cap) hW hgr hat)
      have hno:Value.ownBlock (.slice ao Fr.length co)≠some w.heap.size:=fun e=>by have:=(toks_own hTo e).2;omega
      have hx2:w2.heap[w.heap.size]?=_:=(hgr.block w.heap.size (by simp;omega) (fun e=>hno e.symm)).trans ((hW.block _ (by omega)).trans hX1)
      obtain ⟨x0,x1,x2,x3,x4,x5,x6,x7,x8⟩:=Nine.box hx2
      have HR:Hid ((Builtin.append_ #[60,60] 60 #[.slice ao Fr.length co,.slice (some ⟨X.heap.size,0,none⟩) 1 1]).run Tryz.prog (X.alloc (.cells #[.string t.S] 9))=.ok (.slice (some ⟨g,0,none⟩) (Fr.length+1) cap) w2):=hrun
      have hltX:w.heap.size < X.heap.size:=by omega
      clear hrun hgr hat hx2 hXs
      go_enter Tryz.func41,Tryz.ntmps41
      go_wp2_with fail
      rw [HX.out]
      refine K1.mono ?_
      rintro e w1 ⟨rfl,rfl⟩
      go_wp2_with fail
      refine K2.mono ?_
      rintro e w3 ⟨rfl,rfl⟩
      go_wp2_with (at_builtin;refine list_run HR.out (by rfl) _ _ (by rfl) (by rfl) (by rfl) (by rfl) ?_)
      refine wp_loop_rounds 1 ?_
      rw [rounds_succ]
      go_wp2_with fail
      go_ret
      exact ⟨_,rfl,hko,by rw [HE.out,HM.out];exact hT2⟩
theorem lf_any (l:Nat):SaidLf l:=by
  induction l with
  | zero=>exact lf_zero
  | succ l ih =>
    intro D d L B base t a1 l1 c1 a2 l2 c2 a3 l3 c3 vb vo Bd Fr m w hB hb hf hm hTb hTo hap h1 h2
    by_cases h3:t.K=3
    · exact lf_var l D d L B base t a1 l1 c1 a2 l2 c2 a3 l3 c3 vb vo Bd Fr m w hB hb hf hm hTb hTo h1 h2 h3
    · exact lf_loop l ih D d L B base t a1 l1 c1 a2 l2 c2 a3 l3 c3 vb vo Bd Fr m w hB hb hf hm hTb hTo hap h1 h2 h3
end Go.Proofs.YtcepgedbmffkdaaGreat

/-
  'ready' of the program, 'l7Ready' of the model: whether each name alone tells its binder, and no type is open.
-/
namespace Go.Proofs.YtcepgedbmffkdaaGreat
open Go.RowKit
set_option linter.unusedVariables false
set_option linter.unusedSimpArgs false
def rdyM (t:Tm):Bool:=mnM t && auM t && decide (freeW 24 t [] []=[])
theorem rdyM_ok {t:Tm} (h:rdyM t=true):okM t=true:=by
  simp only [rdyM,mnM,Bool.and_eq_true] at h
  exact h.1.1.1
theorem beq0 (n:Nat):((n:Int) == 0)=decide (n=0):=by
  by_cases h:n=0
  · subst h;rfl
  · have h2:((n:Int) == 0)=false:=by rw [beq_eq_false_iff_ne];omega
    rw [h2];simp [h]
theorem toks_lit7 {base:Nat} {w:World} {g:Nat} (hg:w.heap[g]?=some (.cells #[] 9 (0,0))) (hb:base≤g):Toks base w (.slice (some ⟨g,0,none⟩) 0 0) [] :=
  ⟨rfl,Or.inr ⟨g,0,#[],rfl,hb,hg,by simp,by unfold maxLen;simp,by simp,by simp⟩⟩
set_option maxRecDepth 100000 in
set_option maxHeartbeats 1000000 in
theorem ready_any (D d L B:Nat) (t:Tm) (a1:Option Addr) (l1 c1:Nat) (a2:Option Addr) (l2 c2:Nat) (a3:Option Addr) (l3 c3:Nat) (w:World) (hB:B≤w.heap.size) (hf:Fm L B w D d t a1 l1 a2 l2 a3 l3) :
    Calls Tryz.prog 24 #[.agg #[.int .i64 t.K,.int .i64 t.N,.string t.S,.string t.Z,.int .i64 t.T.K,.int .i64 t.T.N,.slice a1 l1 c1,.slice a2 l2 c2,.slice a3 l3 c3]] w fun e w'=>e=.returned (.bool (rdyM t))∧Below w.heap.size w w':=by
  obtain ⟨X,hX⟩:∃ X,X=w.alloc (.cells #[.int .i64 t.K,.int .i64 t.N,.string t.S,.string t.Z,.int .i64 t.T.K,.int .i64 t.T.N,.slice a1 l1 c1,.slice a2 l2 c2,.slice a3 l3 c3] 34):=⟨_,rfl⟩
  have hXs:X.heap.size=w.heap.size+1:=by rw [hX];simp
  have hXb:Below w.heap.size w X:=by rw [hX];exact (Below.refl _ _).alloc (Nat.le_refl _) _
  have hX0:X.heap[w.heap.size]?=some (.cells #[.int .i64 t.K,.int .i64 t.N,.string t.S,.string t.Z,.int .i64 t.T.K,.int .i64 t.T.N,.slice a1 l1 c1,.slice a2 l2 c2,.slice a3 l3 c3] 34 (0,0)):=by rw [hX];exact heap_new rfl
  have hfX:=Fm.below hXb hB hf
  have HX:Hid (X=_):=hX
  clear hX
  cases h1:mnM t
  · have HQ:Hid (mnM t=false∧rdyM t=false):=⟨h1,by simp [rdyM,h1]⟩
    clear h1
    go_enter Tryz.func24,Tryz.ntmps24
    go_wp2_with fail
    rw [← HX.out]
    refine (isMono_any D d L B t _ _ _ _ _ _ _ _ _ X (by omega) hfX).mono ?_
    rintro e w1 ⟨rfl,hb1⟩
    rw [HQ.out.1]
    go_wp2_with fail
    go_ret
    exact ⟨by rw [HQ.out.2];rfl,hXb.trans (hb1.mono (by omega))⟩
  · cases h2:auM t
    · have HQ:Hid (mnM t=true∧auM t=false∧rdyM t=false):=⟨h1,h2,by simp [rdyM,h2]⟩
      clear h1 h2
      go_enter Tryz.func24,Tryz.ntmps24
      go_wp2_with fail
      rw [← HX.out]
      refine (isMono_any D d L B t _ _ _ _ _ _ _ _ _ X (by omega) hfX).mono ?_
      rintro e w1 ⟨rfl,hb1⟩
      rw [HQ.out.1]
      have hz1:=hb1.size
      have hbw1:Below w.heap.size w w1:=hXb.trans (hb1.mono (by omega))
      obtain ⟨f0,f1,f2,f3,f4,f5,f6,f7,f8⟩:=Nine.box ((hb1.block w.heap.size (by omega)).trans hX0)
      go_wp2_with fail
      refine (allUnlike_any D d L B t _ _ _ _ _ _ _ _ _ w1 (by omega) (Fm.below hbw1 hB hf)).mono ?_
      rintro e w2 ⟨rfl,hb2⟩
      rw [HQ.out.2.1]
      go_wp2_with fail
      go_ret
      exact ⟨by rw [HQ.out.2.2];rfl,hbw1.trans (hb2.mono (by omega))⟩
    · have hok:okM t=true:=by simp only [mnM,Bool.and_eq_true] at h1;exact h1.1
      obtain ⟨m,hm,hm6⟩:=okM_some hok
      have HFT:Hid (freeT t=freeW 24 t [] []):=by show _=_;simp [freeT,hok]
      have hfl:=freeW_len 24 t m [] [] hm
      obtain ⟨nf,hnf⟩:∃ nf,(freeW 24 t [] []).length=nf:=⟨_,rfl⟩
      have HQ:Hid (mnM t=true∧auM t=true∧rdyM t=decide (nf=0)):=⟨h1,h2,by
        have e:decide (freeW 24 t [] []=[])=decide (nf=0):=by rw [← hnf];exact decide_eq_decide.2 List.length_eq_zero_iff.symm
        simp [rdyM,h1,h2,e]⟩
      have HNF:Hid ((freeW 24 t [] []).length=nf):=hnf
      rw [hnf] at hfl
      clear h1 h2 hok hnf
      go_enter Tryz.func24,Tryz.ntmps24
      go_wp2_with fail
      rw [← HX.out]
      refine (isMono_any D d L B t _ _ _ _ _ _ _ _ _ X (by omega) hfX).mono ?_
      rintro e w1 ⟨rfl,hb1⟩
      rw [HQ.out.1]
      have hz1:=hb1.size
      have hbw1:Below w.heap.size w w1:=hXb.trans (hb1.mono (by omega))
      have x1:=(hb1.block w.heap.size (by omega)).trans hX0
      obtain ⟨f0,f1,f2,f3,f4,f5,f6,f7,f8⟩:=Nine.box x1
      go_wp2_with fail
      refine (allUnlike_any D d L B t _ _ _ _ _ _ _ _ _ w1 (by omega) (Fm.below hbw1 hB hf)).mono ?_
      rintro e w2 ⟨rfl,hb2⟩
      rw [HQ.out.2.1]
      have hz2:=hb2.size
      have hbw2:Below w.heap.size w w2:=hbw1.trans (hb2.mono (by omega))
      clear f0 f1 f2 f3 f4 f5 f6 f7 f8
      obtain ⟨f0,f1,f2,f3,f4,f5,f6,f7,f8⟩:=Nine.box ((hb2.block w.heap.size (by omega)).trans x1)
      go_wp2_with fail
      refine (freeOf_any D d L B t _ _ _ _ _ _ _ _ _ w2 (by omega) (Fm.below hbw2 hB hf)).mono ?_
      rintro e w3 ⟨v,rfl,hb3,hTk⟩
      rw [HFT.out] at hTk
      obtain ⟨ao,cp,rfl⟩:=toks_form hTk
      rw [HNF.out] at hTk ⊢
      go_wp2_with fail
      go_ret
      exact ⟨by rw [HQ.out.2.2];simp;exact beq0 nf,hbw2.trans (hb3.mono (by omega))⟩
set_option maxRecDepth 100000 in
set_option maxHeartbeats 1000000 in
theorem sReady_any (D d L B:Nat) (t:Tm) (a1:Option Addr) (l1 c1:Nat) (a2:Option Addr) (l2 c2:Nat) (a3:Option Addr) (l3 c3:Nat) (w:World) (hB:B≤w.heap.size) (hf:Fm L B w D d t a1 l1 a2 l2 a3 l3) :
    Calls Tryz.prog 17 #[.agg #[.int .i64 t.K,.int .i64 t.N,.string t.S,.string t.Z,.int .i64 t.T.K,.int .i64 t.T.N,.slice a1 l1 c1,.slice a2 l2 c2,.slice a3 l3 c3]] w fun e w'=>e=.returned (.bool (rdyM t))∧Below w.heap.size w w':=by
  obtain ⟨X,hX⟩:∃ X,X=w.alloc (.cells #[.int .i64 t.K,.int .i64 t.N,.string t.S,.string t.Z,.int .i64 t.T.K,.int .i64 t.T.N,.slice a1 l1 c1,.slice a2 l2 c2,.slice a3 l3 c3] 34):=⟨_,rfl⟩
  have hXs:X.heap.size=w.heap.size+1:=by rw [hX];simp
  have hXb:Below w.heap.size w X:=by rw [hX];exact (Below.refl _ _).alloc (Nat.le_refl _) _
  have hX0:X.heap[w.heap.size]?=some (.cells #[.int .i64 t.K,.int .i64 t.N,.string t.S,.string t.Z,.int .i64 t.T.K,.int .i64 t.T.N,.slice a1 l1 c1,.slice a2 l2 c2,.slice a3 l3 c3] 34 (0,0)):=by rw [hX];exact heap_new rfl
  have hfX:=Fm.below hXb hB hf
  have HX:Hid (X=_):=hX
  clear hX
  cases h1:mnM t
  · have HQ:Hid (mnM t=false∧rdyM t=false):=⟨h1,by simp [rdyM,h1]⟩
    clear h1
    go_enter Tryz.func17,Tryz.ntmps17
    go_wp2_with fail
    rw [← HX.out]
    refine (sIsMono_any D d L B t _ _ _ _ _ _ _ _ _ X (by omega) hfX).mono ?_
    rintro e w1 ⟨rfl,hb1⟩
    rw [HQ.out.1]
    go_wp2_with fail
    go_ret
    exact ⟨by rw [HQ.out.2];rfl,hXb.trans (hb1.mono (by omega))⟩
  · cases h2:auM t
    · have HQ:Hid (mnM t=true∧auM t=false∧rdyM t=false):=⟨h1,h2,by simp [rdyM,h2]⟩
      clear h1 h2
      go_enter Tryz.func17,Tryz.ntmps17
      go_wp2_with fail
      rw [← HX.out]
      refine (sIsMono_any D d L B t _ _ _ _ _ _ _ _ _ X (by omega) hfX).mono ?_
      rintro e w1 ⟨rfl,hb1⟩
      rw [HQ.out.1]
      have hz1:=hb1.size
      have hbw1:Below w.heap.size w w1:=hXb.trans (hb1.mono (by omega))
      obtain ⟨f0,f1,f2,f3,f4,f5,f6,f7,f8⟩:=Nine.box ((hb1.block w.heap.size (by omega)).trans hX0)
      go_wp2_with fail
      refine (sAllUnlike_any D d L B t _ _ _ _ _ _ _ _ _ w1 (by omega) (Fm.below hbw1 hB hf)).mono ?_
      rintro e w2 ⟨rfl,hb2⟩
      rw [HQ.out.2.1]
      go_wp2_with fail
      go_ret
      exact ⟨by rw [HQ.out.2.2];rfl,hbw1.trans (hb2.mono (by omega))⟩
    · have hok:okM t=true:=by simp only [mnM,Bool.and_eq_true] at h1;exact h1.1
      obtain ⟨m,hm,hm6⟩:=okM_some hok
      have HFT:Hid (freeT t=freeW 24 t [] []):=by show _=_;simp [freeT,hok]
      have hfl:=freeW_len 24 t m [] [] hm
      obtain ⟨nf,hnf⟩:∃ nf,(freeW 24 t [] []).length=nf:=⟨_,rfl⟩
      have HQ:Hid (mnM t=true∧auM t=true∧rdyM t=decide (nf=0)):=⟨h1,h2,by
        have e:decide (freeW 24 t [] []=[])=decide (nf=0):=by rw [← hnf];exact decide_eq_decide.2 List.length_eq_zero_iff.symm
        simp [rdyM,h1,h2,e]⟩
      have HNF:Hid ((freeW 24 t [] []).length=nf):=hnf
      rw [hnf] at hfl
      clear h1 h2 hok hnf
      go_enter Tryz.func17,Tryz.ntmps17
      go_wp2_with fail
      rw [← HX.out]
      refine (sIsMono_any D d L B t _ _ _ _ _ _ _ _ _ X (by omega) hfX).mono ?_
      rintro e w1 ⟨rfl,hb1⟩
      rw [HQ.out.1]
      have hz1:=hb1.size
      have hbw1:Below w.heap.size w w1:=hXb.trans (hb1.mono (by omega))
      have x1:=(hb1.block w.heap.size (by omega)).trans hX0
      obtain ⟨f0,f1,f2,f3,f4,f5,f6,f7,f8⟩:=Nine.box x1
      go_wp2_with fail
      refine (sAllUnlike_any D d L B t _ _ _ _ _ _ _ _ _ w1 (by omega) (Fm.below hbw1 hB hf)).mono ?_
      rintro e w2 ⟨rfl,hb2⟩
      rw [HQ.out.2.1]
      have hz2:=hb2.size
      have hbw2:Below w.heap.size w w2:=hbw1.trans (hb2.mono (by omega))
      clear f0 f1 f2 f3 f4 f5 f6 f7 f8
      obtain ⟨f0,f1,f2,f3,f4,f5,f6,f7,f8⟩:=Nine.box ((hb2.block w.heap.size (by omega)).trans x1)
      have hA:Below w2.heap.size w2 ((w2.alloc (.cells #[] 9)).alloc (.cells #[] 9)):=((Below.refl _ _).alloc (Nat.le_refl _) _).alloc (by simp) _
      have hbA:Below w.heap.size w ((w2.alloc (.cells #[] 9)).alloc (.cells #[] 9)):=hbw2.trans (hA.mono (by omega))
      have hT1:Toks w.heap.size ((w2.alloc (.cells #[] 9)).alloc (.cells #[] 9)) (.slice (some ⟨w2.heap.size,0,none⟩) 0 0) []:=toks_lit7 (by rw [Below.heap_alloc _ _ _ (by simp)];exact heap_new rfl) (by omega)
      have hT2:Toks w.heap.size ((w2.alloc (.cells #[] 9)).alloc (.cells #[] 9)) (.slice (some ⟨w2.heap.size+1,0,none⟩) 0 0) []:=toks_lit7 (heap_new (by simp)) (by omega)
      have hfA:Fm L B ((w2.alloc (.cells #[] 9)).alloc (.cells #[] 9)) D d t a1 l1 a2 l2 a3 l3:=Fm.below hbA hB hf
      have hltA:w.heap.size < w2.heap.size:=by omega
      go_wp2_with fail
      refine (lf_any 24 D d L B w.heap.size t a1 l1 c1 a2 l2 c2 a3 l3 c3 _ _ [] [] m _ hB (by simp;omega) hfA hm hT1 hT2 (fun g hg e=>by simp [Value.ownBlock] at hg e;omega) (by simp) (by simp;omega)).mono ?_
      rintro e w3 ⟨v,rfl,hk3,hTk⟩
      have hb3A:=hk3.below hT2 (by simp;omega)
      obtain ⟨ao,cp,rfl⟩:=toks_form hTk
      rw [HNF.out] at hTk ⊢
      go_wp2_with fail
      go_ret
      exact ⟨by rw [HQ.out.2.2];simp;exact beq0 nf,hbA.trans hb3A⟩
end Go.Proofs.YtcepgedbmffkdaaGreat
