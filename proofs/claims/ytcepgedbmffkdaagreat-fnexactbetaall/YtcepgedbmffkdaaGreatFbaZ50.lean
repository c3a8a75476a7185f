/-
  The law FnExactBetaAll's walk, with the model's 'l18Put' laid in.
-/
import Derived.Test.YtcepgedbmffkdaaGreatFbaLawBa
import Derived.Test.YtcepgedbmffkdaaGreatFbaSp2
import Derived.Test.YtcepgedbmffkdaaGreatFbaZ3
import Derived.Test.YtcepgedbmffkdaaGreatFbaZ1
import Derived.ProofKit
import Derived.Deep.Slices
import Derived.Deep.Strs
import Derived.ChangeOld
import Derived.OpenShut
namespace Go.Proofs.YtcepgedbmffkdaaGreat
open Go.RowKit
theorem law_betaAll (D d L B:Nat) (t:Tm) (a1:Option Addr) (l1 c1:Nat) (a2:Option Addr) (l2 c2:Nat) (a3:Option Addr) (l3 c3:Nat) (w:World) (hB:B≤w.heap.size) (hf:Fm L B w D d t a1 l1 a2 l2 a3 l3) :
    Calls Tryz.prog 4 #[.agg #[.int .i64 t.K,.int .i64 t.N,.string t.S,.string t.Z,.int .i64 t.T.K,.int .i64 t.T.N,.slice a1 l1 c1,.slice a2 l2 c2,.slice a3 l3 c3]] w fun e w'=>e=.returned (.bool true)∧Below w.heap.size w w' :=
  law_betaAllOf sput_any D d L B t a1 l1 c1 a2 l2 c2 a3 l3 c3 w hB hf
end Go.Proofs.YtcepgedbmffkdaaGreat

/-
  From the reading of an argument of the laws' own type to the tree that lies there.
-/
namespace Go.Proofs.YtcepgedbmffkdaaGreat
open Go.RowKit
set_option linter.unusedVariables false
set_option linter.unusedSimpArgs false
theorem Tryz.cellsLTy:Tryz.prog.cellsOf 24=3:=by kernel_rfl
theorem Tryz.cellsLTyS:Tryz.prog.cellsOf 22=1:=by kernel_rfl
theorem Tryz.cellsInt:Tryz.prog.cellsOf 3=1:=by kernel_rfl
theorem choose_tr {n:Nat} {p:Nat→Tr→Prop} (h:∀ i,i < n→∃ x,p i x):∃ f:Nat→Tr,∀ i,i < n→p i (f i):=by
  classical
  refine ⟨fun i=>if hi:i < n then Classical.choose (h i hi) else ⟨0,0,[]⟩,fun i hi=>?_⟩
  simp only [dif_pos hi]
  exact Classical.choose_spec (h i hi)
theorem cell_spot {w:World} {a:Addr} {v:Value} (h:w.cell? a=some v):a.spot=none∧a.block < w.heap.size:=by
  unfold World.cell? at h
  split at h
  · rename_i c t fr hh
    refine ⟨?_,(Array.getElem?_eq_some_iff.1 hh).1⟩
    cases hs:a.spot with
    | none=>rfl
    | some x=>simp [hs] at h
  · cases h
theorem add_at (b o n:Nat):Addr.add ⟨b,o,none⟩ n=⟨b,o+n,none⟩:=by
  unfold Addr.add
  by_cases h:n=0 <;> simp [h]
section
variable {H:Type} {enc:TypeId × Value→H} {W:World} {spare:Nat→Bool} {held:Bool}
set_option maxRecDepth 100000 in
theorem read_ty (fuel:Nat) (ih:∀ f,f < fuel→∀ (cs:List Value) (x:DataW H × List MemPlace),DataW.trod enc Tryz.prog W 0 spare held f 22 cs=some x→∃ ao len cap ts,cs=[.slice ao len cap]∧Hs 0 W.heap.size W f ao len ts)
    (cs:List Value) (x:DataW H × List MemPlace) (h:DataW.trod enc Tryz.prog W 0 spare held fuel 24 cs=some x) :
    ∃ k n ao len cap ts,cs=[.int .i64 k,.int .i64 n,.slice ao len cap]∧Hs 0 W.heap.size W fuel ao len ts:=by
  obtain ⟨xs,m,hm,_,hl,hlen,hf⟩:=DataW.trod_struct Tryz.underlying24 h
  rw [Tryz.cellsLTy] at hl
  match cs,hl with
  | [c0,c1,c2],_ =>
    have h0:DataW.trod enc Tryz.prog W 0 spare held m 3 (List.take (Tryz.prog.cellsOf 3) [c0,c1,c2])=xs[0]?:=hf 0 _ rfl
    have h1:DataW.trod enc Tryz.prog W 0 spare held m 3 (List.take (Tryz.prog.cellsOf 3) [c1,c2])=xs[1]?:=hf 1 _ rfl
    have h2:DataW.trod enc Tryz.prog W 0 spare held m 22 (List.take (Tryz.prog.cellsOf 22) [c2])=xs[2]?:=hf 2 _ rfl
    rw [Tryz.cellsInt] at h0 h1
    rw [Tryz.cellsLTyS] at h2
    simp only [List.take_succ_cons,List.take_zero] at h0 h1 h2
    have hx:xs.length=3:=hlen
    match xs,hx with
    | [y0,y1,y2],_ =>
      obtain ⟨k,e0,_,_⟩:=DataW.trod_int Tryz.underlying3 h0
      obtain ⟨n,e1,_,_⟩:=DataW.trod_int Tryz.underlying3 h1
      obtain ⟨ao,len,cap,ts,e2,hs⟩:=ih m (by omega) _ _ h2
      simp at e0 e1 e2
      subst e0 e1 e2
      exact ⟨k,n,ao,len,cap,ts,rfl,hs.deeper (by omega)⟩
set_option maxRecDepth 100000 in
theorem read_tys:∀ (fuel:Nat) (cs:List Value) (x:DataW H × List MemPlace),DataW.trod enc Tryz.prog W 0 spare held fuel 22 cs=some x→∃ ao len cap ts,cs=[.slice ao len cap]∧Hs 0 W.heap.size W fuel ao len ts:=by
  intro fuel
  induction fuel using Nat.strongRecOn with
  | ind fuel ih =>
    intro cs x h
    rcases DataW.trod_slice Tryz.underlying22 h with ⟨rfl,_⟩ | ⟨a,len,cap,elems,rest,n,hn,rfl,_,_,hl,hm,hlen,hel,_,_⟩
    · exact ⟨none,0,0,[],rfl,Hs.nil _ _ _ _ _⟩
    · rw [Tryz.cellsLTy] at hel
      have key:∀ i,i < len→∃ t:Tr,∃ b o,a=⟨b,o,none⟩∧b < W.heap.size∧El W (Hs 0 W.heap.size W n) b (o+i * 3) t:=by
        intro i hi
        have h1:=hel i hi
        rw [List.getElem?_eq_getElem (by omega)] at h1
        obtain ⟨cs',h2,h3⟩:=Option.bind_eq_some_iff.1 h1
        obtain ⟨k,m,ao,len',cap',ts,rfl,hs⟩:=read_ty n (fun f hf=>ih f (by omega)) _ _ h3
        obtain ⟨_,_,hc⟩:=World.cells?_some h2
        have c0:=hc 0 (by omega)
        have c1:=hc 1 (by omega)
        have c2:=hc 2 (by omega)
        simp only [List.getElem?_cons_zero,List.getElem?_cons_succ] at c0 c1 c2
        have hsp:=cell_spot c1
        have ha:a.spot=none:=by
          have hc0:=cell_spot c0
          by_cases hi0:i=0
          · subst hi0;simpa [Addr.add] using hc0.1
          · cases hsa:a.spot with
            | none=>rfl
            | some y =>
              exfalso
              have g:=hel 0 (by omega)
              rw [List.getElem?_eq_getElem (by omega)] at g
              obtain ⟨cs2,g2,_⟩:=Option.bind_eq_some_iff.1 g
              obtain ⟨_,gl,gc⟩:=World.cells?_some g2
              have g0:=gc 0 (by omega)
              rw [List.getElem?_eq_getElem (by omega)] at g0
              have:=(cell_spot g0).1
              simp [Addr.add,hsa] at this
        obtain ⟨b,o,sp⟩:=a
        simp only at ha
        subst ha
        rw [add_at,add_at] at c0 c1 c2
        refine ⟨⟨k,m,ts⟩,b,o,rfl,(cell_spot c0).2,ao,len',cap',c0,c1,c2,hs⟩
      obtain ⟨T,hT⟩:=choose_tr key
      refine ⟨some a,len,cap,(List.range len).map T,rfl,?_⟩
      subst hn
      refine ⟨by simp,by unfold maxLen at hm;omega,fun i hi=>?_⟩
      have hi':i < len:=by simpa using hi
      obtain ⟨b,o,rfl,hb,hE⟩:=hT i hi'
      exact ⟨b,o,rfl,Nat.zero_le _,hb,by simpa using hE⟩
end
end Go.Proofs.YtcepgedbmffkdaaGreat

/-
  From the reading of an argument of the laws' own type Term to the tree that lies there.
-/
namespace Go.Proofs.YtcepgedbmffkdaaGreat
open Go.RowKit
set_option linter.unusedVariables false
set_option linter.unusedSimpArgs false
theorem Tryz.cellsLTerm:Tryz.prog.cellsOf 27=9:=by kernel_rfl
theorem Tryz.cellsLTermS:Tryz.prog.cellsOf 25=1:=by kernel_rfl
theorem Tryz.cellsString:Tryz.prog.cellsOf 9=1:=by kernel_rfl
theorem choose_tm {n:Nat} {p:Nat→Tm→Prop} (h:∀ i,i < n→∃ x,p i x):∃ f:Nat→Tm,∀ i,i < n→p i (f i):=by
  classical
  refine ⟨fun i=>if hi:i < n then Classical.choose (h i hi) else ⟨0,0,⟨#[]⟩,⟨#[]⟩,⟨0,0,[]⟩,[],[]⟩,fun i hi=>?_⟩
  simp only [dif_pos hi]
  exact Classical.choose_spec (h i hi)
section
variable {H:Type} {enc:TypeId × Value→H} {W:World} {spare:Nat→Bool} {held:Bool}
set_option maxRecDepth 100000 in
set_option maxHeartbeats 400000 in
theorem read_term (fuel:Nat) (ih:∀ f,f < fuel→∀ (cs:List Value) (x:DataW H × List MemPlace),DataW.trod enc Tryz.prog W 0 spare held f 25 cs=some x→∃ ao len cap ts,cs=[.slice ao len cap]∧Hm 0 W.heap.size W f f ao len ts)
    (cs:List Value) (x:DataW H × List MemPlace) (h:DataW.trod enc Tryz.prog W 0 spare held fuel 27 cs=some x) :
    ∃ (t:Tm) (a1:Option Addr) (l1 c1:Nat) (a2:Option Addr) (l2 c2:Nat) (a3:Option Addr) (l3 c3:Nat),cs=[.int .i64 t.K,.int .i64 t.N,.string t.S,.string t.Z,.int .i64 t.T.K,.int .i64 t.T.N,.slice a1 l1 c1,.slice a2 l2 c2,.slice a3 l3 c3]∧Fm 0 W.heap.size W fuel fuel t a1 l1 a2 l2 a3 l3:=by
  obtain ⟨xs,m,hm,_,hl,hlen,hf⟩:=DataW.trod_struct Tryz.underlying27 h
  rw [Tryz.cellsLTerm] at hl
  match cs,hl with
  | [c0,c1,c2,c3,c4,c5,c6,c7,c8],_ =>
    have h0:DataW.trod enc Tryz.prog W 0 spare held m 3 (List.take (Tryz.prog.cellsOf 3) [c0,c1,c2,c3,c4,c5,c6,c7,c8])=xs[0]?:=hf 0 _ rfl
    have h1:DataW.trod enc Tryz.prog W 0 spare held m 3 (List.take (Tryz.prog.cellsOf 3) [c1,c2,c3,c4,c5,c6,c7,c8])=xs[1]?:=hf 1 _ rfl
    have h2:DataW.trod enc Tryz.prog W 0 spare held m 9 (List.take (Tryz.prog.cellsOf 9) [c2,c3,c4,c5,c6,c7,c8])=xs[2]?:=hf 2 _ rfl
    have h3:DataW.trod enc Tryz.prog W 0 spare held m 9 (List.take (Tryz.prog.cellsOf 9) [c3,c4,c5,c6,c7,c8])=xs[3]?:=hf 3 _ rfl
    have h4:DataW.trod enc Tryz.prog W 0 spare held m 24 (List.take (Tryz.prog.cellsOf 24) [c4,c5,c6,c7,c8])=xs[4]?:=hf 4 _ rfl
    have h5:DataW.trod enc Tryz.prog W 0 spare held m 22 (List.take (Tryz.prog.cellsOf 22) [c7,c8])=xs[5]?:=hf 5 _ rfl
    have h6:DataW.trod enc Tryz.prog W 0 spare held m 25 (List.take (Tryz.prog.cellsOf 25) [c8])=xs[6]?:=hf 6 _ rfl
    rw [Tryz.cellsInt] at h0 h1
    rw [Tryz.cellsString] at h2 h3
    rw [Tryz.cellsLTy] at h4
    rw [Tryz.cellsLTyS] at h5
    rw [Tryz.cellsLTermS] at h6
    simp only [List.take_succ_cons,List.take_zero] at h0 h1 h2 h3 h4 h5 h6
    have hx:xs.length=7:=hlen
    match xs,hx with
    | [y0,y1,y2,y3,y4,y5,y6],_ =>
      obtain ⟨k,e0,_,_⟩:=DataW.trod_int Tryz.underlying3 h0
      obtain ⟨n,e1,_,_⟩:=DataW.trod_int Tryz.underlying3 h1
      obtain ⟨s,e2,_,s2⟩:=DataW.trod_string Tryz.underlying9 h2
      obtain ⟨z,e3,_,s3⟩:=DataW.trod_string Tryz.underlying9 h3
      obtain ⟨tk,tn,a1,l1,d1,ts1,e4,hs1⟩:=read_ty m (fun f _ cs x h=>read_tys f cs x h) _ _ h4
      obtain ⟨a2,l2,d2,ts2,e5,hs2⟩:=read_tys m _ _ h5
      obtain ⟨a3,l3,d3,ms,e6,hs3⟩:=ih m (by omega) _ _ h6
      simp at e0 e1 e2 e3 e4 e5 e6
      obtain ⟨rfl,rfl,rfl⟩:=e4
      subst e0 e1 e2 e3 e5 e6
      refine ⟨⟨k,n,s,z,⟨tk,tn,ts1⟩,ts2,ms⟩,a1,l1,d1,a2,l2,d2,a3,l3,d3,rfl,⟨?_,?_,hs1.deeper (by omega),hs2.deeper (by omega),hs3.deeper (by omega) (by omega)⟩⟩
      · unfold maxLen at s2;exact s2
      · unfold maxLen at s3;exact s3
set_option maxRecDepth 100000 in
theorem read_terms:∀ (fuel:Nat) (cs:List Value) (x:DataW H × List MemPlace),DataW.trod enc Tryz.prog W 0 spare held fuel 25 cs=some x→∃ ao len cap ts,cs=[.slice ao len cap]∧Hm 0 W.heap.size W fuel fuel ao len ts:=by
  intro fuel
  induction fuel using Nat.strongRecOn with
  | ind fuel ih =>
    intro cs x h
    rcases DataW.trod_slice Tryz.underlying25 h with ⟨rfl,_⟩ | ⟨a,len,cap,elems,rest,n,hn,rfl,_,_,hl,hm,hlen,hel,_,_⟩
    · exact ⟨none,0,0,[],rfl,Hm.nil _ _ _ _ _ _⟩
    · rw [Tryz.cellsLTerm] at hel
      have key:∀ i,i < len→∃ t:Tm,∃ b o,a=⟨b,o,none⟩∧b < W.heap.size∧El9 W (Hs 0 W.heap.size W n) (Hm 0 W.heap.size W n n) b (o+i * 9) t:=by
        intro i hi
        have h1:=hel i hi
        rw [List.getElem?_eq_getElem (by omega)] at h1
        obtain ⟨cs',h2,h3⟩:=Option.bind_eq_some_iff.1 h1
        obtain ⟨t,a1,l1,c1,a2,l2,c2,a3,l3,c3,rfl,hs⟩:=read_term n (fun f hf=>ih f (by omega)) _ _ h3
        obtain ⟨_,_,hc⟩:=World.cells?_some h2
        have x0:=hc 0 (by omega)
        have x1:=hc 1 (by omega)
        have x2:=hc 2 (by omega)
        have x3:=hc 3 (by omega)
        have x4:=hc 4 (by omega)
        have x5:=hc 5 (by omega)
        have x6:=hc 6 (by omega)
        have x7:=hc 7 (by omega)
        have x8:=hc 8 (by omega)
        simp only [List.getElem?_cons_zero,List.getElem?_cons_succ] at x0 x1 x2 x3 x4 x5 x6 x7 x8
        have ha:a.spot=none:=by
          have hc0:=cell_spot x0
          by_cases hi0:i=0
          · subst hi0;simpa [Addr.add] using hc0.1
          · cases hsa:a.spot with
            | none=>rfl
            | some y =>
              exfalso
              have g:=hel 0 (by omega)
              rw [List.getElem?_eq_getElem (by omega)] at g
              obtain ⟨cs2,g2,_⟩:=Option.bind_eq_some_iff.1 g
              obtain ⟨_,gl,gc⟩:=World.cells?_some g2
              have g0:=gc 0 (by omega)
              rw [List.getElem?_eq_getElem (by omega)] at g0
              have:=(cell_spot g0).1
              simp [Addr.add,hsa] at this
        obtain ⟨b,o,sp⟩:=a
        simp only at ha
        subst ha
        rw [add_at,add_at] at x0 x1 x2 x3 x4 x5 x6 x7 x8
        exact ⟨t,b,o,rfl,(cell_spot x0).2,a1,l1,c1,a2,l2,c2,a3,l3,c3,⟨x0,x1,x2,x3,x4,x5,x6,x7,x8⟩,hs⟩
      obtain ⟨T,hT⟩:=choose_tm key
      refine ⟨some a,len,cap,(List.range len).map T,rfl,?_⟩
      subst hn
      refine ⟨by simp,by unfold maxLen at hm;omega,fun i hi=>?_⟩
      have hi':i < len:=by simpa using hi
      obtain ⟨b,o,rfl,hb,hE⟩:=hT i hi'
      refine ⟨b,o,rfl,Nat.zero_le _,hb,?_⟩
      have hE':=hE.wider (rT':=Hs 0 W.heap.size W (n+1)) (rM':=Hm 0 W.heap.size W (n+1) n) (fun _ _ _ hr=>hr.deeper (by omega)) (fun _ _ _ hr=>hr.deeper (Nat.le_refl _) (by omega))
      simpa using hE'
end
end Go.Proofs.YtcepgedbmffkdaaGreat
