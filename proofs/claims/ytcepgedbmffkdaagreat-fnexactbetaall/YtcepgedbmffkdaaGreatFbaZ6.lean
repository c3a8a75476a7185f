/-
  A term in memory of its own, and the places of its parts: what lies there when a part is written anew, and where the other parts are. No walk.
-/
import Derived.Test.YtcepgedbmffkdaaGreatFbaZ5
import Derived.Test.YtcepgedbmffkdaaGreatFbaZ3
import Derived.Deep.RegionLaw
import Derived.Deep.Cut
import Derived.Deep.CutRange
namespace Go.Proofs.YtcepgedbmffkdaaGreat
open Go.RowKit
set_option linter.unusedVariables false
set_option linter.unusedSimpArgs false
def setP:Tm→List Nat→Tm→Tm
  | _,[],x=>x
  | t,i :: p,x=>if h:i < t.A.length then { t with A:=t.A.set i (setP t.A[i] p x) } else t
def getP:Tm→List Nat→Option Tm
  | t,[]=>some t
  | t,i :: p=>if h:i < t.A.length then getP t.A[i] p else none
def AtP (w:World):Nat→Nat→List Nat→Nat→Nat→Prop
  | b,o,[],b',o'=>b'=b∧o'=o
  | b,o,i :: p,b',o'=>∃ g og l c,w.cell? ⟨b,o+8,none⟩=some (.slice (some ⟨g,og,none⟩) l c)∧AtP w g (og+i * 9) p b' o'
theorem OwM.deepP {w:World} {D:Nat}:∀ {d d':Nat} {ao:Option Addr} {len:Nat} {ts:List Tm} {bs:List Nat},d≤d'→OwM w D d ao len ts bs→OwM w D d' ao len ts bs:=by
  intro d
  induction d with
  | zero =>
    intro d' ao len ts bs _ h
    cases d' with
    | zero=>exact h
    | succ d'=>exact Or.inl h
  | succ d ih =>
    intro d' ao len ts bs hd h
    cases d' with
    | zero=>omega
    | succ d' =>
      rcases h with h | ⟨g,cs,bss,e,hl,hm,hg,hc,hbl,hbs,hE⟩
      · exact Or.inl h
      · refine Or.inr ⟨g,cs,bss,e,hl,hm,hg,hc,hbl,hbs,fun i hi hi'=>?_⟩
        obtain ⟨a1,l1,c1,a2,l2,c2,a3,l3,c3,h9,hf⟩:=hE i hi hi'
        exact ⟨a1,l1,c1,a2,l2,c2,a3,l3,c3,h9,hf.map (fun _ _ _ _ _ hr=>hr) (fun _ _ _ _ _ hr=>ih (by omega) hr)⟩
def Own9 (w:World) (D d b o:Nat) (t:Tm) (bs:List Nat):Prop :=
  ∃ a1 l1 c1 a2 l2 c2 a3 l3 c3,Nine w b o t.K t.N t.S t.Z t.T.K t.T.N (.slice a1 l1 c1) (.slice a2 l2 c2) (.slice a3 l3 c3)∧FldO w D (OwM w D d) t a1 l1 a2 l2 a3 l3 bs
theorem Own9.deeper {w:World} {D d d' b o:Nat} {t:Tm} {bs:List Nat} (h:Own9 w D d b o t bs) (hd:d≤d'):Own9 w D d' b o t bs:=by
  obtain ⟨a1,l1,c1,a2,l2,c2,a3,l3,c3,h9,hf⟩:=h
  exact ⟨a1,l1,c1,a2,l2,c2,a3,l3,c3,h9,hf.map (fun _ _ _ _ _ hr=>hr) (fun _ _ _ _ _ hr=>hr.deepP hd)⟩
theorem Own9.keep {w w':World} {D d b o:Nat} {t:Tm} {bs:List Nat} (h:Own9 w D d b o t bs) (hc:∀ i,i < 9→w'.cell? ⟨b,o+i,none⟩=w.cell? ⟨b,o+i,none⟩) (hb:∀ k ∈ bs,w'.heap[k]?=w.heap[k]?):Own9 w' D d b o t bs:=by
  obtain ⟨a1,l1,c1,a2,l2,c2,a3,l3,c3,h9,hf⟩:=h
  exact ⟨a1,l1,c1,a2,l2,c2,a3,l3,c3,h9.of_cells hc,FldO.keep hb hf⟩
theorem Own9.part {w:World} {D d b o:Nat} {t:Tm} {bs:List Nat} (h:Own9 w D d b o t bs) (hA:0 < t.A.length) :
    ∃ (g l c:Nat) (cs:Array Value) (p12:List Nat) (bss:List (List Nat)) (d1:Nat),d=d1+1∧w.cell? ⟨b,o+8,none⟩=some (.slice (some ⟨g,0,none⟩) l c)∧w.heap[g]?=some (.cells cs 34 (0,0))∧t.A.length * 9≤cs.size∧bss.length=t.A.length∧bs=p12 ++ g :: bss.flatten ∧
      (∀ i (_:i < t.A.length) (_:i < bss.length),Own9 w D d1 g (i * 9) t.A[i] bss[i]) ∧
      ∀ (w':World) (d2:Nat) (A':List Tm) (bss':List (List Nat)) (cs':Array Value),A'.length=t.A.length→bss'.length=bss.length→(∀ k ∈ p12,w'.heap[k]?=w.heap[k]?)→(∀ i,i < 9→w'.cell? ⟨b,o+i,none⟩=w.cell? ⟨b,o+i,none⟩)→w'.heap[g]?=some (.cells cs' 34 (0,0))→cs'.size=cs.size →
        (∀ i (_:i < A'.length) (_:i < bss'.length),Own9 w' D d2 g (i * 9) A'[i] bss'[i])→Own9 w' D (d2+1) b o { t with A:=A' } (p12 ++ g :: bss'.flatten):=by
  obtain ⟨a1,l1,c1,a2,l2,c2,a3,l3,c3,h9,p1,p2,p3,rfl,h1,h2,h3,h4,h5⟩:=h
  cases d with
  | zero=>obtain ⟨_,h6,_⟩:=h5;rw [h6] at hA;simp at hA
  | succ d1 =>
    rcases h5 with ⟨_,h6,_⟩ | ⟨g,cs,bss,rfl,hl,hm,hg,hc,hbl,rfl,hE⟩
    · rw [h6] at hA;simp at hA
    · refine ⟨g,l3,c3,cs,p1 ++ p2,bss,d1,rfl,h9.c8,hg,by omega,hbl,rfl,fun i hi hi'=>?_,?_⟩
      · obtain ⟨y1,k1,j1,y2,k2,j2,y3,k3,j3,y9,yf⟩:=hE i hi hi'
        exact ⟨y1,k1,j1,y2,k2,j2,y3,k3,j3,y9,yf⟩
      · intro w' d2 A' bss' cs' e1 e2 hk hcell hg' hcs hE'
        refine ⟨a1,l1,c1,a2,l2,c2,_,l3,c3,h9.of_cells hcell,p1,p2,g :: bss'.flatten,rfl,h1,h2,h3.keep fun k hk'=>hk k (by simp [hk']),h4.keep fun k hk'=>hk k (by simp [hk']),?_⟩
        exact Or.inr ⟨g,cs',bss',rfl,by simp only [];omega,hm,hg',by omega,by simp only [];omega,rfl,fun i hi hi'=>hE' i hi hi'⟩
theorem atp_in {w:World} {D:Nat}:∀ (p:List Nat) {d b o b' o':Nat} {t:Tm} {bs:List Nat},Own9 w D d b o t bs→(getP t p).isSome→AtP w b o p b' o'→(p=[]∧b'=b∧o'=o)∨(b' ∈ bs∧∃ cs,w.heap[b']?=some (.cells cs 34 (0,0))∧o'+8 < cs.size):=by
  intro p
  induction p with
  | nil=>intro d b o b' o' t bs _ _ h;exact Or.inl ⟨rfl,h.1,h.2⟩
  | cons i p ih =>
    intro d b o b' o' t bs h hin hat
    refine Or.inr ?_
    unfold getP at hin
    split at hin
    · rename_i hi
      obtain ⟨g,l,c,cs,p12,bss,d1,rfl,hc8,hg,hcs,hbl,rfl,hE,_⟩:=h.part (by omega)
      obtain ⟨g',og,l',c',hc8',hat'⟩:=hat
      rw [hc8] at hc8'
      injection hc8' with e
      injection e with e1 e2 e3
      injection e1 with e1
      injection e1 with e4 e5
      subst e4
      subst e5
      rw [Nat.zero_add] at hat'
      rcases ih (hE i hi (by omega)) hin hat' with ⟨_,rfl,rfl⟩ | ⟨hm,hr⟩
      · exact ⟨by simp,cs,hg,by omega⟩
      · exact ⟨by simp only [List.mem_append,List.mem_cons];exact Or.inr (Or.inr (mem_part (by omega) hm)),hr⟩
    · simp at hin
end Go.Proofs.YtcepgedbmffkdaaGreat

/-
  A part of a term of one's own is written anew: the whole is again one's own; the other parts are where they were. No walk.
-/
namespace Go.Proofs.YtcepgedbmffkdaaGreat
open Go.RowKit
set_option linter.unusedVariables false
set_option linter.unusedSimpArgs false
theorem nodup_setc {bss:List (List Nat)} {i:Nat} {l:List Nat} (hi:i < bss.length) (h:bss.flatten.Nodup) (hx:l.Nodup) (hl:∀ k ∈ l,k ∈ bss[i]∨k ∉ bss.flatten):(bss.set i l).flatten.Nodup:=by
  have e1:bss.flatten=(bss.take i).flatten ++ (bss[i] ++ (bss.drop (i+1)).flatten):=by
    have h0:bss=bss.take i ++ bss[i] :: bss.drop (i+1):=by rw [← List.drop_eq_getElem_cons hi,List.take_append_drop]
    have h1:=congrArg List.flatten h0
    rw [List.flatten_append,List.flatten_cons] at h1
    exact h1
  have e2:(bss.set i l).flatten=(bss.take i).flatten ++ (l ++ (bss.drop (i+1)).flatten):=by
    rw [List.set_eq_take_append_cons_drop,if_pos hi]
    simp
  rw [e2]
  rw [e1] at h hl
  obtain ⟨n1,n2,d1⟩:=List.nodup_append.1 h
  obtain ⟨n3,n4,d2⟩:=List.nodup_append.1 n2
  refine List.nodup_append.2 ⟨n1,List.nodup_append.2 ⟨hx,n4,fun a ha b hb=>?_⟩,fun a ha b hb=>?_⟩
  · rcases hl a ha with h1 | h1
    · exact d2 a h1 b hb
    · intro e
      subst e
      exact h1 (by simp only [List.mem_append];exact Or.inr (Or.inr hb))
  · rcases List.mem_append.1 hb with hb | hb
    · rcases hl b hb with h1 | h1
      · exact d1 a ha b (List.mem_append.2 (Or.inl h1))
      · intro e
        subst e
        exact h1 (List.mem_append.2 (Or.inl ha))
    · exact d1 a ha b (List.mem_append.2 (Or.inr hb))
theorem mem_setc {bss:List (List Nat)} {i:Nat} {l:List Nat} {k:Nat} (h:k ∈ (bss.set i l).flatten):k ∈ bss.flatten∨k ∈ l:=by
  obtain ⟨m,h1,h2⟩:=List.mem_flatten.1 h
  rcases List.mem_or_eq_of_mem_set h1 with h3 | rfl
  · exact Or.inl (List.mem_flatten.2 ⟨m,h3,h2⟩)
  · exact Or.inr h2
theorem part_apart {bss:List (List Nat)} (h:bss.flatten.Nodup) {i j:Nat} (hi:i < bss.length) (hj:j < bss.length) (hij:i≠j) {k:Nat} (h1:k ∈ bss[i]) (h2:k ∈ bss[j]):False:=by
  have hp:=(List.pairwise_flatten.1 h).2
  rcases Nat.lt_or_gt_of_ne hij with hlt | hlt
  · exact (List.pairwise_iff_getElem.1 hp i j hi hj hlt) k h1 k h2 rfl
  · exact (List.pairwise_iff_getElem.1 hp j i hj hi hlt) k h2 k h1 rfl
set_option maxHeartbeats 1000000 in
theorem put_at {w:World} {D dx M:Nat} {x:Tm} {x1 x2 x3:Option Addr} {n1 n2 n3 i1 i2 i3:Nat} {bx:List Nat} (hx:FldO w D (OwM w D dx) x x1 n1 x2 n2 x3 n3 bx) (hxn:bx.Nodup) (hxM:∀ k ∈ bx,M≤k) :
    ∀ (p:List Nat) {d b o b' o':Nat} {t:Tm} {bs:List Nat},Own9 w D d b o t bs→bs.Nodup→b ∉ bs→b < M→(∀ k ∈ bs,k < M)→(getP t p).isSome→AtP w b o p b' o'→(∃ cs ty fr,w.heap[b]?=some (.cells cs ty fr)∧o+8 < cs.size) →
      ∃ bs',Own9 (set9 w b' o' (.int .i64 x.K) (.int .i64 x.N) (.string x.S) (.string x.Z) (.int .i64 x.T.K) (.int .i64 x.T.N) (.slice x1 n1 i1) (.slice x2 n2 i2) (.slice x3 n3 i3)) D (d+dx) b o (setP t p x) bs'∧bs'.Nodup∧(∀ k ∈ bs',k ∈ bs∨k ∈ bx):=by
  intro p
  induction p with
  | nil =>
    rintro d b o b' o' t bs h hnd hb hbM hM _ ⟨rfl,rfl⟩ ⟨cs,ty,fr,hrow,hsz⟩
    refine ⟨bx,⟨x1,n1,i1,x2,n2,i2,x3,n3,i3,set9_cells hrow hsz,?_⟩,hxn,fun k hk=>Or.inr hk⟩
    exact (FldO.keep (fun k hk=>set9_other k (by have:=hxM k hk;omega)) hx).map (fun _ _ _ _ _ hr=>hr) (fun _ _ _ _ _ hr=>hr.deepP (by omega))
  | cons i p ih =>
    intro d b o b' o' t bs h hnd hb hbM hM hin hat hrow0
    unfold getP at hin
    split at hin
    · rename_i hi
      obtain ⟨g,l,c,cs,p12,bss,d1,rfl,hc8,hg,hcs,hbl,rfl,hE,hmk⟩:=h.part (by omega)
      obtain ⟨g',og,l',c',hc8',hat'⟩:=hat
      rw [hc8] at hc8'
      injection hc8' with e
      injection e with e1 e2 e3
      injection e1 with e1
      injection e1 with e4 e5
      subst e4
      subst e5
      rw [Nat.zero_add] at hat'
      have hib:i < bss.length:=by omega
      obtain ⟨hn12,hng,hdis⟩:=List.nodup_append.1 hnd
      obtain ⟨hgf,hnf⟩:=List.nodup_cons.1 hng
      have hni:bss[i].Nodup:=(List.pairwise_flatten.1 hnf).1 _ (List.getElem_mem hib)
      have hgi:g ∉ bss[i]:=fun hh=>hgf (mem_part hib hh)
      have hgM:g < M:=hM g (by simp)
      obtain ⟨bi,ho,hnb,hsub⟩:=ih (hE i hi hib) hni hgi hgM (fun k hk=>hM k (by simp only [List.mem_append,List.mem_cons];exact Or.inr (Or.inr (mem_part hib hk)))) hin hat' ⟨cs,_,_,hg,by omega⟩
      have hwh:=atp_in p (hE i hi hib) hin hat'
      have hoth:∀ k,k≠b'→(set9 w b' o' (.int .i64 x.K) (.int .i64 x.N) (.string x.S) (.string x.Z) (.int .i64 x.T.K) (.int .i64 x.T.N) (.slice x1 n1 i1) (.slice x2 n2 i2) (.slice x3 n3 i3)).heap[k]?=w.heap[k]?:=fun k hk=>set9_other k hk
      have hb'in:b'=g∨b' ∈ bss[i]:=by
        rcases hwh with ⟨_,h1,_⟩ | ⟨h1,_⟩
        · exact Or.inl h1
        · exact Or.inr h1
      have hb'b:b'≠b:=by
        rintro rfl
        rcases hb'in with rfl | h1
        · exact hb (by simp)
        · exact hb (by simp only [List.mem_append,List.mem_cons];exact Or.inr (Or.inr (mem_part hib h1)))
      have hb'12:b' ∉ p12:=by
        intro hh
        rcases hb'in with rfl | h1
        · exact hdis _ hh _ (by simp) rfl
        · exact hdis _ hh _ (by simp only [List.mem_cons];exact Or.inr (mem_part hib h1)) rfl
      have hgrow:∃ cs',(set9 w b' o' (.int .i64 x.K) (.int .i64 x.N) (.string x.S) (.string x.Z) (.int .i64 x.T.K) (.int .i64 x.T.N) (.slice x1 n1 i1) (.slice x2 n2 i2) (.slice x3 n3 i3)).heap[g]?=some (.cells cs' 34 (0,0))∧cs'.size=cs.size:=by
        by_cases e:b'=g
        · subst e;exact set9_row hg
        · exact ⟨cs,(hoth g (fun h=>e h.symm)).trans hg,rfl⟩
      obtain ⟨cs',hg',hcs'⟩:=hgrow
      refine ⟨p12 ++ g :: (bss.set i bi).flatten,?_,?_,?_⟩
      · have hs:setP t (i :: p) x={ t with A:=t.A.set i (setP t.A[i] p x) }:=by simp only [setP];rw [dif_pos hi]
        rw [hs,show d1+1+dx=d1+dx+1 by omega]
        refine hmk _ (d1+dx) _ (bss.set i bi) cs' (by simp) (by simp) (fun k hk=>hoth k (fun e=>hb'12 (e ▸ hk))) (fun q hq=>World.cell?_of_block (hoth b (fun e=>hb'b e.symm))) hg' hcs' ?_
        intro j hj hj'
        have hj1:j < t.A.length:=by simpa using hj
        have hj2:j < bss.length:=by simpa using hj'
        by_cases hji:j=i
        · subst hji
          simp only [List.getElem_set_self]
          exact ho
        · simp only [List.getElem_set_ne (fun e=>hji e.symm)]
          refine ((hE j hj1 hj2).keep (fun q hq=>?_) (fun k hk=>hoth k ?_)).deeper (by omega)
          · rcases hwh with ⟨_,rfl,rfl⟩ | ⟨h1,_⟩
            · exact set9_far hg _ (by omega)
            · exact World.cell?_of_block (hoth g (fun e=>hgi (e ▸ h1)))
          · rintro rfl
            rcases hb'in with rfl | h1
            · exact hgf (mem_part hj2 hk)
            · exact part_apart hnf hj2 hib hji hk h1
      · refine List.nodup_append.2 ⟨hn12,List.nodup_cons.2 ⟨fun hh=>?_,?_⟩,?_⟩
        · rcases mem_setc hh with h1 | h1
          · exact hgf h1
          · rcases hsub g h1 with h2 | h2
            · exact hgi h2
            · have:=hxM g h2;omega
        · refine nodup_setc hib hnf hnb fun k hk=>?_
          rcases hsub k hk with h1 | h1
          · exact Or.inl h1
          · refine Or.inr fun hh=>?_
            have h2:=hxM k h1
            have h3:=hM k (by simp only [List.mem_append,List.mem_cons];exact Or.inr (Or.inr hh))
            omega
        · intro a ha b2 hb2
          rcases List.mem_cons.1 hb2 with rfl | hb2
          · exact hdis a ha _ (by simp)
          · rcases mem_setc hb2 with h1 | h1
            · exact hdis a ha b2 (List.mem_cons_of_mem _ h1)
            · rcases hsub b2 h1 with h2 | h2
              · exact hdis a ha b2 (List.mem_cons_of_mem _ (mem_part hib h2))
              · have h3:=hxM b2 h2
                have h4:=hM a (List.mem_append_left _ ha)
                omega
      · intro k hk
        rcases List.mem_append.1 hk with hk | hk
        · exact Or.inl (List.mem_append_left _ hk)
        · rcases List.mem_cons.1 hk with rfl | hk
          · exact Or.inl (by simp)
          · rcases mem_setc hk with h1 | h1
            · exact Or.inl (List.mem_append_right _ (List.mem_cons_of_mem _ h1))
            · rcases hsub k h1 with h2 | h2
              · exact Or.inl (List.mem_append_right _ (List.mem_cons_of_mem _ (mem_part hib h2)))
              · exact Or.inr h2
    · simp at hin
end Go.Proofs.YtcepgedbmffkdaaGreat

/-
  The nodes of a part are fewer than the whole has.
-/
namespace Go.Proofs.YtcepgedbmffkdaaGreat
open Go.RowKit
set_option linter.unusedVariables false
set_option linter.unusedSimpArgs false
theorem nodesG_mono {f g:Tm→Option Nat}:∀ (l:List Tm) (b:Nat),(∀ x ∈ l,∀ a,f x=some a→g x=some a)→nodesG f l=some b→nodesG g l=some b
  | [],b,_,h=>h
  | x :: l,b,hfg,h=>by
    simp only [nodesG] at h ⊢
    cases h1:f x with
    | none=>simp [h1] at h
    | some a =>
      cases h2:nodesG f l with
      | none=>simp [h1,h2] at h
      | some c =>
        rw [hfg x (by simp) a h1,nodesG_mono l c (fun y hy=>hfg y (by simp [hy])) h2]
        simpa [h1,h2] using h
theorem nodesM_more:∀ (l:Nat) (t:Tm) (m:Nat),nodesM l t=some m→nodesM (l+1) t=some m:=by
  intro l
  induction l with
  | zero=>intro t m h;simp [nodesM] at h
  | succ l ih =>
    intro t m h
    rw [nodesM] at h ⊢
    split at h
    · rename_i hn
      rw [if_pos hn]
      obtain ⟨b,hb,hm⟩:=Option.map_eq_some_iff.1 h
      rw [nodesG_mono t.A b (fun x _ a=>ih x a) hb]
      simp [hm]
    · simp at h
theorem nodesG_get {f:Tm→Option Nat}:∀ (l:List Tm) (b:Nat),nodesG f l=some b→∀ i (h:i < l.length),∃ a,f l[i]=some a∧a≤b
  | [],b,_,i,hi=>by simp at hi
  | x :: l,b,h,i,hi=>by
    simp only [nodesG] at h
    cases h1:f x with
    | none=>simp [h1] at h
    | some a =>
      cases h2:nodesG f l with
      | none=>simp [h1,h2] at h
      | some c =>
        simp [h1,h2] at h
        cases i with
        | zero=>exact ⟨a,h1,by omega⟩
        | succ i =>
          obtain ⟨a',h3,h4⟩:=nodesG_get l c h2 i (by simpa using hi)
          exact ⟨a',by simpa using h3,by omega⟩
theorem nodesM_get {l:Nat} {t:Tm} {m:Nat} (h:nodesM (l+1) t=some m):nodeM t=true∧∀ i (hi:i < t.A.length),∃ a,nodesM l t.A[i]=some a∧a+1≤m:=by
  rw [nodesM] at h
  split at h
  · rename_i hn
    obtain ⟨b,hb,hm⟩:=Option.map_eq_some_iff.1 h
    refine ⟨hn,fun i hi=>?_⟩
    obtain ⟨a,h1,h2⟩:=nodesG_get t.A b hb i hi
    exact ⟨a,h1,by omega⟩
  · simp at h
end Go.Proofs.YtcepgedbmffkdaaGreat

/-
  What the program's 'usesIn' comes to: where each use stands, and what is bound there.
-/
namespace Go.Proofs.YtcepgedbmffkdaaGreat
open Go.RowKit
set_option linter.unusedVariables false
set_option linter.unusedSimpArgs false
abbrev Way9:=List Nat × List (List UInt8)
def catU (f:Nat→List Way9):Nat→List Way9
  | 0=>[]
  | n+1=>catU f n ++ f n
def usesP (s:List UInt8):Nat→Tm→List Way9
  | 0,_=>[]
  | l+1,t=>if t.K=3∧bs t.S=s then [([],[])] else catU (fun i=>if h:i < t.A.length then (if s ∈ bindsW t.K (bs t.S) (bs t.Z) i then [] else (usesP s l t.A[i]).map fun q=>(i :: q.1,bindsW t.K (bs t.S) (bs t.Z) i ++ q.2)) else []) t.A.length
def partP (s:List UInt8) (l:Nat) (t:Tm) (i:Nat):List Way9:=if h:i < t.A.length then (if s ∈ bindsW t.K (bs t.S) (bs t.Z) i then [] else (usesP s l t.A[i]).map fun q=>(i :: q.1,bindsW t.K (bs t.S) (bs t.Z) i ++ q.2)) else []
theorem usesP_var {s:List UInt8} {l:Nat} {t:Tm} (h:t.K=3∧bs t.S=s):usesP s (l+1) t=[([],[])]:=by unfold usesP;rw [if_pos h]
theorem usesP_not {s:List UInt8} {l:Nat} {t:Tm} (h:¬ (t.K=3∧bs t.S=s)):usesP s (l+1) t=catU (partP s l t) t.A.length:=by unfold usesP;rw [if_neg h];rfl
theorem partP_in {s:List UInt8} {l:Nat} {t:Tm} {i:Nat} (hi:i < t.A.length) (h:s ∈ bindsW t.K (bs t.S) (bs t.Z) i):partP s l t i=[]:=by unfold partP;rw [dif_pos hi,if_pos h]
theorem partP_out {s:List UInt8} {l:Nat} {t:Tm} {i:Nat} (hi:i < t.A.length) (h:¬ s ∈ bindsW t.K (bs t.S) (bs t.Z) i):partP s l t i=(usesP s l t.A[i]).map fun q=>(i :: q.1,bindsW t.K (bs t.S) (bs t.Z) i ++ q.2):=by unfold partP;rw [dif_pos hi,if_neg h]
theorem catU_len {s:List UInt8} {l:Nat} {t:Tm} (IH:∀ x,(usesP s l x).length=usesN s l x):∀ n,n≤t.A.length→(catU (partP s l t) n).length=sumU (partU s l t) n:=by
  intro n
  induction n with
  | zero=>intro _;rfl
  | succ n ih =>
    intro hn
    have hn':n < t.A.length:=by omega
    show (catU (partP s l t) n ++ partP s l t n).length=sumU (partU s l t) n+partU s l t n
    rw [List.length_append,ih (by omega)]
    by_cases hm:s ∈ bindsW t.K (bs t.S) (bs t.Z) n
    · rw [partP_in hn' hm,partU_in hn' hm];rfl
    · rw [partP_out hn' hm,partU_out hn' hm,List.length_map,IH]
theorem usesP_len (s:List UInt8):∀ (l:Nat) (t:Tm),(usesP s l t).length=usesN s l t:=by
  intro l
  induction l with
  | zero=>intro t;rfl
  | succ l ih =>
    intro t
    by_cases hv:t.K=3∧bs t.S=s
    · rw [usesP_var hv,usesN_var hv];rfl
    · rw [usesP_not hv,usesN_not hv]
      exact catU_len ih _ (Nat.le_refl _)
def AtB (w:World) (M:Nat):Nat→Nat→List Nat→Nat→Nat→Prop
  | b,o,[],b',o'=>b'=b∧o'=o
  | b,o,i :: p,b',o'=>b < M∧∃ g og l c,w.cell? ⟨b,o+8,none⟩=some (.slice (some ⟨g,og,none⟩) l c)∧AtB w M g (og+i * 9) p b' o'
theorem AtB.at {w:World} {M:Nat}:∀ {p:List Nat} {b o b' o':Nat},AtB w M b o p b' o'→AtP w b o p b' o':=by
  intro p
  induction p with
  | nil=>intro b o b' o' h;exact ⟨h.1,h.2⟩
  | cons i p ih =>
    intro b o b' o' h
    obtain ⟨_,g,og,l,c,hc,h2⟩:=h
    exact ⟨g,og,l,c,hc,ih h2⟩
theorem AtB.keep {w w':World} {M:Nat} (hk:∀ k,k < M→w'.heap[k]?=w.heap[k]?):∀ {p:List Nat} {b o b' o':Nat},AtB w M b o p b' o'→AtB w' M b o p b' o':=by
  intro p
  induction p with
  | nil=>intro b o b' o' h;exact ⟨h.1,h.2⟩
  | cons i p ih =>
    intro b o b' o' h
    obtain ⟨hb,g,og,l,c,hc,h2⟩:=h
    exact ⟨hb,g,og,l,c,(World.cell?_of_block (hk b hb)).trans hc,ih h2⟩
def UseAt (w:World) (M b o:Nat) (P:List (List UInt8)) (u:Use) (q:Way9):Prop:=∃ bk ok,u.1=⟨bk,ok,none⟩∧AtB w M b o q.1 bk ok∧Nsl w u.2.1 u.2.2.1 (P ++ q.2)
def UsR (w:World) (M b o:Nat) (P:List (List UInt8)):List Use→List Way9→Prop
  | [],[]=>True
  | u :: us,q :: qs=>UseAt w M b o P u q∧UsR w M b o P us qs
  | _,_=>False
theorem UsR.len {w:World} {M b o:Nat} {P:List (List UInt8)}:∀ {us:List Use} {qs:List Way9},UsR w M b o P us qs→us.length=qs.length
  | [],[],_=>rfl
  | _ :: us,_ :: qs,h=>by simp only [List.length_cons];rw [UsR.len h.2]
theorem UsR.app {w:World} {M b o:Nat} {P:List (List UInt8)}:∀ {us us2:List Use} {qs qs2:List Way9},UsR w M b o P us qs→UsR w M b o P us2 qs2→UsR w M b o P (us ++ us2) (qs ++ qs2)
  | [],_,[],_,_,h2=>h2
  | _ :: us,_,_ :: qs,_,h,h2=>⟨h.1,UsR.app h.2 h2⟩
theorem UsR.below {w w':World} {M b o:Nat} {P:List (List UInt8)} (hb:Below w.heap.size w w') (hM:M≤w.heap.size):∀ {us:List Use} {qs:List Way9},UsR w M b o P us qs→UsR w' M b o P us qs
  | [],[],_=>trivial
  | _ :: us,_ :: qs,h=>by
    obtain ⟨⟨bk,ok,e,h1,h2⟩,h3⟩:=h
    exact ⟨⟨bk,ok,e,h1.keep fun k hk=>hb.block k (by omega),h2.below hb⟩,UsR.below hb hM h3⟩
theorem UsR.part {w:World} {M b o g og l c i:Nat} {P N:List (List UInt8)} (hbM:b < M) (hc:w.cell? ⟨b,o+8,none⟩=some (.slice (some ⟨g,og,none⟩) l c)):∀ {us:List Use} {qs:List Way9},UsR w M g (og+i * 9) (P ++ N) us qs→UsR w M b o P us (qs.map fun q=>(i :: q.1,N ++ q.2))
  | [],[],_=>trivial
  | _ :: us,_ :: qs,h=>by
    obtain ⟨⟨bk,ok,e,h1,h2⟩,h3⟩:=h
    refine ⟨⟨bk,ok,e,⟨hbM,g,og,l,c,hc,h1⟩,?_⟩,UsR.part hbM hc h3⟩
    rw [List.append_assoc] at h2
    exact h2
theorem UsR.step {w w':World} {M b o:Nat} {P:List (List UInt8)} {own:Option Nat} (hk:∀ k,k < w.heap.size→own≠some k→w'.heap[k]?=w.heap[k]?) (hM:M≤w.heap.size) (hown:∀ g,own=some g→M≤g∧∃ cs,w.heap[g]?=some (.cells cs 173 (0,0))):∀ {us:List Use} {qs:List Way9},UsR w M b o P us qs→UsR w' M b o P us qs
  | [],[],_=>trivial
  | _ :: us,_ :: qs,h=>by
    obtain ⟨⟨bk,ok,e,h1,h2⟩,h3⟩:=h
    refine ⟨⟨bk,ok,e,h1.keep fun k hk'=>hk k (by omega) (fun e=>by have:=(hown k e).1;omega),h2.1,fun j hj=>?_⟩,UsR.step hk hM hown h3⟩
    obtain ⟨b2,e2,⟨cs,hh⟩,hc⟩:=h2.2 j hj
    have hl:=(Array.getElem?_eq_some_iff.1 hh).1
    have hne:own≠some b2:=fun e=>by
      obtain ⟨_,cs2,hh2⟩:=hown b2 e
      rw [hh] at hh2
      injection hh2 with hh2
      injection hh2 with _ ht _
      exact absurd ht (by decide)
    exact ⟨b2,e2,⟨cs,(hk b2 hl hne).trans hh⟩,(World.cell?_of_block (hk b2 hl hne)).trans hc⟩
theorem uss_type {base:Nat} {w:World} {v:Value} {us:List Use} (h:Uss base w v us) {g:Nat} (hg:v.ownBlock=some g):∃ cs,w.heap[g]?=some (.cells cs 173 (0,0)):=by
  rcases h.2 with ⟨rfl,_⟩ | ⟨g',cap,cur,rfl,hb,hh,_⟩
  · cases hg
  · have e:g'=g:=by simpa [Value.ownBlock] using hg
    subst e
    exact ⟨cur,hh⟩
def UpE (w w':World) (M b o:Nat) (P:List (List UInt8)) (e:Ending) (qs:List Way9):Prop:=∃ v us,e=.returned v∧UsR w' M b o P us qs∧Uss w.heap.size w' v us∧Below w.heap.size w w'
def SaidUp (l:Nat):Prop:=∀ (D d L B:Nat) (t:Tm) (a1:Option Addr) (l1 c1:Nat) (a2:Option Addr) (l2 c2:Nat) (a3:Option Addr) (l3 c3:Nat) (b o m M:Nat) (s:ByteArray) (P:List (List UInt8)) (pao:Option Addr) (pn pc:Nat) (w:World),B≤M→b < M→M≤w.heap.size →
    Nine w b o t.K t.N t.S t.Z t.T.K t.T.N (.slice a1 l1 c1) (.slice a2 l2 c2) (.slice a3 l3 c3)→Fm L B w D d t a1 l1 a2 l2 a3 l3→nodesM l t=some m→m≤1000→Nsl w pao pn P→pn+2 * l≤1000 →
    Calls Tryz.prog 76 #[.pointer (some ⟨b,o,none⟩),.string s,.slice pao pn pc] w fun e w'=>UpE w w' M b o P e (usesP (bs s) l t)
set_option maxRecDepth 100000 in
set_option maxHeartbeats 4000000 in
theorem up_step (l:Nat) (IH:SaidUp l):SaidUp (l+1):=by
  intro D d L B t a1 l1 c1 a2 l2 c2 a3 l3 c3 b o m M s P pao pn pc w hBM hbM hMw h9 hf hm hm1 hP hpl
  have hB:B≤w.heap.size:=by omega
  have hbw:b < w.heap.size:=by omega
  have hHM:Hid (nodesM (l+1) t=some m):=hm
  obtain ⟨hnd,hparts⟩:=nodesM_inv hm
  have HU:=usesN_nodes (bs s) (l+1) t m hm
  rw [← usesP_len] at HU
  have HL:Hid (l3=t.A.length):=hf.m.len.1
  have hl3:=hf.m.len.2
  have hstr:(t.S.toList == s.toList)=decide (bs t.S=bs s):=by
    rw [Bool.eq_iff_iff,beq_iff_eq,decide_eq_true_eq]
    rw [ByteArray.toList_eq,ByteArray.toList_eq]
    exact Iff.rfl
  have h9w:=h9
  have HPN:Hid (∀ W,Below w.heap.size w W→Nsl W pao pn P):=fun W hW=>hP.below hW
  obtain ⟨x0,x1,x2,x3,x4,x5,x6,x7,x8⟩:=h9
  by_cases hv:t.K=3∧bs t.S=bs s
  · have HE:Hid (usesP (bs s) (l+1) t=[([],[])]):=usesP_var hv
    have hq:(t.S.toList == s.toList)=true:=by rw [hstr];simpa using hv.2
    have hK:=hv.1
    rw [HE.out]
    clear hv hstr HU hm
    rw [hK] at x0
    go_enter Tryz.func76,Tryz.ntmps76
    go_wp2_with fail
    go_ret
    exact ⟨_,[(⟨b,o,none⟩,pao,pn,pc)],rfl,⟨⟨b,o,rfl,⟨rfl,rfl⟩,by rw [List.append_nil];exact HPN.out _ ((Below.refl _ _).alloc (Nat.le_refl _) _)⟩,trivial⟩,uss_one (heap_new rfl) (Nat.le_refl _),(Below.refl _ _).alloc (Nat.le_refl _) _⟩
  · have HE:Hid (usesP (bs s) (l+1) t=catU (partP (bs s) l t) t.A.length):=usesP_not hv
    rw [HE.out]
    rw [HE.out] at HU
    have hcase:(¬ t.K=3)∨(t.K=3∧(t.S.toList == s.toList)=false):=by
      by_cases h3:t.K=3
      · exact Or.inr ⟨h3,by rw [hstr];simp;exact fun h=>hv ⟨h3,h⟩⟩
      · exact Or.inl h3
    clear hv hstr hm
    rcases hcase with h3 | ⟨h3,hq⟩
    all_goals
      go_enter Tryz.func76,Tryz.ntmps76
      go_upto_region 3 with fail
      clear h3
      go_wp2_with fail
      go_loopw [7,32] (fun v i wr=>∃ (j mm:Nat) (us:List Use) (ao:Option Addr) (cp:Nat),j≤l3∧i=.int .i64 j∧v=.slice ao mm cp∧Hid (us.length=mm)∧Hid (UsR wr M b o P us (catU (partP (bs s) l t) j))∧Uss w.heap.size wr (.slice ao mm cp) us∧Below w.heap.size w wr) (fun _ i _=>l3 - (intOf i).toNat)
      case atStart=>exact ⟨0,0,[],none,0,by omega,rfl,rfl,rfl,trivial,uss_nil _ _,Below.refl _ _⟩
      case round =>
        obtain ⟨j,mm,us,ao,cp,hj,rfl,rfl,hus,hmm,hU,hbr⟩:=hrel
        have hzr:=hbr.size
        by_cases hlt:j < l3
        · have hlt':j < t.A.length:=by have:=HL.out;omega
          obtain ⟨g,og,rfl,_,hgB,q1,n1,k1,q2,n2,k2,q3,n3,k3,y9,hf1⟩:=hf.m.get j hlt'
          obtain ⟨z0,z1,z2,z3,z4,z5,z6,z7,z8⟩:=h9w.below hbr hbw
          have hji:(0:Int)≤(j:Int):=by omega
          have hjl:(j:Int) < (l3:Int):=by omega
          have hN0:=binds_nmI t.K (bs t.S) (bs t.Z) j
          have KN:=namesIn_any t a1 l1 c1 a2 l2 c2 (some ⟨g,og,none⟩) l3 c3 (j:Int) wr
          obtain ⟨N,hN⟩:∃ N,bindsW t.K (bs t.S) (bs t.Z) j=N:=⟨_,rfl⟩
          rw [hN0,hN] at KN
          have hNl:N.length≤2:=by rw [← hN];exact bindsW_len _ _ _ _
          have HN:Hid (bindsW t.K (bs t.S) (bs t.Z) j=N):=hN
          obtain ⟨nn,hnn⟩:∃ nn,N.length=nn:=⟨_,rfl⟩
          clear hN hN0
          go_wp2_with fail
          refine KN.mono ?_
          rintro e w3 ⟨xo,xc,rfl,hb3,hx⟩
          rw [hnn]
          have hz3:=hb3.size
          have hNs:Nsl w3 xo nn N:=by
            rw [← hnn]
            exact Nsl.of_nm fun h=>by obtain ⟨sb,e1,_,e2⟩:=hx h;exact ⟨sb,e1,e2⟩
          have hb3w:Below w.heap.size w w3:=hbr.trans (hb3.mono hzr)
          have hU3:=uss_below hU hb3
          clear hx KN
          go_wp2_with fail
          refine (contains_nsl xc hNs (by omega) s).mono ?_
          rintro e w4 ⟨rfl,hw⟩
          subst hw
          by_cases hmem:bs s ∈ N
          · have HT:decide (bs s ∈ N)=true:=by simpa using hmem
            have HM2:Hid (UsR w4 M b o P us (catU (partP (bs s) l t) (j+1))):=by
              show UsR w4 M b o P us (catU (partP (bs s) l t) j ++ partP (bs s) l t j)
              rw [partP_in hlt' (by rw [HN.out];exact hmem),List.append_nil]
              exact hmm.out.below hb3 (by omega)
            rw [HT]
            clear hmem
            go_wp2_with fail
            go_roundw
            case rel=>exact ⟨j+1,mm,us,ao,cp,by omega,by go_num,rfl,hus,HM2,hU3,hb3w⟩
            case measure=>simp [intOf];omega
          · have HT:decide (bs s ∈ N)=false:=by simpa using hmem
            rw [HT]
            obtain ⟨mj,hmj⟩:=(nodesM_get hHM.out).2 j hlt'
            have hpp:partP (bs s) l t j=(usesP (bs s) l t.A[j]).map fun q=>(j :: q.1,N ++ q.2):=by
              rw [← HN.out]
              exact partP_out hlt' (by rw [HN.out];exact hmem)
            have hcat:catU (partP (bs s) l t) (j+1)=catU (partP (bs s) l t) j ++ (usesP (bs s) l t.A[j]).map fun q=>(j :: q.1,N ++ q.2):=by
              show catU (partP (bs s) l t) j ++ partP (bs s) l t j=_
              rw [hpp]
            have hsum:(catU (partP (bs s) l t) (j+1)).length≤m:=by
              have h1:=sumU_le (partU (bs s) l t) (j+1) (t.A.length - (j+1))
              rw [show j+1+(t.A.length - (j+1))=t.A.length by omega] at h1
              have h2:=catU_len (usesP_len (bs s) l) (t:=t) (j+1) (by omega)
              have h3:=catU_len (usesP_len (bs s) l) (t:=t) t.A.length (Nat.le_refl _)
              omega
            have hmmL:=hmm.out.len
            have hb9:mm+(usesP (bs s) l t.A[j]).length≤1000:=by
              rw [hcat,List.length_append,List.length_map] at hsum
              have:=hus.out
              omega
            obtain ⟨u9,hu9⟩:∃ u9,usesP (bs s) l t.A[j]=u9:=⟨_,rfl⟩
            rw [hu9] at hb9 hcat
            have HCAT:Hid (catU (partP (bs s) l t) (j+1)=catU (partP (bs s) l t) j ++ u9.map fun q=>(j :: q.1,N ++ q.2)):=hcat
            have hP3:Nsl w4 pao pn P:=hP.below hb3w
            have hgl:g < w4.heap.size:=by omega
            have y3:=(y9.below hbr (by omega)).below hb3 (by omega)
            obtain ⟨z30,z31,z32,z33,z34,z35,z36,z37,z38⟩:=(h9w.below hb3w hbw)
            have hf3:=Fm.below hb3w hB hf1
            obtain ⟨Q,hQ⟩:∃ Q,Q=(w4.alloc (.cells #[.slice pao pn pc,.slice xo nn xc] 60)).drew:=⟨_,rfl⟩
            have hQb:Below w4.heap.size w4 Q:=by rw [hQ];exact ((Below.refl _ _).alloc (Nat.le_refl _) _).drew
            have hQs:Q.heap.size=w4.heap.size+1:=by rw [hQ];simp
            have hQ0:Q.heap[w4.heap.size]?=some (.cells #[.slice pao pn pc,.slice xo nn xc] 60 (0,0)):=by rw [hQ];exact heap_new rfl
            have HQ:Hid (Q=_):=hQ
            have KC:=concat_names w4.heap.size pao pn pc xo nn xc P N Q (by omega) (row_cell hQ0 0) (row_cell hQ0 1) (hP3.below hQb) (hNs.below hQb) (by omega)
            have KI:Hid (∀ (W:World) (bo:Option Addr) (bn bc:Nat),Below Q.heap.size Q W→Nsl W bo bn (P ++ N)→Calls Tryz.prog 76 #[.pointer (some ⟨g,og+j * 9,none⟩),.string s,.slice bo bn bc] W fun e w'=>UpE W w' M g (og+j * 9) (P ++ N) e u9):=fun W bo bn bc hW hNP=>by
              have:=IH D (d - 1) L B t.A[j] q1 n1 k1 q2 n2 k2 q3 n3 k3 g (og+j * 9) mj M s (P ++ N) bo bn bc W hBM (by omega) (by have:=hW.size;omega) (y3.below (hQb.trans (hW.mono (by omega))) hgl) (Fm.below (hQb.trans (hW.mono (by omega))) (by omega) hf3) hmj.1 (by omega) hNP (by have h1:=hNP.1;rw [List.length_append] at h1;have h2:=hP.1;omega)
              rw [hu9] at this
              exact this
            have hbw4:b < w4.heap.size:=by omega
            have HB9:Hid (mm+u9.length≤1000):=hb9
            obtain ⟨PN,hPN⟩:∃ PN,P ++ N=PN:=⟨_,rfl⟩
            have HPT:Hid (∀ (W:World) (us6:List Use),Below Q.heap.size Q W→UsR W M g (og+j * 9) PN us6 u9→UsR W M b o P (us ++ us6) (catU (partP (bs s) l t) (j+1))):=fun W us6 hW h6=>by
              rw [HCAT.out]
              have hWw:Below wr.heap.size wr W:=hb3.trans ((hQb.trans (hW.mono (by omega))).mono hz3)
              refine (hmm.out.below hWw (by omega)).app ?_
              rw [← hPN] at h6
              exact UsR.part hbM ((bcell (hQb.trans (hW.mono (by omega))) (by omega) _).trans z38) h6
            rw [hPN] at KC KI
            clear hPN
            have HU4:Hid (∀ W,Below Q.heap.size Q W→Uss w.heap.size W (.slice ao mm cp) us∧W.cell? ⟨b,o+8,none⟩=some (.slice (some ⟨g,og,none⟩) l3 c3)∧Below w.heap.size w W):=fun W hW=>⟨uss_below hU3 (hQb.trans (hW.mono (by omega))),(bcell (hQb.trans (hW.mono (by omega))) (by omega) _).trans z38,hb3w.trans ((hQb.trans (hW.mono (by omega))).mono (by omega))⟩
            clear hu9 hcat hpp hb9 hmmL hQ hmem hsum hQ0 hQb hP3 hNs z0 z1 z2 z3 z4 z5 z6 z7 z8 y9 y3 hf1 hf3 hU hU3 hmj
            go_wp2_with fail
            go_region_law (first
              | (refine step_run hrun (by rfl) _ _ (by rfl) (by rfl) (by rfl) (by rfl) ?_)
              | (go_simp;go_at_call 103;(try rw [← HQ.out]);refine KC.mono ?_;rintro e w5 ⟨v5,rfl,ht5,hb5⟩;obtain ⟨bo,bc,rfl⟩:=toks_form ht5;have hz5:=hb5.size;have KI5:=KI.out w5 bo _ bc hb5 (Nsl.of_toks ht5);have z58:=(HU4.out w5 hb5).2.1)
              | (go_simp;go_at_call 76;refine KI5.mono ?_;rintro e w6 ⟨v6,us6,rfl,hl6,hU6,hb6⟩;have hb56:Below Q.heap.size Q w6:=hb5.trans (hb6.mono hz5);have z68:=(HU4.out w6 hb56).2.1;obtain ⟨ao7,cp7,w7,hrun,hU7,hg7⟩:=uss_app (HU4.out w6 hb56).1 (HU4.out w6 hb56).2.2.size hU6 (by have:=hus.out;have:=HB9.out;have:=hl6.len;omega);have hl6l:=hl6.len;rw [hus.out,hl6l] at hrun hU7;have hR6:=HPT.out w6 us6 hb56 hl6;have hbw6:=(HU4.out w6 hb56).2.2;have ho6:=fun g hg=>uss_own (HU4.out w6 hb56).1 (g:=g) hg))
            all_goals
              have hbw7:Below w.heap.size w w7:=⟨hg7.os.trans hbw6.os,hg7.tape.trans hbw6.tape,hg7.output.trans hbw6.output,Nat.le_trans hbw6.size hg7.size,fun q hq=>(hg7.block q (by have:=hbw6.size;omega) (fun e=>by have:=(ho6 q e.symm).1;omega)).trans (hbw6.block q hq)⟩
              have HL7:Hid ((us ++ us6).length=mm+u9.length):=by show _=_;rw [List.length_append,hus.out,hl6l]
              have HS7:Hid (UsR w7 M b o P (us ++ us6) (catU (partP (bs s) l t) (j+1))):=hR6.step (own:=(Value.slice ao mm cp).ownBlock) (fun k hk hne=>hg7.block k hk (fun e=>hne e.symm)) (by have:=hbw6.size;omega) (fun g' hg'=>⟨by have:=(ho6 g' hg').1;omega,uss_type (HU4.out w6 hb56).1 hg'⟩)
              clear hrun hg7 ho6 hbw6 hl6 hl6l hR6
              go_wp2_with fail
              go_roundw
              case rel=>exact ⟨j+1,_,us ++ us6,ao7,cp7,by omega,by go_num,rfl,HL7,HS7,hU7,hbw7⟩
              case measure=>simp [intOf];omega
        · have hjl:j=t.A.length:=by have:=HL.out;omega
          have HR:Hid (UsR wr M b o P us (catU (partP (bs s) l t) t.A.length)):=by show UsR wr M b o P us _;rw [← hjl];exact hmm.out
          clear hjl
          go_wp2_with fail
          go_ret
          exact ⟨_,us,rfl,HR.out,hU,hbr⟩
theorem up_any:∀ l,SaidUp l:=by
  intro l
  induction l with
  | zero =>
    intro D d L B t a1 l1 c1 a2 l2 c2 a3 l3 c3 b o m M s P pao pn pc w _ _ _ _ _ hm
    simp [nodesM] at hm
  | succ l ih=>exact up_step l ih
end Go.Proofs.YtcepgedbmffkdaaGreat
